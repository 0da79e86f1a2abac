/- Owners: the laws' own marks. -/
import Derived.Test.YtdcfmoaomlfijaaV3

namespace Go.Proofs.Ytdcfmoaomlfijaa
set_option linter.unusedSimpArgs false
set_option linter.unusedVariables false
open Go.RowKit

/-- The marks of owner j begin here. -/
def topO (ds : List On) (k : Int) (j : Nat) : Int := k + ((2 * j + offOf (rowsO ds) (j * 2) : Nat) : Int)
/-- The marks of list i begin here. -/
def posO (ds : List On) (k : Int) (i : Nat) : Int := k + ((2 * (i / 2 + 1) + offOf (rowsO ds) i : Nat) : Int)
def otot (ds : List On) : Nat := 2 * ds.length + ((rowsO ds).map List.length).sum
def m3 (x : Int) : Bool := x % 3 == 0

/-- The content of lists of which the first J are marked. -/
def ctM (ds : List On) (k : Int) (J : Nat) (i : Nat) : List Value := if i < J then mks (posO ds k i) (lenOf (rowsO ds) i) else rowOf (rowsO ds) i

/-- The cells of the row, of which the first J owners are marked. -/
def FldM (xs us : List Value) (ds : List On) (k : Int) (J : Nat) : Prop := ∀ j, j < ds.length → xs[j * 4 + 2]? = us[j * 2]? ∧ xs[j * 4 + 3]? = us[j * 2 + 1]? ∧ (j < J → xs[j * 4]? = some (.int .i64 (topO ds k j)) ∧ xs[j * 4 + 1]? = some (.bool (m3 (topO ds k j + 1))))

/-- Owners of the call's own, marked from k on. -/
def MkO (lo hi : Nat) (v : Value) (n : Nat) (ds : List On) (k : Int) (w : World) : Prop :=
  n = ds.length ∧ ∃ xs us, OwR lo hi 50 4 v n xs w ∧ us.length = n * 2 ∧ FldM xs us ds k n ∧ SSk lo hi us (lenOf (rowsO ds)) (ctM ds k (n * 2)) w

theorem MkO.loc (lo hi : Nat) (v : Value) (n : Nat) (ds : List On) (k : Int) : Loc lo hi (MkO lo hi v n ds k) := by
  rintro w w' ⟨h0, xs, us, h1, h2, h3, h4⟩ hk
  exact ⟨h0, xs, us, h1.keep hk, h2, h3, h4.keep hk⟩

theorem topO_cl (ds : List On) (k : Int) (j : Nat) : posO ds k (j * 2) = topO ds k j + 1 + 1 := by
  unfold posO topO; rw [show j * 2 / 2 = j by omega]; omega
theorem topO_cx (ds : List On) (k : Int) (j : Nat) (h : j < ds.length) : posO ds k (j * 2 + 1) = topO ds k j + 1 + 1 + ((ds.getD j default).cl.length : Nat) := by
  unfold posO topO; rw [show (j * 2 + 1) / 2 = j by omega, offO_cl ds j h]; omega
theorem topO_succ (ds : List On) (k : Int) (j : Nat) (h : j < ds.length) : topO ds k (j + 1) = topO ds k j + 1 + 1 + ((ds.getD j default).cl.length : Nat) + ((ds.getD j default).cx.length : Nat) := by
  unfold topO; rw [offO_succ ds j h]; omega
theorem topO_all (ds : List On) (k : Int) : topO ds k ds.length = k + (otot ds : Nat) := by
  unfold topO otot; rw [offO_all]
theorem topO_le (ds : List On) (k : Int) (j : Nat) (h : j ≤ ds.length) : k ≤ topO ds k j ∧ topO ds k j ≤ k + (otot ds : Nat) := by
  have := offOf_le (rowsO ds) (j * 2)
  unfold topO otot; omega
theorem OB.tot {ds : List On} (h : OB ds) : otot ds ≤ 3145728 := by have := h.1; have := h.2.1; unfold otot; omega

theorem SSk.mark1 {lo hi J : Nat} {vs : List Value} {lens : Nat → Nat} {cont : Nat → List Value} {w w' : World} {A : Option Addr} {m c : Nat} {q : Int} {e : Ending} (h : SSk lo hi vs lens cont w) (hJ : vs[J]? = some (.slice A m c)) (hm : Marked w lo 3 1 (.slice A m c) m q e w') : SSk lo hi vs lens (fun i => if i = J then mks q m else cont i) w' := by
  refine ⟨fun j hj => ?_, h.apart⟩
  obtain ⟨A', m', c', e1, e2, e3⟩ := h.row j hj
  by_cases ej : j = J
  · subst ej
    rw [hJ] at e1
    cases e1
    refine ⟨A, m, c, hJ, e2, ?_, e3.2⟩
    rw [if_pos rfl]
    have := hm.2.1
    rwa [Nat.mul_one] at this
  · refine ⟨A', m', c', e1, e2, ?_, e3.2⟩
    have hne : (Value.slice A' m' c').ownBlock = none ∨ (Value.slice A' m' c').ownBlock ≠ (Value.slice A m c).ownBlock := by
      cases hb : (Value.slice A' m' c').ownBlock with
      | none => exact .inl rfl
      | some q => exact .inr fun e => h.apart j J _ _ q ej e1 hJ hb e.symm
    rw [if_neg ej]
    exact e3.1.kept hm.2.2 hne

theorem ctM_step (ds : List On) (k : Int) (J : Nat) (m : Nat) (q : Int) (hq : q = posO ds k J) (hm : m = lenOf (rowsO ds) J) (i : Nat) : (if i = J then mks q m else ctM ds k J i) = ctM ds k (J + 1) i := by
  subst hq; subst hm
  unfold ctM
  by_cases e : i = J
  · subst e; rw [if_pos rfl, if_pos (by omega)]
  · rw [if_neg e]
    by_cases e2 : i < J
    · rw [if_pos e2, if_pos (by omega)]
    · rw [if_neg e2, if_neg (by omega)]

theorem FldM.step {xs us : List Value} {ds : List On} {k : Int} {J : Nat} (h : FldM xs us ds k J) (hl : xs.length = ds.length * 4) (hJ : J < ds.length) :
    FldM ((xs.set (J * 4) (.int .i64 (topO ds k J))).set (J * 4 + 1) (.bool (m3 (topO ds k J + 1)))) us ds k (J + 1) := by
  intro j hj
  obtain ⟨a, b, c⟩ := h j hj
  refine ⟨?_, ?_, fun hjJ => ?_⟩
  · rw [List.getElem?_set, if_neg (by omega), List.getElem?_set, if_neg (by omega)]; exact a
  · rw [List.getElem?_set, if_neg (by omega), List.getElem?_set, if_neg (by omega)]; exact b
  · by_cases e : j = J
    · subst e
      refine ⟨?_, ?_⟩
      · rw [List.getElem?_set, if_neg (by omega), List.getElem?_set, if_pos rfl, if_pos (by omega)]
      · rw [List.getElem?_set, if_pos rfl, if_pos (by simp; omega)]
    · obtain ⟨c1, c2⟩ := c (by omega)
      refine ⟨?_, ?_⟩
      · rw [List.getElem?_set, if_neg (by omega), List.getElem?_set, if_neg (by omega)]; exact c1
      · rw [List.getElem?_set, if_neg (by omega), List.getElem?_set, if_neg (by omega)]; exact c2

set_option maxRecDepth 100000 in
set_option maxHeartbeats 1600000 in
theorem laws_markOwnerS (lo hi n : Nat) (v : Value) (ds : List On) (k : Int) (w : World) (h : OwO lo hi v n ds w) (hB : OB ds) (hhi : hi ≤ w.heap.size) (hk : 0 ≤ k) (hk' : k ≤ 562949953421312) :
    Calls Try.prog 22 #[v, .int .i64 k] w fun e w' => MkS lo hi (MkO lo hi v n ds k) w (k + (otot ds : Nat)) e w' := by
  obtain ⟨hn, xs, us, hr, hul, hf, hs⟩ := h
  have hnb : n ≤ 1048576 := by rw [hn]; exact hB.1
  have HN := Lib.hid hn
  have HB := Lib.hid hB
  have htot := hB.tot
  have HUL := Lib.hid hul
  have hf0 : FldM xs us ds k 0 := fun j hj => ⟨(hf j hj).2.2.1, (hf j hj).2.2.2, fun h => by omega⟩
  have hs0 : SSk lo hi us (lenOf (rowsO ds)) (ctM ds k 0) w := hs.congr fun j _ => by unfold ctM; rw [if_neg (by omega)]
  rcases hr.1.2 with ⟨hv, hz⟩ | ⟨g, cap, cur, hv, hbg, hgh, hrest⟩
  · subst hv
    subst hz
    have hx : ds = [] := List.eq_nil_of_length_eq_zero hn.symm
    subst hx
    have HR := Lib.hid hr
    have HF := Lib.hid hf0
    have HS := Lib.hid hs0
    clear hr hf hs hn hul hf0 hs0
    go_enter Try.func22, Try.ntmps22
    go_wp2
    go_loopw [5, 1] (fun i u wr => i = .int .i64 0 ∧ u = .int .i64 k ∧ wr = w) (fun i _ _ => 0)
    case atStart => exact ⟨rfl, rfl, rfl⟩
    case round =>
      obtain ⟨rfl, rfl, rfl⟩ := hrel
      go_wp2
      go_ret
      exact ⟨ret_i (by simp [otot, rowsO]), ⟨⟨rfl, xs, us, HR.out, HUL.out, HF.out, HS.out⟩, hhi, MkO.loc _ _ _ _ _ _⟩, Tch.refl _ _ _⟩
  · subst hv
    have hglo : lo ≤ g := hbg
    have hghi : g < hi := hr.2 g rfl
    have HST : Hid (∃ xs us, OwR lo hi 50 4 (.slice (some ⟨g, 0, none⟩) n cap) n xs w ∧ us.length = n * 2 ∧ FldM xs us ds k 0 ∧ SSk lo hi us (lenOf (rowsO ds)) (ctM ds k (0 * 2)) w) := ⟨xs, us, hr, hul, hf0, by rw [Nat.zero_mul]; exact hs0⟩
    clear hr hf hs hn hul hf0 hs0 hgh hrest hB hbg HUL
    go_enter Try.func22, Try.ntmps22
    go_wp2
    go_loopw [5, 1] (fun i u wr => ∃ j : Nat, j ≤ n ∧ i = .int .i64 j ∧ u = .int .i64 (topO ds k j) ∧ Hid (∃ xs us, OwR lo hi 50 4 (.slice (some ⟨g, 0, none⟩) n cap) n xs wr ∧ us.length = n * 2 ∧ FldM xs us ds k j ∧ SSk lo hi us (lenOf (rowsO ds)) (ctM ds k (j * 2)) wr) ∧ Hid (Tch lo hi w wr)) (fun i _ _ => n - (intOf i).toNat)
    case atStart => exact ⟨0, by omega, rfl, by unfold topO; simp [offOf], HST.out, Tch.refl _ _ _⟩
    case round =>
      obtain ⟨j, hj, rfl, rfl, HST', HT⟩ := hrel
      by_cases hlt : j < n
      · obtain ⟨xs, us, hr, hul, hf, hs⟩ := HST'.out
        have hxl : xs.length = n * 4 := hr.1.1
        have hjd : j < ds.length := by have := HN.out; omega
        obtain ⟨f2, f3, -⟩ := hf j hjd
        obtain ⟨A1, m1, c1, r1, r2, r3⟩ := hs.row (j * 2) (by omega)
        obtain ⟨A2, m2, c2, s1, s2, s3⟩ := hs.row (j * 2 + 1) (by omega)
        have hle := topO_le ds k j (by omega)
        have hfs := hf.step (by have := HN.out; omega) hjd
        have hts := topO_succ ds k j hjd
        have hp1 := topO_cl ds k j
        have hp2 := topO_cx ds k j hjd
        have hl1 : lenOf (rowsO ds) (j * 2) = (ds.getD j default).cl.length := by rw [lenOfO, rowO_cl]
        have hl2 : lenOf (rowsO ds) (j * 2 + 1) = (ds.getD j default).cx.length := by rw [lenOfO, rowO_cx]
        have hbd := HB.out.2.2 j
        rw [← hl1, ← r2] at hts hp2
        rw [← hl2, ← s2] at hts
        have hm1 : m1 ≤ 2000000 := by omega
        have hm2 : m2 ≤ 2000000 := by omega
        obtain ⟨q, hq⟩ : ∃ q : Int, q = topO ds k j := ⟨_, rfl⟩
        rw [← hq] at hle hfs hts hp1 hp2
        have hq0 : 0 ≤ q := by omega
        have hq1 : q ≤ 562949956567040 := by omega
        have st1 := hr.1.stored (j * 4) (.int .i64 q)
        have st2 := st1.1.stored (j * 4 + 1) (.bool (m3 (q + 1)))
        have hgr := grown_tr st1.2 st2.2
        have hs2 := hs.grown hgr (hs.ne hr.1 owner_ne_int.symm)
        have hR2 : OwR lo hi 50 4 (.slice (some ⟨g, 0, none⟩) n cap) n _ _ := ⟨st2.1, hr.2⟩
        have hT2 : Tch lo hi wr _ := Tch.of_grown hgr fun x hx => by cases hx; exact ⟨hglo, hghi⟩
        have u0 := hr.1.cellAt (j * 4) (by omega)
        have u1 := hr.1.cellAt (j * 4 + 1) (by omega)
        rw [List.getElem?_eq_getElem (by omega)] at u0 u1
        have f0 := hr.1.frozenAt (j * 4)
        have f1 := hr.1.frozenAt (j * 4 + 1)
        generalize xs[j * 4]'(by omega) = v0 at u0
        generalize xs[j * 4 + 1]'(by omega) = v1 at u1
        have u2 := (hr.1.cellAt (j * 4 + 2) (by omega)).trans (f2.trans r1)
        have u3 := (hr.1.cellAt (j * 4 + 3) (by omega)).trans (f3.trans s1)
        have U2 := Lib.hid u2
        have HFS := Lib.hid hfs
        have HTS := Lib.hid hts
        have HP1 := Lib.hid hp1
        have HP2 := Lib.hid hp2
        have HQ := Lib.hid hq
        have HS2 := Lib.hid hs2
        have HR2 := Lib.hid hR2
        have HT2 := Lib.hid (HT.out.trans hT2)
        have HUL := Lib.hid hul
        have HR1 := Lib.hid r1
        have HS1 := Lib.hid s1
        have HL1 := Lib.hid r2
        have HL2 := Lib.hid s2
        rw [← hq]
        clear hr hul hf hs hxl f2 f3 r1 r2 r3 s1 s2 s3 hle hfs hts hp1 hp2 hl1 hl2 hbd hq st1 st2 hgr hs2 hR2 hT2 HST' HT htot
        go_wp2_with fail
        have hb3 : ((q + 1) % 3 == 0) = m3 (q + 1) := rfl
        rw [hb3]
        clear hb3
        generalize m3 (q + 1) = b3 at *
        obtain ⟨W2, hW2⟩ : ∃ W : World, W = (wr.setCell ⟨g, j * 4, none⟩ (.int .i64 q)).setCell ⟨g, j * 4 + 1, none⟩ (.bool b3) := ⟨_, rfl⟩
        have HR3 : Hid (OwR lo hi 50 4 (.slice (some ⟨g, 0, none⟩) n cap) n ((xs.set (j * 4) (.int .i64 q)).set (j * 4 + 1) (.bool b3)) W2) := by rw [hW2]; exact HR2.out
        have HS3 : Hid (SSk lo hi us (lenOf (rowsO ds)) (ctM ds k (j * 2)) W2) := by rw [hW2]; exact HS2.out
        have HT3 : Hid (Tch lo hi w W2) := by rw [hW2]; exact HT2.out
        rw [← hW2]
        clear hW2 HR2 HS2 HT2 u0 u1 u2 u3 f0 f1
        obtain ⟨B1, mm1, cc1, r1', r2', r3'⟩ := HS3.out.row (j * 2) (by have := HUL.out; omega)
        have hrr := HR1.out
        rw [hrr] at r1'
        cases r1'
        clear hrr r2'
        have HR4 := Lib.hid r3'.1
        have hlt1 := fun x hx => HS3.out.lt (j * 2) _ x HR1.out hx
        refine (laws_markIntS lo m1 _ _ (q + 1 + 1) _ HR4.out (by omega) (by omega) hm1).mono ?_
        rintro e w3 hm
        have he := hm.1
        have HS4 : Hid (SSk lo hi us (lenOf (rowsO ds)) (ctM ds k (j * 2 + 1)) w3) := (HS3.out.mark1 HR1.out hm).congr fun i _ => ctM_step ds k (j * 2) m1 (q + 1 + 1) HP1.out.symm HL1.out i
        have HR5 : Hid (OwR lo hi 50 4 (.slice (some ⟨g, 0, none⟩) n cap) n ((xs.set (j * 4) (.int .i64 q)).set (j * 4 + 1) (.bool b3)) w3) := ⟨HR3.out.1.kept hm.2.2 (blocks_ne HR3.out.1 HR4.out owner_ne_int), HR3.out.2⟩
        have HT4 : Hid (Tch lo hi w w3) := HT3.out.trans (Tch.of_grown hm.2.2 fun x hx => hlt1 x hx)
        have f3 := (HFS.out j (by have := HN.out; omega)).2.1
        have u3 := (HR5.out.1.cellAt (j * 4 + 3) (by omega)).trans (f3.trans HS1.out)
        obtain ⟨B2, mm2, cc2, s1', s2', s3'⟩ := HS4.out.row (j * 2 + 1) (by have := HUL.out; omega)
        have hss := HS1.out
        rw [hss] at s1'
        cases s1'
        clear hss s2'
        have HR6 := Lib.hid s3'.1
        have hlt2 := fun x hx => HS4.out.lt (j * 2 + 1) _ x HS1.out hx
        rw [Nat.mul_one] at he
        obtain ⟨q2, hq2⟩ : ∃ q2 : Int, q2 = q + 1 + 1 + (m1 : Int) := ⟨_, rfl⟩
        rw [← hq2] at he
        have hq20 : 0 ≤ q2 := by omega
        have hq21 : q2 ≤ 562949960000000 := by omega
        have HQ2 := Lib.hid hq2
        subst he
        clear hm f3 HR3 HS3 HT3 HR4 r3' s3' hq2 hlt1
        go_wp2_with fail
        refine (laws_markIntS lo m2 _ _ q2 _ HR6.out (by omega) (by omega) hm2).mono ?_
        rintro e w4 hm
        have he := hm.1
        have HS5 : Hid (SSk lo hi us (lenOf (rowsO ds)) (ctM ds k ((j + 1) * 2)) w4) := (HS4.out.mark1 HS1.out hm).congr fun i _ => by
          rw [ctM_step ds k (j * 2 + 1) m2 q2 (by rw [HQ2.out, HP2.out]) HL2.out i]
          rw [show (j + 1) * 2 = j * 2 + 1 + 1 by omega]
        have HR7 : Hid (OwR lo hi 50 4 (.slice (some ⟨g, 0, none⟩) n cap) n ((xs.set (j * 4) (.int .i64 q)).set (j * 4 + 1) (.bool b3)) w4) := ⟨HR5.out.1.kept hm.2.2 (blocks_ne HR5.out.1 HR6.out owner_ne_int), HR5.out.2⟩
        have HT5 : Hid (Tch lo hi w w4) := HT4.out.trans (Tch.of_grown hm.2.2 fun x hx => hlt2 x hx)
        rw [Nat.mul_one] at he
        obtain ⟨q3, hq3⟩ : ∃ q3 : Int, q3 = q2 + (m2 : Int) := ⟨_, rfl⟩
        rw [← hq3] at he
        have HQ3 := Lib.hid hq3
        subst he
        clear hm HR5 HS4 HT4 HR6 hq3 hlt2 u3
        go_wp2
        go_roundw
        case rel => exact ⟨j + 1, by omega, by go_num, by rw [HTS.out, HQ3.out, HQ2.out], ⟨_, us, HR7.out, HUL.out, HFS.out, HS5.out⟩, HT5.out⟩
        case measure => simp [intOf]; omega
      · obtain rfl : j = n := by omega
        obtain ⟨q, hq⟩ : ∃ q : Int, q = topO ds k j := ⟨_, rfl⟩
        have HQ := Lib.hid hq
        rw [← hq]
        clear hq
        go_wp2
        go_ret
        obtain ⟨xs, us, hr, hul, hf, hs⟩ := HST'.out
        refine ⟨ret_i ?_, ⟨⟨HN.out, xs, us, hr, hul, hf, hs⟩, Nat.le_trans hhi HT.out.size, MkO.loc _ _ _ _ _ _⟩, HT.out⟩
        rw [HQ.out, HN.out, topO_all]

set_option maxRecDepth 100000 in
set_option maxHeartbeats 1600000 in
theorem laws_heldOwnerS (lo hi n : Nat) (v : Value) (ds : List On) (k : Int) (w : World) (h : MkO lo hi v n ds k w) (hB : OB ds) (hk : 0 ≤ k) (hk' : k ≤ 562949953421312) :
    Calls Try.prog 23 #[v, .int .i64 k] w fun e w' => e = .returned (.int .i64 (k + (otot ds : Nat))) ∧ Below w.heap.size w w' := by
  obtain ⟨hn, xs, us, hr, hul, hf, hs⟩ := h
  have hnb : n ≤ 1048576 := by rw [hn]; exact hB.1
  have HN := Lib.hid hn
  have HB := Lib.hid hB
  have htot := hB.tot
  have HUL := Lib.hid hul
  have HF := Lib.hid hf
  have HS := Lib.hid hs
  rcases hr.1.2 with ⟨hv, hz⟩ | ⟨g, cap, cur, hv, hbg, hgh, hrest⟩
  · subst hv
    subst hz
    have hx : ds = [] := List.eq_nil_of_length_eq_zero hn.symm
    subst hx
    clear hr hf hs hn hul
    go_enter Try.func23, Try.ntmps23
    go_wp2
    go_loopw [5, 1] (fun i u wr => i = .int .i64 0 ∧ u = .int .i64 k ∧ wr = w) (fun i _ _ => 0)
    case atStart => exact ⟨rfl, rfl, rfl⟩
    case round =>
      obtain ⟨rfl, rfl, rfl⟩ := hrel
      go_wp2
      go_ret
      exact ⟨ret_i (by simp [otot, rowsO]), Below.refl _ _⟩
  · subst hv
    have HR := Lib.hid hr
    clear hr hf hs hn hul hgh hrest hB hbg
    go_enter Try.func23, Try.ntmps23
    go_wp2
    go_loopw [5, 1] (fun i u wr => ∃ j : Nat, j ≤ n ∧ i = .int .i64 j ∧ u = .int .i64 (topO ds k j) ∧ Below w.heap.size w wr) (fun i _ _ => n - (intOf i).toNat)
    case atStart => exact ⟨0, by omega, rfl, by unfold topO; simp [offOf], Below.refl _ _⟩
    case round =>
      obtain ⟨j, hj, rfl, rfl, hb⟩ := hrel
      by_cases hlt : j < n
      · have hjd : j < ds.length := by have := HN.out; omega
        obtain ⟨f2, f3, ff⟩ := HF.out j hjd
        obtain ⟨f0, f1⟩ := ff hlt
        obtain ⟨A1, m1, c1, r1, r2, r3⟩ := HS.out.row (j * 2) (by have := HUL.out; omega)
        obtain ⟨A2, m2, c2, s1, s2, s3⟩ := HS.out.row (j * 2 + 1) (by have := HUL.out; omega)
        have hr := own_below HR.out.1 hb
        have hle := topO_le ds k j (by omega)
        have hts := topO_succ ds k j hjd
        have hp1 := topO_cl ds k j
        have hp2 := topO_cx ds k j hjd
        have hl1 : lenOf (rowsO ds) (j * 2) = (ds.getD j default).cl.length := by rw [lenOfO, rowO_cl]
        have hl2 : lenOf (rowsO ds) (j * 2 + 1) = (ds.getD j default).cx.length := by rw [lenOfO, rowO_cx]
        have hbd := HB.out.2.2 j
        rw [← hl1, ← r2] at hts hp2
        rw [← hl2, ← s2] at hts
        unfold ctM at r3 s3
        rw [if_pos (by omega), ← r2, hp1] at r3
        rw [if_pos (by omega), ← s2, hp2] at s3
        have hm1 : m1 ≤ 2000000 := by omega
        have hm2 : m2 ≤ 2000000 := by omega
        obtain ⟨q, hq⟩ : ∃ q : Int, q = topO ds k j := ⟨_, rfl⟩
        rw [← hq] at hle hts hp1 hp2 f0 f1 r3 s3
        have hq0 : 0 ≤ q := by omega
        have hq1 : q ≤ 562949956567040 := by omega
        have u0 := (hr.cellAt (j * 4) (by omega)).trans f0
        have u1 : _ = some (Value.bool ((q + 1) % 3 == 0)) := (hr.cellAt (j * 4 + 1) (by omega)).trans f1
        have u2 := (hr.cellAt (j * 4 + 2) (by omega)).trans (f2.trans r1)
        have u3 := (hr.cellAt (j * 4 + 3) (by omega)).trans (f3.trans s1)
        have U3 := Lib.hid u3
        have hlt3 : g < wr.heap.size := (hr.lt g rfl).2
        have hq3 : ¬ q + 1 + 1 + (m1 : Int) < 0 := by omega
        have hq4 : ¬ q + 1 + 1 + (m1 : Int) + (m2 : Int) < 0 := by omega
        have R3 := Lib.hid (own_below r3.1 hb)
        have S3 := Lib.hid (own_below s3.1 hb)
        have HTS := Lib.hid hts
        rw [← hq]
        clear hr hle hts hp1 hp2 hl1 hl2 hbd hq f0 f1 f2 f3 ff r1 r2 r3 s1 s2 s3 u3
        go_wp2_with fail
        refine (laws_heldIntS lo m1 _ (q + 1 + 1) _ R3.out (by omega) (by omega) hm1).mono ?_
        rintro e w3 ⟨rfl, hb3⟩
        have u3 := (hb3.cell (p := ⟨g, j * 4 + 3, none⟩) hlt3).trans U3.out
        have S4 := Lib.hid (own_below S3.out hb3)
        have HB3 := Lib.hid (hb.trans (hb3.mono hb.size))
        obtain ⟨q2, hq2⟩ : ∃ q2 : Int, q2 = q + 1 + 1 + (m1 : Int) := ⟨_, rfl⟩
        rw [← hq2] at hq3 hq4 S4
        rw [← hq2]
        have hq20 : 0 ≤ q2 := by omega
        have hq21 : q2 ≤ 562949960000000 := by omega
        have HQ2 := Lib.hid hq2
        clear hq2 hb3 hb u0 u1 u2 S3 U3
        go_wp2_with fail
        refine (laws_heldIntS lo m2 _ q2 _ S4.out (by omega) (by omega) hm2).mono ?_
        rintro e w4 ⟨rfl, hb4⟩
        have HB4 := Lib.hid (HB3.out.trans (hb4.mono HB3.out.size))
        obtain ⟨q3, hq3'⟩ : ∃ q3 : Int, q3 = q2 + (m2 : Int) := ⟨_, rfl⟩
        rw [← hq3'] at hq4
        rw [← hq3']
        have HQ3 := Lib.hid hq3'
        clear hq3' hb4 u3 S4
        go_wp2
        go_roundw
        case rel => exact ⟨j + 1, by omega, by go_num, by rw [HTS.out, HQ3.out, HQ2.out], HB4.out⟩
        case measure => simp [intOf]; omega
      · obtain rfl : j = n := by omega
        obtain ⟨q, hq⟩ : ∃ q : Int, q = topO ds k j := ⟨_, rfl⟩
        have HQ := Lib.hid hq
        rw [← hq]
        clear hq
        go_wp2
        go_ret
        exact ⟨ret_i (by rw [HQ.out, HN.out, topO_all]), hb⟩

theorem mark_owners (lo hi n : Nat) (v : Value) (ds : List On) (k : Int) (w : World) (h : As lo hi (OwO lo hi v n ds) w) (hB : OB ds) (hk : 0 ≤ k) (hk' : k ≤ 562949953421312) :
    Calls Try.prog 22 #[v, .int .i64 k] w fun e w' => MkS lo hi (MkO lo hi v n ds k) w (k + (otot ds : Nat)) e w' :=
  laws_markOwnerS lo hi n v ds k w h.it hB h.le hk hk'
theorem held_owners (lo hi n : Nat) (v : Value) (ds : List On) (k : Int) (w : World) (h : As lo hi (MkO lo hi v n ds k) w) (hB : OB ds) (hk : 0 ≤ k) (hk' : k ≤ 562949953421312) :
    Calls Try.prog 23 #[v, .int .i64 k] w fun e w' => e = .returned (.int .i64 (k + (otot ds : Nat))) ∧ Below w.heap.size w w' :=
  laws_heldOwnerS lo hi n v ds k w h.it hB hk hk'
/-- The mark of an argument's copy. -/
theorem markw_owners (lo hi n : Nat) (v : Value) (ds : List On) (k : Int) (w : World) (h : As lo hi (OwO lo hi v n ds) w) (hB : OB ds) (hk : 0 ≤ k) (hk' : k ≤ 562949953421312) :
    Calls Try.prog 22 #[v, .int .i64 k] w fun e w' => MkW lo hi w k (k + 6000000000000) e w' := by
  have := hB.tot
  refine (mark_owners lo hi n v ds k w h hB hk hk').mono ?_
  rintro e w' ⟨he, _, ht⟩
  exact ⟨_, he, by omega, by omega, ht⟩
end Go.Proofs.Ytdcfmoaomlfijaa
