/- States of the eager machine: of the call's own, copied, marked, held. -/
import Derived.Test.YthephbppeiealaaE1
namespace Go.Proofs.Ythephbppeiealaa
set_option linter.unusedSimpArgs false
set_option linter.unusedVariables false
open Go.RowKit

/-- The content of rows of which the first J are marked. -/
def mkTo (yss : List (List Int)) (k : Int) (J : Nat) (j : Nat) : List Value := if j < J then mks (k + offOf yss j) (lenOf yss j) else rowOf yss j

theorem mkTo_zero (yss : List (List Int)) (k : Int) : mkTo yss k 0 = rowOf yss := by funext j; unfold mkTo; simp

theorem SSk.congr {lo hi : Nat} {vs : List Value} {lens : Nat → Nat} {cont cont' : Nat → List Value} {w : World} (h : SSk lo hi vs lens cont w) (hc : ∀ j, j < vs.length → cont j = cont' j) : SSk lo hi vs lens cont' w :=
  ⟨fun j hj => by obtain ⟨A, m, c, e1, e2, e3⟩ := h.row j hj; exact ⟨A, m, c, e1, e2, by rw [← hc j hj]; exact e3⟩, h.apart⟩

/-- What marks of some of the rows leave. -/
def MkRows (lo hi n : Nat) (v : Value) (us vs : List Value) (yss : List (List Int)) (k : Int) (J : Nat) (w : World) (e : Ending) (w' : World) : Prop :=
  e = .returned (.int .i64 (k + offOf yss J)) ∧ OwR lo hi 25 1 v n us w' ∧ SSk lo hi vs (lenOf yss) (mkTo yss k J) w' ∧ Tch lo hi w w'

set_option maxRecDepth 100000 in
set_option maxHeartbeats 1600000 in
theorem laws_markRows (lo hi n s : Nat) (v : Value) (us vs : List Value) (yss : List (List Int)) (k st : Int) (w : World) (hst : st = k + offOf yss s) (hrow : OwR lo hi 25 1 v n us w) (hus : ∀ j, j < n → vs[s + j]? = us[j]?) (hvl : vs.length = yss.length) (hsn : s + n ≤ yss.length) (hin : SSk lo hi vs (lenOf yss) (mkTo yss k s) w) (hsb : SB2 yss) (htot : (yss.map List.length).sum ≤ 1048576) (hk : 0 ≤ k) (hk' : k ≤ 562949953421312) :
    Calls Try.prog 77 #[v, .int .i64 st] w fun e w' => MkRows lo hi n v us vs yss k (s + n) w e w' := by
  have hnb : n ≤ 2000000 := by have := hsb.1; omega
  have hul : us.length = n := by have := hrow.1.1; omega
  have HUS := Lib.hid hus
  have HVL := Lib.hid hvl
  have HIN := Lib.hid hin
  have HSB := Lib.hid hsb
  have HST := Lib.hid hst
  have HSN := Lib.hid hsn
  have hs0 : 0 ≤ st := by omega
  rcases hrow.1.2 with ⟨hv, hz⟩ | ⟨g, cap, cur, hv, hbg, hgh, hrest⟩
  · subst hv
    subst hz
    have HROW := Lib.hid hrow
    clear hrow hin hus hvl hst hsb hul hsn
    go_enter Try.func77, Try.ntmps77
    go_wp2
    go_loopw [5, 1] (fun i u wr => i = .int .i64 0 ∧ u = .int .i64 st ∧ wr = w) (fun i _ _ => 0)
    case atStart => exact ⟨rfl, rfl, rfl⟩
    case round =>
      obtain ⟨rfl, rfl, rfl⟩ := hrel
      go_wp2
      go_ret
      exact ⟨by simp [HST.out], HROW.out, by simpa using HIN.out, Tch.refl _ _ _⟩
  · subst hv
    have hglo : lo ≤ g := hbg
    have hghi : g < hi := hrow.2 g rfl
    have HROW := Lib.hid hrow
    clear hrow hin hus hvl hst hsb hgh hrest hbg hul hsn
    go_enter Try.func77, Try.ntmps77
    go_wp2
    go_loopw [5, 1] (fun i u wr => ∃ j : Nat, j ≤ n ∧ i = .int .i64 j ∧ u = .int .i64 (k + offOf yss (s + j)) ∧ Hid (OwR lo hi 25 1 (.slice (some ⟨g, 0, none⟩) n cap) n us wr) ∧ Hid (SSk lo hi vs (lenOf yss) (mkTo yss k (s + j)) wr) ∧ Hid (Tch lo hi w wr)) (fun i _ _ => n - (intOf i).toNat)
    case atStart => exact ⟨0, by omega, rfl, by simp [HST.out], HROW.out, by simpa using HIN, Tch.refl _ _ _⟩
    case round =>
      obtain ⟨j, hj, rfl, rfl, HR, HS, HT⟩ := hrel
      by_cases hlt : j < n
      · obtain ⟨A, m, c, e1, e2, e3⟩ := HS.out.row (s + j) (by have := HVL.out; have := HSN.out; omega)
        have u0 := (HR.out.1.cellAt j (by omega)).trans ((HUS.out j hlt).symm.trans e1)
        have hmb : m ≤ 1048576 := by rw [e2]; exact HSB.out.2 (s + j)
        have hoff := offOf_succ yss (s + j) (by have := HSN.out; omega)
        have hol := offOf_le yss (s + j)
        rw [← e2] at hoff
        have E1 := Lib.hid e1
        have E2 := Lib.hid e2
        have E3 := Lib.hid e3.1
        have HO := Lib.hid hoff
        obtain ⟨o, ho⟩ : ∃ o : Nat, o = offOf yss (s + j) := ⟨_, rfl⟩
        rw [← ho] at hol
        have hob : (o : Int) ≤ 1048576 := by omega
        have HOO := Lib.hid ho
        rw [← ho]
        clear e1 e2 e3 hoff ho hol
        go_wp2_with fail
        refine (laws_markIntS lo m _ _ (k + o) _ E3.out (by omega) (by omega) (by omega)).mono ?_
        rintro e w1 hm
        rw [HOO.out] at hm
        have he := hm.1
        have HS2 := Lib.hid (HS.out.mark E1.out E2.out hm)
        have HR2 : Hid (OwR lo hi 25 1 (.slice (some ⟨g, 0, none⟩) n cap) n us w1) := ⟨HR.out.1.kept hm.2.2 (blocks_ne HR.out.1 E3.out ints_ne_int.symm), HR.out.2⟩
        have hr3 := (HS.out.lt (s + j) _ · E1.out)
        have HT2 : Hid (Tch lo hi w w1) := HT.out.trans (Tch.of_grown hm.2.2 fun q hq => hr3 q hq)
        have hen : k + (offOf yss (s + j) : Int) + ((m * 1 : Nat) : Int) = k + (offOf yss (s + (j + 1)) : Nat) := by rw [← Nat.add_assoc, HO.out]; omega
        rw [hen] at he
        subst he
        clear hm hr3 hen
        obtain ⟨o2, ho2⟩ : ∃ o2 : Nat, o2 = offOf yss (s + (j + 1)) := ⟨_, rfl⟩
        have HO2 := Lib.hid ho2
        rw [← ho2]
        clear ho2
        go_wp2
        go_roundw
        case rel => exact ⟨j + 1, by omega, by go_num, by rw [HO2.out], HR2.out, HS2.out, HT2.out⟩
        case measure => simp [intOf]; omega
      · obtain rfl : j = n := by omega
        obtain ⟨o, ho⟩ : ∃ o : Nat, o = offOf yss (s + j) := ⟨_, rfl⟩
        have HOO := Lib.hid ho
        rw [← ho]
        clear ho
        go_wp2
        go_ret
        exact ⟨ret_i (by rw [HOO.out]), HR.out, HS.out, HT.out⟩

set_option maxRecDepth 100000 in
set_option maxHeartbeats 1600000 in
theorem laws_heldRows (lo hi n s : Nat) (v : Value) (us vs : List Value) (yss : List (List Int)) (k st : Int) (w : World) (hst : st = k + offOf yss s) (hrow : OwR lo hi 25 1 v n us w) (hus : ∀ j, j < n → vs[s + j]? = us[j]?) (hvl : vs.length = yss.length) (hsn : s + n ≤ yss.length) (hin : SSk lo hi vs (lenOf yss) (fun j => mks (k + offOf yss j) (lenOf yss j)) w) (hsb : SB2 yss) (htot : (yss.map List.length).sum ≤ 1048576) (hk : 0 ≤ k) (hk' : k ≤ 562949953421312) :
    Calls Try.prog 78 #[v, .int .i64 st] w fun e w' => e = .returned (.int .i64 (k + offOf yss (s + n))) ∧ Below w.heap.size w w' := by
  have hnb : n ≤ 2000000 := by have := hsb.1; omega
  have hul : us.length = n := by have := hrow.1.1; omega
  have HUS := Lib.hid hus
  have HVL := Lib.hid hvl
  have HIN := Lib.hid hin
  have HSB := Lib.hid hsb
  have HST := Lib.hid hst
  have HSN := Lib.hid hsn
  have hs0 : 0 ≤ st := by omega
  rcases hrow.1.2 with ⟨hv, hz⟩ | ⟨g, cap, cur, hv, hbg, hgh, hrest⟩
  · subst hv
    subst hz
    clear hrow hin hus hvl hst hsb hul hsn
    go_enter Try.func78, Try.ntmps78
    go_wp2
    go_loopw [5, 1] (fun i u wr => i = .int .i64 0 ∧ u = .int .i64 st ∧ wr = w) (fun i _ _ => 0)
    case atStart => exact ⟨rfl, rfl, rfl⟩
    case round =>
      obtain ⟨rfl, rfl, rfl⟩ := hrel
      go_wp2
      go_ret
      exact ⟨by simp [HST.out], Below.refl _ _⟩
  · subst hv
    have HROW := Lib.hid hrow
    clear hrow hin hus hvl hst hsb hgh hrest hbg hul hsn
    go_enter Try.func78, Try.ntmps78
    go_wp2
    go_loopw [5, 1] (fun i u wr => ∃ j : Nat, j ≤ n ∧ i = .int .i64 j ∧ u = .int .i64 (k + offOf yss (s + j)) ∧ Below w.heap.size w wr) (fun i _ _ => n - (intOf i).toNat)
    case atStart => exact ⟨0, by omega, rfl, by simp [HST.out], Below.refl _ _⟩
    case round =>
      obtain ⟨j, hj, rfl, rfl, hb⟩ := hrel
      by_cases hlt : j < n
      · obtain ⟨A, m, c, e1, e2, e3⟩ := HIN.out.row (s + j) (by have := HVL.out; have := HSN.out; omega)
        have u0 := ((own_below HROW.out.1 hb).cellAt j (by omega)).trans ((HUS.out j hlt).symm.trans e1)
        have hmb : m ≤ 1048576 := by rw [e2]; exact HSB.out.2 (s + j)
        have hoff := offOf_succ yss (s + j) (by have := HSN.out; omega)
        have hol := offOf_le yss (s + j)
        rw [← e2] at hoff e3
        have E3 := Lib.hid (own_below e3.1 hb)
        have HO := Lib.hid hoff
        obtain ⟨o, ho⟩ : ∃ o : Nat, o = offOf yss (s + j) := ⟨_, rfl⟩
        rw [← ho] at hol E3 HO
        have hob : (o : Int) ≤ 1048576 := by omega
        rw [← ho]
        clear e1 e2 e3 hoff ho hol
        go_wp2_with fail
        refine (laws_heldIntS lo m _ (k + o) _ E3.out (by omega) (by omega) (by omega)).mono ?_
        rintro e w1 ⟨rfl, hb1⟩
        have hen : k + (o : Int) + (m : Int) = k + (offOf yss (s + (j + 1)) : Nat) := by rw [← Nat.add_assoc, HO.out]; omega
        rw [hen]
        obtain ⟨o2, ho2⟩ : ∃ o2 : Nat, o2 = offOf yss (s + (j + 1)) := ⟨_, rfl⟩
        have HO2 := Lib.hid ho2
        rw [← ho2]
        clear ho2 hen
        have hpos : 0 ≤ k + (o2 : Int) := by omega
        go_wp2
        go_roundw
        case rel => exact ⟨j + 1, by omega, by go_num, by rw [HO2.out], hb.trans (hb1.mono hb.size)⟩
        case measure => simp [intOf]; omega
      · obtain rfl : j = n := by omega
        obtain ⟨o, ho⟩ : ∃ o : Nat, o = offOf yss (s + j) := ⟨_, rfl⟩
        have HOO := Lib.hid ho
        rw [← ho]
        clear ho
        go_wp2
        go_ret
        exact ⟨ret_i (by rw [HOO.out]), hb⟩

/-- A state of the call's own, in blocks lo to hi - 1. -/
def OwE (lo hi : Nat) (A : Option Addr) (n c : Nat) (E : Option Addr) (en ec : Nat) (st : Eg) (w : World) : Prop :=
  n = st.vs.length ∧ en = st.rs.length ∧ ∃ us, OwR lo hi 25 1 (.slice E en ec) en us w ∧ SSk lo hi (.slice A n c :: us) (lenOf (rowsE st)) (rowOf (rowsE st)) w
/-- The same, marked from k on. -/
def MkE (lo hi : Nat) (A : Option Addr) (n c : Nat) (E : Option Addr) (en ec : Nat) (st : Eg) (k : Int) (w : World) : Prop :=
  n = st.vs.length ∧ en = st.rs.length ∧ ∃ us, OwR lo hi 25 1 (.slice E en ec) en us w ∧ SSk lo hi (.slice A n c :: us) (lenOf (rowsE st)) (fun j => mks (k + offOf (rowsE st) j) (lenOf (rowsE st) j)) w

section
variable {lo hi lo' hi' n c en ec : Nat} {A E : Option Addr} {st : Eg} {k : Int} {w w' : World}
theorem OwE.loc (lo hi : Nat) (A : Option Addr) (n c : Nat) (E : Option Addr) (en ec : Nat) (st : Eg) : Loc lo hi (OwE lo hi A n c E en ec st) := by
  rintro w w' ⟨h0, h0', vs, h1, h2⟩ hk
  exact ⟨h0, h0', vs, h1.keep hk, h2.keep hk⟩
theorem MkE.loc (lo hi : Nat) (A : Option Addr) (n c : Nat) (E : Option Addr) (en ec : Nat) (st : Eg) (k : Int) : Loc lo hi (MkE lo hi A n c E en ec st k) := by
  rintro w w' ⟨h0, h0', vs, h1, h2⟩ hk
  exact ⟨h0, h0', vs, h1.keep hk, h2.keep hk⟩
theorem OwE.mono (h : OwE lo hi A n c E en ec st w) (h1 : lo' ≤ lo) (h2 : hi ≤ hi') : OwE lo' hi' A n c E en ec st w := by
  obtain ⟨h0, h0', vs, e1, e2⟩ := h
  exact ⟨h0, h0', vs, e1.mono h1 h2, e2.mono h1 h2⟩
theorem SSk.tail {v : Value} {us : List Value} {x : List Int} {xs : List (List Int)} (h : SSk lo hi (v :: us) (lenOf (x :: xs)) (rowOf (x :: xs)) w) : SSk lo hi us (lenOf xs) (rowOf xs) w :=
  ⟨fun j hj => by obtain ⟨A, m, c, e1, e2, e3⟩ := h.row (j + 1) (by simpa using hj); exact ⟨A, m, c, e1, e2, e3⟩, fun i j v u k hij h1 h2 => h.apart (i + 1) (j + 1) v u k (by omega) h1 h2⟩
theorem OwE.row0 (h : OwE lo hi A n c E en ec st w) : OwR lo hi 3 1 (.slice A n c) n (st.vs.map (Value.int .i64)) w := by
  obtain ⟨h0, h0', us, e1, e2⟩ := h
  obtain ⟨A', m, c', r1, r2, r3⟩ := e2.row 0 (by simp)
  simp only [List.getElem?_cons_zero, Option.some.injEq, Value.slice.injEq] at r1
  obtain ⟨rfl, rfl, rfl⟩ := r1
  exact r3
theorem OwE.lists (h : OwE lo hi A n c E en ec st w) : OwSS lo hi (.slice E en ec) en st.rs w := by
  obtain ⟨h0, h0', us, e1, e2⟩ := h
  exact ⟨h0', us, e1, e2.tail⟩
theorem OwE.reads (h : OwE lo hi A n c E en ec st w) : ES w hi A E st := ⟨h.row0.ints, h.lists.lists⟩
theorem eager_start (h : OwE lo w.heap.size A n c E en ec st w) : As lo w.heap.size (OwE lo w.heap.size A n c E en ec st) w := ⟨h, Nat.le_refl _, OwE.loc _ _ _ _ _ _ _ _ _⟩
theorem As.eager (h : As lo hi (OwE lo hi A n c E en ec st) w) : ES w w.heap.size A E st := h.it.reads.more h.le
/-- A row and lists in blocks that lie apart make a state. -/
theorem OwE.join {mid : Nat} (h : OwR lo mid 3 1 (.slice A n c) n (st.vs.map (Value.int .i64)) w) (hn : n = st.vs.length) (h' : OwSS mid hi (.slice E en ec) en st.rs w) (h1 : lo ≤ mid) (h2 : mid ≤ hi) : OwE lo hi A n c E en ec st w := by
  obtain ⟨h0, us, e1, e2⟩ := h'
  refine ⟨hn, h0, us, e1.mono h1 (Nat.le_refl _), ⟨fun j hj => ?_, fun i j v u k hij h3 h4 hv hu => ?_⟩⟩
  · cases j with
    | zero => exact ⟨A, n, c, rfl, hn, h.mono (Nat.le_refl _) h2⟩
    | succ j =>
      obtain ⟨A', m, c', r1, r2, r3⟩ := e2.row j (by simpa using hj)
      exact ⟨A', m, c', r1, r2, r3.mono h1 (Nat.le_refl _)⟩
  · cases i with
    | zero =>
      cases j with
      | zero => exact hij rfl
      | succ j =>
        simp only [List.getElem?_cons_zero, Option.some.injEq] at h3
        subst h3
        have a1 := h.2 k hv
        have a2 := (e2.lt j u k h4 hu).1
        omega
    | succ i =>
      cases j with
      | zero =>
        simp only [List.getElem?_cons_zero, Option.some.injEq] at h4
        subst h4
        have a1 := h.2 k hu
        have a2 := (e2.lt i v k h3 hv).1
        omega
      | succ j => exact e2.apart i j v u k (by omega) h3 h4 hv hu
end

/-- Returns a state in fresh blocks. -/
def RetE (w : World) (st : Eg) (e : Ending) (w' : World) : Prop := ∃ A n c E en ec, e = .returned (.agg #[.slice A n c, .slice E en ec]) ∧ OwE w.heap.size w'.heap.size A n c E en ec st w' ∧ Below w.heap.size w w'

theorem OwE.nil (lo hi : Nat) (w : World) (h : lo ≤ hi) : OwE lo hi none 0 0 none 0 0 ⟨[], []⟩ w := OwE.join (mid := hi) (OwR.nil _ _ _ _ _) rfl (OwSS.nil _ _ _) h (Nat.le_refl _)
theorem RetE.nil {w w' : World} (hb : Below w.heap.size w w') : RetE w ⟨[], []⟩ (.returned (.agg #[.slice none 0 0, .slice none 0 0])) w' := ⟨_, _, _, _, _, _, rfl, OwE.nil _ _ _ hb.size, hb⟩

theorem OwE.setCell {lo hi n c en ec : Nat} {A E : Option Addr} {st : Eg} {w : World} (h : OwE lo hi A n c E en ec st w) {a : Addr} (ha : a.block < lo) (u : Value) : OwE lo hi A n c E en ec st (w.setCell a u) :=
  OwE.loc _ _ _ _ _ _ _ _ _ _ _ h fun k hk _ => Below.heap_setCell _ _ _ _ (by omega)

set_option maxRecDepth 100000 in
set_option maxHeartbeats 1600000 in
theorem laws_toEager (A E : Option Addr) (n c en ec : Nat) (st : Eg) (w : World) (B : Nat) (hB : B ≤ w.heap.size) (hn : n = st.vs.length) (he : en = st.rs.length) (h : ES w B A E st) (hb : EB st) :
    Calls Try.prog 18 #[.agg #[.slice A n c, .slice E en ec]] w fun e w' => RetE w st e w' := by
  have hn1 : n ≤ 2000000 := by have := hb.1; omega
  have H1 := Lib.hid h.1
  have H2 := Lib.hid h.2
  have HC1 := Lib.hid fun (w : World) (hB : B ≤ w.heap.size) (h : IS w B A st.vs) => laws_toIntS A n c st.vs w B hB hn h hn1
  have HC2 := Lib.hid fun (w : World) (hB : B ≤ w.heap.size) (h : SS w B E st.rs) => laws_toIntSS E en ec st.rs w B hB he h hb.2.1
  have HN := Lib.hid hn
  have HE := Lib.hid he
  clear hn he h hb
  go_enter Try.func18, Try.ntmps18
  go_wp2_with fail
  refine (HC1.out _ (by simp; omega) (((H1.out.alloc hB _).alloc (by simp; omega) _).alloc (by simp; omega) _)).mono ?_
  rintro e w1 ⟨rfl, hown, hb⟩
  obtain ⟨hc, hf⟩ := bcell hb
  have hw1 : w.heap.size + 3 ≤ w1.heap.size := by have := hb.size; simp at this; omega
  have p1 : w1.cell? ⟨w.heap.size, 1, none⟩ = some (.slice E en ec) := by rw [hc _ _ (by simp; omega)]; go_simp
  have q1 : w1.cell? ⟨w.heap.size + 1, 0, none⟩ = some (.slice none 0 0) := by rw [hc _ _ (by simp)]; go_simp
  have q2 : w1.cell? ⟨w.heap.size + 1, 1, none⟩ = some (.slice none 0 0) := by rw [hc _ _ (by simp)]; go_simp
  have q3 : w1.cell? ⟨w.heap.size + 1 + 1, 0, none⟩ = some (.slice none 0 0) := by rw [hc _ _ (by simp)]; go_simp
  have q4 : w1.cell? ⟨w.heap.size + 1 + 1, 1, none⟩ = some (.slice none 0 0) := by rw [hc _ _ (by simp)]; go_simp
  have f1 : w1.frozen? ⟨w.heap.size + 1, 0, none⟩ = false := by rw [hf _ _ (by simp)]; go_simp
  have f2 : w1.frozen? ⟨w.heap.size + 1, 1, none⟩ = false := by rw [hf _ _ (by simp)]; go_simp
  have f3 : w1.frozen? ⟨w.heap.size + 1 + 1, 0, none⟩ = false := by rw [hf _ _ (by simp)]; go_simp
  have f4 : w1.frozen? ⟨w.heap.size + 1 + 1, 1, none⟩ = false := by rw [hf _ _ (by simp)]; go_simp
  simp only [World.size_alloc] at hown
  have hlt := hown.lt _ rfl
  obtain ⟨V, hV⟩ : ∃ V : Value, V = .slice (some ⟨w.heap.size + 1 + 1 + 1, 0, none⟩) n n := ⟨_, rfl⟩
  obtain ⟨w2, hw2⟩ : ∃ w2 : World, w2 = w1.setCell ⟨w.heap.size + 1 + 1, 0, none⟩ V := ⟨_, rfl⟩
  have hbX : Below w.heap.size w w2 := by rw [hw2]; exact ((((Below.refl _ _).alloc (Nat.le_refl _) _).alloc (by simp) _).alloc (by simp; omega) _ |>.trans (hb.mono (by simp; omega))).setCell (by simp; omega) _
  have hs2 : w2.heap.size = w1.heap.size := by rw [hw2]; simp [World.setCell]
  have ho2 := ownsRow_setCell_below hown (a := ⟨w.heap.size + 1 + 1, 0, none⟩) (by simp) V
  rw [← hw2] at ho2
  have p2 : w2.cell? ⟨w.heap.size, 1, none⟩ = some (.slice E en ec) := by rw [hw2]; exact (World.cell?_setCell_other _ _ _ _ (by simp)).trans p1
  have q1' : w2.cell? ⟨w.heap.size + 1, 0, none⟩ = some (.slice none 0 0) := by rw [hw2]; exact (World.cell?_setCell_other _ _ _ _ (by simp)).trans q1
  have q2' : w2.cell? ⟨w.heap.size + 1, 1, none⟩ = some (.slice none 0 0) := by rw [hw2]; exact (World.cell?_setCell_other _ _ _ _ (by simp)).trans q2
  have q3' : w2.cell? ⟨w.heap.size + 1 + 1, 0, none⟩ = some V := by rw [hw2]; exact World.cell?_setCell_same _ _ _ q3
  have q4' : w2.cell? ⟨w.heap.size + 1 + 1, 1, none⟩ = some (.slice none 0 0) := by rw [hw2]; exact (World.cell?_setCell_other _ _ _ _ (by simp)).trans q4
  have f1' : w2.frozen? ⟨w.heap.size + 1, 0, none⟩ = false := by rw [hw2, World.frozen?_setCell]; exact f1
  have f2' : w2.frozen? ⟨w.heap.size + 1, 1, none⟩ = false := by rw [hw2, World.frozen?_setCell]; exact f2
  have f4' : w2.frozen? ⟨w.heap.size + 1 + 1, 1, none⟩ = false := by rw [hw2, World.frozen?_setCell]; exact f4
  have HO := Lib.hid ho2
  have HB2 := Lib.hid hbX
  have HV := Lib.hid hV
  have hV' := hV
  clear hV hown ho2 hbX
  go_wp2_with fail
  rw [← hV', ← hw2]
  refine (HC2.out w2 (by have := HB2.out.size; omega) (H2.out.below HB2.out hB)).mono ?_
  rintro e w3 ⟨v3, rfl, ho3, hb3⟩
  rw [← HE.out] at ho3
  obtain ⟨A3, c3, rfl⟩ := ho3.form
  have hw2' : w.heap.size + 3 ≤ w2.heap.size := by omega
  have r1 := (hb3.cell (p := ⟨w.heap.size + 1, 0, none⟩) (by simp; omega)).trans q1'
  have r2 := (hb3.cell (p := ⟨w.heap.size + 1, 1, none⟩) (by simp; omega)).trans q2'
  have r3 := (hb3.cell (p := ⟨w.heap.size + 1 + 1, 0, none⟩) (by simp; omega)).trans q3'
  have r4 := (hb3.cell (p := ⟨w.heap.size + 1 + 1, 1, none⟩) (by simp; omega)).trans q4'
  have g1 := (hb3.frozen (p := ⟨w.heap.size + 1, 0, none⟩) (by simp; omega)).trans f1'
  have g2 := (hb3.frozen (p := ⟨w.heap.size + 1, 1, none⟩) (by simp; omega)).trans f2'
  have g4 := (hb3.frozen (p := ⟨w.heap.size + 1 + 1, 1, none⟩) (by simp; omega)).trans f4'
  have HOE : Hid (OwE (w.heap.size + 1 + 1 + 1) w3.heap.size (some ⟨w.heap.size + 1 + 1 + 1, 0, none⟩) n n A3 en c3 st w3) := by
    have h1 := own_below HO.out hb3
    refine OwE.join (mid := w2.heap.size) ⟨h1, fun k hk => ?_⟩ HN.out ho3 (by omega) hb3.size
    rw [hs2]; exact (hlt.2 : _) |> fun h => by cases hk; exact h
  have HB3 := Lib.hid (HB2.out.trans (hb3.mono (by omega)))
  have hs3 := hb3.size
  clear ho3 hb3 q1' q2' q3' q4' f1' f2' f4' p2 hw2 hs2 hV'
  rw [HV.out] at r3
  clear HV hlt
  go_wp2
  refine bodyPost_ret (v := .agg #[.slice (some ⟨w.heap.size + 1 + 1 + 1, 0, none⟩) n n, .slice A3 en c3]) (by simp [results, Try.results18, go_sem, r1, r2, r3, r4]) rfl ?_
  have o1 := HOE.out.setCell (a := ⟨w.heap.size + 1 + 1, 1, none⟩) (by simp) (.slice A3 en c3)
  have o2 := o1.setCell (a := ⟨w.heap.size + 1, 0, none⟩) (by simp) (.slice (some ⟨w.heap.size + 1 + 1 + 1, 0, none⟩) n n)
  have o3 := o2.setCell (a := ⟨w.heap.size + 1, 1, none⟩) (by simp) (.slice A3 en c3)
  refine ⟨_, _, _, _, _, _, rfl, ?_, ((HB3.out.setCell (by simp; omega) _).setCell (by simp) _).setCell (by simp) _⟩
  have o4 := o3.mono (lo' := w.heap.size) (hi' := w3.heap.size) (by omega) (Nat.le_refl _)
  simpa [World.setCell] using o4

set_option maxRecDepth 100000 in
set_option maxHeartbeats 800000 in
theorem mark_eager (lo hi : Nat) (A : Option Addr) (n c : Nat) (E : Option Addr) (en ec : Nat) (st : Eg) (k : Int) (w : World) (h : As lo hi (OwE lo hi A n c E en ec st) w) (hb : EB st) (hk : 0 ≤ k) (hk' : k ≤ 562949953421312) :
    Calls Try.prog 28 #[.agg #[.slice A n c, .slice E en ec], .int .i64 k] w fun e w' => MkS lo hi (MkE lo hi A n c E en ec st k) w (k + (((rowsE st).map List.length).sum : Nat)) e w' := by
  have h2 := h.alloc (.cells #[.slice A n c, .slice E en ec] 36)
  have hle0 := h.le
  obtain ⟨hn, hen, us, hr, hss⟩ := h2.it
  have HH := h2.le
  have hul : us.length = en := by have := hr.1.1; omega
  have hr0 : OwR lo hi 3 1 (.slice A n c) n (st.vs.map (Value.int .i64)) (w.alloc (.cells #[.slice A n c, .slice E en ec] 36)) := h2.it.row0
  have hn1 : n ≤ 2000000 := by have := hb.1; omega
  have HM0 := Lib.hid (laws_markIntS lo n _ _ k _ hr0.1 hk (by omega) hn1)
  have hsum : ((rowsE st).map List.length).sum = offOf (rowsE st) (1 + en) := by
    have h1 : 1 + en = (rowsE st).length := by unfold rowsE; simp; omega
    rw [h1, offOf_all]
  have hoff1 : offOf (rowsE st) 1 = n := by unfold offOf rowsE; simp [hn]
  have hin0 := hss.congr (cont' := mkTo (rowsE st) k 0) (fun j _ => by rw [mkTo_zero])
  have HIN0 := Lib.hid hin0
  have HR := Lib.hid hr
  have HSUM := Lib.hid hsum
  have HOFF := Lib.hid hoff1
  have HN := Lib.hid hn
  have HEN := Lib.hid hen
  have HEB := Lib.hid hb
  have HUL := Lib.hid hul
  have hoffb : (offOf (rowsE st) (1 + en) : Int) ≤ 1048576 := by have := hb.2.2.2.2; omega
  clear h hr hss hin0 hsum hoff1 hn hen hb hul hr0 h2
  go_enter Try.func28, Try.ntmps28
  go_wp2_with fail
  refine HM0.out.mono ?_
  rintro e w1 hm
  have he := hm.1
  have HS1 := Lib.hid (HIN0.out.mark (J := 0) (A := A) (m := n) (c := c) rfl (by unfold lenOf rowsE; simp [HN.out]) (by simpa [offOf] using hm))
  have HR1 : Hid (OwR lo hi 25 1 (.slice E en ec) en us w1) := by
    obtain ⟨A0, m0, c0, r1, _, r3⟩ := HIN0.out.row 0 (by simp)
    simp only [List.getElem?_cons_zero, Option.some.injEq, Value.slice.injEq] at r1
    obtain ⟨rfl, rfl, rfl⟩ := r1
    exact ⟨HR.out.1.kept hm.2.2 (blocks_ne HR.out.1 r3.1 ints_ne_int.symm), HR.out.2⟩
  have HT1 : Hid (Tch lo hi w w1) := (Tch.of_below ((Below.refl _ _).alloc (Nat.le_refl _) _)).trans (Tch.of_grown hm.2.2 fun q hq => HIN0.out.lt 0 _ q rfl hq)
  have q1 : w1.cell? ⟨w.heap.size, 1, none⟩ = some (.slice E en ec) := by
    refine (World.cell?_of_block (a := ⟨w.heap.size, 1, none⟩) (hm.2.2.block w.heap.size (by simp) ?_)).trans (by go_simp)
    intro hq
    have hx := HIN0.out.lt 0 _ w.heap.size rfl hq.symm
    omega
  rw [Nat.mul_one] at he
  subst he
  clear hm HM0 HIN0 HR
  have HC := Lib.hid (laws_markRows lo hi en 1 (.slice E en ec) us (.slice A n c :: us) (rowsE st) k (k + n) w1 (by rw [HOFF.out]) HR1.out (fun j hj => by rw [Nat.add_comm]; rfl) (by unfold rowsE; simp [HUL.out, HEN.out]) (by unfold rowsE; simp [HEN.out]; omega) HS1.out HEB.out.2.2.1 HEB.out.2.2.2.2 hk hk')
  go_wp2_with fail
  refine HC.out.mono ?_
  rintro e w2 ⟨he, hr2, hs2, ht2⟩
  subst he
  have HR2 := Lib.hid hr2
  have HS2 := Lib.hid hs2
  have HT2 := Lib.hid ht2
  clear hr2 hs2 ht2 HC
  obtain ⟨o, ho⟩ : ∃ o : Nat, o = offOf (rowsE st) (1 + en) := ⟨_, rfl⟩
  have HO := Lib.hid ho
  rw [← ho]
  clear ho
  go_wp2
  go_ret
  refine ⟨ret_i (by rw [HSUM.out, HO.out]), ⟨⟨HN.out, HEN.out, us, HR2.out, HS2.out.congr fun j hj => ?_⟩, ?_, MkE.loc _ _ _ _ _ _ _ _ _ _⟩, HT1.out.trans HT2.out⟩
  · unfold mkTo
    rw [if_pos (by simp at hj; have := HUL.out; omega)]
  · have := HT1.out.size
    have := HT2.out.size
    omega

set_option maxRecDepth 100000 in
set_option maxHeartbeats 800000 in
theorem held_eager (lo hi : Nat) (A : Option Addr) (n c : Nat) (E : Option Addr) (en ec : Nat) (st : Eg) (k : Int) (w : World) (h : As lo hi (MkE lo hi A n c E en ec st k) w) (hb : EB st) (hk : 0 ≤ k) (hk' : k ≤ 562949953421312) :
    Calls Try.prog 29 #[.agg #[.slice A n c, .slice E en ec], .int .i64 k] w fun e w' => e = .returned (.int .i64 (k + (((rowsE st).map List.length).sum : Nat))) ∧ Below w.heap.size w w' := by
  have h2 := h.alloc (.cells #[.slice A n c, .slice E en ec] 36)
  obtain ⟨hn, hen, us, hr, hss⟩ := h2.it
  have hul : us.length = en := by have := hr.1.1; omega
  have hn1 : n ≤ 2000000 := by have := hb.1; omega
  have hoff1 : offOf (rowsE st) 1 = n := by unfold offOf rowsE; simp [hn]
  have hr0 : OwR lo hi 3 1 (.slice A n c) n (mks k n) (w.alloc (.cells #[.slice A n c, .slice E en ec] 36)) := by
    obtain ⟨A', m, c', r1, r2, r3⟩ := hss.row 0 (by simp)
    simp only [List.getElem?_cons_zero, Option.some.injEq, Value.slice.injEq] at r1
    obtain ⟨rfl, rfl, rfl⟩ := r1
    rw [← r2] at r3
    simpa [offOf] using r3
  have HM0 := Lib.hid (laws_heldIntS lo n _ k _ hr0.1 hk (by omega) hn1)
  have hsum : ((rowsE st).map List.length).sum = offOf (rowsE st) (1 + en) := by
    have h1 : 1 + en = (rowsE st).length := by unfold rowsE; simp; omega
    rw [h1, offOf_all]
  have HSS := Lib.hid hss
  have HR := Lib.hid hr
  have HSUM := Lib.hid hsum
  have HOFF := Lib.hid hoff1
  have HEN := Lib.hid hen
  have HEB := Lib.hid hb
  have HUL := Lib.hid hul
  have hoffb : (offOf (rowsE st) (1 + en) : Int) ≤ 1048576 := by have := hb.2.2.2.2; omega
  clear h hr hss hsum hoff1 hn hen hb hul hr0 h2
  go_enter Try.func29, Try.ntmps29
  go_wp2_with fail
  refine HM0.out.mono ?_
  rintro e w1 ⟨rfl, hb⟩
  have q1 : w1.cell? ⟨w.heap.size, 1, none⟩ = some (.slice E en ec) := (hb.cell (p := ⟨w.heap.size, 1, none⟩) (by simp)).trans (by go_simp)
  have hnn : ¬ k + (n : Int) < 0 := by omega
  have HR1 : Hid (OwR lo hi 25 1 (.slice E en ec) en us w1) := ⟨own_below HR.out.1 hb, HR.out.2⟩
  have HS1 : Hid (SSk lo hi (.slice A n c :: us) (lenOf (rowsE st)) (fun j => mks (k + offOf (rowsE st) j) (lenOf (rowsE st) j)) w1) :=
    ⟨fun j hj => by obtain ⟨A', m, c', r1, r2, r3⟩ := HSS.out.row j hj; exact ⟨A', m, c', r1, r2, r3.step hb⟩, HSS.out.apart⟩
  have HC := Lib.hid (laws_heldRows lo hi en 1 (.slice E en ec) us (.slice A n c :: us) (rowsE st) k (k + n) w1 (by rw [HOFF.out]) HR1.out (fun j hj => by rw [Nat.add_comm]; rfl) (by unfold rowsE; simp [HUL.out, HEN.out]) (by unfold rowsE; simp [HEN.out]; omega) HS1.out HEB.out.2.2.1 HEB.out.2.2.2.2 hk hk')
  have HB1 := Lib.hid (((Below.refl w.heap.size w).alloc (Nat.le_refl _) (.cells #[.slice A n c, .slice E en ec] 36)).trans (hb.mono (by simp)))
  clear hb HM0 HSS HR HR1 HS1
  go_wp2_with fail
  refine HC.out.mono ?_
  rintro e w2 ⟨he, hb2⟩
  subst he
  obtain ⟨o, ho⟩ : ∃ o : Nat, o = offOf (rowsE st) (1 + en) := ⟨_, rfl⟩
  have HO := Lib.hid ho
  rw [← ho]
  have ho' : ¬ k + (o : Int) < 0 := by omega
  clear ho
  go_wp2
  go_ret
  exact ⟨ret_i (by rw [HSUM.out, HO.out]), HB1.out.trans (hb2.mono HB1.out.size)⟩

theorem markw_eager (lo hi : Nat) (A : Option Addr) (n c : Nat) (E : Option Addr) (en ec : Nat) (st : Eg) (k : Int) (w : World) (h : As lo hi (OwE lo hi A n c E en ec st) w) (hb : EB st) (hk : 0 ≤ k) (hk' : k ≤ 562949953421312) :
    Calls Try.prog 28 #[.agg #[.slice A n c, .slice E en ec], .int .i64 k] w fun e w' => MkW lo hi w k (k + 6000000000000) e w' := by
  refine (mark_eager lo hi A n c E en ec st k w h hb hk hk').mono ?_
  rintro e w' ⟨he, _, ht⟩
  have := hb.2.2.2.2
  exact ⟨_, he, by omega, by omega, ht⟩
end Go.Proofs.Ythephbppeiealaa
