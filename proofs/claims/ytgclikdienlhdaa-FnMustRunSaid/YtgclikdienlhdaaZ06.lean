/- Texts put together: T13. -/
import Derived.Test.YtgclikdienlhdaaZ05
/- The standing contracts of CellsOf. -/
namespace Go.Proofs.Ytgclikdienlhdaa
set_option linter.unusedSimpArgs false
set_option linter.unusedVariables false
open Go.RowKit

/-- Values with 0 for the first nodes that are no cells. -/
def celTo (gs : List Nd) (vs : List Int) : Nat → List Int
  | 0 => vs
  | k + 1 => if (gs.getD k default).k == 0 then celTo gs vs k else (celTo gs vs k).set k 0
theorem celTo_len (gs : List Nd) (vs : List Int) (k : Nat) : (celTo gs vs k).length = vs.length := by
  induction k with
  | zero => rfl
  | succ k ih => unfold celTo; split <;> simp [ih]
theorem celTo_succ (gs : List Nd) (vs : List Int) (k : Nat) : celTo gs vs (k + 1) = if (gs.getD k default).k == 0 then celTo gs vs k else (celTo gs vs k).set k 0 := rfl
def cellsF (gs : List Nd) (st : Eg) : List Int := if validE gs st then celTo gs st.vs gs.length else []
theorem cellsF_len (gs : List Nd) (st : Eg) : (cellsF gs st).length ≤ 10 := by
  unfold cellsF
  cases h : validE gs st
  · simp
  · simp only [if_true]
    obtain ⟨hg, hl, _⟩ := validE_parts gs st h
    rw [celTo_len]
    have := (validG_parts gs hg).1
    omega

section
variable {P : Program} {w : World}
theorem run_append_zero (base : Nat) (t ty e : TypeId) (i : TypeInfo) (size : Nat) (ht : P.underlying t = some (.slice e)) (hi : P.info? e = some i) (v : Value) (n : Nat) (xs : List Value) (hown : w.ownsRow base e size v n xs) (A : Option Addr) (c : Nat) :
    (Builtin.append_ #[t, t] ty #[v, .slice A 0 c]).run P w = .ok v w := by
  rcases hown.2 with ⟨rfl, rfl⟩ | ⟨g, cap, cur, rfl, _, _, hnc, _⟩
  · cases A <;> simp [Builtin.append_, run_underlying ht, sizeOf, typeInfo, hi, Builtin.lenOf, Builtin.firstCells, loadCells, loadCellsFrom, storeCells, Result.andThen]
  · cases A <;> simp [Builtin.append_, run_underlying ht, sizeOf, typeInfo, hi, Builtin.lenOf, Builtin.firstCells, hnc, loadCells, loadCellsFrom, storeCells, Result.andThen]

theorem wpList_append_zero {ops : Array Oper} {rest : List Oper} {o : Oper} {a : Act} {Q : Exit → Act → World → Prop} (hgd : o.guard = none) (s x : Operand) (t : TypeId)
    (ho : o.op = .call { callee := .builtin .append, args := #[s, x], argTypes := #[t, t] })
    (base : Nat) (e : TypeId) (i : TypeInfo) (size : Nat) (ht : P.underlying t = some (.slice e)) (hi : P.info? e = some i)
    (v : Value) (n : Nat) (xs : List Value) (hs : a.eval s = v) (hown : w.ownsRow base e size v n xs) (A : Option Addr) (c : Nat) (hx : a.eval x = .slice A 0 c)
    (h : wpList P ops Q rest (a.put o.dst v) w) : wpList P ops Q (o :: rest) a w := by
  refine wpList_plain hgd fun K hK => ?_
  have hrun := run_append_zero (P := P) (w := w) base t o.type e i size ht hi v n xs hown A c
  unfold Oper.wp
  simp [execOp, ho, resolve, invoke, builtin, hs, hx, hrun, Result.andThen]
  exact hK _ _ h
end

set_option maxHeartbeats 800000 in
theorem spec_copyIntsA (A : Option Addr) (n c : Nat) (xs : List Int) (w : World) (B : Nat) (hB : B ≤ w.heap.size) (hn : n = xs.length) (h : IS w B A xs) (hs : n ≤ 2000000) :
    Calls Try.prog 78 #[.slice A n c] w fun e w' => ∃ g cap, e = .returned (.slice (some ⟨g, 0, none⟩) n cap) ∧ w'.ownsRow w.heap.size 3 1 (.slice (some ⟨g, 0, none⟩) n cap) n (xs.map (Value.int .i64)) ∧ Below w.heap.size w w' := by
  by_cases hp : 0 < n
  · exact spec_copyInts A n c xs w B hB hn h hs hp
  · obtain rfl : n = 0 := by omega
    have hx : xs = [] := List.eq_nil_of_length_eq_zero hn.symm
    subst hx
    obtain ⟨i0, hi, hz0, hz1, hz2⟩ := info_parts info_int
    have hnew := World.ownsRow_lit (e := 3) (size := 1) (base := w.heap.size) w #[] 0 (Nat.le_refl _) (by unfold maxLen; omega) (by simp)
    have HNEW := Lib.hid hnew
    clear hnew hn h
    go_enter Try.func78, Try.ntmps78
    go_wp2_with (at_builtin; refine wpList_append_zero rfl _ _ 26 rfl w.heap.size 3 i0 1 Try.underlying26 hi _ 0 _ rfl HNEW.out A c rfl ?_)
    go_ret
    exact ⟨_, _, rfl, by simpa using HNEW.out, (Below.refl _ _).alloc (Nat.le_refl _) _⟩

set_option maxRecDepth 100000 in
set_option maxHeartbeats 1600000 in
theorem spec_cellsOf (A A' : Option Addr) (n c m c' : Nat) (gs : List Nd) (vs : List Int) (w : World) (B : Nat) (hB : B ≤ w.heap.size) (hn : n = gs.length) (hm : m = vs.length) (hmn : m = n) (h : GS w B A gs) (h' : IS w B A' vs) (hs : n ≤ 2000000) :
    Calls Try.prog 46 #[.agg #[.slice A n c], .slice A' m c'] w fun e w' => RetI w (celTo gs vs n) e w' := by
  have HC := Lib.hid fun (w' : World) (hB : B ≤ w'.heap.size) (h : IS w' B A' vs) => spec_copyIntsA A' m c' vs w' B hB hm h (by omega)
  have H := Lib.hid h
  have HI := Lib.hid h'
  have HN := Lib.hid hn
  have HM := Lib.hid hm
  have HMN := Lib.hid hmn
  have hms : m ≤ 2000000 := by omega
  clear h h' hn hm hmn
  go_enter Try.func46, Try.ntmps46
  go_wp2_with fail
  refine (HC.out _ (by simp; omega) (HI.out.alloc hB _)).mono ?_
  rintro e w1 ⟨g, cap, rfl, hown, hb⟩
  have q1 : w1.cell? ⟨w.heap.size, 0, none⟩ = some (.slice A n c) := (hb.cell (p := ⟨w.heap.size, 0, none⟩) (by simp)).trans (by go_simp)
  have hB1 : Below w.heap.size w w1 := ((Below.refl _ _).alloc (Nat.le_refl _) _).trans (hb.mono (by simp))
  have hl1 : w.heap.size < w1.heap.size := by have := hb.size; simp at this; omega
  have HG1 := Lib.hid (H.out.below hB1 hB)
  simp only [World.size_alloc] at hown
  have hgg := hown.lt _ rfl
  have HO1 := Lib.hid hown
  clear hown hb HC HI H
  go_wp2
  go_loopw [6] (fun u wr => ∃ k : Nat, k ≤ n ∧ u = .int .i64 k ∧ Hid (wr.ownsRow (w.heap.size + 1) 3 1 (.slice (some ⟨g, 0, none⟩) m cap) m ((celTo gs vs k).map (Value.int .i64))) ∧ Hid (Below (w.heap.size + 1) w1 wr) ∧ w1.heap.size ≤ wr.heap.size) (fun u _ => n - (intOf u).toNat)
  case atStart => exact ⟨0, Nat.zero_le _, rfl, HO1.out, Below.refl _ _, Nat.le_refl _⟩
  case round =>
    obtain ⟨k, hk, rfl, HO, HB, hwr⟩ := hrel
    have q2 := (HB.out.cell (p := ⟨w.heap.size, 0, none⟩) (by show w.heap.size < w.heap.size + 1; omega)).trans q1
    by_cases hlt : k < n
    · have hkm : k < m := by have := HMN.out; omega
      obtain ⟨b, off, hA, hbB, c0, _⟩ := HG1.out.at_ k (by have := HN.out; omega)
      have e0 := (HB.out.cell (p := ⟨b, off + k * 2, none⟩) (by simp; omega)).trans c0
      have HST := Lib.hid (celTo_succ gs vs k)
      have u0 := HO.out.cellAt k (by omega)
      have hcl : (celTo gs vs k).length = m := by rw [celTo_len]; exact HM.out.symm
      rw [List.getElem?_eq_getElem (by rw [List.length_map]; omega)] at u0
      have f0 := HO.out.frozenAt k
      have hst := HO.out.stored k (.int .i64 0)
      have ho := hst.1
      rw [← List.map_set] at ho
      have HOS := Lib.hid ho
      generalize ((celTo gs vs k).map (Value.int .i64))[k]'_ = vv at u0
      generalize gs.getD k default = d at *
      clear c0 hcl hst ho
      subst hA
      cases hd : (d.k == 0)
      · have hd' : (d.k != 0) = true := by simp [bne, hd]
        rw [hd] at HST
        clear hd
        go_wp2
        go_roundw
        case rel => exact ⟨k + 1, by omega, by go_num, by rw [HST.out]; exact HOS.out, HB.out.setCell (by show w.heap.size + 1 ≤ g; exact hgg.1) _, by simpa [World.setCell] using hwr⟩
        case measure => simp [intOf]; omega
      · have hd' : (d.k != 0) = false := by simp [bne, hd]
        rw [hd] at HST
        clear hd
        go_wp2
        go_roundw
        case rel => exact ⟨k + 1, by omega, by go_num, by rw [HST.out]; exact HO.out, HB.out, hwr⟩
        case measure => simp [intOf]; omega
    · obtain rfl : k = n := by omega
      have hmk : m ≤ k := by have := HMN.out; omega
      go_wp2
      go_ret
      refine ⟨_, rfl, ?_, hB1.trans (HB.out.mono (by omega))⟩
      have := HO.out
      unfold OwnI
      rw [celTo_len, ← HM.out]
      exact own_mono this (by omega)

set_option maxRecDepth 100000 in
set_option maxHeartbeats 1600000 in
theorem top_spec_CellsOf (gs : List Nd) (st : Eg) (hG : GB gs) (hE : EB st) : ∀ (A : Option Addr) (n c : Nat) (A' : Option Addr) (m c' : Nat) (E : Option Addr) (p ec : Nat) (w : World), n = gs.length → n ≤ c → GS w w.heap.size A gs → m = st.vs.length → p = st.rs.length → ES w w.heap.size A' E st →
    Calls Try.prog 22 #[.agg #[.slice A n c], .agg #[.slice A' m c', .slice E p ec]] w fun e w' => RetI w (cellsF gs st) e w' := by
  intro A n c A' m c' E p ec w hn _ h hm hp h'
  have HC := Lib.hid fun (w' : World) (hB : w.heap.size ≤ w'.heap.size) (h : GS w' w.heap.size A gs) (h' : ES w' w.heap.size A' E st) => spec_validEager A A' E n c m c' p ec gs st w' w.heap.size hB hn hm hp h h' hG hE
  have HD := Lib.hid fun (hmn : m = n) (w' : World) (hB : w.heap.size ≤ w'.heap.size) (h : GS w' w.heap.size A gs) (h' : IS w' w.heap.size A' st.vs) => spec_cellsOf A A' n c m c' gs st.vs w' w.heap.size hB hn hm hmn h h' (by have := hG.1; omega)
  have HG0 := Lib.hid ((h.alloc (Nat.le_refl _) (.cells #[.slice A n c] 25)).alloc (by simp) (.cells #[.slice A' m c', .slice E p ec] 31))
  have HE0 := Lib.hid ((h'.alloc (Nat.le_refl _) (.cells #[.slice A n c] 25)).alloc (by simp) (.cells #[.slice A' m c', .slice E p ec] 31))
  have hce : cellsF gs st = if validE gs st then celTo gs st.vs gs.length else [] := rfl
  rw [← hn] at hce
  rw [hce]
  cases hv : validE gs st
  · rw [hv] at HC
    clear hce hv h h' hn hm hp hG hE
    simp only [Bool.false_eq_true, if_false]
    go_enter Try.func22, Try.ntmps22
    go_wp2_with fail
    refine (HC.out _ (by simp; omega) HG0.out HE0.out).mono ?_
    rintro e w1 ⟨rfl, hb⟩
    go_wp2
    go_ret
    exact RetI.nil ((((Below.refl _ _).alloc (Nat.le_refl _) _).alloc (by simp) _).trans (hb.mono (by simp; omega)))
  · rw [hv] at HC
    have hmn : m = n := by have := (validE_parts gs st hv).2.1; omega
    have HD2 := Lib.hid (HD.out hmn)
    clear hce hv h h' hn hm hp hG hE hmn HD
    simp only [if_true]
    generalize celTo gs st.vs n = M at *
    go_enter Try.func22, Try.ntmps22
    go_wp2_with fail
    refine (HC.out _ (by simp; omega) HG0.out HE0.out).mono ?_
    rintro e w1 ⟨rfl, hb⟩
    have q0 : w1.cell? ⟨w.heap.size, 0, none⟩ = some (.slice A n c) := (hb.cell (p := ⟨w.heap.size, 0, none⟩) (by simp; omega)).trans (by go_simp)
    have q1 : w1.cell? ⟨w.heap.size + 1, 0, none⟩ = some (.slice A' m c') := (hb.cell (p := ⟨w.heap.size + 1, 0, none⟩) (by simp)).trans (by go_simp)
    have hB1 : Below w.heap.size w w1 := (((Below.refl _ _).alloc (Nat.le_refl _) _).alloc (by simp) _).trans (hb.mono (by simp; omega))
    have HG1 := Lib.hid (HG0.out.below hb (by simp; omega))
    have HE1 := Lib.hid (HE0.out.below hb (by simp; omega))
    clear hb
    go_wp2_with fail
    refine (HD2.out _ hB1.size HG1.out HE1.out.1).mono ?_
    rintro e w2 ⟨v, rfl, ho, hb2⟩
    go_wp2
    go_ret
    exact ⟨v, by simp, own_mono ho hB1.size, hB1.trans (hb2.mono hB1.size)⟩

set_option maxRecDepth 100000 in
set_option maxHeartbeats 1600000 in
theorem top_impl_CellsOf (gs : List Nd) (st : Eg) (hG : GB gs) (hE : EB st) : ∀ (A : Option Addr) (n c : Nat) (A' : Option Addr) (m c' : Nat) (E : Option Addr) (p ec : Nat) (w : World), n = gs.length → n ≤ c → GS w w.heap.size A gs → m = st.vs.length → p = st.rs.length → ES w w.heap.size A' E st →
    Calls Try.prog 18 #[.agg #[.slice A n c], .agg #[.slice A' m c', .slice E p ec]] w fun e w' => RetI w (cellsF gs st) e w' := by
  intro A n c A' m c' E p ec w hn hnc h hm hp h'
  have HC := Lib.hid fun (w' : World) (hB : w.heap.size ≤ w'.heap.size) (h : GS w' w.heap.size A gs) (h' : ES w' w.heap.size A' E st) => impl_ValidEager A A' E n c m c' p ec gs st w' w.heap.size hB hn hnc hm hp h h' hG hE
  have HG0 := Lib.hid ((h.alloc (Nat.le_refl _) (.cells #[.slice A n c] 25)).alloc (by simp) (.cells #[.slice A' m c', .slice E p ec] 31))
  have HE0 := Lib.hid ((h'.alloc (Nat.le_refl _) (.cells #[.slice A n c] 25)).alloc (by simp) (.cells #[.slice A' m c', .slice E p ec] 31))
  have hce : cellsF gs st = if validE gs st then celTo gs st.vs gs.length else [] := rfl
  rw [← hn] at hce
  rw [hce]
  cases hv : validE gs st
  · rw [hv] at HC
    clear hce hv h h' hn hm hp hG hE
    simp only [Bool.false_eq_true, if_false]
    go_enter Try.func18, Try.ntmps18
    go_wp2_with fail
    refine (HC.out _ (by simp; omega) HG0.out HE0.out).mono ?_
    rintro e w1 ⟨rfl, hb⟩
    go_wp2
    go_ret
    exact RetI.nil ((((Below.refl _ _).alloc (Nat.le_refl _) _).alloc (by simp) _).trans (hb.mono (by simp; omega)))
  rw [hv] at HC
  have hmn : m = n := by have := (validE_parts gs st hv).2.1; omega
  have hn10 : n ≤ 10 := by rw [hn]; exact (validG_parts gs (validE_parts gs st hv).1).1
  have hm1 : m ≤ 2000000 := by omega
  have HN := Lib.hid hn
  have HM := Lib.hid hm
  have HMN := Lib.hid hmn
  have HCP := Lib.hid fun (w' : World) (B : Nat) (hB : B ≤ w'.heap.size) (h : IS w' B A' st.vs) => impl_copyOf A' m c' st.vs w' B hB hm h hm1
  clear hce hv h h' hn hm hp hG hE hmn
  simp only [if_true]
  go_enter Try.func18, Try.ntmps18
  go_wp2_with fail
  refine (HC.out _ (by simp; omega) HG0.out HE0.out).mono ?_
  rintro e w1 ⟨rfl, hb⟩
  have q0 : w1.cell? ⟨w.heap.size, 0, none⟩ = some (.slice A n c) := (hb.cell (p := ⟨w.heap.size, 0, none⟩) (by simp; omega)).trans (by go_simp)
  have q1 : w1.cell? ⟨w.heap.size + 1, 0, none⟩ = some (.slice A' m c') := (hb.cell (p := ⟨w.heap.size + 1, 0, none⟩) (by simp)).trans (by go_simp)
  have hB1 : Below w.heap.size w w1 := (((Below.refl _ _).alloc (Nat.le_refl _) _).alloc (by simp) _).trans (hb.mono (by simp; omega))
  have hl1 : w.heap.size + 2 ≤ w1.heap.size := by have := hb.size; simp at this; omega
  have HG1 := Lib.hid (HG0.out.below hb (by simp; omega))
  have HE1 := Lib.hid (HE0.out.below hb (by simp; omega))
  clear hb HC HG0 HE0
  go_wp2_with fail
  refine (HCP.out _ w.heap.size (by omega) HE1.out.1).mono ?_
  rintro e w2 ⟨rfl, hown2, hb2⟩
  have q2 := (hb2.cell (p := ⟨w.heap.size, 0, none⟩) (by show w.heap.size < w1.heap.size; omega)).trans q0
  have HG2 := Lib.hid (HG1.out.below hb2 hB1.size)
  have HO2 := Lib.hid hown2
  have hgl := (hown2.lt _ rfl).2
  have hB2 := hB1.trans (hb2.mono hB1.size)
  clear hown2 hb2 q0 q1 HG1 HE1 hB1
  go_wp2
  go_loopw [18] (fun u wr => ∃ k : Nat, k ≤ n ∧ u = .int .i64 k ∧ Hid (wr.ownsRow w1.heap.size 3 1 (.slice (some ⟨w1.heap.size, 0, none⟩) m m) m ((celTo gs st.vs k).map (Value.int .i64))) ∧ Hid (Below w1.heap.size w2 wr) ∧ w2.heap.size ≤ wr.heap.size) (fun u _ => n - (intOf u).toNat)
  case atStart => exact ⟨0, Nat.zero_le _, rfl, HO2.out, Below.refl _ _, Nat.le_refl _⟩
  case round =>
    obtain ⟨k, hk, rfl, HO, HB, hwr⟩ := hrel
    by_cases hlt : k < n
    · have hkm : k < m := by have := HMN.out; omega
      obtain ⟨b, off, hA, hbB, c0, A1, n1, c1, c2, hzz⟩ := HG2.out.at_ k (by have := HN.out; omega)
      have e0 := (HB.out.cell (p := ⟨b, off + k * 2, none⟩) (by show b < w1.heap.size; omega)).trans c0
      have e1 := (HB.out.cell (p := ⟨b, off + k * 2 + 1, none⟩) (by show b < w1.heap.size; omega)).trans c2
      have HST := Lib.hid (celTo_succ gs st.vs k)
      have HO' := Lib.hid (HO.out.alloc (.cells #[.int .i64 (gs.getD k default).k, .slice A1 n1 c1] 55))
      have u0 := HO'.out.cellAt k (by omega)
      rw [List.getElem?_eq_getElem (by rw [List.length_map, celTo_len]; have := HM.out; omega)] at u0
      have f0 := HO'.out.frozenAt k
      have hst := HO'.out.stored k (.int .i64 0)
      have ho := hst.1
      rw [← List.map_set] at ho
      have HOS := Lib.hid ho
      generalize ((celTo gs st.vs k).map (Value.int .i64))[k]'_ = vv at u0
      generalize gs.getD k default = d at *
      clear c0 c2 hst ho hzz
      subst hA
      cases hd : (d.k == 0)
      · have hd' : (d.k != 0) = true := by simp [bne, hd]
        rw [hd] at HST
        clear hd
        go_wp2
        go_roundw
        case rel => exact ⟨k + 1, by omega, by go_num, by rw [HST.out]; exact HOS.out, (HB.out.alloc (by omega) _).setCell (Nat.le_refl _) _, by simp [World.setCell]; omega⟩
        case measure => simp [intOf]; omega
      · have hd' : (d.k != 0) = false := by simp [bne, hd]
        rw [hd] at HST
        clear hd
        go_wp2
        go_roundw
        case rel => exact ⟨k + 1, by omega, by go_num, by rw [HST.out]; exact HO'.out, HB.out.alloc (by omega) _, by simp; omega⟩
        case measure => simp [intOf]; omega
    · obtain rfl : k = n := by omega
      go_wp2
      go_ret
      refine ⟨_, rfl, ?_, hB2.trans (HB.out.mono (by omega))⟩
      have := HO.out
      unfold OwnI
      rw [celTo_len, ← HM.out]
      exact own_mono this (by omega)
end Go.Proofs.Ytgclikdienlhdaa
