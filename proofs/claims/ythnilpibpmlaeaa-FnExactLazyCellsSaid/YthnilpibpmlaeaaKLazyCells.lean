/- For all arguments impl.LazyCells answers as the model does and leaves its arguments as they were: the exact law of LazyCells. Conditions: none. -/
import Derived.Test.YthnilpibpmlaeaaZ08
import Derived.Deep.RegionWith
/- The standing contracts of ValidEager, the program's. -/
namespace Go.Proofs.Ythnilpibpmlaeaa
set_option linter.unusedSimpArgs false
set_option linter.unusedVariables false
open Go.RowKit

end Go.Proofs.Ythnilpibpmlaeaa

/- The standing contracts of SetCell. -/
namespace Go.Proofs.Ythnilpibpmlaeaa
set_option linter.unusedSimpArgs false
set_option linter.unusedVariables false
open Go.RowKit

/-- Whether there is such a node. -/
def hasN (gs : List Nd) (x : Int) : Bool := rng x 0 ((gs.length : Int) - 1)
/-- Whether a node is a cell. -/
def isC (gs : List Nd) (x : Int) : Bool := hasN gs x && ((gs.getD x.toNat default).k == 0)
def setB (gs : List Nd) (xs : List Int) (x y : Int) : Bool := okC gs xs && isC gs x && rng y 0 999
def setF (gs : List Nd) (xs : List Int) (x y : Int) : List Int := if setB gs xs x y then xs.set x.toNat y else []

theorem setF_len (gs : List Nd) (xs : List Int) (x y : Int) : (setF gs xs x y).length ≤ 10 := by
  unfold setF
  cases h : setB gs xs x y
  · simp
  · simp only [if_true, List.length_set]
    unfold setB at h
    simp only [Bool.and_eq_true] at h
    obtain ⟨hg, hc⟩ := okC_parts gs xs h.1.1
    rw [(validC_parts gs xs hc).1]
    exact (validG_parts gs hg).1

theorem hasN_nat (gs : List Nd) (x : Int) (h : hasN gs x = true) : ∃ t : Nat, x = (t : Int) ∧ t < gs.length := by
  unfold hasN rng at h
  simp only [decide_eq_true_eq] at h
  exact ⟨x.toNat, by omega, by omega⟩

theorem news_of_ints {w : World} {b off n : Nat} {xs : List Int} (hc : ∀ j, j < xs.length → w.cell? ⟨b, off + j, none⟩ = some (.int .i64 (xs.getD j 0))) : ∀ j u, (xs.map (Value.int .i64))[j]? = some u → w.cell? ((⟨b, off, none⟩ : Addr).add j) = some u := by
  intro j u hu
  have hj : j < xs.length := by
    rcases Nat.lt_or_ge j xs.length with h1 | h1
    · exact h1
    · rw [List.getElem?_eq_none (by simpa using h1)] at hu; cases hu
  have hadd : (⟨b, off, none⟩ : Addr).add j = ⟨b, off + j, none⟩ := by unfold Addr.add; split <;> simp_all
  rw [hadd, hc j hj, ← hu]
  simp [List.getD, hj]
theorem ints_one (xs : List Int) : ∀ u ∈ xs.map (Value.int .i64), u.oneCell' = true := by
  intro u hu
  obtain ⟨x, _, rfl⟩ := List.mem_map.1 hu
  rfl

set_option maxHeartbeats 800000 in
theorem spec_copyInts (A : Option Addr) (n c : Nat) (xs : List Int) (w : World) (B : Nat) (hB : B ≤ w.heap.size) (hn : n = xs.length) (h : IS w B A xs) (hs : n ≤ 2000000) (hp : 0 < n) :
    Calls Try.prog 64 #[.slice A n c] w fun e w' => ∃ g cap, e = .returned (.slice (some ⟨g, 0, none⟩) n cap) ∧ w'.ownsRow w.heap.size 3 1 (.slice (some ⟨g, 0, none⟩) n cap) n (xs.map (Value.int .i64)) ∧ Below w.heap.size w w' := by
  obtain ⟨i0, hi, hz0, hz1, hz2⟩ := info_parts info_int
  obtain ⟨b, off, rfl, hbB, hc⟩ := h (by omega)
  have hnew := World.ownsRow_lit (e := 3) (size := 1) (base := w.heap.size) w #[] 0 (Nat.le_refl _) (by unfold maxLen; omega) (by simp)
  have hnews := news_of_ints (n := n) (fun j hj => (World.cell?_alloc_lt w (.cells #[] 3) ⟨b, off + j, none⟩ (show b < w.heap.size by omega)).trans (hc j hj))
  have HNEW := Lib.hid hnew
  have HNS := Lib.hid hnews
  have HN := Lib.hid hn
  clear hnew hnews hc hn h
  go_enter Try.func64, Try.ntmps64
  go_wp2_with (at_builtin; refine wpList_append_own_at _ rfl _ _ 25 rfl w.heap.size 3 i0 (.int .i64 0) 1 8 Try.underlying25 hi hz0 hz1 hz2 rfl (by decide) _ _ _ rfl HNEW.out ⟨b, off, none⟩ n c (xs.map (Value.int .i64)) rfl ?d1 HNS.out (ints_one xs) ?d3 ?d4 ?d5 ?_)
  case d1 => have := HN.out; first | omega | (simp; omega)
  case d3 => unfold maxLen; omega
  case d4 => omega
  intro v' w3 hown' hgrow _ _
  have hown'' : w3.ownsRow w.heap.size 3 1 v' n (xs.map (Value.int .i64)) := by simpa using hown'
  obtain ⟨g, cap, rfl⟩ : ∃ g cap, v' = .slice (some ⟨g, 0, none⟩) n cap := by
    rcases hown''.2 with ⟨_, h0⟩ | ⟨g, cap, cur, hv, _⟩
    · omega
    · exact ⟨g, cap, hv⟩
  have HO := Lib.hid hown''
  have hb3 : Below w.heap.size w w3 := ((Below.refl _ _).alloc (Nat.le_refl _) (.cells #[] 3)).grown hgrow (by simp) (fun k hk => by simp [Value.ownBlock] at hk; omega)
  clear hown' hown'' hgrow
  go_wp2
  go_ret
  exact ⟨g, cap, rfl, HO.out, hb3⟩

/-- Returns a fresh slice of numbers and a bool, or nothing. -/
theorem RetIB.nil {w w' : World} (hb : Below w.heap.size w w') : RetIB w [] false (.returned (.tuple #[.slice none 0 0, .bool false])) w' := ⟨_, rfl, World.ownsRow_nil _ _ _ _, hb⟩

theorem retIB_own {w w1 w' : World} {n cap g : Nat} {xs : List Int} (hn : n = xs.length) (h : w'.ownsRow w1.heap.size 3 1 (.slice (some ⟨g, 0, none⟩) n cap) n (xs.map (Value.int .i64))) (h1 : w.heap.size ≤ w1.heap.size) (hb : Below w.heap.size w w') : RetIB w xs true (.returned (.tuple #[.slice (some ⟨g, 0, none⟩) n cap, .bool true])) w' := by
  subst hn
  exact ⟨_, rfl, own_mono h h1, hb⟩

end Go.Proofs.Ythnilpibpmlaeaa

/- The standing contracts of CellsOf. -/
namespace Go.Proofs.Ythnilpibpmlaeaa
set_option linter.unusedSimpArgs false
set_option linter.unusedVariables false
open Go.RowKit

/-- Values with 0 for the first nodes that are no cells. -/
def celTo (gs : List Nd) (vs : List Int) : Nat → List Int
  | 0 => vs
  | k + 1 => if (gs.getD k default).k == 0 then celTo gs vs k else (celTo gs vs k).set k 0
theorem celTo_len (gs : List Nd) (vs : List Int) (k : Nat) : (celTo gs vs k).length = vs.length := by
  induction k with
  | zero => rfl
  | succ k ih => unfold celTo; split <;> simp [ih]
theorem celTo_succ (gs : List Nd) (vs : List Int) (k : Nat) : celTo gs vs (k + 1) = if (gs.getD k default).k == 0 then celTo gs vs k else (celTo gs vs k).set k 0 := rfl
def cellsF (gs : List Nd) (st : Eg) : List Int := if validE gs st then celTo gs st.vs gs.length else []
theorem cellsF_len (gs : List Nd) (st : Eg) : (cellsF gs st).length ≤ 10 := by
  unfold cellsF
  cases h : validE gs st
  · simp
  · simp only [if_true]
    obtain ⟨hg, hl, _⟩ := validE_parts gs st h
    rw [celTo_len]
    have := (validG_parts gs hg).1
    omega

section
variable {P : Program} {w : World}
theorem run_append_zero (base : Nat) (t ty e : TypeId) (i : TypeInfo) (size : Nat) (ht : P.underlying t = some (.slice e)) (hi : P.info? e = some i) (v : Value) (n : Nat) (xs : List Value) (hown : w.ownsRow base e size v n xs) (A : Option Addr) (c : Nat) :
    (Builtin.append_ #[t, t] ty #[v, .slice A 0 c]).run P w = .ok v w := by
  rcases hown.2 with ⟨rfl, rfl⟩ | ⟨g, cap, cur, rfl, _, _, hnc, _⟩
  · cases A <;> simp [Builtin.append_, run_underlying ht, sizeOf, typeInfo, hi, Builtin.lenOf, Builtin.firstCells, loadCells, loadCellsFrom, storeCells, Result.andThen]
  · cases A <;> simp [Builtin.append_, run_underlying ht, sizeOf, typeInfo, hi, Builtin.lenOf, Builtin.firstCells, hnc, loadCells, loadCellsFrom, storeCells, Result.andThen]

theorem wpList_append_zero {ops : Array Oper} {rest : List Oper} {o : Oper} {a : Act} {Q : Exit → Act → World → Prop} (hgd : o.guard = none) (s x : Operand) (t : TypeId)
    (ho : o.op = .call { callee := .builtin .append, args := #[s, x], argTypes := #[t, t] })
    (base : Nat) (e : TypeId) (i : TypeInfo) (size : Nat) (ht : P.underlying t = some (.slice e)) (hi : P.info? e = some i)
    (v : Value) (n : Nat) (xs : List Value) (hs : a.eval s = v) (hown : w.ownsRow base e size v n xs) (A : Option Addr) (c : Nat) (hx : a.eval x = .slice A 0 c)
    (h : wpList P ops Q rest (a.put o.dst v) w) : wpList P ops Q (o :: rest) a w := by
  refine wpList_plain hgd fun K hK => ?_
  have hrun := run_append_zero (P := P) (w := w) base t o.type e i size ht hi v n xs hown A c
  unfold Oper.wp
  simp [execOp, ho, resolve, invoke, builtin, hs, hx, hrun, Result.andThen]
  exact hK _ _ h
end

set_option maxHeartbeats 800000 in
theorem spec_copyIntsA (A : Option Addr) (n c : Nat) (xs : List Int) (w : World) (B : Nat) (hB : B ≤ w.heap.size) (hn : n = xs.length) (h : IS w B A xs) (hs : n ≤ 2000000) :
    Calls Try.prog 64 #[.slice A n c] w fun e w' => ∃ g cap, e = .returned (.slice (some ⟨g, 0, none⟩) n cap) ∧ w'.ownsRow w.heap.size 3 1 (.slice (some ⟨g, 0, none⟩) n cap) n (xs.map (Value.int .i64)) ∧ Below w.heap.size w w' := by
  by_cases hp : 0 < n
  · exact spec_copyInts A n c xs w B hB hn h hs hp
  · obtain rfl : n = 0 := by omega
    have hx : xs = [] := List.eq_nil_of_length_eq_zero hn.symm
    subst hx
    obtain ⟨i0, hi, hz0, hz1, hz2⟩ := info_parts info_int
    have hnew := World.ownsRow_lit (e := 3) (size := 1) (base := w.heap.size) w #[] 0 (Nat.le_refl _) (by unfold maxLen; omega) (by simp)
    have HNEW := Lib.hid hnew
    clear hnew hn h
    go_enter Try.func64, Try.ntmps64
    go_wp2_with (at_builtin; refine wpList_append_zero rfl _ _ 25 rfl w.heap.size 3 i0 1 Try.underlying25 hi _ 0 _ rfl HNEW.out A c rfl ?_)
    go_ret
    exact ⟨_, _, rfl, by simpa using HNEW.out, (Below.refl _ _).alloc (Nat.le_refl _) _⟩

set_option maxRecDepth 100000 in
set_option maxHeartbeats 1600000 in
theorem spec_cellsOf (A A' : Option Addr) (n c m c' : Nat) (gs : List Nd) (vs : List Int) (w : World) (B : Nat) (hB : B ≤ w.heap.size) (hn : n = gs.length) (hm : m = vs.length) (hmn : m = n) (h : GS w B A gs) (h' : IS w B A' vs) (hs : n ≤ 2000000) :
    Calls Try.prog 49 #[.agg #[.slice A n c], .slice A' m c'] w fun e w' => RetI w (celTo gs vs n) e w' := by
  have HC := Lib.hid fun (w' : World) (hB : B ≤ w'.heap.size) (h : IS w' B A' vs) => spec_copyIntsA A' m c' vs w' B hB hm h (by omega)
  have H := Lib.hid h
  have HI := Lib.hid h'
  have HN := Lib.hid hn
  have HM := Lib.hid hm
  have HMN := Lib.hid hmn
  have hms : m ≤ 2000000 := by omega
  clear h h' hn hm hmn
  go_enter Try.func49, Try.ntmps49
  go_wp2_with fail
  refine (HC.out _ (by simp; omega) (HI.out.alloc hB _)).mono ?_
  rintro e w1 ⟨g, cap, rfl, hown, hb⟩
  have q1 : w1.cell? ⟨w.heap.size, 0, none⟩ = some (.slice A n c) := (hb.cell (p := ⟨w.heap.size, 0, none⟩) (by simp)).trans (by go_simp)
  have hB1 : Below w.heap.size w w1 := ((Below.refl _ _).alloc (Nat.le_refl _) _).trans (hb.mono (by simp))
  have hl1 : w.heap.size < w1.heap.size := by have := hb.size; simp at this; omega
  have HG1 := Lib.hid (H.out.below hB1 hB)
  simp only [World.size_alloc] at hown
  have hgg := hown.lt _ rfl
  have HO1 := Lib.hid hown
  clear hown hb HC HI H
  go_wp2
  go_loopw [6] (fun u wr => ∃ k : Nat, k ≤ n ∧ u = .int .i64 k ∧ Hid (wr.ownsRow (w.heap.size + 1) 3 1 (.slice (some ⟨g, 0, none⟩) m cap) m ((celTo gs vs k).map (Value.int .i64))) ∧ Hid (Below (w.heap.size + 1) w1 wr) ∧ w1.heap.size ≤ wr.heap.size) (fun u _ => n - (intOf u).toNat)
  case atStart => exact ⟨0, Nat.zero_le _, rfl, HO1.out, Below.refl _ _, Nat.le_refl _⟩
  case round =>
    obtain ⟨k, hk, rfl, HO, HB, hwr⟩ := hrel
    have q2 := (HB.out.cell (p := ⟨w.heap.size, 0, none⟩) (by show w.heap.size < w.heap.size + 1; omega)).trans q1
    by_cases hlt : k < n
    · have hkm : k < m := by have := HMN.out; omega
      obtain ⟨b, off, hA, hbB, c0, _⟩ := HG1.out.at_ k (by have := HN.out; omega)
      have e0 := (HB.out.cell (p := ⟨b, off + k * 2, none⟩) (by simp; omega)).trans c0
      have HST := Lib.hid (celTo_succ gs vs k)
      have u0 := HO.out.cellAt k (by omega)
      have hcl : (celTo gs vs k).length = m := by rw [celTo_len]; exact HM.out.symm
      rw [List.getElem?_eq_getElem (by rw [List.length_map]; omega)] at u0
      have f0 := HO.out.frozenAt k
      have hst := HO.out.stored k (.int .i64 0)
      have ho := hst.1
      rw [← List.map_set] at ho
      have HOS := Lib.hid ho
      generalize ((celTo gs vs k).map (Value.int .i64))[k]'_ = vv at u0
      generalize gs.getD k default = d at *
      clear c0 hcl hst ho
      subst hA
      cases hd : (d.k == 0)
      · have hd' : (d.k != 0) = true := by simp [bne, hd]
        rw [hd] at HST
        clear hd
        go_wp2
        go_roundw
        case rel => exact ⟨k + 1, by omega, by go_num, by rw [HST.out]; exact HOS.out, HB.out.setCell (by show w.heap.size + 1 ≤ g; exact hgg.1) _, by simpa [World.setCell] using hwr⟩
        case measure => simp [intOf]; omega
      · have hd' : (d.k != 0) = false := by simp [bne, hd]
        rw [hd] at HST
        clear hd
        go_wp2
        go_roundw
        case rel => exact ⟨k + 1, by omega, by go_num, by rw [HST.out]; exact HO.out, HB.out, hwr⟩
        case measure => simp [intOf]; omega
    · obtain rfl : k = n := by omega
      have hmk : m ≤ k := by have := HMN.out; omega
      go_wp2
      go_ret
      refine ⟨_, rfl, ?_, hB1.trans (HB.out.mono (by omega))⟩
      have := HO.out
      unfold OwnI
      rw [celTo_len, ← HM.out]
      exact own_mono this (by omega)

end Go.Proofs.Ythnilpibpmlaeaa

/- The standing contracts of LazyCells. -/
namespace Go.Proofs.Ythnilpibpmlaeaa
set_option linter.unusedSimpArgs false
set_option linter.unusedVariables false
open Go.RowKit

def lcellsF (gs : List Nd) (st : Lz) : List Int := if validL gs st then celTo gs st.vs gs.length else []
theorem lcellsF_len (gs : List Nd) (st : Lz) : (lcellsF gs st).length ≤ 10 := by
  unfold lcellsF
  cases h : validL gs st
  · simp
  · simp only [if_true]
    obtain ⟨hg, hl, _⟩ := validL_parts gs st h
    rw [celTo_len]
    have := (validG_parts gs hg).1
    omega

/-- The values of the first cells, and 0 for the others. -/
def kelTo (gs : List Nd) (vs : List Int) (n : Nat) : Nat → List Int
  | 0 => List.replicate n 0
  | k + 1 => if (gs.getD k default).k == 0 then (kelTo gs vs n k).set k (vs.getD k 0) else kelTo gs vs n k
theorem kelTo_succ (gs : List Nd) (vs : List Int) (n k : Nat) : kelTo gs vs n (k + 1) = if (gs.getD k default).k == 0 then (kelTo gs vs n k).set k (vs.getD k 0) else kelTo gs vs n k := rfl
theorem kelTo_len (gs : List Nd) (vs : List Int) (n k : Nat) : (kelTo gs vs n k).length = n := by
  induction k with
  | zero => simp [kelTo]
  | succ k ih => unfold kelTo; split <;> simp [ih]
theorem kelTo_get (gs : List Nd) (vs : List Int) (n k j : Nat) (hj : j < n) : (kelTo gs vs n k)[j]? = some (if j < k ∧ ((gs.getD j default).k == 0) = true then vs.getD j 0 else 0) := by
  induction k with
  | zero => simp [kelTo, hj]
  | succ k ih =>
    rw [kelTo_succ]
    by_cases hjk : j = k
    · subst hjk
      cases h : ((gs.getD j default).k == 0)
      · simp only [Bool.false_eq_true, if_false, ih]; simp
      · simp only [if_true]
        rw [List.getElem?_set, if_pos rfl, if_pos (by rw [kelTo_len]; exact hj)]
        simp
    · have e : (if (gs.getD k default).k == 0 then (kelTo gs vs n k).set k (vs.getD k 0) else kelTo gs vs n k)[j]? = (kelTo gs vs n k)[j]? := by
        split
        · rw [List.getElem?_set, if_neg (by omega)]
        · rfl
      rw [e, ih]
      congr 1
      have : (j < k + 1 ∧ ((gs.getD j default).k == 0) = true) ↔ (j < k ∧ ((gs.getD j default).k == 0) = true) := ⟨fun h => ⟨by omega, h.2⟩, fun h => ⟨by omega, h.2⟩⟩
      simp only [this]
theorem celTo_get (gs : List Nd) (vs : List Int) (k j : Nat) (hj : j < vs.length) : (celTo gs vs k)[j]? = some (if j < k ∧ ((gs.getD j default).k == 0) = false then 0 else vs.getD j 0) := by
  induction k with
  | zero => simp [celTo, hj, List.getD]
  | succ k ih =>
    rw [celTo_succ]
    by_cases hjk : j = k
    · subst hjk
      cases h : ((gs.getD j default).k == 0)
      · simp only [Bool.false_eq_true, if_false]
        rw [List.getElem?_set, if_pos rfl, if_pos (by rw [celTo_len]; exact hj)]
        simp
      · simp only [if_true, ih]; simp
    · have e : (if (gs.getD k default).k == 0 then celTo gs vs k else (celTo gs vs k).set k 0)[j]? = (celTo gs vs k)[j]? := by
        split
        · rfl
        · rw [List.getElem?_set, if_neg (by omega)]
      rw [e, ih]
      congr 1
      have : (j < k + 1 ∧ ((gs.getD j default).k == 0) = false) ↔ (j < k ∧ ((gs.getD j default).k == 0) = false) := ⟨fun h => ⟨by omega, h.2⟩, fun h => ⟨by omega, h.2⟩⟩
      simp only [this]
theorem kelTo_all (gs : List Nd) (vs : List Int) (h : vs.length = gs.length) : kelTo gs vs gs.length gs.length = celTo gs vs gs.length := by
  apply List.ext_getElem?
  intro j
  rcases Nat.lt_or_ge j gs.length with hj | hj
  · rw [kelTo_get _ _ _ _ _ hj, celTo_get _ _ _ _ (by omega)]
    congr 1
    cases hk : ((gs.getD j default).k == 0) <;> simp [hj]
  · rw [List.getElem?_eq_none (by rw [kelTo_len]; exact hj), List.getElem?_eq_none (by rw [celTo_len]; omega)]

set_option maxRecDepth 100000 in
set_option maxHeartbeats 1600000 in
theorem top_spec_LazyCells (gs : List Nd) (st : Lz) (hG : GB gs) (hE : LB st) : ∀ (A : Option Addr) (n c : Nat) (A' : Option Addr) (m c' : Nat) (E : Option Addr) (p ec : Nat) (C : Option Addr) (q qc : Nat) (w : World), n = gs.length → n ≤ c → GS w w.heap.size A gs → m = st.vs.length → p = st.rs.length → q = st.cs.length → LS4 w w.heap.size A' E C st →
    Calls Try.prog 26 #[.agg #[.slice A n c], .agg #[.slice A' m c', .slice E p ec, .slice C q qc]] w fun e w' => RetI w (lcellsF gs st) e w' := by
  intro A n c A' m c' E p ec C q qc w hn _ h hm hp hq h'
  have HC := Lib.hid fun (w' : World) (hB : w.heap.size ≤ w'.heap.size) (h : GS w' w.heap.size A gs) (h' : LS3 w' w.heap.size A' E C st) => spec_validLazy A A' E C n c m c' p ec q qc gs st w' w.heap.size hB hn hm hp hq h h' hG hE
  have HD := Lib.hid fun (hmn : m = n) (w' : World) (hB : w.heap.size ≤ w'.heap.size) (h : GS w' w.heap.size A gs) (h' : IS w' w.heap.size A' st.vs) => spec_cellsOf A A' n c m c' gs st.vs w' w.heap.size hB hn hm hmn h h' (by have := hG.1; omega)
  have HG0 := Lib.hid ((h.alloc (Nat.le_refl _) (.cells #[.slice A n c] 34)).alloc (by simp) (.cells #[.slice A' m c', .slice E p ec, .slice C q qc] 36))
  have HE0 := Lib.hid ((h'.1.alloc (Nat.le_refl _) (.cells #[.slice A n c] 34)).alloc (by simp) (.cells #[.slice A' m c', .slice E p ec, .slice C q qc] 36))
  have hce : lcellsF gs st = if validL gs st then celTo gs st.vs gs.length else [] := rfl
  rw [← hn] at hce
  rw [hce]
  cases hv : validL gs st
  · rw [hv] at HC
    clear hce hv h h' hn hm hp hq hG hE
    simp only [Bool.false_eq_true, if_false]
    go_enter Try.func26, Try.ntmps26
    go_wp2_with fail
    refine (HC.out _ (by simp; omega) HG0.out HE0.out).mono ?_
    rintro e w1 ⟨rfl, hb⟩
    go_wp2
    go_ret
    exact RetI.nil ((((Below.refl _ _).alloc (Nat.le_refl _) _).alloc (by simp) _).trans (hb.mono (by simp; omega)))
  · rw [hv] at HC
    have hmn : m = n := by have := (validL_parts gs st hv).2.1; omega
    have HD2 := Lib.hid (HD.out hmn)
    clear hce hv h h' hn hm hp hq hG hE hmn HD
    simp only [if_true]
    generalize celTo gs st.vs n = M at *
    go_enter Try.func26, Try.ntmps26
    go_wp2_with fail
    refine (HC.out _ (by simp; omega) HG0.out HE0.out).mono ?_
    rintro e w1 ⟨rfl, hb⟩
    have q0 : w1.cell? ⟨w.heap.size, 0, none⟩ = some (.slice A n c) := (hb.cell (p := ⟨w.heap.size, 0, none⟩) (by simp; omega)).trans (by go_simp)
    have q1 : w1.cell? ⟨w.heap.size + 1, 0, none⟩ = some (.slice A' m c') := (hb.cell (p := ⟨w.heap.size + 1, 0, none⟩) (by simp)).trans (by go_simp)
    have hB1 : Below w.heap.size w w1 := (((Below.refl _ _).alloc (Nat.le_refl _) _).alloc (by simp) _).trans (hb.mono (by simp; omega))
    have HG1 := Lib.hid (HG0.out.below hb (by simp; omega))
    have HE1 := Lib.hid (HE0.out.below hb (by simp; omega))
    clear hb
    go_wp2_with fail
    refine (HD2.out _ hB1.size HG1.out HE1.out.1).mono ?_
    rintro e w2 ⟨v, rfl, ho, hb2⟩
    go_wp2
    go_ret
    exact ⟨v, by simp, own_mono ho hB1.size, hB1.trans (hb2.mono hB1.size)⟩

set_option maxRecDepth 100000 in
set_option maxHeartbeats 3200000 in
theorem top_impl_LazyCells (gs : List Nd) (st : Lz) (hG : GB gs) (hE : LB st) : ∀ (A : Option Addr) (n c : Nat) (A' : Option Addr) (m c' : Nat) (E : Option Addr) (p ec : Nat) (C : Option Addr) (q qc : Nat) (w : World), n = gs.length → n ≤ c → GS w w.heap.size A gs → m = st.vs.length → p = st.rs.length → q = st.cs.length → LS4 w w.heap.size A' E C st →
    Calls Try.prog 27 #[.agg #[.slice A n c], .agg #[.slice A' m c', .slice E p ec, .slice C q qc]] w fun e w' => RetI w (lcellsF gs st) e w' := by
  intro A n c A' m c' E p ec C q qc w hn hnc h hm hp hq h'
  obtain ⟨i0, hi, hz0, hz1, hz2⟩ := info_parts info_int
  have HC := Lib.hid fun (w' : World) (hB : w.heap.size ≤ w'.heap.size) (h : GS w' w.heap.size A gs) (h' : LS4 w' w.heap.size A' E C st) => impl_ValidLazy A A' E C n c m c' p ec q qc gs st w' w.heap.size hB hn hnc hm hp hq h h' hG hE
  have HG0 := Lib.hid ((h.alloc (Nat.le_refl _) (.cells #[.slice A n c] 34)).alloc (by simp) (.cells #[.slice A' m c', .slice E p ec, .slice C q qc] 36))
  have HE0 := Lib.hid ((h'.alloc (Nat.le_refl _) (.cells #[.slice A n c] 34)).alloc (by simp) (.cells #[.slice A' m c', .slice E p ec, .slice C q qc] 36))
  have hce : lcellsF gs st = if validL gs st then celTo gs st.vs gs.length else [] := rfl
  rw [← hn] at hce
  rw [hce]
  cases hv : validL gs st
  · rw [hv] at HC
    clear hce hv h h' hn hm hp hq hG hE
    simp only [Bool.false_eq_true, if_false]
    go_enter Try.func27, Try.ntmps27
    go_wp2_with fail
    refine (HC.out _ (by simp; omega) HG0.out HE0.out).mono ?_
    rintro e w1 ⟨rfl, hb⟩
    go_wp2
    go_ret
    exact RetI.nil ((((Below.refl _ _).alloc (Nat.le_refl _) _).alloc (by simp) _).trans (hb.mono (by simp; omega)))
  rw [hv] at HC
  have hmn : m = n := by have := (validL_parts gs st hv).2.1; omega
  have hn10 : n ≤ 10 := by rw [hn]; exact (validG_parts gs (validL_parts gs st hv).1).1
  have hm1 : m ≤ 2000000 := by omega
  have HN := Lib.hid hn
  have HM := Lib.hid hm
  have HMN := Lib.hid hmn
  have HMK := Lib.hid fun (w1 : World) => run_make_full (P := Try.prog) w1 w1.heap.size 25 3 i0 _ 1 Try.underlying25 hi hz0 hz1 .i64 .i64 n (by rw [hz2]; omega) (by unfold maxLen; omega) (Nat.le_refl _)
  have HKA := Lib.hid (kelTo_all gs st.vs (by omega))
  rw [← hn] at HKA
  rw [← HKA.out]
  have HKL := Lib.hid fun k => kelTo_len gs st.vs n k
  clear hce hv h h' hn hm hp hq hG hE hmn
  simp only [if_true]
  go_enter Try.func27, Try.ntmps27
  go_wp2_with fail
  refine (HC.out _ (by simp; omega) HG0.out HE0.out).mono ?_
  rintro e w1 ⟨rfl, hb⟩
  have q0 : w1.cell? ⟨w.heap.size, 0, none⟩ = some (.slice A n c) := (hb.cell (p := ⟨w.heap.size, 0, none⟩) (by simp; omega)).trans (by go_simp)
  have q1 : w1.cell? ⟨w.heap.size + 1, 0, none⟩ = some (.slice A' m c') := (hb.cell (p := ⟨w.heap.size + 1, 0, none⟩) (by simp)).trans (by go_simp)
  have hB1 : Below w.heap.size w w1 := (((Below.refl _ _).alloc (Nat.le_refl _) _).alloc (by simp) _).trans (hb.mono (by simp; omega))
  have hl1 : w.heap.size + 2 ≤ w1.heap.size := by have := hb.size; simp at this; omega
  have HG1 := Lib.hid (HG0.out.below hb (by simp; omega))
  have HE1 := Lib.hid (HE0.out.1.1.below hb (by simp; omega))
  clear hb HC HG0 HE0
  obtain ⟨w2, hmk, hown2, hgr2⟩ := HMK.out w1
  have hb2 : Below w1.heap.size w1 w2 := ⟨hgr2.os, hgr2.tape, hgr2.output, hgr2.size, fun k hk => hgr2.block k hk (by simp)⟩
  have q2 := (hb2.cell (p := ⟨w.heap.size, 0, none⟩) (by show w.heap.size < w1.heap.size; omega)).trans q0
  have q3 := (hb2.cell (p := ⟨w.heap.size + 1, 0, none⟩) (by show w.heap.size + 1 < w1.heap.size; omega)).trans q1
  have HG2 := Lib.hid (HG1.out.below hb2 hB1.size)
  have HE2 := Lib.hid (HE1.out.below hb2 hB1.size)
  have HO2 : Hid (w2.ownsRow w1.heap.size 3 1 (.slice (some ⟨w1.heap.size, 0, none⟩) n n) n ((kelTo gs st.vs n 0).map (Value.int .i64))) := by
    have e : (kelTo gs st.vs n 0).map (Value.int .i64) = (madeCells (Value.int .i64 0).cells (n * 1)).toList := by
      simp [kelTo, Value.cells, toList_madeCells_one]
    rw [e]; exact hown2
  have hgl : w1.heap.size < w2.heap.size := (hown2.lt _ rfl).2
  have hB2 := hB1.trans (hb2.mono hB1.size)
  clear hown2 hgr2 hb2 HG1 HE1 HMK
  go_wp2
  clear hmk q0 q1 hB1
  go_loopw [19] (fun u wr => ∃ k : Nat, k ≤ n ∧ u = .int .i64 k ∧ Hid (wr.ownsRow w1.heap.size 3 1 (.slice (some ⟨w1.heap.size, 0, none⟩) n n) n ((kelTo gs st.vs n k).map (Value.int .i64))) ∧ Hid (Below w1.heap.size w2 wr) ∧ Hid (wr.cell? ⟨w.heap.size, 0, none⟩ = some (.slice A n c)) ∧ Hid (wr.cell? ⟨w.heap.size + 1, 0, none⟩ = some (.slice A' m c')) ∧ w2.heap.size ≤ wr.heap.size) (fun u _ => n - (intOf u).toNat)
  case atStart => exact ⟨0, Nat.zero_le _, rfl, HO2.out, Below.refl _ _, Lib.hid q2, Lib.hid q3, Nat.le_refl _⟩
  case round =>
    obtain ⟨k, hk, rfl, HO, HB, HQ0, HQ1, hwr⟩ := hrel
    by_cases hlt : k < n
    · have hkm : k < m := by have := HMN.out; omega
      obtain ⟨b, off, hA, hbB, c0, A1, n1, c1, c2, hzz⟩ := HG2.out.at_ k (by have := HN.out; omega)
      obtain ⟨b2, off2, hA', hbB2, hcx⟩ := HE2.out (by have := HM.out; omega)
      have d0 := hcx k (by have := HM.out; omega)
      have e0 := (HB.out.cell (p := ⟨b, off + k * 2, none⟩) (by show b < w1.heap.size; omega)).trans c0
      have e1 := (HB.out.cell (p := ⟨b, off + k * 2 + 1, none⟩) (by show b < w1.heap.size; omega)).trans c2
      have e2 := (HB.out.cell (p := ⟨b2, off2 + k, none⟩) (by show b2 < w1.heap.size; omega)).trans d0
      have p0 := HQ0.out
      have p1 := HQ1.out
      have HST := Lib.hid (kelTo_succ gs st.vs n k)
      have HO' := Lib.hid (HO.out.alloc (.cells #[.int .i64 (gs.getD k default).k, .slice A1 n1 c1] 63))
      have u0 := HO'.out.cellAt k (by omega)
      rw [List.getElem?_eq_getElem (by rw [List.length_map, HKL.out]; omega)] at u0
      have f0 := HO'.out.frozenAt k
      have hst := HO'.out.stored k (.int .i64 (st.vs.getD k 0))
      have ho := hst.1
      rw [← List.map_set] at ho
      have HOS := Lib.hid ho
      generalize ((kelTo gs st.vs n k).map (Value.int .i64))[k]'_ = vv at u0
      generalize gs.getD k default = d at *
      generalize st.vs.getD k 0 = x at *
      clear c0 c2 hst ho hzz d0 hcx
      subst hA hA'
      have y0 : w.heap.size < wr.heap.size := by omega
      have y1 : w.heap.size + 1 < wr.heap.size := by omega
      have y2 : b2 < wr.heap.size := by omega
      have HB' := Lib.hid (HB.out.alloc (by omega) (.cells #[.int .i64 d.k, .slice A1 n1 c1] 63))
      have HZ0 := Lib.hid ((World.cell?_alloc_lt wr (.cells #[.int .i64 d.k, .slice A1 n1 c1] 63) ⟨w.heap.size, 0, none⟩ y0).trans p0)
      have HZ1 := Lib.hid ((World.cell?_alloc_lt wr (.cells #[.int .i64 d.k, .slice A1 n1 c1] 63) ⟨w.heap.size + 1, 0, none⟩ y1).trans p1)
      cases hd : (d.k == 0)
      · have hd' : (d.k != 0) = true := by simp [bne, hd]
        rw [hd] at HST
        clear hd'
        go_wp2
        go_roundw
        case rel => exact ⟨k + 1, by omega, by go_num, by rw [HST.out]; exact HO'.out, HB'.out, HZ0.out, HZ1.out, by simp; omega⟩
        case measure => simp [intOf]; omega
      · rw [hd] at HST
        go_wp2
        go_roundw
        case rel => exact ⟨k + 1, by omega, by go_num, by rw [HST.out]; exact HOS.out, HB'.out.setCell (Nat.le_refl _) _, (World.cell?_setCell_other _ _ _ _ (by simp <;> omega)).trans HZ0.out, (World.cell?_setCell_other _ _ _ _ (by simp <;> omega)).trans HZ1.out, by simp [World.setCell]; omega⟩
        case measure => simp [intOf]; omega
    · obtain rfl : k = n := by omega
      go_wp2
      go_ret
      refine ⟨_, rfl, ?_, hB2.trans (HB.out.mono (by omega))⟩
      have := HO.out
      unfold OwnI
      rw [HKL.out]
      exact own_mono this (by omega)
end Go.Proofs.Ythnilpibpmlaeaa

/- laws.FnExactLazyCells returns true for all arguments, and writes nothing that was there. (Made by genlaw.py.) -/
namespace Go.Proofs.Ythnilpibpmlaeaa
set_option linter.unusedSimpArgs false
set_option linter.unusedVariables false
open Go.RowKit

set_option maxRecDepth 100000 in
set_option maxHeartbeats 3200000 in
theorem law_LazyCells (A0 : Option Addr) (n0 c0 : Nat) (gs0 : List Nd) (A1 : Option Addr) (n1 c1 : Nat) (E1 : Option Addr) (en1 ec1 : Nat) (K1 : Option Addr) (kn1 kc1 : Nat) (st1 : Lz) (w : World) (hn0 : n0 = gs0.length) (h0 : GS w w.heap.size A0 gs0) (hm0 : n0 ≤ 9223372036854775807) (hp0 : ∀ j, (gs0.getD j default).ps.length ≤ 9223372036854775807) (hn1 : n1 = st1.vs.length) (he1 : en1 = st1.rs.length) (hk1 : kn1 = st1.cs.length) (h1 : LS3 w w.heap.size A1 E1 K1 st1) (hm1 : n1 ≤ 9223372036854775807) (hem1 : en1 ≤ 9223372036854775807) (hkm1 : kn1 ≤ 9223372036854775807) (hp1 : ∀ j, (st1.rs.getD j []).length ≤ 9223372036854775807) :
    Calls Try.prog 6 #[.agg #[.slice A0 n0 c0], .agg #[.slice A1 n1 c1, .slice E1 en1 ec1, .slice K1 kn1 kc1]] w fun e w' => e = .returned (.bool true) ∧ Below w.heap.size w w' := by
  obtain ⟨l0, hl0⟩ : ∃ l0 : Int, l0 = 1048576 := ⟨_, rfl⟩
  have HC0 := Lib.hid fun (w' : World) (hB : w.heap.size ≤ w'.heap.size) (h : GS w' w.heap.size A0 gs0) => laws_szGraph A0 n0 c0 gs0 l0 w' w.heap.size hB hn0 h (by omega) (by omega) hm0 hp0
  by_cases hz0 : ((gsz gs0 : Nat) : Int) ≤ l0
  case neg =>
    rw [leftOf_no hz0] at HC0
    subst hl0
    have S_0 : Hid (As 0 w.heap.size (fun wk => GS wk w.heap.size A0 gs0 ∧ LS3 wk w.heap.size A1 E1 K1 st1) w) := ⟨⟨h0, h1⟩, Nat.le_refl _, ((GS.loc _ _ _).and (LS3.loc _ _ _ _ _))⟩
    have Bl_0 : Hid (Bl w w) := Bl.refl w
    have S_1 := Lib.hid (S_0.out.alloc (.cells #[.slice A0 n0 c0] 24))
    clear S_0
    have Bl_1 := Lib.hid (Bl_0.out.alloc (.cells #[.slice A0 n0 c0] 24))
    clear Bl_0
    have bx := box_new w (.slice A0 n0 c0) 24
    have BX0_1 := Lib.hid bx
    clear bx
    have S_2 := Lib.hid (S_1.out.alloc (.cells #[.slice A1 n1 c1, .slice E1 en1 ec1, .slice K1 kn1 kc1] 28))
    clear S_1
    have Bl_2 := Lib.hid (Bl_1.out.alloc (.cells #[.slice A1 n1 c1, .slice E1 en1 ec1, .slice K1 kn1 kc1] 28))
    clear Bl_1
    have BX0_2 := Lib.hid (BX0_1.out.alloc (.cells #[.slice A1 n1 c1, .slice E1 en1 ec1, .slice K1 kn1 kc1] 28))
    clear BX0_1
    have bx := box3_new (w.alloc (.cells #[.slice A0 n0 c0] 24)) (.slice A1 n1 c1) (.slice E1 en1 ec1) (.slice K1 kn1 kc1) 28
    simp only [World.size_alloc] at bx
    have BX1_2 := Lib.hid bx
    clear bx
    clear hn0 h0 hp0 hn1 h1 he1 hp1 hk1 hz0
    go_enter Try.func6, Try.ntmps6
    have q := BX0_2.out.it
    go_wp2_with fail
    refine (HC0.out _ Bl_2.out.le S_2.out.it.1).mono ?_
    rintro e w3 ⟨rfl, hb⟩
    have S_3 := Lib.hid (S_2.out.step hb)
    clear S_2
    have Bl_3 := Lib.hid (Bl_2.out.step hb)
    clear Bl_2
    have BX0_3 := Lib.hid (BX0_2.out.step hb)
    clear BX0_2
    have BX1_3 := Lib.hid (BX1_2.out.step hb)
    clear BX1_2
    clear q hb
    go_wp2
    go_ret
    exact ⟨rfl, Bl_3.out⟩
  rw [leftOf_ok hz0] at HC0
  obtain ⟨l1, hl1⟩ : ∃ l1 : Int, l1 = l0 - ((gsz gs0 : Nat) : Int) := ⟨_, rfl⟩
  rw [← hl1] at HC0
  have hge1 : 0 ≤ l1 := by omega
  have hle1 : l1 ≤ 1048576 := by omega
  have HC1 := Lib.hid fun (w' : World) (hB : w.heap.size ≤ w'.heap.size) (h : LS3 w' w.heap.size A1 E1 K1 st1) => laws_szLazy A1 E1 K1 n1 c1 en1 ec1 kn1 kc1 st1 l1 w' w.heap.size hB hn1 he1 hk1 h (by omega) (by omega) hm1 hem1 hkm1 hp1
  by_cases hz1 : ((lsz st1 : Nat) : Int) ≤ l1
  case neg =>
    rw [leftOf_no hz1] at HC1
    subst hl0
    have S_0 : Hid (As 0 w.heap.size (fun wk => GS wk w.heap.size A0 gs0 ∧ LS3 wk w.heap.size A1 E1 K1 st1) w) := ⟨⟨h0, h1⟩, Nat.le_refl _, ((GS.loc _ _ _).and (LS3.loc _ _ _ _ _))⟩
    have Bl_0 : Hid (Bl w w) := Bl.refl w
    have S_1 := Lib.hid (S_0.out.alloc (.cells #[.slice A0 n0 c0] 24))
    clear S_0
    have Bl_1 := Lib.hid (Bl_0.out.alloc (.cells #[.slice A0 n0 c0] 24))
    clear Bl_0
    have bx := box_new w (.slice A0 n0 c0) 24
    have BX0_1 := Lib.hid bx
    clear bx
    have S_2 := Lib.hid (S_1.out.alloc (.cells #[.slice A1 n1 c1, .slice E1 en1 ec1, .slice K1 kn1 kc1] 28))
    clear S_1
    have Bl_2 := Lib.hid (Bl_1.out.alloc (.cells #[.slice A1 n1 c1, .slice E1 en1 ec1, .slice K1 kn1 kc1] 28))
    clear Bl_1
    have BX0_2 := Lib.hid (BX0_1.out.alloc (.cells #[.slice A1 n1 c1, .slice E1 en1 ec1, .slice K1 kn1 kc1] 28))
    clear BX0_1
    have bx := box3_new (w.alloc (.cells #[.slice A0 n0 c0] 24)) (.slice A1 n1 c1) (.slice E1 en1 ec1) (.slice K1 kn1 kc1) 28
    simp only [World.size_alloc] at bx
    have BX1_2 := Lib.hid bx
    clear bx
    clear hn0 h0 hp0 hn1 h1 he1 hp1 hk1 hz1 hl1 hz0
    go_enter Try.func6, Try.ntmps6
    have q := BX0_2.out.it
    go_wp2_with fail
    refine (HC0.out _ Bl_2.out.le S_2.out.it.1).mono ?_
    rintro e w3 ⟨rfl, hb⟩
    have S_3 := Lib.hid (S_2.out.step hb)
    clear S_2
    have Bl_3 := Lib.hid (Bl_2.out.step hb)
    clear Bl_2
    have BX0_3 := Lib.hid (BX0_2.out.step hb)
    clear BX0_2
    have BX1_3 := Lib.hid (BX1_2.out.step hb)
    clear BX1_2
    clear q hb
    obtain ⟨q, qb, qbb⟩ := BX1_3.out.it
    go_wp2_with fail
    refine (HC1.out _ Bl_3.out.le S_3.out.it.2).mono ?_
    rintro e w4 ⟨rfl, hb⟩
    have S_4 := Lib.hid (S_3.out.step hb)
    clear S_3
    have Bl_4 := Lib.hid (Bl_3.out.step hb)
    clear Bl_3
    have BX0_4 := Lib.hid (BX0_3.out.step hb)
    clear BX0_3
    have BX1_4 := Lib.hid (BX1_3.out.step hb)
    clear BX1_3
    clear q qb qbb hb
    go_wp2
    go_ret
    exact ⟨rfl, Bl_4.out⟩
  rw [leftOf_ok hz1] at HC1
  obtain ⟨l2, hl2⟩ : ∃ l2 : Int, l2 = l1 - ((lsz st1 : Nat) : Int) := ⟨_, rfl⟩
  rw [← hl2] at HC1
  have hge2 : 0 ≤ l2 := by omega
  have hle2 : l2 ≤ 1048576 := by omega
  have hG0 : GB gs0 := GB.of_gsz (by omega)
  have hEB1 : LB st1 := LB.of_lsz (by omega)
  have HSP := Lib.hid (top_spec_LazyCells gs0 st1 hG0 hEB1)
  have HIM := Lib.hid (top_impl_LazyCells gs0 st1 hG0 hEB1)
  have hlen0 := lcellsF_len gs0 st1
  generalize lcellsF gs0 st1 = F0 at *
  obtain ⟨r0, hr0⟩ : ∃ r0 : Nat, r0 = F0.length := ⟨_, rfl⟩
  have hrb0 : r0 ≤ 2000000 := by omega
  have HL0 := Lib.hid hr0
  clear hr0 hlen0
  have ht0 : decide (F0 = F0) = true := by simp
  have HN0 := Lib.hid hn0
  have HG0 := Lib.hid hG0
  have hx0 : decide (gs0 = gs0) = true := by simp
  have hnb0 : n0 ≤ 1048576 := by rw [hn0]; exact hG0.1
  have HN1 := Lib.hid hn1
  have HE1 := Lib.hid he1
  have HEG1 := Lib.hid hEB1
  have HK1 := Lib.hid hk1
  have hx1 : decide (st1 = st1) = true := by simp
  have hnb1 : n1 ≤ 1048576 := by rw [hn1]; exact hEB1.1
  have S_0 : Hid (As 0 w.heap.size (fun wk => GS wk w.heap.size A0 gs0 ∧ LS3 wk w.heap.size A1 E1 K1 st1) w) := ⟨⟨h0, h1⟩, Nat.le_refl _, ((GS.loc _ _ _).and (LS3.loc _ _ _ _ _))⟩
  have Bl_0 : Hid (Bl w w) := Bl.refl w
  have S_1 := Lib.hid (S_0.out.alloc (.cells #[.slice A0 n0 c0] 24))
  clear S_0
  have Bl_1 := Lib.hid (Bl_0.out.alloc (.cells #[.slice A0 n0 c0] 24))
  clear Bl_0
  have bx := box_new w (.slice A0 n0 c0) 24
  have BX0_1 := Lib.hid bx
  clear bx
  have S_2 := Lib.hid (S_1.out.alloc (.cells #[.slice A1 n1 c1, .slice E1 en1 ec1, .slice K1 kn1 kc1] 28))
  clear S_1
  have Bl_2 := Lib.hid (Bl_1.out.alloc (.cells #[.slice A1 n1 c1, .slice E1 en1 ec1, .slice K1 kn1 kc1] 28))
  clear Bl_1
  have BX0_2 := Lib.hid (BX0_1.out.alloc (.cells #[.slice A1 n1 c1, .slice E1 en1 ec1, .slice K1 kn1 kc1] 28))
  clear BX0_1
  have bx := box3_new (w.alloc (.cells #[.slice A0 n0 c0] 24)) (.slice A1 n1 c1) (.slice E1 en1 ec1) (.slice K1 kn1 kc1) 28
  simp only [World.size_alloc] at bx
  have BX1_2 := Lib.hid bx
  clear bx
  have HLS := Lib.hid hl0
  subst hl0
  clear HLS hn0 h0 hp0 hn1 h1 he1 hp1 hk1 hl1 hl2 hz0 hz1 hG0 hEB1
  go_enter Try.func6, Try.ntmps6
  have q := BX0_2.out.it
  go_wp2_with fail
  refine (HC0.out _ Bl_2.out.le S_2.out.it.1).mono ?_
  rintro e w3 ⟨rfl, hb⟩
  have hs_3 : w.heap.size + 2 ≤ w3.heap.size := by have := hb.size; (try simp only [World.size_alloc] at this); omega
  have S_3 := Lib.hid (S_2.out.step hb)
  clear S_2
  have Bl_3 := Lib.hid (Bl_2.out.step hb)
  clear Bl_2
  have BX0_3 := Lib.hid (BX0_2.out.step hb)
  clear BX0_2
  have BX1_3 := Lib.hid (BX1_2.out.step hb)
  clear BX1_2
  clear q hb
  obtain ⟨q, qb, qbb⟩ := BX1_3.out.it
  go_wp2_with fail
  refine (HC1.out _ Bl_3.out.le S_3.out.it.2).mono ?_
  rintro e w4 ⟨rfl, hb⟩
  have hs_4 : w3.heap.size ≤ w4.heap.size := by have := hb.size; (try simp only [World.size_alloc] at this); omega
  have S_4 := Lib.hid (S_3.out.step hb)
  clear S_3
  have Bl_4 := Lib.hid (Bl_3.out.step hb)
  clear Bl_3
  have BX0_4 := Lib.hid (BX0_3.out.step hb)
  clear BX0_3
  have BX1_4 := Lib.hid (BX1_3.out.step hb)
  clear BX1_3
  clear q qb qbb hb
  have z0_4 := BX0_4.out.it
  obtain ⟨z1_4, z1_4b, z1_4bb⟩ := BX1_4.out.it
  have hle4 := Bl_4.out.le
  go_wp2
  go_region_held3 (fun w' => w'.cell? ⟨w.heap.size, 0, none⟩ = some (.slice A0 n0 c0) ∧ w'.cell? ⟨w.heap.size + 1, 0, none⟩ = some (.slice A1 n1 c1) ∧ w'.cell? ⟨w.heap.size + 1, 1, none⟩ = some (.slice E1 en1 ec1) ∧ w'.cell? ⟨w.heap.size + 1, 2, none⟩ = some (.slice K1 kn1 kc1)) (first | exact ⟨z0_4, z1_4, z1_4b, z1_4bb⟩ | exact ⟨z0_5, z1_5, z1_5b, z1_5bb⟩ | exact ⟨z0_6, z1_6, z1_6b, z1_6bb⟩ | exact ⟨z0_7, z1_7, z1_7b, z1_7bb⟩ | go_keep)
    (first
      | (go_at_call 10; refine (laws_toGraph A0 n0 c0 gs0 _ w.heap.size ?_ HN0.out ?_ HG0.out).mono ?_; (exact hle4); exact S_4.out.it.1; rintro e w5 ⟨B5, m5, d5, rfl, hn, hown, hb'⟩; have hb5 : Below w4.heap.size w4 w5 := (by first | exact hb' | exact below_of_drew hb'); have hs_5 : w4.heap.size ≤ w5.heap.size := (by have := hb5.size; (try simp only [World.size_alloc] at this); omega); have M5 := Lib.hid hn; have NC5 := Lib.hid hown.ncap; have S_5 := Lib.hid (S_4.out.step hb5); have Bl_5 := Lib.hid (Bl_4.out.step hb5); have BX0_5 := Lib.hid (BX0_4.out.step hb5); have BX1_5 := Lib.hid (BX1_4.out.step hb5); have X0_5 := Lib.hid (graph_start hown); have z0_5 := BX0_5.out.it; obtain ⟨z1_5, z1_5b, z1_5bb⟩ := BX1_5.out.it; have hle5 := Bl_5.out.le; clear hown hb' hn)
      | (go_at_call 11; refine (laws_toLazy A1 E1 K1 n1 c1 en1 ec1 kn1 kc1 st1 _ w.heap.size ?_ HN1.out HE1.out HK1.out ?_ HEG1.out).mono ?_; (exact hle5); exact S_5.out.it.2; rintro e w6 ⟨B6, m6, d6, D6, em6, ed6, L6, lm6, ld6, rfl, hown, hb'⟩; have hn := hown.1; have hen := hown.2.1; have hkn := hown.2.2.1; have hb6 : Below w5.heap.size w5 w6 := (by first | exact hb' | exact below_of_drew hb'); have hs_6 : w5.heap.size ≤ w6.heap.size := (by have := hb6.size; (try simp only [World.size_alloc] at this); omega); have M6 := Lib.hid hn; have EM6 := Lib.hid hen; have KM6 := Lib.hid hkn; have S_6 := Lib.hid (S_5.out.step hb6); have Bl_6 := Lib.hid (Bl_5.out.step hb6); have BX0_6 := Lib.hid (BX0_5.out.step hb6); have BX1_6 := Lib.hid (BX1_5.out.step hb6); have X0_6 := Lib.hid (X0_5.out.step hb6); have X1_6 := Lib.hid (lazy_start hown); have z0_6 := BX0_6.out.it; obtain ⟨z1_6, z1_6b, z1_6bb⟩ := BX1_6.out.it; have hle6 := Bl_6.out.le; clear hown hb' hn hen hkn)
      | (go_at_call 26; refine (HSP.out B5 m5 d5 B6 m6 d6 D6 em6 ed6 L6 lm6 ld6 _ M5.out NC5.out X0_6.out.graph M6.out EM6.out KM6.out X1_6.out.lazy4).mono ?_; rintro e w7 ⟨v7, rfl, hown0, hb⟩; have z0_7 := (BX0_6.out.step hb).it; obtain ⟨z1_7, z1_7b, z1_7bb⟩ := (BX1_6.out.step hb).it))
  clear S_4 Bl_4 BX0_4 BX1_4 S_5 Bl_5 BX0_5 BX1_5 X0_5 hle4 hle5 hb5 hle6 hb6 z0_4 z1_4 z1_4b z1_4bb z0_5 z1_5 z1_5b z1_5bb z0_6 z1_6 z1_6b z1_6bb z0_7 z1_7 z1_7b z1_7bb
  clear X0_6
  clear X1_6
  have hown := hown0
  unfold OwnI at hown
  rw [← HL0.out] at hown
  obtain ⟨B7, d7, rfl⟩ := own_form hown
  try simp only [World.size_alloc] at hown
  have hs_7 : w6.heap.size ≤ w7.heap.size := by have := hb.size; (try simp only [World.size_alloc] at this); omega
  have S_7 := Lib.hid (S_6.out.step hb)
  clear S_6
  have Bl_7 := Lib.hid (Bl_6.out.step hb)
  clear Bl_6
  have BX0_7 := Lib.hid (BX0_6.out.step hb)
  clear BX0_6
  have BX1_7 := Lib.hid (BX1_6.out.step hb)
  clear BX1_6
  have V_7 := Lib.hid (row_start hown)
  clear hown hown0
  clear hb
  have q := BX0_7.out.it
  go_wp2_with fail
  refine (laws_toGraph A0 n0 c0 gs0 _ w.heap.size Bl_7.out.le HN0.out S_7.out.it.1 HG0.out).mono ?_
  rintro e w8 ⟨B8, m8, d8, rfl, hn, hown, hb⟩
  try simp only [World.size_alloc] at hown
  have hs_8 : w7.heap.size ≤ w8.heap.size := by have := hb.size; (try simp only [World.size_alloc] at this); omega
  have M8 := Lib.hid hn
  have NC8 := Lib.hid hown.ncap
  have S_8 := Lib.hid ((S_7.out.step hb).alloc (.cells #[.slice B8 m8 d8] 34))
  clear S_7
  have Bl_8 := Lib.hid ((Bl_7.out.step hb).alloc (.cells #[.slice B8 m8 d8] 34))
  clear Bl_7
  have BX0_8 := Lib.hid ((BX0_7.out.step hb).alloc (.cells #[.slice B8 m8 d8] 34))
  clear BX0_7
  have BX1_8 := Lib.hid ((BX1_7.out.step hb).alloc (.cells #[.slice B8 m8 d8] 34))
  clear BX1_7
  have V_8 := Lib.hid ((V_7.out.step hb).alloc (.cells #[.slice B8 m8 d8] 34))
  clear V_7
  have X0_8 := Lib.hid ((graph_start hown).alloc (.cells #[.slice B8 m8 d8] 34))
  have XB0_8 := Lib.hid (box_new w8 (.slice B8 m8 d8) 34)
  clear q hn hown hb
  obtain ⟨q, qb, qbb⟩ := BX1_8.out.it
  go_wp2_with fail
  refine (laws_toLazy A1 E1 K1 n1 c1 en1 ec1 kn1 kc1 st1 _ w.heap.size Bl_8.out.le HN1.out HE1.out HK1.out S_8.out.it.2 HEG1.out).mono ?_
  rintro e w9 ⟨B9, m9, d9, D9, em9, ed9, L9, lm9, ld9, rfl, hown, hb⟩
  have hn := hown.1
  have hen := hown.2.1
  have hkn := hown.2.2.1
  try simp only [World.size_alloc] at hown
  have hs_9 : w8.heap.size + 1 ≤ w9.heap.size := by have := hb.size; (try simp only [World.size_alloc] at this); omega
  have M9 := Lib.hid hn
  have EM9 := Lib.hid hen
  have KM9 := Lib.hid hkn
  clear hen hkn
  have S_9 := Lib.hid ((S_8.out.step hb).alloc (.cells #[.slice B9 m9 d9, .slice D9 em9 ed9, .slice L9 lm9 ld9] 36))
  clear S_8
  have Bl_9 := Lib.hid ((Bl_8.out.step hb).alloc (.cells #[.slice B9 m9 d9, .slice D9 em9 ed9, .slice L9 lm9 ld9] 36))
  clear Bl_8
  have BX0_9 := Lib.hid ((BX0_8.out.step hb).alloc (.cells #[.slice B9 m9 d9, .slice D9 em9 ed9, .slice L9 lm9 ld9] 36))
  clear BX0_8
  have BX1_9 := Lib.hid ((BX1_8.out.step hb).alloc (.cells #[.slice B9 m9 d9, .slice D9 em9 ed9, .slice L9 lm9 ld9] 36))
  clear BX1_8
  have V_9 := Lib.hid ((V_8.out.step hb).alloc (.cells #[.slice B9 m9 d9, .slice D9 em9 ed9, .slice L9 lm9 ld9] 36))
  clear V_8
  have X0_9 := Lib.hid ((X0_8.out.step hb).alloc (.cells #[.slice B9 m9 d9, .slice D9 em9 ed9, .slice L9 lm9 ld9] 36))
  clear X0_8
  have XB0_9 := Lib.hid ((XB0_8.out.step hb).alloc (.cells #[.slice B9 m9 d9, .slice D9 em9 ed9, .slice L9 lm9 ld9] 36))
  clear XB0_8
  have X1_9 := Lib.hid ((lazy_start hown).alloc (.cells #[.slice B9 m9 d9, .slice D9 em9 ed9, .slice L9 lm9 ld9] 36))
  have XB1_9 := Lib.hid (box3_new w9 (.slice B9 m9 d9) (.slice D9 em9 ed9) (.slice L9 lm9 ld9) 36)
  clear q qb qbb hn hown hb
  have q0 := XB0_9.out.it
  obtain ⟨q1, q1b, q1bb⟩ := XB1_9.out.it
  go_wp2_with fail
  refine (HIM.out B8 m8 d8 B9 m9 d9 D9 em9 ed9 L9 lm9 ld9 _ M8.out NC8.out X0_9.out.graph M9.out EM9.out KM9.out X1_9.out.lazy4).mono ?_
  rintro e w10 ⟨v10, rfl, hown0, hb⟩
  have hown := hown0
  unfold OwnI at hown
  rw [← HL0.out] at hown
  obtain ⟨B10, d10, rfl⟩ := own_form hown
  try simp only [World.size_alloc] at hown
  have hs_10 : w9.heap.size + 1 ≤ w10.heap.size := by have := hb.size; (try simp only [World.size_alloc] at this); omega
  have S_10 := Lib.hid (S_9.out.step hb)
  clear S_9
  have Bl_10 := Lib.hid (Bl_9.out.step hb)
  clear Bl_9
  have BX0_10 := Lib.hid (BX0_9.out.step hb)
  clear BX0_9
  have BX1_10 := Lib.hid (BX1_9.out.step hb)
  clear BX1_9
  have V_10 := Lib.hid (V_9.out.step hb)
  clear V_9
  have X0_10 := Lib.hid (X0_9.out.step hb)
  clear X0_9
  have XB0_10 := Lib.hid (XB0_9.out.step hb)
  clear XB0_9
  have X1_10 := Lib.hid (X1_9.out.step hb)
  clear X1_9
  have XB1_10 := Lib.hid (XB1_9.out.step hb)
  clear XB1_9
  have G_10 := Lib.hid (row_start hown)
  clear hown hown0
  clear hb
  clear q0 q1 q1b q1bb
  go_wp2_with fail
  refine (laws_eqIntS _ _ r0 r0 _ _ F0 F0 _ w10.heap.size (Nat.le_refl _) HL0.out HL0.out G_10.out.ints V_10.out.ints (by omega) (by omega)).mono ?_
  rintro e w11 ⟨rfl, hb⟩
  have S_11 := Lib.hid (S_10.out.step hb)
  clear S_10
  have Bl_11 := Lib.hid (Bl_10.out.step hb)
  clear Bl_10
  have BX0_11 := Lib.hid (BX0_10.out.step hb)
  clear BX0_10
  have BX1_11 := Lib.hid (BX1_10.out.step hb)
  clear BX1_10
  have V_11 := Lib.hid (V_10.out.step hb)
  clear V_10
  have X0_11 := Lib.hid (X0_10.out.step hb)
  clear X0_10
  have XB0_11 := Lib.hid (XB0_10.out.step hb)
  clear XB0_10
  have X1_11 := Lib.hid (X1_10.out.step hb)
  clear X1_10
  have XB1_11 := Lib.hid (XB1_10.out.step hb)
  clear XB1_10
  have G_11 := Lib.hid (G_10.out.step hb)
  clear G_10
  clear hb
  have q := XB0_11.out.it
  have r := BX0_11.out.it
  have hle := Bl_11.out.le
  go_wp2
  go_region_with (first
    | (go_at_call 10; refine (laws_toGraph A0 n0 c0 gs0 _ w.heap.size ?_ HN0.out ?_ HG0.out).mono ?_; (exact hle); exact S_11.out.it.1; rintro e w12 ⟨B12, m12, d12, rfl, hn, hown, hb'⟩; have hb : Below w11.heap.size w11 w12 := below_of_drew hb'; have M12 := Lib.hid hn; have C12 := Lib.hid (hown.nodes); have S_12 := Lib.hid (S_11.out.step hb); have Bl_12 := Lib.hid (Bl_11.out.step hb); have BX0_12 := Lib.hid (BX0_11.out.step hb); have BX1_12 := Lib.hid (BX1_11.out.step hb); have V_12 := Lib.hid (V_11.out.step hb); have X0_12 := Lib.hid (X0_11.out.step hb); have XB0_12 := Lib.hid (XB0_11.out.step hb); have X1_12 := Lib.hid (X1_11.out.step hb); have XB1_12 := Lib.hid (XB1_11.out.step hb); have G_12 := Lib.hid (G_11.out.step hb); have q2 := XB0_12.out.it; have r2 := BX0_12.out.it; clear hn hown hb' hb)
    | (go_at_call 13; refine (laws_eqGraph B8 B12 m8 m12 d8 d12 gs0 gs0 _ w12.heap.size (Nat.le_refl _) M8.out M12.out X0_12.out.graph C12.out HG0.out HG0.out).mono ?_; rintro e w13 ⟨rfl, hb⟩; have S_13 := Lib.hid (S_12.out.step hb); have Bl_13 := Lib.hid (Bl_12.out.step hb); have BX0_13 := Lib.hid (BX0_12.out.step hb); have BX1_13 := Lib.hid (BX1_12.out.step hb); have V_13 := Lib.hid (V_12.out.step hb); have X0_13 := Lib.hid (X0_12.out.step hb); have XB0_13 := Lib.hid (XB0_12.out.step hb); have X1_13 := Lib.hid (X1_12.out.step hb); have XB1_13 := Lib.hid (XB1_12.out.step hb); have G_13 := Lib.hid (G_12.out.step hb)))
  all_goals
    clear hb q r q2 r2 hle M12 C12 S_12 Bl_12 BX0_12 BX1_12 V_12 X0_12 XB0_12 X1_12 XB1_12 G_12 S_11 Bl_11 BX0_11 BX1_11 V_11 X0_11 XB0_11 X1_11 XB1_11 G_11
    obtain ⟨q, qb, qbb⟩ := XB1_13.out.it
    obtain ⟨r, rb, rbb⟩ := BX1_13.out.it
    have hle := Bl_13.out.le
    go_wp2
    go_region_with (first
      | (go_at_call 11; refine (laws_toLazy A1 E1 K1 n1 c1 en1 ec1 kn1 kc1 st1 _ w.heap.size ?_ HN1.out HE1.out HK1.out ?_ HEG1.out).mono ?_; (exact hle); exact S_13.out.it.2; rintro e w14 ⟨B14, m14, d14, D14, em14, ed14, L14, lm14, ld14, rfl, hown, hb'⟩; have hb : Below w13.heap.size w13 w14 := below_of_drew hb'; have hn := hown.2.1; have M14 := Lib.hid hown.1; have EM14 := Lib.hid hown.2.1; have KM14 := Lib.hid hown.2.2.1; have C14 := Lib.hid hown.reads; have S_14 := Lib.hid (S_13.out.step hb); have Bl_14 := Lib.hid (Bl_13.out.step hb); have BX0_14 := Lib.hid (BX0_13.out.step hb); have BX1_14 := Lib.hid (BX1_13.out.step hb); have V_14 := Lib.hid (V_13.out.step hb); have X0_14 := Lib.hid (X0_13.out.step hb); have XB0_14 := Lib.hid (XB0_13.out.step hb); have X1_14 := Lib.hid (X1_13.out.step hb); have XB1_14 := Lib.hid (XB1_13.out.step hb); have G_14 := Lib.hid (G_13.out.step hb); obtain ⟨q2, q2b, q2bb⟩ := XB1_14.out.it; obtain ⟨r2, r2b, r2bb⟩ := BX1_14.out.it; clear hn hown hb' hb)
      | (go_at_call 14; refine (laws_eqLazy B9 D9 L9 B14 D14 L14 m9 d9 em9 ed9 lm9 ld9 m14 d14 em14 ed14 lm14 ld14  st1 st1 _ w14.heap.size (Nat.le_refl _) M9.out EM9.out KM9.out M14.out EM14.out KM14.out X1_14.out.lazy C14.out HEG1.out HEG1.out).mono ?_; rintro e w15 ⟨rfl, hb⟩; have S_15 := Lib.hid (S_14.out.step hb); have Bl_15 := Lib.hid (Bl_14.out.step hb); have BX0_15 := Lib.hid (BX0_14.out.step hb); have BX1_15 := Lib.hid (BX1_14.out.step hb); have V_15 := Lib.hid (V_14.out.step hb); have X0_15 := Lib.hid (X0_14.out.step hb); have XB0_15 := Lib.hid (XB0_14.out.step hb); have X1_15 := Lib.hid (X1_14.out.step hb); have XB1_15 := Lib.hid (XB1_14.out.step hb); have G_15 := Lib.hid (G_14.out.step hb)))
    all_goals
      clear hb q qb qbb r rb rbb q2 q2b q2bb r2 r2b r2bb hle M14 C14 EM14 KM14 S_14 Bl_14 BX0_14 BX1_14 V_14 X0_14 XB0_14 X1_14 XB1_14 G_14 S_13 Bl_13 BX0_13 BX1_13 V_13 X0_13 XB0_13 X1_13 XB1_13 G_13
      have q := XB0_15.out.it
      go_wp2_with fail
      refine (markw_graph _ _ _ _ _ gs0 1 _ X0_15.out HG0.out (by omega) (by omega)).mono ?_
      rintro e w16 ⟨k0, rfl, hk0a, hk0b, ht⟩
      have S_16 := Lib.hid (S_15.out.turn ht (by omega))
      clear S_15
      have Bl_16 := Lib.hid (Bl_15.out.turn ht (by omega))
      clear Bl_15
      have BX0_16 := Lib.hid (BX0_15.out.turn ht (by omega))
      clear BX0_15
      have BX1_16 := Lib.hid (BX1_15.out.turn ht (by omega))
      clear BX1_15
      have V_16 := Lib.hid (V_15.out.turn ht (by omega))
      clear V_15
      clear X0_15
      have XB0_16 := Lib.hid (XB0_15.out.turn ht (by omega))
      clear XB0_15
      have X1_16 := Lib.hid (X1_15.out.turn ht (by omega))
      clear X1_15
      have XB1_16 := Lib.hid (XB1_15.out.turn ht (by omega))
      clear XB1_15
      have G_16 := Lib.hid (G_15.out.turn ht (by omega))
      clear G_15
      clear ht q
      obtain ⟨q, qb, qbb⟩ := XB1_16.out.it
      go_wp2_with fail
      refine (markw_lazy _ _ _ _ _ _ _ _ _ _ _ st1 k0 _ X1_16.out HEG1.out (by omega) (by omega)).mono ?_
      rintro e w17 ⟨k1, rfl, hk1a, hk1b, ht⟩
      have S_17 := Lib.hid (S_16.out.turn ht (by omega))
      clear S_16
      have Bl_17 := Lib.hid (Bl_16.out.turn ht (by omega))
      clear Bl_16
      have BX0_17 := Lib.hid (BX0_16.out.turn ht (by omega))
      clear BX0_16
      have BX1_17 := Lib.hid (BX1_16.out.turn ht (by omega))
      clear BX1_16
      have V_17 := Lib.hid (V_16.out.turn ht (by omega))
      clear V_16
      have XB0_17 := Lib.hid (XB0_16.out.turn ht (by omega))
      clear XB0_16
      clear X1_16
      have XB1_17 := Lib.hid (XB1_16.out.turn ht (by omega))
      clear XB1_16
      have G_17 := Lib.hid (G_16.out.turn ht (by omega))
      clear G_16
      clear ht q qb qbb
      go_wp2_with fail
      refine (laws_eqIntS _ _ r0 r0 _ _ F0 F0 _ w17.heap.size (Nat.le_refl _) HL0.out HL0.out G_17.out.ints V_17.out.ints (by omega) (by omega)).mono ?_
      rintro e w18 ⟨rfl, hb⟩
      have S_18 := Lib.hid (S_17.out.step hb)
      clear S_17
      have Bl_18 := Lib.hid (Bl_17.out.step hb)
      clear Bl_17
      have BX0_18 := Lib.hid (BX0_17.out.step hb)
      clear BX0_17
      have BX1_18 := Lib.hid (BX1_17.out.step hb)
      clear BX1_17
      have V_18 := Lib.hid (V_17.out.step hb)
      clear V_17
      have XB0_18 := Lib.hid (XB0_17.out.step hb)
      clear XB0_17
      have XB1_18 := Lib.hid (XB1_17.out.step hb)
      clear XB1_17
      have G_18 := Lib.hid (G_17.out.step hb)
      clear G_17
      clear hb
      go_wp2_with fail
      refine (mark_ints _ _ r0 _ _ 1 _ G_18.out (by omega) (by omega) (by omega)).mono ?_
      rintro e w19 ⟨he, hg, ht⟩
      subst he
      have S_19 := Lib.hid (S_18.out.turn ht (by omega))
      clear S_18
      have Bl_19 := Lib.hid (Bl_18.out.turn ht (by omega))
      clear Bl_18
      have BX0_19 := Lib.hid (BX0_18.out.turn ht (by omega))
      clear BX0_18
      have BX1_19 := Lib.hid (BX1_18.out.turn ht (by omega))
      clear BX1_18
      have V_19 := Lib.hid (V_18.out.turn ht (by omega))
      clear V_18
      have XB0_19 := Lib.hid (XB0_18.out.turn ht (by omega))
      clear XB0_18
      have XB1_19 := Lib.hid (XB1_18.out.turn ht (by omega))
      clear XB1_18
      have G_19 := Lib.hid hg
      clear G_18
      clear ht hg
      go_wp2_with fail
      refine (held_ints _ _ r0 _ 1 _ G_19.out (by omega) (by omega) (by omega)).mono ?_
      rintro e w20 ⟨he, hb⟩
      subst he
      have S_20 := Lib.hid (S_19.out.step hb)
      clear S_19
      have Bl_20 := Lib.hid (Bl_19.out.step hb)
      clear Bl_19
      have BX0_20 := Lib.hid (BX0_19.out.step hb)
      clear BX0_19
      have BX1_20 := Lib.hid (BX1_19.out.step hb)
      clear BX1_19
      have V_20 := Lib.hid (V_19.out.step hb)
      clear V_19
      have XB0_20 := Lib.hid (XB0_19.out.step hb)
      clear XB0_19
      have XB1_20 := Lib.hid (XB1_19.out.step hb)
      clear XB1_19
      have G_20 := Lib.hid (G_19.out.step hb)
      clear G_19
      clear hb
      have hnn : ((1 : Int) + (r0 : Int) != 1 + (r0 : Int)) = false := by simp
      have z0_20 := BX0_20.out.it
      obtain ⟨z1_20, z1_20b, z1_20bb⟩ := BX1_20.out.it
      have hle20 := Bl_20.out.le
      go_wp2
      go_region_held3 (fun w' => w'.cell? ⟨w.heap.size, 0, none⟩ = some (.slice A0 n0 c0) ∧ w'.cell? ⟨w.heap.size + 1, 0, none⟩ = some (.slice A1 n1 c1) ∧ w'.cell? ⟨w.heap.size + 1, 1, none⟩ = some (.slice E1 en1 ec1) ∧ w'.cell? ⟨w.heap.size + 1, 2, none⟩ = some (.slice K1 kn1 kc1)) (first | exact ⟨z0_20, z1_20, z1_20b, z1_20bb⟩ | exact ⟨z0_21, z1_21, z1_21b, z1_21bb⟩ | exact ⟨z0_22, z1_22, z1_22b, z1_22bb⟩ | exact ⟨z0_23, z1_23, z1_23b, z1_23bb⟩ | go_keep)
        (first
          | (go_at_call 10; refine (laws_toGraph A0 n0 c0 gs0 _ w.heap.size ?_ HN0.out ?_ HG0.out).mono ?_; (exact hle20); exact S_20.out.it.1; rintro e w21 ⟨B21, m21, d21, rfl, hn, hown, hb'⟩; have hb21 : Below w20.heap.size w20 w21 := (by first | exact hb' | exact below_of_drew hb'); have M21 := Lib.hid hn; have NC21 := Lib.hid hown.ncap; have S_21 := Lib.hid (S_20.out.step hb21); have Bl_21 := Lib.hid (Bl_20.out.step hb21); have BX0_21 := Lib.hid (BX0_20.out.step hb21); have BX1_21 := Lib.hid (BX1_20.out.step hb21); have V_21 := Lib.hid (V_20.out.step hb21); have XB0_21 := Lib.hid (XB0_20.out.step hb21); have XB1_21 := Lib.hid (XB1_20.out.step hb21); have G_21 := Lib.hid (G_20.out.step hb21); have X0_21 := Lib.hid (graph_start hown); have z0_21 := BX0_21.out.it; obtain ⟨z1_21, z1_21b, z1_21bb⟩ := BX1_21.out.it; have hle21 := Bl_21.out.le; clear hown hb' hn)
          | (go_at_call 11; refine (laws_toLazy A1 E1 K1 n1 c1 en1 ec1 kn1 kc1 st1 _ w.heap.size ?_ HN1.out HE1.out HK1.out ?_ HEG1.out).mono ?_; (exact hle21); exact S_21.out.it.2; rintro e w22 ⟨B22, m22, d22, D22, em22, ed22, L22, lm22, ld22, rfl, hown, hb'⟩; have hn := hown.1; have hen := hown.2.1; have hkn := hown.2.2.1; have hb22 : Below w21.heap.size w21 w22 := (by first | exact hb' | exact below_of_drew hb'); have M22 := Lib.hid hn; have EM22 := Lib.hid hen; have KM22 := Lib.hid hkn; have S_22 := Lib.hid (S_21.out.step hb22); have Bl_22 := Lib.hid (Bl_21.out.step hb22); have BX0_22 := Lib.hid (BX0_21.out.step hb22); have BX1_22 := Lib.hid (BX1_21.out.step hb22); have V_22 := Lib.hid (V_21.out.step hb22); have XB0_22 := Lib.hid (XB0_21.out.step hb22); have XB1_22 := Lib.hid (XB1_21.out.step hb22); have G_22 := Lib.hid (G_21.out.step hb22); have X0_22 := Lib.hid (X0_21.out.step hb22); have X1_22 := Lib.hid (lazy_start hown); have z0_22 := BX0_22.out.it; obtain ⟨z1_22, z1_22b, z1_22bb⟩ := BX1_22.out.it; have hle22 := Bl_22.out.le; clear hown hb' hn hen hkn)
          | (go_at_call 27; refine (HIM.out B21 m21 d21 B22 m22 d22 D22 em22 ed22 L22 lm22 ld22 _ M21.out NC21.out X0_22.out.graph M22.out EM22.out KM22.out X1_22.out.lazy4).mono ?_; rintro e w23 ⟨v23, rfl, hown0, hb⟩; have z0_23 := (BX0_22.out.step hb).it; obtain ⟨z1_23, z1_23b, z1_23bb⟩ := (BX1_22.out.step hb).it))
      clear S_20 Bl_20 BX0_20 BX1_20 V_20 XB0_20 XB1_20 G_20 S_21 Bl_21 BX0_21 BX1_21 V_21 XB0_21 XB1_21 G_21 X0_21 hle20 hle21 hb21 hle22 hb22 z0_20 z1_20 z1_20b z1_20bb z0_21 z1_21 z1_21b z1_21bb z0_22 z1_22 z1_22b z1_22bb z0_23 z1_23 z1_23b z1_23bb
      clear X0_22
      clear X1_22
      have hown := hown0
      unfold OwnI at hown
      rw [← HL0.out] at hown
      obtain ⟨B23, d23, rfl⟩ := own_form hown
      have Z := Lib.hid (IS.of_own hown)
      have S_23 := Lib.hid (S_22.out.step hb)
      clear S_22
      have Bl_23 := Lib.hid (Bl_22.out.step hb)
      clear Bl_22
      have BX0_23 := Lib.hid (BX0_22.out.step hb)
      clear BX0_22
      have BX1_23 := Lib.hid (BX1_22.out.step hb)
      clear BX1_22
      have V_23 := Lib.hid (V_22.out.step hb)
      clear V_22
      have XB0_23 := Lib.hid (XB0_22.out.step hb)
      clear XB0_22
      have XB1_23 := Lib.hid (XB1_22.out.step hb)
      clear XB1_22
      have G_23 := Lib.hid (G_22.out.step hb)
      clear G_22
      clear hown hown0 hb
      go_wp2_with fail
      refine (laws_eqIntS _ _ r0 r0 _ _ F0 F0 _ w23.heap.size (Nat.le_refl _) HL0.out HL0.out Z.out V_23.out.ints (by omega) (by omega)).mono ?_
      rintro e w24 ⟨rfl, hb⟩
      have S_24 := Lib.hid (S_23.out.step hb)
      clear S_23
      have Bl_24 := Lib.hid (Bl_23.out.step hb)
      clear Bl_23
      have BX0_24 := Lib.hid (BX0_23.out.step hb)
      clear BX0_23
      have BX1_24 := Lib.hid (BX1_23.out.step hb)
      clear BX1_23
      have V_24 := Lib.hid (V_23.out.step hb)
      clear V_23
      have XB0_24 := Lib.hid (XB0_23.out.step hb)
      clear XB0_23
      have XB1_24 := Lib.hid (XB1_23.out.step hb)
      clear XB1_23
      have G_24 := Lib.hid (G_23.out.step hb)
      clear G_23
      clear hb Z
      go_wp2_with fail
      refine (held_ints _ _ r0 _ 1 _ G_24.out (by omega) (by omega) (by omega)).mono ?_
      rintro e w25 ⟨he, hb⟩
      subst he
      have S_25 := Lib.hid (S_24.out.step hb)
      clear S_24
      have Bl_25 := Lib.hid (Bl_24.out.step hb)
      clear Bl_24
      have BX0_25 := Lib.hid (BX0_24.out.step hb)
      clear BX0_24
      have BX1_25 := Lib.hid (BX1_24.out.step hb)
      clear BX1_24
      have V_25 := Lib.hid (V_24.out.step hb)
      clear V_24
      have XB0_25 := Lib.hid (XB0_24.out.step hb)
      clear XB0_24
      have XB1_25 := Lib.hid (XB1_24.out.step hb)
      clear XB1_24
      have G_25 := Lib.hid (G_24.out.step hb)
      clear G_24
      clear hb
      go_wp2
      go_ret
      exact ⟨rfl, Bl_25.out⟩
end Go.Proofs.Ythnilpibpmlaeaa


namespace Go.Proofs.Ythnilpibpmlaeaa
set_option linter.unusedSimpArgs false
set_option linter.unusedVariables false
open Go.ChangeShapes Go.WideShapes Go.ChangeAt Go.RowKit

set_option maxRecDepth 100000 in
theorem lifted_LazyCells (os : Os) (started : os.Started) (H : Type) (enc : TypeId × Value → H) :
    ReturnsInHanded {} Try.checked os 6 .any (Rows.fnExactLazyCellsSpec.pre6 enc Try.prog Try.f6 Rows.fnExactLazyCellsRow.domain false) (Rows.fnExactLazyCellsSpec.post enc Try.prog Try.f6 false true false false) := by
  refine returnsInHanded_of_change (C := Try.checked) own started (by kernel_rfl) Try.func6
    (ChangeSpec.witness6 (enc := enc) (C := Try.checked) false ⟨#[], #[.agg #[.slice none 0 0], .agg #[.slice none 0 0, .slice none 0 0, .slice none 0 0]], []⟩ 8 (by kernel_rfl) (by kernel_rfl) (by kernel_rfl) (by kernel_rfl)) ?_
  intro W base args ds gs before hval0 hW hcnd _
  have hval : ∀ (j : Nat) t v, Try.f6.params[j]? = some t → args[j]? = some v → Value.okWide Try.prog W .any base t v := hval0
  have hW' := hW
  obtain ⟨p, q, hA0, hV, rfl, hfz, hnd⟩ := hW
  have hA : DataW.TrodAll enc Try.prog W 0 (fun _ => true) true Try.f6.params.toList args.toList ds p := hA0
  rw [Try.params6] at hA hval
  obtain ⟨v0, vs0, d0, ds0, p0, q0, hargs, rfl, rfl, h0, r0⟩ := trodAll_cons hA
  obtain ⟨v1, vs1, d1, ds1, p1, q1, rfl, rfl, rfl, h1, r1⟩ := trodAll_cons r0
  obtain ⟨rfl, rfl, rfl⟩ := trodAll_nil r1
  obtain rfl : args = #[v0, v1] := by cases args; simp_all
  obtain ⟨rfl, rfl⟩ := trodVars_none hV
  have k0 := h0
  have lt0 : ∀ x ∈ p0, x.block < W.heap.size := by obtain ⟨m, hm⟩ := k0; exact DataW.trod_lt m _ _ _ hm
  have k1 := h1
  have lt1 : ∀ x ∈ p1, x.block < W.heap.size := by obtain ⟨m, hm⟩ := k1; exact DataW.trod_lt m _ _ _ hm
  obtain ⟨A0, n0, c0, gs0, rfl, hn0, hm0, hp0, hd0⟩ := open_graph (hval 0 24 v0 rfl rfl) h0
  obtain ⟨A1, n1, c1, E1, en1, ec1, K1, kn1, kc1, st1, rfl, hn1, he1, hk1, hm1, hem1, hkm1, hp1, hd1⟩ := open_lazy (fun _ => rfl) (hval 1 28 v1 rfl rfl) h1
  clear hA0 hval0
  refine (law_LazyCells A0 n0 c0 gs0 A1 n1 c1 E1 en1 ec1 K1 kn1 kc1 st1 W hn0 hd0 hm0 hp0 hn1 he1 hk1 hd1 hm1 hem1 hkm1 hp1).mono fun e W' ⟨he, bel⟩ => ?_
  subst he
  exact ⟨_, rfl, _, _, _, [], _, [], hW', trodAll_mk1 (shut_bool Try.underlying4 _), (trodAll_cons_mk (Below.trod laidOut (by kernel_rfl) (of_decide_eq_true (by kernel_rfl)) k0 bel lt0) (trodAll_cons_mk (Below.trod laidOut (by kernel_rfl) (of_decide_eq_true (by kernel_rfl)) k1 bel lt1) trodAll_mk0)), rfl, bel.frame _, fun h => by cases h⟩

theorem proved_LazyCells : Rows.FnExactLazyCellsSaid :=
  OpenClaim.holds_of_wide 6 Try.f6 rfl rfl rfl rfl rfl rfl rfl ⟨rfl, rfl, rfl, rfl, rfl⟩ rfl rfl rfl rfl rfl (by kernel_rfl) Try.func6 (by kernel_rfl)
    (of_decide_eq_true (by kernel_rfl)) (by unfold Func.isWrapper; first | (rw [if_pos (by decide +kernel)]; kernel_rfl) | (rw [if_neg (by decide +kernel)]; exact ⟨rfl, rfl⟩))
    (fun os started H enc _ => lifted_LazyCells os started H enc)
#print axioms proved_LazyCells
end Go.Proofs.Ythnilpibpmlaeaa
