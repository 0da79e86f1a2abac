/- Texts put together: A17 G5 G6 G8 G2 G3 G4. -/
import Derived.Test.YthnilpibpmlaeaaZ03
import Derived.Maps.AppendAt
import Derived.BigQuiet
import Derived.StillTailTactics
/- MayRead and ReadsOf: both sides; ReadsWhole. -/
namespace Go.Proofs.Ythnilpibpmlaeaa
set_option linter.unusedSimpArgs false
set_option linter.unusedVariables false
open Go.RowKit

/-- What MayRead answers. -/
def mayF (ps : List Pt) : List Int := if validF ps then mayR ps else []

/-- Ten marks: which nodes the first parts have. -/
def Mrk10 (w : World) (g : Nat) (ps : List Pt) : Prop :=
  g < w.heap.size ∧ ∀ t : Nat, t < 10 → w.cell? ⟨g, t, none⟩ = some (.bool (hasNode ps t)) ∧ w.frozen? ⟨g, t, none⟩ = false

theorem Mrk10.below {w w' : World} {g : Nat} {ps : List Pt} (h : Mrk10 w g ps) (hb : Below w.heap.size w w') : Mrk10 w' g ps :=
  ⟨Nat.lt_of_lt_of_le h.1 hb.size, fun t ht => ⟨(hb.cell (p := ⟨g, t, none⟩) h.1).trans (h.2 t ht).1, (hb.frozen (p := ⟨g, t, none⟩) h.1).trans (h.2 t ht).2⟩⟩

theorem hasNode_append (ps : List Pt) (p : Pt) (t : Nat) : hasNode (ps ++ [p]) t = (hasNode ps t || (p.k == 1 && p.n == (t : Int))) := by
  simp [hasNode, List.any_append]

theorem Mrk10.keep {w : World} {g : Nat} {ps : List Pt} {p : Pt} (h : Mrk10 w g ps) (hp : (p.k == 1) = false) : Mrk10 w g (ps ++ [p]) :=
  ⟨h.1, fun t ht => by rw [hasNode_append, hp]; simpa using h.2 t ht⟩

theorem Mrk10.set {w : World} {g : Nat} {ps : List Pt} {p : Pt} (h : Mrk10 w g ps) (q : Nat) (hq : q < 10) (hk : (p.k == 1) = true) (hn : p.n = (q : Int)) : Mrk10 (w.setCell ⟨g, q, none⟩ (.bool true)) g (ps ++ [p]) := by
  refine ⟨by simpa [World.setCell] using h.1, fun j hj => ?_⟩
  obtain ⟨h1, h2⟩ := h.2 j hj
  rw [hasNode_append, hk, hn]
  by_cases e : j = q
  · subst e
    refine ⟨?_, by simpa using h2⟩
    rw [World.cell?_setCell_same _ _ _ h1]; simp
  · refine ⟨?_, by simpa using h2⟩
    rw [World.cell?_setCell_other _ _ _ _ (by intro e'; simp at e'; try omega), h1]
    have : ((q : Int) == (j : Int)) = false := by simp; omega
    simp [this]

theorem mayR_below (ps : List Pt) : (((List.range 10).filter (hasNode ps)).map fun m : Nat => (m : Int)) = mayR ps := rfl

set_option maxRecDepth 100000 in
set_option maxHeartbeats 1600000 in
theorem impl_MayRead (A : Option Addr) (n c : Nat) (ps : List Pt) (w : World) (B : Nat) (hB : B ≤ w.heap.size) (hn : n = ps.length) (h : PS w B A ps) (hs : n ≤ 1999999) :
    Calls Try.prog 59 #[.agg #[.slice A n c]] w fun e w' => RetI w (mayF ps) e w' := by
  obtain ⟨i0, hi, hz0, hz1, hz2⟩ := info_parts info_int
  have H := Lib.hid h
  have HN := Lib.hid hn
  clear h hn
  cases hv : validF ps
  · have hd : mayF ps = [] := by simp [mayF, hv]
    rw [hd]
    have HV := Lib.hid hv
    clear hd hv
    go_enter Try.func59, Try.ntmps59
    go_wp2_with fail
    refine (impl_ValidFormula _ _ _ ps _ B (by simp; omega) HN.out (H.out.alloc hB _) (by omega)).mono ?_
    rintro e w1 ⟨rfl, hb⟩
    rw [HV.out]
    go_wp2
    go_ret
    exact ⟨_, rfl, World.ownsRow_nil _ _ _ _, ((Below.refl _ _).alloc (Nat.le_refl _) _).trans (hb.mono (by simp))⟩
  · have hd : mayF ps = mayR ps := by simp [mayF, hv]
    rw [hd]
    obtain ⟨hg, h1, h12⟩ := validF_good ps hv
    have HV := Lib.hid hv
    have HG := Lib.hid hg
    clear hd hv hg h1 h12
    go_enter Try.func59, Try.ntmps59
    go_wp2_with fail
    refine (impl_ValidFormula _ _ _ ps _ B (by simp; omega) HN.out (H.out.alloc hB _) (by omega)).mono ?_
    rintro e w1 ⟨rfl, hb⟩
    rw [HV.out]
    have hbox : w1.cell? ⟨w.heap.size, 0, none⟩ = some (.slice A n c) := (hb.cell (p := ⟨w.heap.size, 0, none⟩) (by simp)).trans (by go_simp)
    have HW := Lib.hid ((H.out.alloc hB _).below hb (by simp; omega))
    have hw1 : w.heap.size + 1 ≤ w1.heap.size := by have := hb.size; simpa using this
    have hB1 : Below w.heap.size w w1 := ((Below.refl _ _).alloc (Nat.le_refl _) _).trans (hb.mono (by simp))
    have hws : w.heap.size < w1.heap.size := by omega
    clear hb H
    go_wp2
    go_loopw [14] (fun i wr => ∃ k : Nat, k ≤ n ∧ i = .int .i64 k ∧ Hid (Mrk10 wr w1.heap.size (ps.take k)) ∧ Hid (Below w1.heap.size w1 wr)) (fun i _ => n - (intOf i).toNat)
    case atStart =>
      refine ⟨0, Nat.zero_le _, rfl, ⟨by simp, fun t ht => ?_⟩, below_new w1 _⟩
      have ht' : t = 0 ∨ t = 1 ∨ t = 2 ∨ t = 3 ∨ t = 4 ∨ t = 5 ∨ t = 6 ∨ t = 7 ∨ t = 8 ∨ t = 9 := by omega
      rcases ht' with rfl | rfl | rfl | rfl | rfl | rfl | rfl | rfl | rfl | rfl <;> exact ⟨by go_simp; rfl, by go_simp⟩
    case round =>
      obtain ⟨k, hk, rfl, HM, HB⟩ := hrel
      have hwr : w1.heap.size < wr.heap.size := HM.out.1
      by_cases hlt : k < n
      · obtain ⟨b, off, rfl, hbB, hc⟩ := HW.out (by have := HN.out; omega)
        obtain ⟨c0, c1, c2, c3, c4⟩ := hc k (by have := HN.out; omega)
        clear hc
        have hbw : b < w1.heap.size := by omega
        have b0 := (HB.out.cell (p := ⟨b, off + k * 5, none⟩) hbw).trans c0
        have b1 := (HB.out.cell (p := ⟨b, off + k * 5 + 1, none⟩) hbw).trans c1
        have b2 := (HB.out.cell (p := ⟨b, off + k * 5 + 2, none⟩) hbw).trans c2
        have b3 := (HB.out.cell (p := ⟨b, off + k * 5 + 3, none⟩) hbw).trans c3
        have b4 := (HB.out.cell (p := ⟨b, off + k * 5 + 4, none⟩) hbw).trans c4
        clear c0 c1 c2 c3 c4
        have hgk := HG.out k (by have := HN.out; omega)
        have HTS := Lib.hid (take_succ_getD ps k (by have := HN.out; omega))
        generalize ps.getD k default = p at *
        cases h1 : (p.k == 1)
        · have H1 := Lib.hid h1
          go_wp2
          go_roundw
          case rel => exact ⟨k + 1, by omega, by go_num, by rw [HTS.out]; exact (HM.out.below (below_new wr _)).keep H1.out, HB.out.alloc (by omega) _⟩
          case measure => simp [intOf]; omega
        · obtain ⟨q, hq⟩ : ∃ q : Nat, p.n = (q : Int) := by
            have := (good_num p k hgk).2 (by simpa using h1)
            exact ⟨p.n.toNat, by omega⟩
          have hq10 : q < 10 := by
            have := (good_num p k hgk).2 (by simpa using h1)
            omega
          have HMa := Lib.hid (HM.out.below (below_new wr (.cells #[.int .i64 p.k, .int .i64 p.a, .int .i64 p.b, .int .i64 p.c, .int .i64 p.n] 94)))
          rw [hq] at b4 HMa
          obtain ⟨hm1, hm2⟩ := HMa.out.2 q hq10
          have H1 := Lib.hid h1
          have HQ := Lib.hid hq
          clear hgk hq
          go_wp2
          go_roundw
          case rel => exact ⟨k + 1, by omega, by go_num, by rw [HTS.out]; exact (HM.out.set q hq10 H1.out HQ.out).below (below_new _ _), (HB.out.setCell (p := ⟨w1.heap.size, q, none⟩) (Nat.le_refl _) _).alloc (by simp [World.setCell]; omega) _⟩
          case measure => simp [intOf]; omega
      · obtain rfl : k = n := by omega
        rw [List.take_of_length_le (by have := HN.out; omega)] at HM
        clear hlt hk
        go_wp2
        go_loopw [6, 25] (fun v i wi => ∃ m : Nat, m ≤ 10 ∧ i = .int .i64 m ∧ Hid (OwnI wi (w1.heap.size + 1) v (((List.range m).filter (hasNode ps)).map fun m : Nat => (m : Int))) ∧ Hid (Below (w1.heap.size + 1) wr wi)) (fun _ i _ => 10 - (intOf i).toNat)
        case atStart => exact ⟨0, by omega, rfl, World.ownsRow_nil _ _ _ _, Below.refl _ _⟩
        case round =>
          obtain ⟨m, hm, rfl, HO, HBi⟩ := hrel
          by_cases hm10 : m < 10
          · have hc := (HBi.out.cell (p := ⟨w1.heap.size, m, none⟩) (by simp)).trans (HM.out.2 m hm10).1
            have HST := Lib.hid (mayR_step ps m)
            have hml := mayR_len ps m
            generalize hF : (((List.range m).filter (hasNode ps)).map fun m : Nat => (m : Int)) = F at *
            clear hF
            cases hh : hasNode ps m
            · rw [hh] at hc
              have HH := Lib.hid hh
              clear hh
              go_wp2
              go_roundw
              case rel => exact ⟨m + 1, by omega, by go_num, by rw [HST.out, HH.out]; simpa [Hid] using HO.out, HBi.out⟩
              case measure => simp [intOf]; omega
            · rw [hh] at hc
              have HH := Lib.hid hh
              clear hh
              obtain ⟨wi, hwi⟩ : ∃ wi : World, wi = wr := ⟨_, rfl⟩
              have hsz : w1.heap.size + 1 ≤ wi.heap.size := by have := HBi.out.size; rw [hwi]; omega
              rw [hwi] at hsz
              clear hwi
              go_wp2_with (at_builtin; refine wpList_append_own _ rfl _ _ 25 rfl (w1.heap.size + 1) 3 i0 (.int .i64 0) 1 8 Try.underlying25 hi hz0 hz1 hz2 rfl (by decide) _ _ _ rfl (HO.out.alloc _) ⟨_, 0, none⟩ 1 1 [.int .i64 m] rfl rfl (cell_one_new _ _ _) ?c2 ?c3 ?c4 ?c5 ?_)
              case c2 => intro u hu; simp at hu; subst hu; rfl
              case c3 => unfold maxLen; omega
              case c4 => omega
              case c5 => simp; omega
              intro v' w3 hown' hgrow _
              have hpos := (HO.out.alloc (.cells #[.int .i64 m] 3)).lt
              have HO' : Hid (OwnI w3 (w1.heap.size + 1) v' (((List.range (m + 1)).filter (hasNode ps)).map fun m : Nat => (m : Int))) := by
                rw [HST.out, HH.out]
                simpa [OwnI, Hid] using hown'
              have HB' := Lib.hid ((HBi.out.alloc hsz (.cells #[.int .i64 m] 3)).grown hgrow (by simp; omega) (fun q hq => (hpos q hq).1))
              clear hown' hgrow hpos
              go_wp2
              go_roundw
              case rel => exact ⟨m + 1, by omega, by go_num, HO'.out, HB'.out⟩
              case measure => simp [intOf]; omega
          · obtain rfl : m = 10 := by omega
            rw [mayR_below] at HO
            go_wp2
            go_ret
            exact ⟨_, rfl, own_mono HO.out (by omega), hB1.trans ((HB.out.trans (HBi.out.mono (by omega))).mono (by omega))⟩

set_option maxHeartbeats 400000 in
theorem slices_Index (A : Option Addr) (n c : Nat) (xs : List Int) (x : Int) (w : World) (B : Nat) (hB : B ≤ w.heap.size) (hn : n = xs.length) (h : IS w B A xs) (hs : n ≤ 2000000) :
    Calls Try.prog 89 #[.slice A n c, .int .i64 x] w fun e w' => e = .returned (.int .i64 (plc xs x)) ∧ w = w' := by
  have H := Lib.hid h
  have HN := Lib.hid hn
  clear hn h
  go_enter Try.func89, Try.ntmps89
  go_wp2
  go_loop [8] (fun i => ∃ k : Nat, k ≤ n ∧ i = .int .i64 k ∧ Hid (∀ j, j < k → xs.getD j 0 ≠ x)) (fun i => n - (intOf i).toNat)
  case atStart => exact ⟨0, Nat.zero_le _, rfl, fun j hj => by omega⟩
  case round =>
    obtain ⟨k, hk, rfl, HA⟩ := hrel
    by_cases hlt : k < n
    · obtain ⟨b, off, rfl, hbB, hc⟩ := H.out (by have := HN.out; omega)
      have c0 := hc k (by have := HN.out; omega)
      clear hc H
      generalize hp : xs.getD k 0 = p at *
      have HP := Lib.hid hp
      clear hp
      cases hr : (x == p)
      · have HR := Lib.hid hr
        go_wp2
        go_round
        case rel => exact ⟨k + 1, by omega, by go_num, fun j hj => by
          rcases Nat.lt_or_ge j k with h1 | h1
          · exact HA.out j h1
          · obtain rfl : j = k := by omega
            rw [HP.out]; intro e; have := HR.out; rw [e] at this; simp at this⟩
        case measure => simp [intOf]; omega
      · have HR := Lib.hid hr
        go_wp2
        go_ret
        refine ⟨ret_i ?_, rfl⟩
        exact (plc_at xs x k (by have := HN.out; omega) (by rw [HP.out]; have := HR.out; simp at this; exact this.symm) HA.out).symm
    · go_wp2
      go_ret
      refine ⟨ret_i ?_, rfl⟩
      exact (plc_none xs x fun j hj => HA.out j (by have := HN.out; omega)).symm

theorem plc_ge (l : List Int) (x : Int) : decide (0 ≤ plc l x) = decide (x ∈ l) := by
  unfold plc
  by_cases h : x ∈ l
  · simp [h]
  · simp [h]

set_option maxHeartbeats 400000 in
theorem slices_Contains (A : Option Addr) (n c : Nat) (xs : List Int) (x : Int) (w : World) (B : Nat) (hB : B ≤ w.heap.size) (hn : n = xs.length) (h : IS w B A xs) (hs : n ≤ 2000000) :
    Calls Try.prog 77 #[.slice A n c, .int .i64 x] w fun e w' => e = .returned (.bool (decide (x ∈ xs))) ∧ w = w' := by
  have H := Lib.hid h
  have HN := Lib.hid hn
  have HP := Lib.hid (plc_ge xs x)
  clear hn h
  go_enter Try.func77, Try.ntmps77
  go_wp2_with fail
  refine (slices_Index A n c xs x _ B hB HN.out H.out hs).mono ?_
  rintro e w' ⟨rfl, rfl⟩
  go_wp2
  all_goals
    go_ret
    exact ⟨ret_b (by rw [← HP.out]; try simp), rfl⟩

/-- The footprint of the closure of ReadsOf: the variable's block, and the row that it holds. -/
def footR (g : Nat) (w : World) (k : Nat) : Prop := k = g ∨ ∃ v, w.cell? ⟨g, 0, none⟩ = some v ∧ v.ownBlock = some k

/-- What the closure of ReadsOf keeps: the variable holds the first ones of what was read; all below it is as it was. -/
structure IR (g : Nat) (W : World) (acc : List Int) (w : World) : Prop where
  bel : Below g W w
  lt : g < w.heap.size
  free : w.frozen? ⟨g, 0, none⟩ = false
  cell : ∃ v, w.cell? ⟨g, 0, none⟩ = some v ∧ OwnI w (g + 1) v (firsts acc)

theorem IR.step {g : Nat} {W w w' : World} {acc : List Int} (h : IR g W acc w) (hb : Below w.heap.size w w') : IR g W acc w' := by
  obtain ⟨v, hv, ho⟩ := h.cell
  exact ⟨h.bel.trans (hb.mono (Nat.le_of_lt h.lt)), Nat.lt_of_lt_of_le h.lt hb.size, (hb.frozen (p := ⟨g, 0, none⟩) h.lt).trans h.free, v, (hb.cell (p := ⟨g, 0, none⟩) h.lt).trans hv, own_below ho hb⟩

theorem IR.foot_lt {g : Nat} {W w : World} {acc : List Int} (h : IR g W acc w) (k : Nat) (hf : footR g w k) : k < w.heap.size := by
  rcases hf with rfl | ⟨v, hv, hk⟩
  · exact h.lt
  · obtain ⟨v', hv', ho⟩ := h.cell
    rw [hv] at hv'
    cases hv'
    exact (ho.lt k hk).2

theorem IR.foot_step {g : Nat} {W w w' : World} {acc : List Int} (h : IR g W acc w) (hb : Below w.heap.size w w') (k : Nat) (hf : footR g w' k) : footR g w k := by
  rcases hf with rfl | ⟨v, hv, hk⟩
  · exact .inl rfl
  · exact .inr ⟨v, by rw [← hb.cell (p := ⟨g, 0, none⟩) h.lt]; exact hv, hk⟩

theorem firsts_snoc (acc : List Int) (x : Int) : firsts (acc ++ [x]) = if x ∈ firsts acc then firsts acc else firsts acc ++ [x] := by
  unfold firsts
  rw [List.foldl_append]
  rfl

set_option maxRecDepth 100000 in
set_option maxHeartbeats 1600000 in
theorem look_read (A' : Option Addr) (m c' g gv q : Nat) (vs acc : List Int) (W w : World) (B : Nat) (hm : m = vs.length) (hs' : m ≤ 2000000) (hq : q < vs.length) (hgv : gv < g) (hBg : B ≤ g) (hc : W.cell? ⟨gv, 0, none⟩ = some (.slice A' m c')) (h : IS W B A' vs) (hI : IR g W acc w) (hac : (firsts acc).length ≤ 1000000) :
    Calls Try.prog 99 #[.int .i64 q, .pointer (some ⟨g, 0, none⟩), .pointer (some ⟨gv, 0, none⟩)] w fun e w' => e = .returned (.int .i64 (vs.getD q 0)) ∧ IR g W (acc ++ [(q : Int)]) w' ∧ Fr (footR g) w w' := by
  obtain ⟨i0, hi, hz0, hz1, hz2⟩ := info_parts info_int
  obtain ⟨b, off, rfl, hb, hcc⟩ := h (by omega)
  have hx := (hI.bel.cell (p := ⟨b, off + q, none⟩) (by show b < g; omega)).trans (hcc q hq)
  have hcv := (hI.bel.cell (p := ⟨gv, 0, none⟩) hgv).trans hc
  have hqm : q < m := by omega
  generalize vs.getD q 0 = x at *
  obtain ⟨v, hv, ho⟩ := hI.cell
  obtain ⟨A3, c3, rfl, hIS⟩ := ho.form
  have hgw := hI.lt
  have hfz := hI.free
  have HII := Lib.hid hI
  have HO := Lib.hid ho
  have HIS := Lib.hid hIS
  have hFS := firsts_snoc acc q
  clear hcc h hm hq hc hI ho hIS
  generalize hF : firsts acc = F at *
  have HF := Lib.hid hF
  have HFS := Lib.hid hFS
  clear hF hFS
  generalize hl : F.length = l at *
  have HL := Lib.hid hl
  clear hl
  cases hin : decide ((q : Int) ∈ F)
  · have HIN := Lib.hid hin
    clear hin
    go_enter Try.func99, Try.ntmps99
    go_wp2_with fail
    refine (slices_Contains A3 l c3 F q _ _ (Nat.le_refl _) HL.out.symm HIS.out (by omega)).mono ?_
    rintro e w' ⟨rfl, rfl⟩
    rw [HIN.out]
    go_wp2_with (at_builtin; refine wpList_append_own_at _ rfl _ _ 25 rfl (g + 1) 3 i0 (.int .i64 0) 1 8 Try.underlying25 hi hz0 hz1 hz2 rfl (by decide) _ _ _ rfl (by have := HO.out.alloc (.cells #[.int .i64 q] 3); rw [HL.out] at this; exact this) ⟨w.heap.size, 0, none⟩ 1 1 [.int .i64 q] rfl rfl (cell_one_new _ _ _) ?c2 ?c3 ?c4 ?c5 ?_)
    case c2 => intro u hu; simp at hu; subst hu; rfl
    case c3 => unfold maxLen; omega
    case c4 => omega
    case c5 => simp; omega
    intro v' w3 hown' hgrow _ hwhere
    have hol := HO.out.lt
    obtain ⟨A4, c4, rfl⟩ := own_form hown'
    have hng : ∀ j, j ≤ g → some j ≠ (Value.slice A3 l c3).ownBlock := fun j hj e => by have := (hol j e.symm).1; omega
    have hga : ∀ j, j ≤ g → (w.alloc (.cells #[.int .i64 q] 3)).heap[j]? = w.heap[j]? := fun j hj => Below.heap_alloc w _ j (by omega)
    have hw3 : ∀ j, j ≤ g → w3.heap[j]? = w.heap[j]? := fun j hj => (hgrow.block j (by simp; omega) (hng j hj)).trans (hga j hj)
    have hv3 : w3.cell? ⟨g, 0, none⟩ = some (.slice A3 l c3) := (World.cell?_of_block (a := ⟨g, 0, none⟩) (hw3 g (Nat.le_refl _))).trans hv
    have hf3 : w3.frozen? ⟨g, 0, none⟩ = false := (World.frozen?_of_block (a := ⟨g, 0, none⟩) (hw3 g (Nat.le_refl _))).trans hfz
    have hcv3 : w3.cell? ⟨gv, 0, none⟩ = some (.slice (some ⟨b, off, none⟩) m c') := (World.cell?_of_block (a := ⟨gv, 0, none⟩) (hw3 gv (Nat.le_of_lt hgv))).trans hcv
    have hx3 : w3.cell? ⟨b, off + q, none⟩ = some (.int .i64 x) := (World.cell?_of_block (a := ⟨b, off + q, none⟩) (hw3 b (by omega))).trans hx
    have hbg : b ≠ g := by omega
    have hgvg : gv ≠ g := by omega
    have hcv4 := (World.cell?_setCell_other (w := w3) (a := ⟨g, 0, none⟩) (b := ⟨gv, 0, none⟩) (.slice A4 (l + 1) c4) (by intro e; simp at e; try omega)).trans hcv3
    have hx4 := (World.cell?_setCell_other (w := w3) (a := ⟨g, 0, none⟩) (b := ⟨b, off + q, none⟩) (.slice A4 (l + 1) c4) (by intro e; simp at e; try omega)).trans hx3
    have HG := Lib.hid hgrow
    have HOW := Lib.hid hown'
    have HWH := Lib.hid hwhere
    have HW3 := Lib.hid hw3
    have HOL := Lib.hid hol
    have HNG := Lib.hid hng
    clear hgrow hown' hwhere hw3 hol hng hga hcv hx hfz
    go_wp2
    go_ret
    have hnin : ¬ (q : Int) ∈ F := of_decide_eq_false HIN.out
    have hsz : w.heap.size + 1 ≤ w3.heap.size := by have := HG.out.size; simpa using this
    refine ⟨rfl, ⟨?_, by simp [World.setCell]; omega, by simpa using hf3, .slice A4 (l + 1) c4, World.cell?_setCell_same _ _ _ hv3, ?_⟩, ⟨by simp [World.setCell]; omega, ?_, ?_⟩⟩
    · exact ((HII.out.bel.alloc (Nat.le_of_lt hgw) _).grown HG.out (by simp; omega) (fun k hk => by have := (HOL.out k hk).1; omega)).setCell (p := ⟨g, 0, none⟩) (Nat.le_refl _) _
    · rw [HFS.out, if_neg hnin]
      refine ownsRow_setCell_below ?_ (by simp) _
      have h1 := HOW.out
      rw [List.length_append, List.map_append, HL.out]
      exact h1
    · intro k hk hn
      have hkg : k ≠ g := fun e => hn (.inl e)
      have hko : some k ≠ (Value.slice A3 l c3).ownBlock := fun e => hn (.inr ⟨_, ‹w.cell? ⟨g, 0, none⟩ = some (.slice A3 l c3)›, e.symm⟩)
      rw [Below.heap_setCell _ _ _ _ hkg, HG.out.block k (by simp; omega) hko, Below.heap_alloc _ _ _ hk]
    · intro k hk
      rcases hk with rfl | ⟨v2, hv2, hk2⟩
      · exact .inl (.inl rfl)
      · rw [World.cell?_setCell_same _ _ _ hv3] at hv2
        cases hv2
        rcases HWH.out with h1 | h1
        · exact .inl (.inr ⟨_, ‹w.cell? ⟨g, 0, none⟩ = some (.slice A3 l c3)›, h1.symm.trans hk2⟩)
        · rw [h1] at hk2
          simp at hk2
          right; omega
  · have HIN := Lib.hid hin
    clear hin
    go_enter Try.func99, Try.ntmps99
    go_wp2_with fail
    refine (slices_Contains A3 l c3 F q _ _ (Nat.le_refl _) HL.out.symm HIS.out (by omega)).mono ?_
    rintro e w' ⟨rfl, rfl⟩
    rw [HIN.out]
    go_wp2
    go_ret
    refine ⟨rfl, ?_, Fr.of_below (Below.refl _ _) fun k hf => hf⟩
    have hmem : (q : Int) ∈ F := of_decide_eq_true HIN.out
    refine ⟨HII.out.bel, HII.out.lt, HII.out.free, ?_⟩
    rw [HFS.out, if_pos hmem, ← HF.out]
    exact HII.out.cell
end Go.Proofs.Ythnilpibpmlaeaa

/- The contracts of both ValidGraph. -/
namespace Go.Proofs.Ythnilpibpmlaeaa
set_option linter.unusedSimpArgs false
set_option linter.unusedVariables false
open Go.RowKit

theorem GS.at_ {w : World} {B : Nat} {A : Option Addr} {gs : List Nd} (h : GS w B A gs) (j : Nat) (hj : j < gs.length) : ∃ b off, A = some ⟨b, off, none⟩ ∧ b < B ∧ NdS w B b (off + j * 2) (gs.getD j default) := by
  obtain ⟨b, off, e, hb, hc⟩ := h (by omega)
  exact ⟨b, off, e, hb, hc j hj⟩

theorem drewN_below {B n : Nat} {a w : World} (h : Below B a w) : Below B a (w.drewN n) := ⟨h.os, h.tape, h.output, h.size, h.block⟩

set_option maxRecDepth 100000 in
set_option maxHeartbeats 1600000 in
theorem spec_goodReads (A : Option Addr) (n c : Nat) (gs : List Nd) (i : Nat) (w : World) (B : Nat) (hB : B ≤ w.heap.size) (hn : n = gs.length) (h : GS w B A gs) (hs : GB gs) (hi : i < n) :
    Calls Try.prog 62 #[.agg #[.slice A n c], .int .i64 i] w fun e w' => e = .returned (.bool (goodRd gs i)) ∧ Below w.heap.size w w' := by
  have hn1 : n ≤ 1048576 := by rw [hn]; exact hs.1
  have hs1 := hs.2 i
  obtain ⟨b, off, rfl, hbB, hd⟩ := h.at_ i (by omega)
  obtain ⟨c0, A1, n1, c1, c2, hn1', hps⟩ := hd
  have hgr : goodRd gs i = (mayR (gs.getD i default).ps).all (rdOK gs i) := rfl
  rw [hgr]
  have hbd := mayR_getD_bd (gs.getD i default).ps
  generalize hp : gs.getD i default = d at *
  have hy1 : n1 ≤ 1999999 := by omega
  have H := Lib.hid h
  have HN := Lib.hid hn
  have HN1 := Lib.hid hn1'
  have HPS := Lib.hid hps
  have HBD := Lib.hid hbd
  have hbw : b < w.heap.size := by omega
  have HM := Lib.hid fun (w : World) (hB : B ≤ w.heap.size) (h : PS w B A1 d.ps) => spec_mayRead A1 n1 c1 d.ps w B hB hn1' h (by omega)
  have hml := mayR_len d.ps 10
  rw [mayR_below] at hml
  generalize mayR d.ps = L at *
  generalize hl : L.length = l at *
  have HL := Lib.hid hl
  clear h hn hn1' hps hp hgr hs hs1 hbd hl
  go_enter Try.func62, Try.ntmps62
  go_wp2_with fail
  refine (HM.out _ (by simp; omega) (HPS.out.alloc hB _)).mono ?_
  rintro e w1 ⟨v1, rfl, hown, hb1⟩
  obtain ⟨g, cL, hgv, hbg, hgw⟩ := hown.form
  rw [HL.out] at hgv
  subst hgv
  have hsz1 : w.heap.size < w1.heap.size := by simp at hbg; omega
  have hI : IS w1 w1.heap.size (some ⟨g, 0, none⟩) L := by have := hown.1; rw [HL.out] at this; exact IS.of_own this
  have HI := Lib.hid hI
  have HG := Lib.hid ((H.out.alloc hB (.cells #[.slice (some ⟨b, off, none⟩) n c] 34)).below hb1 (by simp; omega))
  have hbox : w1.cell? ⟨w.heap.size, 0, none⟩ = some (.slice (some ⟨b, off, none⟩) n c) := (hb1.cell (p := ⟨w.heap.size, 0, none⟩) (by simp)).trans (by go_simp)
  have hB1 : Below w.heap.size w w1 := ((Below.refl _ _).alloc (Nat.le_refl _) _).trans (hb1.mono (by simp))
  clear hown hb1 H HPS HM hI
  go_wp2
  go_loopw [6] (fun u wr => ∃ k : Nat, k ≤ l ∧ u = .int .i64 k ∧ Hid (∀ j, j < k → rdOK gs i (L.getD j 0) = true) ∧ Below w1.heap.size w1 wr) (fun u _ => l - (intOf u).toNat)
  case atStart => exact ⟨0, by omega, rfl, by intro j hj; omega, Below.refl _ _⟩
  case round =>
    obtain ⟨k, hk, rfl, HK, hbr⟩ := hrel
    by_cases hlt : k < l
    · obtain ⟨b', off', e', _, hc⟩ := HI.out (by have := HL.out; omega)
      cases e'
      have hx := hc k (by have := HL.out; omega)
      obtain ⟨hx0, hx1⟩ := HBD.out k (by have := HL.out; omega)
      clear hc
      generalize hxx : L.getD k 0 = x at *
      have HX := Lib.hid hxx
      clear hxx
      obtain ⟨t, rfl⟩ : ∃ t : Nat, x = (t : Int) := ⟨x.toNat, by omega⟩
      have e1 : wr.cell? ⟨g, 0 + k, none⟩ = some (.int .i64 t) := (hbr.cell (p := ⟨g, 0 + k, none⟩) hgw).trans hx
      rw [Nat.zero_add] at e1
      have e2 : wr.cell? ⟨w.heap.size, 0, none⟩ = some (.slice (some ⟨b, off, none⟩) n c) := (hbr.cell (p := ⟨w.heap.size, 0, none⟩) hsz1).trans hbox
      by_cases hti : t < i
      · obtain ⟨b', off', e', _, c3, _⟩ := HG.out.at_ t (by have := HN.out; omega)
        cases e'
        have e3 : wr.cell? ⟨b, off + t * 2, none⟩ = some (.int .i64 (gs.getD t default).k) := (hbr.cell (p := ⟨b, off + t * 2, none⟩) (by show b < w1.heap.size; omega)).trans c3
        have hro : rdOK gs i (t : Int) = !((gs.getD t default).k == 2) := by unfold rdOK; rw [decide_eq_true (by omega)]; simp
        clear c3
        generalize gs.getD t default = q at *
        have hd1 : decide ((i : Int) ≤ (t : Int)) = false := by simp; omega
        have htn : t < n := by omega
        cases hq : (q.k == 2)
        all_goals
          have HR := Lib.hid hro
          have HQ := Lib.hid hq
          clear hro
          go_wp2
          go_quiet (fail)
          go_wp2
        · go_roundw
          case rel => exact ⟨k + 1, by omega, by go_num, fun j hj => by
            rcases Nat.lt_or_ge j k with h1 | h1
            · exact HK.out j h1
            · obtain rfl : j = k := by omega
              rw [HX.out, HR.out, HQ.out]; rfl, drewN_below hbr⟩
          case measure => simp [intOf]; omega
        · go_ret
          refine ⟨ret_b ?_, hB1.trans ((drewN_below hbr).mono (by omega))⟩
          exact (all_bad L (rdOK gs i) k (by have := HL.out; omega) (by rw [HX.out, HR.out, HQ.out]; rfl)).symm
      · have hro : rdOK gs i (t : Int) = false := by unfold rdOK; rw [decide_eq_false (by omega)]; rfl
        have HR := Lib.hid hro
        have hd1 : decide ((i : Int) ≤ (t : Int)) = true := by simp; omega
        clear hro
        go_wp2
        go_quiet (fail)
        go_wp2
        go_ret
        refine ⟨ret_b ?_, hB1.trans ((drewN_below hbr).mono (by omega))⟩
        exact (all_bad L (rdOK gs i) k (by have := HL.out; omega) (by rw [HX.out, HR.out])).symm
    · go_wp2
      go_ret
      refine ⟨ret_b ?_, hB1.trans (hbr.mono (by omega))⟩
      exact (all_good L (rdOK gs i) fun j hj => HK.out j (by have := HL.out; omega)).symm

set_option maxRecDepth 100000 in
set_option maxHeartbeats 3200000 in
theorem spec_validGraph (A : Option Addr) (n c : Nat) (gs : List Nd) (w : World) (B : Nat) (hB : B ≤ w.heap.size) (hn : n = gs.length) (h : GS w B A gs) (hs : GB gs) :
    Calls Try.prog 39 #[.agg #[.slice A n c]] w fun e w' => e = .returned (.bool (validG gs)) ∧ Below w.heap.size w w' := by
  have hn1 : n ≤ 1048576 := by rw [hn]; exact hs.1
  have H := Lib.hid h
  have HN := Lib.hid hn
  have HS := Lib.hid hs
  clear h hn hs
  go_enter Try.func39, Try.ntmps39
  go_wp2
  go_loopw [3] (fun u wr => ∃ k : Nat, k ≤ n ∧ u = .int .i64 k ∧ Hid (∀ j, j < k → nodeOK gs j = true) ∧ Below (w.heap.size + 1) (w.alloc (.cells #[.slice A n c] 34)) wr) (fun u _ => n - (intOf u).toNat)
  case atStart => exact ⟨0, by omega, rfl, by intro j hj; omega, Below.refl _ _⟩
  case round =>
    obtain ⟨k, hk, rfl, HK, hbr⟩ := hrel
    have hbox : wr.cell? ⟨w.heap.size, 0, none⟩ = some (.slice A n c) := (hbr.cell (p := ⟨w.heap.size, 0, none⟩) (by simp)).trans (by go_simp)
    have hwr : w.heap.size + 1 ≤ wr.heap.size := by have := hbr.size; simpa using this
    by_cases hlt : k < n
    · obtain ⟨b, off, rfl, hbB, c0, A1, n1, c1, c2, hn1', hps⟩ := H.out.at_ k (by have := HN.out; omega)
      have hx := HS.out.2 k
      have b0 : wr.cell? ⟨b, off + k * 2, none⟩ = _ := ((hbr.cell (p := ⟨b, off + k * 2, none⟩) (by simp; omega)).trans (World.cell?_alloc_lt _ _ _ (by simp; omega))).trans c0
      have b1 : wr.cell? ⟨b, off + k * 2 + 1, none⟩ = _ := ((hbr.cell (p := ⟨b, off + k * 2 + 1, none⟩) (by simp; omega)).trans (World.cell?_alloc_lt _ _ _ (by simp; omega))).trans c2
      have HPS := Lib.hid ((hps.alloc hB (.cells #[.slice (some ⟨b, off, none⟩) n c] 34)).below hbr (by omega))
      have HGS := Lib.hid ((H.out.alloc hB (.cells #[.slice (some ⟨b, off, none⟩) n c] 34)).below hbr (by omega))
      have hok : nodeOK gs k = if (gs.getD k default).k == 0 then decide ((gs.getD k default).ps.length = 0) else if (gs.getD k default).k == 1 then validF (gs.getD k default).ps && goodRd gs k else if (gs.getD k default).k == 2 then validF (gs.getD k default).ps && goodRd gs k else false := rfl
      clear c0 c2 hps
      generalize gs.getD k default = d at *
      have hy1 : n1 ≤ 1999999 := by omega
      have HN1 := Lib.hid hn1'
      have HGR := Lib.hid fun (w : World) (hB : B ≤ w.heap.size) (h : GS w B (some ⟨b, off, none⟩) gs) => spec_goodReads (some ⟨b, off, none⟩) n c gs k w B hB HN.out h HS.out hlt
      have HVF := Lib.hid fun (w : World) (hB : B ≤ w.heap.size) (h : PS w B A1 d.ps) => spec_validFormula A1 n1 c1 d.ps w B hB HN1.out h (by omega)
      generalize goodRd gs k = r at *
      generalize validF d.ps = f at *
      have HOK := Lib.hid hok
      clear hok hx
      cases h0 : (d.k == 0)
      · cases h1 : (d.k == 1)
        · cases h2 : (d.k == 2)
          · clear hn1'
            have H0 := Lib.hid h0
            have H1 := Lib.hid h1
            have H2 := Lib.hid h2
            go_wp2
            go_ret
            refine ⟨ret_b ?_, ((Below.refl _ _).alloc (Nat.le_refl _) _).trans ((hbr.alloc (by omega) _).mono (by omega))⟩
            exact (validG_bad gs k (by have := HN.out; omega) (by rw [HOK.out, H0.out, H1.out, H2.out]; rfl)).symm
          · clear hn1'
            have H0 := Lib.hid h0
            have H1 := Lib.hid h1
            have H2 := Lib.hid h2
            cases f
            · go_wp2_with fail
              refine (HVF.out _ (by simp; omega) (HPS.out.alloc (by omega) _)).mono ?_
              rintro e w1 ⟨rfl, hb1⟩
              have HG1 := Lib.hid ((HGS.out.alloc (by omega) (.cells #[.int .i64 d.k, .slice A1 n1 c1] 63)).below hb1 (by simp; omega))
              have hz1 : w.heap.size + 1 < w1.heap.size := by have := hb1.size; simp at this; omega
              have hB1 := (hbr.alloc (by omega) (.cells #[.int .i64 d.k, .slice A1 n1 c1] 63)).trans (hb1.mono (by simp; omega))
              have hbox1 : w1.cell? ⟨w.heap.size, 0, none⟩ = some (.slice (some ⟨b, off, none⟩) n c) := (hB1.cell (p := ⟨w.heap.size, 0, none⟩) (by simp)).trans (by go_simp)
              go_wp2
              go_ret
              refine ⟨ret_b ?_, ((Below.refl _ _).alloc (Nat.le_refl _) _).trans (hB1.mono (by omega))⟩
              exact (validG_bad gs k (by have := HN.out; omega) (by rw [HOK.out, H0.out, H1.out, H2.out]; rfl)).symm
            · cases r
              · go_wp2_with fail
                refine (HVF.out _ (by simp; omega) (HPS.out.alloc (by omega) _)).mono ?_
                rintro e w1 ⟨rfl, hb1⟩
                have HG1 := Lib.hid ((HGS.out.alloc (by omega) (.cells #[.int .i64 d.k, .slice A1 n1 c1] 63)).below hb1 (by simp; omega))
                have hz1 : w.heap.size + 1 < w1.heap.size := by have := hb1.size; simp at this; omega
                have hB1 := (hbr.alloc (by omega) (.cells #[.int .i64 d.k, .slice A1 n1 c1] 63)).trans (hb1.mono (by simp; omega))
                have hbox1 : w1.cell? ⟨w.heap.size, 0, none⟩ = some (.slice (some ⟨b, off, none⟩) n c) := (hB1.cell (p := ⟨w.heap.size, 0, none⟩) (by simp)).trans (by go_simp)
                go_wp2_with fail
                refine (HGR.out _ (by omega) HG1.out).mono ?_
                rintro e w2 ⟨rfl, hb2⟩
                have hB2 := hB1.trans (hb2.mono (by omega))
                go_wp2
                go_ret
                refine ⟨ret_b ?_, ((Below.refl _ _).alloc (Nat.le_refl _) _).trans (hB2.mono (by omega))⟩
                exact (validG_bad gs k (by have := HN.out; omega) (by rw [HOK.out, H0.out, H1.out, H2.out]; rfl)).symm
              · go_wp2_with fail
                refine (HVF.out _ (by simp; omega) (HPS.out.alloc (by omega) _)).mono ?_
                rintro e w1 ⟨rfl, hb1⟩
                have HG1 := Lib.hid ((HGS.out.alloc (by omega) (.cells #[.int .i64 d.k, .slice A1 n1 c1] 63)).below hb1 (by simp; omega))
                have hz1 : w.heap.size + 1 < w1.heap.size := by have := hb1.size; simp at this; omega
                have hB1 := (hbr.alloc (by omega) (.cells #[.int .i64 d.k, .slice A1 n1 c1] 63)).trans (hb1.mono (by simp; omega))
                have hbox1 : w1.cell? ⟨w.heap.size, 0, none⟩ = some (.slice (some ⟨b, off, none⟩) n c) := (hB1.cell (p := ⟨w.heap.size, 0, none⟩) (by simp)).trans (by go_simp)
                go_wp2_with fail
                refine (HGR.out _ (by omega) HG1.out).mono ?_
                rintro e w2 ⟨rfl, hb2⟩
                have hB2 := hB1.trans (hb2.mono (by omega))
                go_wp2
                go_roundw
                case rel => exact ⟨k + 1, by omega, by go_num, fun j hj => by
                  rcases Nat.lt_or_ge j k with h1 | h1
                  · exact HK.out j h1
                  · obtain rfl : j = k := by omega
                    rw [HOK.out, H0.out, H1.out, H2.out]; rfl, hB2⟩
                case measure => simp [intOf]; omega
        · clear hn1'
          have H0 := Lib.hid h0
          have H1 := Lib.hid h1
          cases f
          · go_wp2_with fail
            refine (HVF.out _ (by simp; omega) (HPS.out.alloc (by omega) _)).mono ?_
            rintro e w1 ⟨rfl, hb1⟩
            have HG1 := Lib.hid ((HGS.out.alloc (by omega) (.cells #[.int .i64 d.k, .slice A1 n1 c1] 63)).below hb1 (by simp; omega))
            have hz1 : w.heap.size + 1 < w1.heap.size := by have := hb1.size; simp at this; omega
            have hB1 := (hbr.alloc (by omega) (.cells #[.int .i64 d.k, .slice A1 n1 c1] 63)).trans (hb1.mono (by simp; omega))
            have hbox1 : w1.cell? ⟨w.heap.size, 0, none⟩ = some (.slice (some ⟨b, off, none⟩) n c) := (hB1.cell (p := ⟨w.heap.size, 0, none⟩) (by simp)).trans (by go_simp)
            go_wp2
            go_ret
            refine ⟨ret_b ?_, ((Below.refl _ _).alloc (Nat.le_refl _) _).trans (hB1.mono (by omega))⟩
            exact (validG_bad gs k (by have := HN.out; omega) (by rw [HOK.out, H0.out, H1.out]; rfl)).symm
          · cases r
            · go_wp2_with fail
              refine (HVF.out _ (by simp; omega) (HPS.out.alloc (by omega) _)).mono ?_
              rintro e w1 ⟨rfl, hb1⟩
              have HG1 := Lib.hid ((HGS.out.alloc (by omega) (.cells #[.int .i64 d.k, .slice A1 n1 c1] 63)).below hb1 (by simp; omega))
              have hz1 : w.heap.size + 1 < w1.heap.size := by have := hb1.size; simp at this; omega
              have hB1 := (hbr.alloc (by omega) (.cells #[.int .i64 d.k, .slice A1 n1 c1] 63)).trans (hb1.mono (by simp; omega))
              have hbox1 : w1.cell? ⟨w.heap.size, 0, none⟩ = some (.slice (some ⟨b, off, none⟩) n c) := (hB1.cell (p := ⟨w.heap.size, 0, none⟩) (by simp)).trans (by go_simp)
              go_wp2_with fail
              refine (HGR.out _ (by omega) HG1.out).mono ?_
              rintro e w2 ⟨rfl, hb2⟩
              have hB2 := hB1.trans (hb2.mono (by omega))
              go_wp2
              go_ret
              refine ⟨ret_b ?_, ((Below.refl _ _).alloc (Nat.le_refl _) _).trans (hB2.mono (by omega))⟩
              exact (validG_bad gs k (by have := HN.out; omega) (by rw [HOK.out, H0.out, H1.out]; rfl)).symm
            · go_wp2_with fail
              refine (HVF.out _ (by simp; omega) (HPS.out.alloc (by omega) _)).mono ?_
              rintro e w1 ⟨rfl, hb1⟩
              have HG1 := Lib.hid ((HGS.out.alloc (by omega) (.cells #[.int .i64 d.k, .slice A1 n1 c1] 63)).below hb1 (by simp; omega))
              have hz1 : w.heap.size + 1 < w1.heap.size := by have := hb1.size; simp at this; omega
              have hB1 := (hbr.alloc (by omega) (.cells #[.int .i64 d.k, .slice A1 n1 c1] 63)).trans (hb1.mono (by simp; omega))
              have hbox1 : w1.cell? ⟨w.heap.size, 0, none⟩ = some (.slice (some ⟨b, off, none⟩) n c) := (hB1.cell (p := ⟨w.heap.size, 0, none⟩) (by simp)).trans (by go_simp)
              go_wp2_with fail
              refine (HGR.out _ (by omega) HG1.out).mono ?_
              rintro e w2 ⟨rfl, hb2⟩
              have hB2 := hB1.trans (hb2.mono (by omega))
              go_wp2
              go_roundw
              case rel => exact ⟨k + 1, by omega, by go_num, fun j hj => by
                rcases Nat.lt_or_ge j k with h1 | h1
                · exact HK.out j h1
                · obtain rfl : j = k := by omega
                  rw [HOK.out, H0.out, H1.out]; rfl, hB2⟩
              case measure => simp [intOf]; omega
      · have H0 := Lib.hid h0
        by_cases hz : 0 < n1
        · clear hn1'
          go_wp2
          go_ret
          refine ⟨ret_b ?_, ((Below.refl _ _).alloc (Nat.le_refl _) _).trans ((hbr.alloc (by omega) _).mono (by omega))⟩
          exact (validG_bad gs k (by have := HN.out; omega) (by rw [HOK.out, H0.out]; exact decide_eq_false (by have := HN1.out; omega))).symm
        · obtain rfl : n1 = 0 := by omega
          clear hn1'
          go_wp2
          go_roundw
          case rel => exact ⟨k + 1, by omega, by go_num, fun j hj => by
            rcases Nat.lt_or_ge j k with h1 | h1
            · exact HK.out j h1
            · obtain rfl : j = k := by omega
              rw [HOK.out, H0.out]; exact decide_eq_true (by have := HN1.out; omega), hbr.alloc (by omega) _⟩
          case measure => simp [intOf]; omega
    · go_wp2
      go_ret
      refine ⟨ret_b ?_, ((Below.refl _ _).alloc (Nat.le_refl _) _).trans (hbr.mono (by omega))⟩
      rw [validG_fin gs fun j hj => HK.out j (by have := HN.out; omega)]
      have := HN.out
      simp
      omega
end Go.Proofs.Ythnilpibpmlaeaa

/- The contract of impl.ValidGraph. -/
namespace Go.Proofs.Ythnilpibpmlaeaa
set_option linter.unusedSimpArgs false
set_option linter.unusedVariables false
open Go.RowKit

/-- A node of the list ahead that is no effect. -/
def rdA (gs : List Nd) (x : Int) : Bool := decide (x < (gs.length : Int)) && !((gs.getD x.toNat default).k == 2)

theorem rdA_take (gs : List Nd) (i : Nat) (hi : i ≤ gs.length) (x : Int) (hx : 0 ≤ x) : rdA (gs.take i) x = rdOK gs i x := by
  unfold rdA rdOK
  rw [List.length_take, Nat.min_eq_left hi]
  by_cases h : x < (i : Int)
  · have : (gs.take i).getD x.toNat default = gs.getD x.toNat default := by
      simp only [List.getD, List.getElem?_take, if_pos (show x.toNat < i by omega)]
    rw [this]
  · rw [decide_eq_false h]; rfl

theorem GS.take {w : World} {B : Nat} {A : Option Addr} {gs : List Nd} (h : GS w B A gs) (i : Nat) (hi : i ≤ gs.length) : GS w B A (gs.take i) := by
  intro hn
  rw [List.length_take, Nat.min_eq_left hi] at hn
  obtain ⟨b, off, e, hb, hc⟩ := h (by omega)
  refine ⟨b, off, e, hb, fun j hj => ?_⟩
  rw [List.length_take, Nat.min_eq_left hi] at hj
  have : (gs.take i).getD j default = gs.getD j default := by
    simp only [List.getD, List.getElem?_take, if_pos hj]
  rw [this]
  exact hc j (by omega)

set_option maxRecDepth 100000 in
set_option maxHeartbeats 1600000 in
theorem impl_areReadable (A A' : Option Addr) (n c l c' : Nat) (gs : List Nd) (L : List Int) (w : World) (B : Nat) (hB : B ≤ w.heap.size) (hn : n = gs.length) (hl : l = L.length) (h : GS w B A gs) (h' : IS w B A' L) (hs : n ≤ 2000000) (hs' : l ≤ 2000000) (hbd : ∀ j, j < l → 0 ≤ L.getD j 0) :
    Calls Try.prog 74 #[.slice A n c, .slice A' l c'] w fun e w' => e = .returned (.bool (L.all (rdA gs))) ∧ w = w' := by
  have H := Lib.hid h
  have HI := Lib.hid h'
  have HN := Lib.hid hn
  have HL := Lib.hid hl
  have HBD := Lib.hid hbd
  clear h h' hn hl hbd
  go_enter Try.func74, Try.ntmps74
  go_wp2
  go_loop [9] (fun u => ∃ k : Nat, k ≤ l ∧ u = .int .i64 k ∧ Hid (∀ j, j < k → rdA gs (L.getD j 0) = true)) (fun u => l - (intOf u).toNat)
  case atStart => exact ⟨0, by omega, rfl, by intro j hj; omega⟩
  case round =>
    obtain ⟨k, hk, rfl, HK⟩ := hrel
    by_cases hlt : k < l
    · obtain ⟨b', off', rfl, hb', hc⟩ := HI.out (by have := HL.out; omega)
      have hx := hc k (by have := HL.out; omega)
      have hx0 := HBD.out k hlt
      clear hc
      generalize hxx : L.getD k 0 = x at *
      have HX := Lib.hid hxx
      clear hxx
      obtain ⟨t, rfl⟩ : ∃ t : Nat, x = (t : Int) := ⟨x.toNat, by omega⟩
      by_cases htn : t < n
      · obtain ⟨b, off, rfl, hbB, c3, _⟩ := H.out.at_ t (by have := HN.out; omega)
        have hro : rdA gs (t : Int) = !((gs.getD t default).k == 2) := by unfold rdA; rw [decide_eq_true (by have := HN.out; omega)]; simp
        generalize gs.getD t default = q at *
        cases hq : (q.k == 2)
        all_goals
          have HR := Lib.hid hro
          have HQ := Lib.hid hq
          clear hro
          go_wp2
        · go_round
          case rel => exact ⟨k + 1, by omega, by go_num, fun j hj => by
            rcases Nat.lt_or_ge j k with h1 | h1
            · exact HK.out j h1
            · obtain rfl : j = k := by omega
              rw [HX.out, HR.out, HQ.out]; rfl⟩
          case measure => simp [intOf]; omega
        · go_ret
          refine ⟨ret_b ?_, rfl⟩
          exact (all_bad L (rdA gs) k (by have := HL.out; omega) (by rw [HX.out, HR.out, HQ.out]; rfl)).symm
      · have hro : rdA gs (t : Int) = false := by unfold rdA; rw [decide_eq_false (by have := HN.out; omega)]; rfl
        have HR := Lib.hid hro
        clear hro
        go_wp2
        go_ret
        refine ⟨ret_b ?_, rfl⟩
        exact (all_bad L (rdA gs) k (by have := HL.out; omega) (by rw [HX.out, HR.out])).symm
    · go_wp2
      go_ret
      refine ⟨ret_b ?_, rfl⟩
      exact (all_good L (rdA gs) fun j hj => HK.out j (by have := HL.out; omega)).symm

/-- Whether a node fits behind others. -/
def fitsB (gs : List Nd) (d : Nd) : Bool :=
  if d.k == 0 then decide (d.ps.length = 0)
  else if d.k == 1 then validF d.ps && (mayR d.ps).all (rdA gs)
  else if d.k == 2 then validF d.ps && (mayR d.ps).all (rdA gs)
  else false

theorem fits_node (gs : List Nd) (i : Nat) (hi : i ≤ gs.length) : fitsB (gs.take i) (gs.getD i default) = nodeOK gs i := by
  unfold fitsB nodeOK goodRd
  have e : (mayR (gs.getD i default).ps).all (rdA (gs.take i)) = (mayR (gs.getD i default).ps).all (rdOK gs i) := by
    rw [Bool.eq_iff_iff, List.all_eq_true, List.all_eq_true]
    constructor
    · intro h x hx; rw [← rdA_take gs i hi x (mem_mayR_bd _ _ hx).1]; exact h x hx
    · intro h x hx; rw [rdA_take gs i hi x (mem_mayR_bd _ _ hx).1]; exact h x hx
  rw [e]

set_option maxRecDepth 100000 in
set_option maxHeartbeats 1600000 in
theorem impl_fitsBehind (A A1 : Option Addr) (n c n1 c1 : Nat) (gs : List Nd) (k : Int) (ps : List Pt) (w : World) (B : Nat) (hB : B ≤ w.heap.size) (hn : n = gs.length) (hn1 : n1 = ps.length) (h : GS w B A gs) (h1 : PS w B A1 ps) (hs : n ≤ 2000000) (hs1 : n1 ≤ 1999999) :
    Calls Try.prog 54 #[.slice A n c, .agg #[.int .i64 k, .slice A1 n1 c1]] w fun e w' => e = .returned (.bool (fitsB gs ⟨k, ps⟩)) ∧ Below w.heap.size w w' := by
  have H := Lib.hid h
  have H1 := Lib.hid h1
  have HN := Lib.hid hn
  have HN1 := Lib.hid hn1
  have hfe : fitsB gs ⟨k, ps⟩ = if k == 0 then decide (ps.length = 0) else if k == 1 then validF ps && (mayR ps).all (rdA gs) else if k == 2 then validF ps && (mayR ps).all (rdA gs) else false := rfl
  cases h0 : (k == 0)
  · by_cases h12 : (k == 1) = true ∨ (k == 2) = true
    · have hfe2 : fitsB gs ⟨k, ps⟩ = (validF ps && (mayR ps).all (rdA gs)) := by
        rw [hfe, h0]
        rcases h12 with e | e
        · rw [e]; rfl
        · rw [e]; cases (k == 1) <;> rfl
      rw [hfe2]
      have HVF := Lib.hid fun (w : World) (hB : B ≤ w.heap.size) (h : PS w B A1 ps) => impl_ValidFormula A1 n1 c1 ps w B hB hn1 h (by omega)
      have HMR := Lib.hid fun (w : World) (hB : B ≤ w.heap.size) (h : PS w B A1 ps) => impl_MayRead A1 n1 c1 ps w B hB hn1 h (by omega)
      clear h h1 hn hn1 hfe hfe2
      cases hv : validF ps
      · rw [hv] at HVF
        clear hv HMR
        rw [show (false && (mayR ps).all (rdA gs)) = false from rfl]
        cases ha : (k == 1)
        · have hb : (k == 2) = true := by rcases h12 with e | e; rw [ha] at e; cases e; exact e
          clear h12
          go_enter Try.func54, Try.ntmps54
          go_wp2_with fail
          refine (HVF.out _ (by simp; omega) (H1.out.alloc hB _)).mono ?_
          rintro e w1 ⟨rfl, hb1⟩
          go_wp2
          go_ret
          exact ⟨rfl, ((Below.refl _ _).alloc (Nat.le_refl _) _).trans (hb1.mono (by simp))⟩
        · clear h12
          go_enter Try.func54, Try.ntmps54
          go_wp2_with fail
          refine (HVF.out _ (by simp; omega) (H1.out.alloc hB _)).mono ?_
          rintro e w1 ⟨rfl, hb1⟩
          go_wp2
          go_ret
          exact ⟨rfl, ((Below.refl _ _).alloc (Nat.le_refl _) _).trans (hb1.mono (by simp))⟩
      · have hmf : mayF ps = mayR ps := by simp [mayF, hv]
        rw [hv] at HVF
        rw [hmf] at HMR
        have hlen := mayR_len ps 10
        rw [mayR_below] at hlen
        have hbd := mayR_getD_bd ps
        clear hv hmf
        generalize mayR ps = L at *
        generalize hl : L.length = l at *
        have HL := Lib.hid hl
        have HAR := Lib.hid fun (A' : Option Addr) (c' : Nat) (w : World) (B : Nat) (hB : B ≤ w.heap.size) (h : GS w B A gs) (h' : IS w B A' L) => impl_areReadable A A' n c l c' gs L w B hB HN.out hl.symm h h' hs (by omega) (fun j hj => (hbd j hj).1)
        clear hl hbd
        rw [show (true && L.all (rdA gs)) = L.all (rdA gs) from Bool.true_and _]
        generalize L.all (rdA gs) = r at *
        cases ha : (k == 1)
        · have hb : (k == 2) = true := by rcases h12 with e | e; rw [ha] at e; cases e; exact e
          clear h12
          go_enter Try.func54, Try.ntmps54
          go_wp2_with fail
          refine (HVF.out _ (by simp; omega) (H1.out.alloc hB _)).mono ?_
          rintro e w1 ⟨rfl, hb1⟩
          have hz1 : w.heap.size < w1.heap.size := by have := hb1.size; simp at this; omega
          have hbx : w1.cell? ⟨w.heap.size, 1, none⟩ = some (.slice A1 n1 c1) := (hb1.cell (p := ⟨w.heap.size, 1, none⟩) (by simp)).trans (by go_simp)
          have HP1 := Lib.hid ((H1.out.alloc hB (.cells #[.int .i64 k, .slice A1 n1 c1] 63)).below hb1 (by simp; omega))
          have HG1 := Lib.hid ((H.out.alloc hB (.cells #[.int .i64 k, .slice A1 n1 c1] 63)).below hb1 (by simp; omega))
          have hB1 : Below w.heap.size w w1 := ((Below.refl _ _).alloc (Nat.le_refl _) _).trans (hb1.mono (by simp))
          clear hb1
          go_wp2_with fail
          refine (HMR.out _ (by omega) HP1.out).mono ?_
          rintro e w2 ⟨v2, rfl, hown, hb2⟩
          obtain ⟨A2, c2, rfl, hI⟩ := hown.form
          have HI := Lib.hid hI
          have HG2 := Lib.hid ((HG1.out.below hb2 (by omega)).more (B' := w2.heap.size) (by have := hb2.size; omega))
          rw [HL.out]
          clear hI hown
          go_wp2_with fail
          refine (HAR.out _ _ _ _ (Nat.le_refl _) HG2.out HI.out).mono ?_
          rintro e w3 ⟨rfl, rfl⟩
          go_wp2
          go_ret
          exact ⟨rfl, hB1.trans (hb2.mono (by omega))⟩
        · clear h12
          go_enter Try.func54, Try.ntmps54
          go_wp2_with fail
          refine (HVF.out _ (by simp; omega) (H1.out.alloc hB _)).mono ?_
          rintro e w1 ⟨rfl, hb1⟩
          have hz1 : w.heap.size < w1.heap.size := by have := hb1.size; simp at this; omega
          have hbx : w1.cell? ⟨w.heap.size, 1, none⟩ = some (.slice A1 n1 c1) := (hb1.cell (p := ⟨w.heap.size, 1, none⟩) (by simp)).trans (by go_simp)
          have HP1 := Lib.hid ((H1.out.alloc hB (.cells #[.int .i64 k, .slice A1 n1 c1] 63)).below hb1 (by simp; omega))
          have HG1 := Lib.hid ((H.out.alloc hB (.cells #[.int .i64 k, .slice A1 n1 c1] 63)).below hb1 (by simp; omega))
          have hB1 : Below w.heap.size w w1 := ((Below.refl _ _).alloc (Nat.le_refl _) _).trans (hb1.mono (by simp))
          clear hb1
          go_wp2_with fail
          refine (HMR.out _ (by omega) HP1.out).mono ?_
          rintro e w2 ⟨v2, rfl, hown, hb2⟩
          obtain ⟨A2, c2, rfl, hI⟩ := hown.form
          have HI := Lib.hid hI
          have HG2 := Lib.hid ((HG1.out.below hb2 (by omega)).more (B' := w2.heap.size) (by have := hb2.size; omega))
          rw [HL.out]
          clear hI hown
          go_wp2_with fail
          refine (HAR.out _ _ _ _ (Nat.le_refl _) HG2.out HI.out).mono ?_
          rintro e w3 ⟨rfl, rfl⟩
          go_wp2
          go_ret
          exact ⟨rfl, hB1.trans (hb2.mono (by omega))⟩
    · have ha : (k == 1) = false := by cases e : (k == 1); rfl; exact absurd (.inl e) h12
      have hb : (k == 2) = false := by cases e : (k == 2); rfl; exact absurd (.inr e) h12
      rw [hfe, h0, ha, hb]
      clear h h1 hn hn1 hfe h12
      go_enter Try.func54, Try.ntmps54
      go_wp2
      go_ret
      exact ⟨rfl, (Below.refl _ _).alloc (Nat.le_refl _) _⟩
  · rw [hfe, h0]
    clear h h1 hn hn1 hfe
    go_enter Try.func54, Try.ntmps54
    go_wp2
    go_ret
    refine ⟨ret_b ?_, (Below.refl _ _).alloc (Nat.le_refl _) _⟩
    rw [HN1.out]
    cases ps <;> simp
    omega

set_option maxRecDepth 100000 in
set_option maxHeartbeats 1600000 in
theorem impl_ValidGraph (A : Option Addr) (n c : Nat) (gs : List Nd) (w : World) (B : Nat) (hB : B ≤ w.heap.size) (hn : n = gs.length) (h : GS w B A gs) (hs : GB gs) (hnc : n ≤ c) :
    Calls Try.prog 34 #[.agg #[.slice A n c]] w fun e w' => e = .returned (.bool (validG gs)) ∧ Below w.heap.size w w' := by
  have hn1 : n ≤ 1048576 := by rw [hn]; exact hs.1
  by_cases h10 : 10 < n
  · rw [validG_long gs (by omega)]
    clear h hn hs
    go_enter Try.func34, Try.ntmps34
    go_wp2
    go_ret
    exact ⟨rfl, (Below.refl _ _).alloc (Nat.le_refl _) _⟩
  have H := Lib.hid h
  have HN := Lib.hid hn
  have HS := Lib.hid hs
  clear h hn hs
  go_enter Try.func34, Try.ntmps34
  go_wp2
  go_loopw [12] (fun u wr => ∃ k : Nat, k ≤ n ∧ u = .int .i64 k ∧ Hid (∀ j, j < k → nodeOK gs j = true) ∧ Below (w.heap.size + 1) (w.alloc (.cells #[.slice A n c] 34)) wr) (fun u _ => n - (intOf u).toNat)
  case atStart => exact ⟨0, by omega, rfl, by intro j hj; omega, Below.refl _ _⟩
  case round =>
    obtain ⟨k, hk, rfl, HK, hbr⟩ := hrel
    have hbox : wr.cell? ⟨w.heap.size, 0, none⟩ = some (.slice A n c) := (hbr.cell (p := ⟨w.heap.size, 0, none⟩) (by simp)).trans (by go_simp)
    have hwr : w.heap.size + 1 ≤ wr.heap.size := by have := hbr.size; simpa using this
    have hws : w.heap.size < wr.heap.size := by omega
    by_cases hlt : k < n
    · obtain ⟨b, off, rfl, hbB, c0, A1, n1, c1, c2, hn1', hps⟩ := H.out.at_ k (by have := HN.out; omega)
      have hx := HS.out.2 k
      have b0 : wr.cell? ⟨b, off + k * 2, none⟩ = _ := ((hbr.cell (p := ⟨b, off + k * 2, none⟩) (by simp; omega)).trans (World.cell?_alloc_lt _ _ _ (by simp; omega))).trans c0
      have b1 : wr.cell? ⟨b, off + k * 2 + 1, none⟩ = _ := ((hbr.cell (p := ⟨b, off + k * 2 + 1, none⟩) (by simp; omega)).trans (World.cell?_alloc_lt _ _ _ (by simp; omega))).trans c2
      have HPS := Lib.hid ((hps.alloc hB (.cells #[.slice (some ⟨b, off, none⟩) n c] 34)).below hbr (by omega))
      have HGS := Lib.hid (((H.out.take k (by have := HN.out; omega)).alloc hB (.cells #[.slice (some ⟨b, off, none⟩) n c] 34)).below hbr (by omega))
      have hfn := fits_node gs k (by have := HN.out; omega)
      have hlen : k = (gs.take k).length := by rw [List.length_take]; have := HN.out; omega
      clear c0 c2 hps
      generalize gs.getD k default = d at *
      have hy1 : n1 ≤ 1999999 := by omega
      have HFB := Lib.hid fun (w : World) (hB : B ≤ w.heap.size) (h : GS w B (some ⟨b, off, none⟩) (gs.take k)) (h1 : PS w B A1 d.ps) => impl_fitsBehind (some ⟨b, off, none⟩) A1 k c n1 c1 (gs.take k) d.k d.ps w B hB hlen hn1' h h1 (by omega) hy1
      rw [show fitsB (gs.take k) ⟨d.k, d.ps⟩ = nodeOK gs k from hfn] at HFB
      have HNK := Lib.hid fun (h : nodeOK gs k = false) => validG_bad gs k (by have := HN.out; omega) h
      have HNT : Hid (nodeOK gs k = true → ∀ j, j < k + 1 → nodeOK gs j = true) := fun h j hj => by
        rcases Nat.lt_or_ge j k with h1 | h1
        · exact HK.out j h1
        · obtain rfl : j = k := by omega
          exact h
      clear hfn hlen hn1' hx
      generalize nodeOK gs k = r at *
      cases r
      all_goals
        go_wp2
        obtain ⟨W2, hW2⟩ : ∃ W2, W2 = wr.alloc (.cells #[.int .i64 d.k, .slice A1 n1 c1] 63) := ⟨_, rfl⟩
        have q0 : W2.cell? ⟨w.heap.size, 0, none⟩ = some (.slice (some ⟨b, off, none⟩) n c) := by rw [hW2]; exact (World.cell?_alloc_lt _ _ _ hws).trans hbox
        have q1 : W2.cell? ⟨wr.heap.size, 0, none⟩ = some (.int .i64 d.k) := by rw [hW2]; go_simp
        have q2 : W2.cell? ⟨wr.heap.size, 1, none⟩ = some (.slice A1 n1 c1) := by rw [hW2]; go_simp
        have HP2 : Hid (PS W2 B A1 d.ps) := by rw [hW2]; exact HPS.out.alloc (by omega) _
        have HG2 : Hid (GS W2 B (some ⟨b, off, none⟩) (gs.take k)) := by rw [hW2]; exact HGS.out.alloc (by omega) _
        have hb2 : Below (w.heap.size + 1) (w.alloc (.cells #[.slice (some ⟨b, off, none⟩) n c] 34)) W2 := by rw [hW2]; exact hbr.alloc (by omega) _
        have hz2 : w.heap.size + 1 < W2.heap.size := by rw [hW2]; simp; omega
        have hkc : k ≤ c := by omega
        rw [← hW2]
        clear hW2 HPS HGS b0 b1
        go_still_tail 5, (by kernel_rfl)
        go_wp2_with fail
        refine (HFB.out W2.drew (show B ≤ W2.heap.size by omega) HG2.out HP2.out).mono ?_
        rintro e w3 ⟨rfl, hb3⟩
        have hB3 := hb2.drew.trans (hb3.mono (show w.heap.size + 1 ≤ W2.heap.size by omega))
        go_wp2
      · go_ret
        exact ⟨ret_b (HNK.out trivial).symm, ((Below.refl _ _).alloc (Nat.le_refl _) _).trans (hB3.mono (by omega))⟩
      · go_roundw
        case rel => exact ⟨k + 1, by omega, by go_num, HNT.out trivial, hB3⟩
        case measure => simp [intOf]; omega
    · go_wp2
      go_ret
      refine ⟨ret_b ?_, ((Below.refl _ _).alloc (Nat.le_refl _) _).trans (hbr.mono (by omega))⟩
      rw [validG_fin gs fun j hj => HK.out j (by have := HN.out; omega)]
      have := HN.out
      simp
      omega
end Go.Proofs.Ythnilpibpmlaeaa

/- The contracts of both ValidCells. -/
namespace Go.Proofs.Ythnilpibpmlaeaa
set_option linter.unusedSimpArgs false
set_option linter.unusedVariables false
open Go.RowKit

set_option maxRecDepth 100000 in
set_option maxHeartbeats 1600000 in
theorem spec_validCells (A A' : Option Addr) (n c m c' : Nat) (gs : List Nd) (xs : List Int) (w : World) (B : Nat) (hB : B ≤ w.heap.size) (hn : n = gs.length) (hm : m = xs.length) (h : GS w B A gs) (h' : IS w B A' xs) (hs : n ≤ 2000000) (hs' : m ≤ 2000000) :
    Calls Try.prog 40 #[.agg #[.slice A n c], .slice A' m c'] w fun e w' => e = .returned (.bool (validC gs xs)) ∧ Below w.heap.size w w' := by
  by_cases hl : m = n
  · have hne : ((m : Int) != (n : Int)) = false := by simp [hl]
    have HE := Lib.hid hl
    have H := Lib.hid h
    have HI := Lib.hid h'
    have HN := Lib.hid hn
    have HM := Lib.hid hm
    clear h h' hn hm hl
    go_enter Try.func40, Try.ntmps40
    go_wp2
    go_loopw [5] (fun u wr => ∃ k : Nat, k ≤ m ∧ u = .int .i64 k ∧ Hid (∀ j, j < k → cellOK gs xs j = true) ∧ wr = w.alloc (.cells #[.slice A n c] 34)) (fun u _ => m - (intOf u).toNat)
    case atStart => exact ⟨0, by omega, rfl, by intro j hj; omega, rfl⟩
    case round =>
      obtain ⟨k, hk, rfl, HK, rfl⟩ := hrel
      by_cases hlt : k < m
      · have hkn : k < n := by have := HE.out; omega
        obtain ⟨b, off, rfl, hbB, c0, _⟩ := H.out.at_ k (by have := HN.out; omega)
        obtain ⟨b', off', rfl, hb', hc⟩ := HI.out (by have := HM.out; omega)
        have hx := hc k (by have := HM.out; omega)
        clear hc
        have hbw : b < w.heap.size := by omega
        have hbw' : b' < w.heap.size := by omega
        have hco : cellOK gs xs k = (rng (xs.getD k 0) 0 999 && ((gs.getD k default).k == 0 || xs.getD k 0 == 0)) := rfl
        have HNK := Lib.hid fun (h : cellOK gs xs k = false) => validC_bad gs xs k (by have := HN.out; omega) h
        have HNT : Hid (cellOK gs xs k = true → ∀ j, j < k + 1 → cellOK gs xs j = true) := fun h j hj => by
          rcases Nat.lt_or_ge j k with h1 | h1
          · exact HK.out j h1
          · obtain rfl : j = k := by omega
            exact h
        generalize cellOK gs xs k = r at *
        generalize gs.getD k default = d at *
        generalize xs.getD k 0 = x at *
        subst hco
        cases hr : rng x 0 999
        · go_wp2_with (go_at_call 63; refine (spec_inRange _ _ _ _).mono ?_; rintro e w' ⟨rfl, rfl⟩)
          go_ret
          exact ⟨ret_b (HNK.out (by rw [hr]; rfl)).symm, (Below.refl _ _).alloc (Nat.le_refl _) _⟩
        · cases hd : (d.k == 0)
          · have hd' : (d.k != 0) = true := by simp [bne, hd]
            cases hz : (x == 0)
            · have hz' : (x != 0) = true := by simp [bne, hz]
              go_wp2_with (go_at_call 63; refine (spec_inRange _ _ _ _).mono ?_; rintro e w' ⟨rfl, rfl⟩)
              go_ret
              exact ⟨ret_b (HNK.out (by rw [hd, hz]; simp)).symm, (Below.refl _ _).alloc (Nat.le_refl _) _⟩
            · have hz' : (x != 0) = false := by simp [bne, hz]
              have HR := Lib.hid hr
              have HD := Lib.hid hd
              have HZ := Lib.hid hz
              go_wp2_with (go_at_call 63; refine (spec_inRange _ _ _ _).mono ?_; rintro e w' ⟨rfl, rfl⟩)
              go_roundw
              case rel => exact ⟨k + 1, by omega, by go_num, HNT.out (by rw [HR.out, HD.out, HZ.out]; rfl), by first | rfl | trivial⟩
              case measure => simp [intOf]; omega
          · have hd' : (d.k != 0) = false := by simp [bne, hd]
            have HR := Lib.hid hr
            have HD := Lib.hid hd
            go_wp2_with (go_at_call 63; refine (spec_inRange _ _ _ _).mono ?_; rintro e w' ⟨rfl, rfl⟩)
            go_roundw
            case rel => exact ⟨k + 1, by omega, by go_num, HNT.out (by rw [HR.out, HD.out]; rfl), by first | rfl | trivial⟩
            case measure => simp [intOf]; omega
      · go_wp2
        go_ret
        refine ⟨ret_b ?_, (Below.refl _ _).alloc (Nat.le_refl _) _⟩
        exact (validC_fin gs xs (by have := HN.out; have := HM.out; have := HE.out; omega) fun j hj => HK.out j (by have := HN.out; have := HE.out; omega)).symm
  · have hne : ((m : Int) != (n : Int)) = true := by simp; omega
    rw [validC_len gs xs (by omega)]
    clear hl hn hm h h'
    go_enter Try.func40, Try.ntmps40
    go_wp2
    go_ret
    exact ⟨rfl, (Below.refl _ _).alloc (Nat.le_refl _) _⟩

set_option maxRecDepth 100000 in
set_option maxHeartbeats 1600000 in
theorem impl_ValidCells (A A' : Option Addr) (n c m c' : Nat) (gs : List Nd) (xs : List Int) (w : World) (B : Nat) (hB : B ≤ w.heap.size) (hn : n = gs.length) (hnc : n ≤ c) (hm : m = xs.length) (h : GS w B A gs) (h' : IS w B A' xs) (hs : GB gs) (hs' : m ≤ 2000000) :
    Calls Try.prog 42 #[.agg #[.slice A n c], .slice A' m c'] w fun e w' => e = .returned (.bool (okC gs xs)) ∧ Below w.heap.size w w' := by
  have hn1 : n ≤ 1048576 := by rw [hn]; exact hs.1
  have HVG := Lib.hid fun (w' : World) (hB : B ≤ w'.heap.size) (h : GS w' B A gs) => impl_ValidGraph A n c gs w' B hB hn h hs hnc
  have hok : okC gs xs = (validG gs && validC gs xs) := rfl
  cases hv : validG gs
  · have : okC gs xs = false := by rw [hok, hv]; rfl
    rw [this]
    rw [hv] at HVG
    have H := Lib.hid h
    clear this h h' hn hm hok hv
    go_enter Try.func42, Try.ntmps42
    go_wp2_with fail
    refine (HVG.out _ (by simp; omega) (H.out.alloc hB _)).mono ?_
    rintro e w1 ⟨rfl, hb⟩
    go_wp2
    go_ret
    exact ⟨rfl, ((Below.refl _ _).alloc (Nat.le_refl _) _).trans (hb.mono (by simp))⟩
  have : okC gs xs = validC gs xs := by rw [hok, hv]; rfl
  rw [this]
  rw [hv] at HVG
  have h10 := (validG_parts gs hv).1
  have hn10 : n ≤ 10 := by omega
  clear this hok hv h10
  by_cases hl : m = n
  · have hne : ((m : Int) != (n : Int)) = false := by simp [hl]
    have hlx : xs.length ≤ 10 := by omega
    have hdx : decide (xs.length ≤ 10) = true := by simpa using hlx
    have HAR := Lib.hid fun (w' : World) (hB : B ≤ w'.heap.size) (h : IS w' B A' xs) => impl_allInRange A' m c' xs 999 w' B hB hm h hs'
    rw [hdx] at HAR
    have H := Lib.hid h
    have HI := Lib.hid h'
    have HN := Lib.hid hn
    have HM := Lib.hid hm
    have HE := Lib.hid hl
    clear h h' hn hm hl hlx hdx
    cases ha : allR xs 0 999
    · rw [validC_range gs xs ha]
      rw [ha] at HAR
      clear ha
      go_enter Try.func42, Try.ntmps42
      go_wp2_with fail
      refine (HVG.out _ (by simp; omega) (H.out.alloc hB _)).mono ?_
      rintro e w1 ⟨rfl, hb⟩
      have q : w1.cell? ⟨w.heap.size, 0, none⟩ = some (.slice A n c) := (hb.cell (p := ⟨w.heap.size, 0, none⟩) (by simp)).trans (by go_simp)
      have HI1 := Lib.hid ((HI.out.alloc hB (.cells #[.slice A n c] 34)).below hb (by simp; omega))
      have hz : B ≤ w1.heap.size := by have := hb.size; simp at this; omega
      go_wp2_with fail
      refine (HAR.out _ hz HI1.out).mono ?_
      rintro e w2 ⟨rfl, rfl⟩
      go_wp2
      go_ret
      exact ⟨rfl, ((Below.refl _ _).alloc (Nat.le_refl _) _).trans (hb.mono (by simp))⟩
    · have HALL := Lib.hid ha
      rw [ha] at HAR
      clear ha
      go_enter Try.func42, Try.ntmps42
      go_wp2_with fail
      refine (HVG.out _ (by simp; omega) (H.out.alloc hB _)).mono ?_
      rintro e w1 ⟨rfl, hb⟩
      have q : w1.cell? ⟨w.heap.size, 0, none⟩ = some (.slice A n c) := (hb.cell (p := ⟨w.heap.size, 0, none⟩) (by simp)).trans (by go_simp)
      have HI1 := Lib.hid ((HI.out.alloc hB (.cells #[.slice A n c] 34)).below hb (by simp; omega))
      have HG1 := Lib.hid ((H.out.alloc hB (.cells #[.slice A n c] 34)).below hb (by simp; omega))
      have hz : B ≤ w1.heap.size := by have := hb.size; simp at this; omega
      have hB1 : Below w.heap.size w w1 := ((Below.refl _ _).alloc (Nat.le_refl _) _).trans (hb.mono (by simp))
      clear hb H HI
      go_wp2_with fail
      refine (HAR.out _ hz HI1.out).mono ?_
      rintro e w2 ⟨rfl, rfl⟩
      go_wp2
      go_loopw [26] (fun u wr => ∃ k : Nat, k ≤ n ∧ u = .int .i64 k ∧ Hid (∀ j, j < k → cellOK gs xs j = true) ∧ Below w1.heap.size w1 wr) (fun u _ => n - (intOf u).toNat)
      case atStart => exact ⟨0, by omega, rfl, by intro j hj; omega, Below.refl _ _⟩
      case round =>
        obtain ⟨k, hk, rfl, HK, hbr⟩ := hrel
        by_cases hlt : k < n
        · have hkm : k < m := by have := HE.out; omega
          obtain ⟨b, off, rfl, hbB, c0, A1, n1, c1, c2, _⟩ := HG1.out.at_ k (by have := HN.out; omega)
          obtain ⟨b', off', rfl, hb', hc⟩ := HI1.out (by have := HM.out; omega)
          have hx := hc k (by have := HM.out; omega)
          clear hc
          have e0 := (hbr.cell (p := ⟨b, off + k * 2, none⟩) (by simp; omega)).trans c0
          have e1 := (hbr.cell (p := ⟨b, off + k * 2 + 1, none⟩) (by simp; omega)).trans c2
          have e2 := (hbr.cell (p := ⟨b', off' + k, none⟩) (by simp; omega)).trans hx
          have hbw : b < wr.heap.size := by have := hbr.size; omega
          have hbw' : b' < wr.heap.size := by have := hbr.size; omega
          have hco : cellOK gs xs k = (rng (xs.getD k 0) 0 999 && ((gs.getD k default).k == 0 || xs.getD k 0 == 0)) := rfl
          have hrg : rng (xs.getD k 0) 0 999 = true := by
            have := HALL.out
            unfold allR at this
            rw [List.all_eq_true] at this
            exact this _ (by have := HM.out; have h2 : k < xs.length := by omega
                             simp [List.getD, h2])
          have HNK := Lib.hid fun (h : cellOK gs xs k = false) => validC_bad gs xs k (by have := HN.out; omega) h
          have HNT : Hid (cellOK gs xs k = true → ∀ j, j < k + 1 → cellOK gs xs j = true) := fun h j hj => by
            rcases Nat.lt_or_ge j k with h1 | h1
            · exact HK.out j h1
            · obtain rfl : j = k := by omega
              exact h
          generalize cellOK gs xs k = r at *
          generalize gs.getD k default = d at *
          generalize xs.getD k 0 = x at *
          subst hco
          have HR := Lib.hid hrg
          clear c0 c2 hx hrg
          cases hd : (d.k == 0)
          · have hd' : (d.k != 0) = true := by simp [bne, hd]
            have HD := Lib.hid hd
            cases hz' : (x == 0)
            · have hz2 : (x != 0) = true := by simp [bne, hz']
              have HZ := Lib.hid hz'
              go_wp2
              go_ret
              exact ⟨ret_b (HNK.out (by rw [HR.out, HD.out, HZ.out]; rfl)).symm, hB1.trans ((hbr.alloc (by have := hbr.size; omega) _).mono hB1.size)⟩
            · have hz2 : (x != 0) = false := by simp [bne, hz']
              have HZ := Lib.hid hz'
              go_wp2
              go_roundw
              case rel => exact ⟨k + 1, by omega, by go_num, HNT.out (by rw [HR.out, HD.out, HZ.out]; rfl), hbr.alloc (by have := hbr.size; omega) _⟩
              case measure => simp [intOf]; omega
          · have hd' : (d.k != 0) = false := by simp [bne, hd]
            have HD := Lib.hid hd
            go_wp2
            go_roundw
            case rel => exact ⟨k + 1, by omega, by go_num, HNT.out (by rw [HR.out, HD.out]; rfl), hbr.alloc (by have := hbr.size; omega) _⟩
            case measure => simp [intOf]; omega
        · go_wp2
          go_ret
          refine ⟨ret_b ?_, hB1.trans (hbr.mono hB1.size)⟩
          exact (validC_fin gs xs (by have := HN.out; have := HM.out; have := HE.out; omega) fun j hj => HK.out j (by have := HN.out; omega)).symm
  · have hne : ((m : Int) != (n : Int)) = true := by simp; omega
    rw [validC_len gs xs (by omega)]
    have H := Lib.hid h
    clear hl hn hm h h'
    go_enter Try.func42, Try.ntmps42
    go_wp2_with fail
    refine (HVG.out _ (by simp; omega) (H.out.alloc hB _)).mono ?_
    rintro e w1 ⟨rfl, hb⟩
    have q : w1.cell? ⟨w.heap.size, 0, none⟩ = some (.slice A n c) := (hb.cell (p := ⟨w.heap.size, 0, none⟩) (by simp)).trans (by go_simp)
    go_wp2
    go_ret
    exact ⟨rfl, ((Below.refl _ _).alloc (Nat.le_refl _) _).trans (hb.mono (by simp))⟩

theorem top_impl_ValidCells (gs : List Nd) (xs : List Int) (hG : GB gs) (hL : xs.length ≤ 1048576) : ∀ (A : Option Addr) (n c : Nat) (A' : Option Addr) (m c' : Nat) (w : World), n = gs.length → n ≤ c → GS w w.heap.size A gs → m = xs.length → IS w w.heap.size A' xs →
    Calls Try.prog 42 #[.agg #[.slice A n c], .slice A' m c'] w fun e w' => e = .returned (.bool (okC gs xs)) ∧ Below w.heap.size w w' :=
  fun A n c A' m c' w hn hc h hm h' => impl_ValidCells A A' n c m c' gs xs w w.heap.size (Nat.le_refl _) hn hc hm h h' hG (by omega)
end Go.Proofs.Ythnilpibpmlaeaa

/- Contracts of the laws' own copies of graphs: toNode, toNodeS, toGraph. -/
namespace Go.Proofs.Ythnilpibpmlaeaa
set_option linter.unusedSimpArgs false
set_option linter.unusedVariables false
open Go.RowKit

/-- Returns a node of fresh parts. -/
def RetNd (w : World) (d : Nd) (e : Ending) (w' : World) : Prop := ∃ (A : Option Addr) (n c : Nat), e = .returned (.agg #[.int .i64 d.k, .slice A n c]) ∧ n = d.ps.length ∧ w'.ownsRow w.heap.size 94 5 (.slice A n c) n (d.ps.flatMap Pt.cells) ∧ Below w.heap.size w w'

set_option maxHeartbeats 800000 in
theorem laws_toNode (A : Option Addr) (k : Int) (n c : Nat) (ps : List Pt) (w : World) (B : Nat) (hB : B ≤ w.heap.size) (hn : n = ps.length) (h : PS w B A ps) (hs : n ≤ 2000000) :
    Calls Try.prog 53 #[.agg #[.int .i64 k, .slice A n c]] w fun e w' => RetNd w ⟨k, ps⟩ e w' := by
  have H := Lib.hid h
  have HN := Lib.hid hn
  clear hn h
  go_enter Try.func53, Try.ntmps53
  go_wp2_with fail
  refine (laws_toFormula A n c ps _ B (by simp; omega) HN.out (((H.out.alloc hB _).alloc (by simp; omega) _).alloc (by simp; omega) _) hs).mono ?_
  rintro e w1 ⟨A1, n1, c1, rfl, hn1, hown, hb⟩
  obtain ⟨hc, hf⟩ := bcell hb
  have HO := Lib.hid hown
  have HN1 := Lib.hid hn1
  clear hown hn1
  have hw1 : w.heap.size + 3 ≤ w1.heap.size := by have := hb.size; simp at this; omega
  have q1 : w1.cell? ⟨w.heap.size + 1, 0, none⟩ = some (.int .i64 0) := by rw [hc _ _ (by simp)]; go_simp
  have q2 : w1.cell? ⟨w.heap.size + 1, 1, none⟩ = some (.slice none 0 0) := by rw [hc _ _ (by simp)]; go_simp
  have q3 : w1.cell? ⟨w.heap.size + 1 + 1, 0, none⟩ = some (.int .i64 k) := by rw [hc _ _ (by simp)]; go_simp
  have q4 : w1.cell? ⟨w.heap.size + 1 + 1, 1, none⟩ = some (.slice none 0 0) := by rw [hc _ _ (by simp)]; go_simp
  have q5 : w1.frozen? ⟨w.heap.size + 1, 0, none⟩ = false := by rw [hf _ _ (by simp)]; go_simp
  have q6 : w1.frozen? ⟨w.heap.size + 1, 1, none⟩ = false := by rw [hf _ _ (by simp)]; go_simp
  have q7 : w1.frozen? ⟨w.heap.size + 1 + 1, 0, none⟩ = false := by rw [hf _ _ (by simp)]; go_simp
  have q8 : w1.frozen? ⟨w.heap.size + 1 + 1, 1, none⟩ = false := by rw [hf _ _ (by simp)]; go_simp
  clear hc hf
  go_wp2
  refine bodyPost_ret (v := .agg #[.int .i64 k, .slice A1 n1 c1]) (by simp [results, Try.results53, go_sem, q1, q2, q3, q4]) rfl ?_
  have o1 := ownsRow_setCell_below HO.out (a := ⟨w.heap.size + 1 + 1, 1, none⟩) (by simp) (.slice A1 n1 c1)
  have o2 := ownsRow_setCell_below o1 (a := ⟨w.heap.size + 1, 0, none⟩) (by simp) (.int .i64 k)
  have o3 := ownsRow_setCell_below o2 (a := ⟨w.heap.size + 1, 1, none⟩) (by simp) (.slice A1 n1 c1)
  refine ⟨A1, n1, c1, rfl, HN1.out, own_mono o3 (by simp; omega), ?_⟩
  exact (((((((Below.refl _ _).alloc (Nat.le_refl _) _).alloc (by simp) _).alloc (by simp; omega) _).trans (hb.mono (by simp; omega))).setCell (by simp; omega) _).setCell (by simp) _).setCell (by simp) _

/-- Two cells written one after the other. -/
def set2 (xs : List Value) (j : Nat) (x y : Value) : List Value := (xs.set j x).set (j + 1) y

theorem set2_get (xs : List Value) (j : Nat) (x y : Value) (h : j + 1 < xs.length) : (set2 xs j x y)[j]? = some x ∧ (set2 xs j x y)[j + 1]? = some y ∧ ∀ i, i ≠ j → i ≠ j + 1 → (set2 xs j x y)[i]? = xs[i]? := by
  unfold set2
  refine ⟨?_, ?_, fun i h1 h2 => ?_⟩
  · rw [List.getElem?_set, if_neg (by omega), List.getElem?_set, if_pos rfl, if_pos (by omega)]
  · rw [List.getElem?_set, if_pos rfl, if_pos (by simpa using h)]
  · rw [List.getElem?_set, if_neg (by omega), List.getElem?_set, if_neg (by omega)]

theorem own_set2 {w : World} {base e size n cap g : Nat} {xs : List Value} (h : w.ownsRow base e size (.slice (some ⟨g, 0, none⟩) n cap) n xs) (j : Nat) (x y : Value) :
    ((w.setCell ⟨g, j, none⟩ x).setCell ⟨g, j + 1, none⟩ y).ownsRow base e size (.slice (some ⟨g, 0, none⟩) n cap) n (set2 xs j x y) :=
  ((h.stored j x).1.stored (j + 1) y).1

theorem NdO.setCell {lo hi : Nat} {d : Nd} {x y : Value} {w : World} (h : NdO lo hi d x y w) {a : Addr} (ha : a.block < lo) (u : Value) : NdO lo hi d x y (w.setCell a u) :=
  h.keep fun k hk _ => Below.heap_setCell _ _ _ _ (by omega)

theorem info_node : (Try.prog.info? 63).map (fun i => (i.zero, i.size, i.bytes)) = some (some (.agg #[.int .i64 0, .slice none 0 0]), 2, 32) := by kernel_rfl

set_option maxRecDepth 100000 in
set_option maxHeartbeats 800000 in
theorem laws_toNodeS (A : Option Addr) (n c : Nat) (gs : List Nd) (w : World) (B : Nat) (hB : B ≤ w.heap.size) (hn : n = gs.length) (h : GS w B A gs) (hs : GB gs) :
    Calls Try.prog 32 #[.slice A n c] w fun e w' => e = .returned (.slice (some ⟨w.heap.size, 0, none⟩) n n) ∧ OwG w.heap.size w'.heap.size (.slice (some ⟨w.heap.size, 0, none⟩) n n) n gs w' ∧ Below w.heap.size w w' := by
  have hn1 : n ≤ 1048576 := by rw [hn]; exact hs.1
  obtain ⟨i0, hi, hz0, hz1, hz2⟩ := info_parts info_node
  obtain ⟨w0, hmk, hown0, hgr0⟩ := run_make_full (P := Try.prog) w w.heap.size 32 63 i0 _ 2 Try.underlying32 hi hz0 hz1 .i64 .i64 n (by rw [hz2]; omega) (by unfold maxLen; omega) (Nat.le_refl _)
  have H := Lib.hid h
  have HN := Lib.hid hn
  have HS := Lib.hid hs
  clear hn h hs
  go_enter Try.func32, Try.ntmps32
  go_wp2
  go_loopw [4] (fun i wr => ∃ (k : Nat) (xs : List Value), k ≤ n ∧ i = .int .i64 k ∧ Hid (wr.ownsRow w.heap.size 63 2 (.slice (some ⟨w.heap.size, 0, none⟩) n n) n xs) ∧ Hid (∀ j, j < k → ∃ x y, xs[j * 2]? = some x ∧ xs[j * 2 + 1]? = some y ∧ NdO (w.heap.size + 1) wr.heap.size (gs.getD j default) x y wr) ∧ Below w.heap.size w wr ∧ w.heap.size < wr.heap.size) (fun i _ => n - (intOf i).toNat)
  case atStart => exact ⟨0, _, Nat.zero_le _, rfl, hown0, by intro j hj; omega, ⟨hgr0.os, hgr0.tape, hgr0.output, hgr0.size, fun k hk => hgr0.block k hk (by simp)⟩, (hown0.lt _ rfl).2⟩
  case round =>
    obtain ⟨k, xs, hk, rfl, HO, HT, hb, hsz⟩ := hrel
    by_cases hlt : k < n
    · obtain ⟨b, off, rfl, hbB, hc⟩ := H.out (by have := HN.out; omega)
      obtain ⟨c0, A1, n1, c1, c2, hn1', hps⟩ := hc k (by have := HN.out; omega)
      have hnb := HS.out.2 k
      clear hc H
      have b0 := (hb.cell (p := ⟨b, off + k * 2, none⟩) (by simp; omega)).trans c0
      have b1 := (hb.cell (p := ⟨b, off + k * 2 + 1, none⟩) (by simp; omega)).trans c2
      have HPS := Lib.hid (hps.below hb hB)
      clear c0 c2 hps
      generalize hp : gs.getD k default = d at *
      have HP := Lib.hid hp
      have HN1 := Lib.hid hn1'
      have hn1b : n1 ≤ 2000000 := by omega
      clear hp hn1'
      go_wp2_with fail
      refine (laws_toNode A1 d.k n1 c1 d.ps _ B (by omega) HN1.out HPS.out hn1b).mono ?_
      rintro e w1 ⟨A2, n2, c2, rfl, hn2, hown2, hb1⟩
      have hO1 := own_below HO.out hb1
      have hxl : xs.length = n * 2 := hO1.1
      have u0 := hO1.cellAt (k * 2) (by omega)
      have u1 := hO1.cellAt (k * 2 + 1) (by omega)
      rw [List.getElem?_eq_getElem (by omega)] at u0 u1
      have f0 := hO1.frozenAt (k * 2)
      have f1 := hO1.frozenAt (k * 2 + 1)
      generalize xs[k * 2]'(by omega) = v0 at u0
      generalize xs[k * 2 + 1]'(by omega) = v1 at u1
      have HO1 := Lib.hid hO1
      have HXL := Lib.hid hxl
      have HOW2 := Lib.hid hown2
      have HN2 := Lib.hid hn2
      clear hO1 hxl HO hown2 hn2
      go_wp2
      go_roundw
      case rel =>
        obtain ⟨s0, s1, s2⟩ := set2_get xs (k * 2) (.int .i64 d.k) (.slice A2 n2 c2) (by have := HXL.out; omega)
        refine ⟨k + 1, _, by omega, by go_num, own_set2 HO1.out (k * 2) _ _, ?_, ((hb.trans (hb1.mono hb.size)).setCell (Nat.le_refl _) _).setCell (Nat.le_refl _) _, by have := hb1.size; simp [World.setCell]; omega⟩
        intro j hj
        have hnew : NdO (w.heap.size + 1) w1.heap.size d (.int .i64 d.k) (.slice A2 n2 c2) w1 := ⟨rfl, A2, n2, c2, rfl, HN2.out, own_mono HOW2.out (by omega), fun k' hk' => (HOW2.out.lt k' hk').2⟩
        rcases Nat.lt_or_ge j k with h1 | h1
        · obtain ⟨x, y, hx, hy, hd⟩ := HT.out j h1
          refine ⟨x, y, by rw [s2 _ (by omega) (by omega)]; exact hx, by rw [s2 _ (by omega) (by omega)]; exact hy, ?_⟩
          have := ((hd.keep fun q _ hq => hb1.block q hq).mono (Nat.le_refl _) hb1.size : NdO (w.heap.size + 1) w1.heap.size _ x y w1)
          simpa [World.setCell] using (this.setCell (a := ⟨w.heap.size, k * 2, none⟩) (by simp) (.int .i64 d.k)).setCell (a := ⟨w.heap.size, k * 2 + 1, none⟩) (by simp) (.slice A2 n2 c2)
        · obtain rfl : j = k := by omega
          refine ⟨_, _, s0, s1, ?_⟩
          rw [HP.out]
          simpa [World.setCell] using (hnew.setCell (a := ⟨w.heap.size, j * 2, none⟩) (by simp) (.int .i64 d.k)).setCell (a := ⟨w.heap.size, j * 2 + 1, none⟩) (by simp) (.slice A2 n2 c2)
      case measure => simp [intOf]; omega
    · go_wp2
      go_ret
      have hkn : k = n := by omega
      subst hkn
      refine ⟨by simp, ⟨HN.out, xs, OwR.start HO.out, fun j hj => ?_⟩, hb⟩
      obtain ⟨x, y, hx, hy, hd⟩ := HT.out j hj
      exact ⟨x, y, hx, hy, hd.mono (by omega) (Nat.le_refl _)⟩

/-- Returns a graph of fresh nodes. -/
def RetGr (w : World) (gs : List Nd) (e : Ending) (w' : World) : Prop := ∃ (A : Option Addr) (n c : Nat), e = .returned (.agg #[.slice A n c]) ∧ n = gs.length ∧ OwG w.heap.size w'.heap.size (.slice A n c) n gs w' ∧ Below w.heap.size w w'

theorem OwG.setCell {lo hi n : Nat} {v : Value} {gs : List Nd} {w : World} (h : OwG lo hi v n gs w) {a : Addr} (ha : a.block < lo) (u : Value) : OwG lo hi v n gs (w.setCell a u) :=
  OwG.loc _ _ _ _ _ _ _ h fun k hk _ => Below.heap_setCell _ _ _ _ (by omega)

set_option maxHeartbeats 800000 in
theorem laws_toGraph (A : Option Addr) (n c : Nat) (gs : List Nd) (w : World) (B : Nat) (hB : B ≤ w.heap.size) (hn : n = gs.length) (h : GS w B A gs) (hs : GB gs) :
    Calls Try.prog 10 #[.agg #[.slice A n c]] w fun e w' => RetGr w gs e w' := by
  have H := Lib.hid h
  have HN := Lib.hid hn
  have HS := Lib.hid hs
  clear hn h hs
  go_enter Try.func10, Try.ntmps10
  go_wp2_with fail
  refine (laws_toNodeS _ _ _ gs _ B (by simp; omega) HN.out (((H.out.alloc hB _).alloc (by simp; omega) _).alloc (by simp; omega) _) HS.out).mono ?_
  rintro e w1 ⟨rfl, hown, hb⟩
  obtain ⟨hc, hf⟩ := bcell hb
  have HO := Lib.hid hown
  clear hown
  have hw1 : w.heap.size + 3 ≤ w1.heap.size := by have := hb.size; simp at this; omega
  have q1 : w1.cell? ⟨w.heap.size + 1, 0, none⟩ = some (.slice none 0 0) := by rw [hc _ _ (by simp)]; go_simp
  have q2 : w1.cell? ⟨w.heap.size + 1 + 1, 0, none⟩ = some (.slice none 0 0) := by rw [hc _ _ (by simp)]; go_simp
  have q3 : w1.frozen? ⟨w.heap.size + 1, 0, none⟩ = false := by rw [hf _ _ (by simp)]; go_simp
  have q4 : w1.frozen? ⟨w.heap.size + 1 + 1, 0, none⟩ = false := by rw [hf _ _ (by simp)]; go_simp
  clear hc hf
  go_wp2
  refine bodyPost_ret (v := .agg #[.slice (some ⟨w.heap.size + 1 + 1 + 1, 0, none⟩) n n]) (by simp [results, Try.results10, go_sem, q1]) rfl ?_
  have o1 := HO.out.setCell (a := ⟨w.heap.size + 1 + 1, 0, none⟩) (by simp) (.slice (some ⟨w.heap.size + 1 + 1 + 1, 0, none⟩) n n)
  have o2 := o1.setCell (a := ⟨w.heap.size + 1, 0, none⟩) (by simp) (.slice (some ⟨w.heap.size + 1 + 1 + 1, 0, none⟩) n n)
  have o3 := o2.mono (lo' := w.heap.size) (hi' := w1.heap.size) (by simp; omega) (Nat.le_refl _)
  simp only [World.size_alloc] at o3
  refine ⟨_, n, n, rfl, HN.out, by simpa [World.setCell] using o3, ?_⟩
  exact ((((((Below.refl _ _).alloc (Nat.le_refl _) _).alloc (by simp) _).alloc (by simp; omega) _).trans (hb.mono (by simp; omega))).setCell (by simp; omega) _).setCell (by simp) _
end Go.Proofs.Ythnilpibpmlaeaa

/- Contracts of the laws' own sizes and comparisons of graphs. -/
namespace Go.Proofs.Ythnilpibpmlaeaa
set_option linter.unusedSimpArgs false
set_option linter.unusedVariables false
open Go.RowKit

set_option maxHeartbeats 800000 in
theorem laws_szNode (A : Option Addr) (k : Int) (n c : Nat) (l : Int) (w : World) (hl0 : 0 ≤ l) (hl : l ≤ 2000000) (hn : n ≤ 9223372036854775807) :
    Calls Try.prog 50 #[.agg #[.int .i64 k, .slice A n c], .int .i64 l] w fun e w' => e = .returned (.int .i64 (if l - n < 0 then -1 else l - n)) ∧ Below w.heap.size w w' := by
  have HS := laws_szFormula A n c l
  by_cases h : l - n < 0
  · rw [if_pos h]
    have HC : ∀ w : World, Calls Try.prog 66 #[.agg #[.slice A n c], .int .i64 l] w fun e w' => e = .returned (.int .i64 (-1)) ∧ Below w.heap.size w w' := fun w => by
      have := HS w hl0 hl hn
      rwa [if_pos h] at this
    have HH := Lib.hid HC
    clear HC HS
    go_enter Try.func50, Try.ntmps50
    go_wp2_with fail
    refine (HH.out _).mono ?_
    rintro e w' ⟨rfl, hb⟩
    go_wp2
    go_ret
    exact ⟨rfl, ((Below.refl _ _).alloc (Nat.le_refl _) _).trans (hb.mono (by simp))⟩
  · rw [if_neg h]
    have HC : ∀ w : World, Calls Try.prog 66 #[.agg #[.slice A n c], .int .i64 l] w fun e w' => e = .returned (.int .i64 (l - n)) ∧ Below w.heap.size w w' := fun w => by
      have := HS w hl0 hl hn
      rwa [if_neg h] at this
    have HH := Lib.hid HC
    clear HC HS
    go_enter Try.func50, Try.ntmps50
    go_wp2_with fail
    refine (HH.out _).mono ?_
    rintro e w' ⟨rfl, hb⟩
    go_wp2
    go_ret
    exact ⟨rfl, ((Below.refl _ _).alloc (Nat.le_refl _) _).trans (hb.mono (by simp))⟩

/-- What is left of a size. -/
def leftOf (l : Int) (s : Nat) : Int := if (s : Int) ≤ l then l - s else -1

set_option maxRecDepth 100000 in
set_option maxHeartbeats 800000 in
theorem laws_szNodeS (A : Option Addr) (n c : Nat) (gs : List Nd) (l : Int) (w : World) (B : Nat) (hB : B ≤ w.heap.size) (hn : n = gs.length) (h : GS w B A gs) (hl0 : 0 ≤ l) (hl : l ≤ 2000000) (hm : n ≤ 9223372036854775807) (hm' : ∀ j, (gs.getD j default).ps.length ≤ 9223372036854775807) :
    Calls Try.prog 28 #[.slice A n c, .int .i64 l] w fun e w' => e = .returned (.int .i64 (leftOf l (gsz gs))) ∧ Below w.heap.size w w' := by
  by_cases hln : l - n < 0
  · have e : leftOf l (gsz gs) = -1 := by unfold leftOf; rw [if_neg (by unfold gsz; omega)]
    rw [e]
    clear e h hn hm'
    go_enter Try.func28, Try.ntmps28
    go_wp2
    go_ret
    exact ⟨rfl, Below.refl _ _⟩
  have H := Lib.hid h
  have HN := Lib.hid hn
  have HM := Lib.hid hm'
  clear hn h hm'
  go_enter Try.func28, Try.ntmps28
  go_wp2
  go_loopw [5, 1] (fun i u wr => ∃ (k : Nat) (q : Int), k ≤ n ∧ i = .int .i64 k ∧ u = .int .i64 q ∧ 0 ≤ q ∧ q ≤ 2000000 ∧ Hid (q = l - n - (((gs.take k).map fun d => d.ps.length).sum : Nat)) ∧ Below w.heap.size w wr) (fun i _ _ => n - (intOf i).toNat)
  case atStart => exact ⟨0, l - n, Nat.zero_le _, rfl, rfl, by omega, by omega, by simp [Hid], Below.refl _ _⟩
  case round =>
    obtain ⟨k, q, hk, rfl, rfl, hq0, hq, HQ, hb⟩ := hrel
    by_cases hlt : k < n
    · obtain ⟨b, off, rfl, hbB, hc⟩ := H.out (by have := HN.out; omega)
      obtain ⟨c0, A1, n1, c1, c2, hn1', hps⟩ := hc k (by have := HN.out; omega)
      have hnb := HM.out k
      clear hc H hps
      have b0 := (hb.cell (p := ⟨b, off + k * 2, none⟩) (by simp; omega)).trans c0
      have b1 := (hb.cell (p := ⟨b, off + k * 2 + 1, none⟩) (by simp; omega)).trans c2
      clear c0 c2
      have hst := sum_take_succ gs k (by have := HN.out; omega)
      have htl := sum_take_le gs (k + 1)
      generalize gs.getD k default = d at *
      have hnb1 : n1 ≤ 9223372036854775807 := by omega
      have HST := Lib.hid hst
      have HTL := Lib.hid htl
      have HN1 := Lib.hid hn1'
      clear hst htl hn1' hnb
      by_cases h1 : q - n1 < 0
      · have HC : ∀ w : World, Calls Try.prog 50 #[.agg #[.int .i64 d.k, .slice A1 n1 c1], .int .i64 q] w fun e w' => e = .returned (.int .i64 (-1)) ∧ Below w.heap.size w w' := fun w => by
          have := laws_szNode A1 d.k n1 c1 q w hq0 hq hnb1
          rwa [if_pos h1] at this
        have HH := Lib.hid HC
        clear HC
        go_wp2_with fail
        refine (HH.out _).mono ?_
        rintro e w' ⟨rfl, hb1⟩
        go_wp2
        go_ret
        refine ⟨ret_i ?_, hb.trans (hb1.mono hb.size)⟩
        unfold leftOf
        rw [if_neg]
        have a1 := HST.out; have a2 := HTL.out; have a3 := HN1.out; have a4 := HQ.out; have a5 := HN.out
        unfold gsz
        omega
      · have HC : ∀ w : World, Calls Try.prog 50 #[.agg #[.int .i64 d.k, .slice A1 n1 c1], .int .i64 q] w fun e w' => e = .returned (.int .i64 (q - n1)) ∧ Below w.heap.size w w' := fun w => by
          have := laws_szNode A1 d.k n1 c1 q w hq0 hq hnb1
          rwa [if_neg h1] at this
        have HH := Lib.hid HC
        clear HC
        go_wp2_with fail
        refine (HH.out _).mono ?_
        rintro e w' ⟨rfl, hb1⟩
        go_wp2
        go_roundw
        case rel => exact ⟨k + 1, q - n1, by omega, by go_num, rfl, by omega, by omega, by have a1 := HST.out; have a3 := HN1.out; have a4 := HQ.out; show q - n1 = _; omega, hb.trans (hb1.mono hb.size)⟩
        case measure => simp [intOf]; omega
    · obtain rfl : k = n := by omega
      go_wp2
      go_ret
      refine ⟨ret_i ?_, hb⟩
      have a4 := HQ.out
      have a5 := HN.out
      rw [a5, List.take_of_length_le (Nat.le_refl _)] at a4
      unfold leftOf
      rw [if_pos (by unfold gsz; omega), a4]
      unfold gsz
      omega

set_option maxHeartbeats 800000 in
theorem laws_szGraph (A : Option Addr) (n c : Nat) (gs : List Nd) (l : Int) (w : World) (B : Nat) (hB : B ≤ w.heap.size) (hn : n = gs.length) (h : GS w B A gs) (hl0 : 0 ≤ l) (hl : l ≤ 2000000) (hm : n ≤ 9223372036854775807) (hm' : ∀ j, (gs.getD j default).ps.length ≤ 9223372036854775807) :
    Calls Try.prog 7 #[.agg #[.slice A n c], .int .i64 l] w fun e w' => e = .returned (.int .i64 (leftOf l (gsz gs))) ∧ Below w.heap.size w w' := by
  have H := Lib.hid h
  have HC := Lib.hid fun (w : World) (hB : B ≤ w.heap.size) (h : GS w B A gs) => laws_szNodeS A n c gs l w B hB hn h hl0 hl hm hm'
  have hL : leftOf l (gsz gs) = -1 ∨ 0 ≤ leftOf l (gsz gs) := by unfold leftOf; split <;> omega
  generalize leftOf l (gsz gs) = L at *
  clear h hn hm'
  rcases hL with rfl | hL
  all_goals
    go_enter Try.func7, Try.ntmps7
    go_wp2_with fail
    refine (HC.out _ (by simp; omega) (H.out.alloc hB _)).mono ?_
    rintro e w' ⟨rfl, hb⟩
    go_wp2
    go_ret
    exact ⟨rfl, ((Below.refl _ _).alloc (Nat.le_refl _) _).trans (hb.mono (by simp))⟩

def eqNd (d e : Nd) : Bool := decide (d = e)
theorem eqNd_iff (d e : Nd) : eqNd d e = true ↔ d = e := by simp [eqNd]

set_option maxHeartbeats 800000 in
theorem laws_eqNode (A A' : Option Addr) (k k' : Int) (n n' c c' : Nat) (ps qs : List Pt) (w : World) (B : Nat) (hB : B ≤ w.heap.size) (hn : n = ps.length) (hn' : n' = qs.length) (h : PS w B A ps) (h' : PS w B A' qs) (hs : n ≤ 2000000) (hs' : n' ≤ 2000000) :
    Calls Try.prog 60 #[.agg #[.int .i64 k, .slice A n c], .agg #[.int .i64 k', .slice A' n' c']] w fun e w' => e = .returned (.bool (eqNd ⟨k, ps⟩ ⟨k', qs⟩)) ∧ Below w.heap.size w w' := by
  have hd : eqNd ⟨k, ps⟩ ⟨k', qs⟩ = (!(k != k') && decide (ps = qs)) := by
    simp only [eqNd, Nd.mk.injEq]
    by_cases h1 : k = k' <;> by_cases h2 : ps = qs <;> simp [h1, h2]
  rw [hd]
  have H := Lib.hid h
  have H' := Lib.hid h'
  have HN := Lib.hid hn
  have HN' := Lib.hid hn'
  clear hn hn' h h' hd
  cases hk : (k != k')
  · go_enter Try.func60, Try.ntmps60
    go_wp2_with fail
    refine (laws_eqFormula _ _ _ _ _ _ ps qs _ B (by simp; omega) HN.out HN'.out ((H.out.alloc hB _).alloc (by simp; omega) _) ((H'.out.alloc hB _).alloc (by simp; omega) _) hs hs').mono ?_
    rintro e w1 ⟨rfl, hb⟩
    go_wp2
    all_goals
      go_ret
      exact ⟨ret_b (by simp_all), ((Below.refl _ _).alloc (Nat.le_refl _) _).alloc (by simp) _ |>.trans (hb.mono (by simp; omega))⟩
  · go_enter Try.func60, Try.ntmps60
    go_wp2
    go_ret
    exact ⟨rfl, ((Below.refl _ _).alloc (Nat.le_refl _) _).alloc (by simp) _⟩

set_option maxRecDepth 100000 in
set_option maxHeartbeats 1600000 in
theorem laws_eqNodeS (A A' : Option Addr) (n n' c c' : Nat) (gs hs : List Nd) (w : World) (B : Nat) (hB : B ≤ w.heap.size) (hn : n = gs.length) (hn' : n' = hs.length) (h : GS w B A gs) (h' : GS w B A' hs) (hb1 : GB gs) (hb2 : GB hs) :
    Calls Try.prog 37 #[.slice A n c, .slice A' n' c'] w fun e w' => e = .returned (.bool (decide (gs = hs))) ∧ Below w.heap.size w w' := by
  have hm1 : n ≤ 1048576 := by rw [hn]; exact hb1.1
  have hm2 : n' ≤ 1048576 := by rw [hn']; exact hb2.1
  by_cases hl : n = n'
  · have hne : ((n : Int) != (n' : Int)) = false := by simp [hl]
    have HL := Lib.hid hl
    have HN := Lib.hid hn
    have HN' := Lib.hid hn'
    have H := Lib.hid h
    have H' := Lib.hid h'
    have HB1 := Lib.hid hb1
    have HB2 := Lib.hid hb2
    clear hl hn hn' h h' hb1 hb2
    go_enter Try.func37, Try.ntmps37
    go_wp2
    go_loopw [5] (fun i wr => ∃ k : Nat, k ≤ n ∧ i = .int .i64 k ∧ Hid (gs.take k = hs.take k) ∧ Below w.heap.size w wr) (fun i _ => n - (intOf i).toNat)
    case atStart => exact ⟨0, Nat.zero_le _, rfl, by simp [Hid], Below.refl _ _⟩
    case round =>
      obtain ⟨k, hk, rfl, HT, hb⟩ := hrel
      by_cases hlt : k < n
      · obtain ⟨b, off, rfl, hbB, hc⟩ := H.out (by have := HN.out; omega)
        obtain ⟨b', off', rfl, hbB', hc'⟩ := H'.out (by have := HN'.out; have := HL.out; omega)
        obtain ⟨c0, A1, n1, c1, c2, hn1', hps⟩ := hc k (by have := HN.out; omega)
        obtain ⟨d0, A2, n2, d1, d2, hn2', hqs⟩ := hc' k (by have := HN'.out; have := HL.out; omega)
        have hx1 := HB1.out.2 k
        have hx2 := HB2.out.2 k
        clear hc hc' H H'
        have hlt' : k < n' := by have := HL.out; omega
        have b0 := (hb.cell (p := ⟨b, off + k * 2, none⟩) (by simp; omega)).trans c0
        have b1 := (hb.cell (p := ⟨b, off + k * 2 + 1, none⟩) (by simp; omega)).trans c2
        have e0 := (hb.cell (p := ⟨b', off' + k * 2, none⟩) (by simp; omega)).trans d0
        have e1 := (hb.cell (p := ⟨b', off' + k * 2 + 1, none⟩) (by simp; omega)).trans d2
        have HPS := Lib.hid (hps.below hb hB)
        have HQS := Lib.hid (hqs.below hb hB)
        clear c0 c2 d0 d2 hps hqs
        generalize hp : gs.getD k default = p at *
        generalize hq : hs.getD k default = q at *
        have HP := Lib.hid hp
        have HQ := Lib.hid hq
        have HN1 := Lib.hid hn1'
        have HN2 := Lib.hid hn2'
        have hy1 : n1 ≤ 2000000 := by omega
        have hy2 : n2 ≤ 2000000 := by omega
        clear hp hq hn1' hn2' hx1 hx2
        go_wp2
        go_still_tail 8, (by kernel_rfl)
        go_wp2_with (go_at_call 60; refine (laws_eqNode _ _ _ _ _ _ _ _ p.ps q.ps wr.drew B (Nat.le_trans hB hb.size) HN1.out HN2.out HPS.out HQS.out hy1 hy2).mono ?_; rintro e w1 ⟨rfl, hb1⟩)
        · have ht : (!eqNd p q) = true := by assumption
          go_ret
          refine ⟨ret_b ?_, hb.drew.trans (hb1.mono hb.size)⟩
          have hne : gs.getD k default ≠ hs.getD k default := by
            rw [HP.out, HQ.out]; intro e; rw [(eqNd_iff p q).2 e] at ht; cases ht
          simp [getD_ne gs hs k hne]
        · have ht : (!eqNd p q) = false := by assumption
          have he : gs.getD k default = hs.getD k default := by
            rw [HP.out, HQ.out]; exact (eqNd_iff p q).1 (by simpa using ht)
          have hts := take_step gs hs k (by have := HN.out; omega) (by have := HN'.out; omega) HT.out he
          clear he
          go_roundw
          case rel => exact ⟨k + 1, by omega, by go_num, hts, hb.drew.trans (hb1.mono hb.size)⟩
          case measure => simp [intOf]; omega
      · go_wp2
        go_ret
        refine ⟨ret_b ?_, hb⟩
        have hkn : k = n := by omega
        have := take_all_eq gs hs n HN.out (HL.out.trans HN'.out) (by rw [← hkn]; exact HT.out)
        simp [this]
  · have hne : ((n : Int) != (n' : Int)) = true := by simp; omega
    have hf : decide (gs = hs) = false := by
      rw [decide_eq_false_iff_not]; rintro rfl; omega
    rw [hf]
    clear hl hn hn' h h' hf hb1 hb2
    go_enter Try.func37, Try.ntmps37
    go_wp2
    go_ret
    exact ⟨rfl, Below.refl _ _⟩

set_option maxHeartbeats 400000 in
theorem laws_eqGraph (A A' : Option Addr) (n n' c c' : Nat) (gs hs : List Nd) (w : World) (B : Nat) (hB : B ≤ w.heap.size) (hn : n = gs.length) (hn' : n' = hs.length) (h : GS w B A gs) (h' : GS w B A' hs) (hb1 : GB gs) (hb2 : GB hs) :
    Calls Try.prog 13 #[.agg #[.slice A n c], .agg #[.slice A' n' c']] w fun e w' => e = .returned (.bool (decide (gs = hs))) ∧ Below w.heap.size w w' := by
  have H := Lib.hid h
  have H' := Lib.hid h'
  have HN := Lib.hid hn
  have HN' := Lib.hid hn'
  have HB1 := Lib.hid hb1
  have HB2 := Lib.hid hb2
  clear hn hn' h h' hb1 hb2
  go_enter Try.func13, Try.ntmps13
  go_wp2_with fail
  refine (laws_eqNodeS _ _ _ _ _ _ gs hs _ B (by simp; omega) HN.out HN'.out ((H.out.alloc hB _).alloc (by simp; omega) _) ((H'.out.alloc hB _).alloc (by simp; omega) _) HB1.out HB2.out).mono ?_
  rintro e w1 ⟨rfl, hb⟩
  go_wp2
  all_goals
    go_ret
    exact ⟨ret_b (by simp_all), ((Below.refl _ _).alloc (Nat.le_refl _) _).alloc (by simp) _ |>.trans (hb.mono (by simp; omega))⟩
end Go.Proofs.Ythnilpibpmlaeaa

/- The contract of the laws' own marks on graphs: only blocks of the graph turn. -/
namespace Go.Proofs.Ythnilpibpmlaeaa
set_option linter.unusedSimpArgs false
set_option linter.unusedVariables false
open Go.RowKit

/-- What a mark leaves, where the marks do not matter. -/
def MkW (lo hi : Nat) (w : World) (k top : Int) (e : Ending) (w' : World) : Prop := ∃ k' : Int, e = .returned (.int .i64 k') ∧ k ≤ k' ∧ k' ≤ top ∧ Tch lo hi w w'

set_option maxRecDepth 100000 in
set_option maxHeartbeats 1600000 in
theorem laws_markNodeS (lo hi n : Nat) (v : Value) (k : Int) (w : World) (h : WkG lo hi v n w) (hs : n ≤ 1048576) (hk : 0 ≤ k) (hk' : k ≤ 562949953421312) (hhi : hi ≤ w.heap.size) :
    Calls Try.prog 44 #[v, .int .i64 k] w fun e w' => MkW lo hi w k (k + n * 5242881) e w' := by
  obtain ⟨A, c, rfl⟩ := own_form h.choose_spec.1.1
  have hch := h.choose_spec.1
  generalize h.choose = xs0 at hch
  rcases hch.1.2 with ⟨hv, rfl⟩ | ⟨g, cap, _, hv, hbg, hgh, hrest⟩
  · clear h hv hch
    go_enter Try.func44, Try.ntmps44
    go_wp2
    go_loopw [5, 1] (fun i u wr => i = .int .i64 0 ∧ u = .int .i64 k ∧ wr = w) (fun i _ _ => 0)
    case atStart => exact ⟨rfl, rfl, rfl⟩
    case round =>
      obtain ⟨rfl, rfl, rfl⟩ := hrel
      go_wp2
      go_ret
      exact ⟨k, rfl, Int.le_refl _, by simp, Tch.refl _ _ _⟩
  · cases hv
    have hgi : lo ≤ g ∧ g < hi := ⟨hbg, hch.2 g rfl⟩
    have HW := Lib.hid h
    clear h hgh hch hrest
    go_enter Try.func44, Try.ntmps44
    go_wp2
    go_loopw [5, 1] (fun i u wr => ∃ (j : Nat) (q : Int), j ≤ n ∧ i = .int .i64 j ∧ u = .int .i64 q ∧ k ≤ q ∧ q ≤ k + j * 5242881 ∧ Hid (WkG lo hi (.slice (some ⟨g, 0, none⟩) n c) n wr) ∧ Hid (Tch lo hi w wr)) (fun i _ _ => n - (intOf i).toNat)
    case atStart => exact ⟨0, k, by omega, rfl, rfl, by omega, by simp, HW.out, Tch.refl _ _ _⟩
    case round =>
      obtain ⟨j, q, hj, rfl, rfl, hq0, hq1, HY, HT⟩ := hrel
      by_cases hlt : j < n
      · have hq2 : q ≤ 568447512150016 := by omega
        have hq00 : 0 ≤ q := by omega
        have HY2 := Lib.hid (HY.out.kind j hlt q)
        obtain ⟨xs, ho, hx⟩ := HY.out
        obtain ⟨q', A1, m1, c1, hx0, hx1, hm1, ys, hr⟩ := hx j hlt
        have u0 := (ho.1.cellAt (j * 2) (by omega)).trans hx0
        have u1 := (ho.1.cellAt (j * 2 + 1) (by omega)).trans hx1
        have f0 := ho.1.frozenAt (j * 2)
        have hb : Tch lo hi wr (wr.setCell ⟨g, j * 2, none⟩ (.int .i64 q)) := Tch.of_grown (ho.1.stored (j * 2) (.int .i64 q)).2 fun k hk => by simp at hk; omega
        have HR : Hid (OwR lo hi 94 5 (.slice A1 m1 c1) m1 ys (wr.setCell ⟨g, j * 2, none⟩ (.int .i64 q))) := ⟨hr.1.kept (ho.1.stored (j * 2) (.int .i64 q)).2 (blocks_ne hr.1 ho.1 node_ne_part.symm), hr.2⟩
        have HB := Lib.hid hb
        clear hx ho hr hb hx0 hx1 HY
        go_wp2_with fail
        refine (laws_markPartS lo m1 _ ys (q + 1) _ HR.out.1 (by omega) (by omega) (by omega)).mono ?_
        rintro e w1 hm
        have he := hm.1
        have HY3 := Lib.hid (HY2.out.marked ⟨ys, HR.out.1⟩ hm)
        have HT3 : Hid (Tch lo hi w w1) := (HT.out.trans HB.out).trans (Tch.of_grown hm.2.2 fun k hk => ⟨(HR.out.1.lt k hk).1, HR.out.2 k hk⟩)
        obtain ⟨q3, hq3⟩ : ∃ q3 : Int, q3 = q + 1 + ((m1 * 5 : Nat) : Int) := ⟨_, rfl⟩
        rw [← hq3] at he
        have hq4 : k ≤ q3 := by omega
        have hq5 : q3 ≤ k + (j + 1) * 5242881 := by omega
        subst he
        clear hm hq3 HY2 HR HB HT
        go_wp2
        go_roundw
        case rel => exact ⟨j + 1, q3, by omega, by go_num, rfl, hq4, by simpa using hq5, HY3.out, HT3.out⟩
        case measure => simp [intOf]; omega
      · obtain rfl : j = n := by omega
        go_wp2
        go_ret
        exact ⟨q, rfl, hq0, by simpa using hq1, HT.out⟩

set_option maxHeartbeats 800000 in
theorem laws_markGraph (lo hi n c : Nat) (A : Option Addr) (k : Int) (w : World) (h : WkG lo hi (.slice A n c) n w) (hs : n ≤ 1048576) (hk : 0 ≤ k) (hk' : k ≤ 562949953421312) (hhi : hi ≤ w.heap.size) :
    Calls Try.prog 19 #[.agg #[.slice A n c], .int .i64 k] w fun e w' => MkW lo hi w k (k + n * 5242881) e w' := by
  have H := Lib.hid h
  clear h
  go_enter Try.func19, Try.ntmps19
  go_wp2_with fail
  refine (laws_markNodeS lo hi n _ k _ (H.out.step ((Below.refl _ _).alloc (Nat.le_refl _) _) hhi) hs hk hk' (by simp; omega)).mono ?_
  rintro e w1 ⟨k1, rfl, hk1, hk2, ht⟩
  go_wp2
  go_ret
  exact ⟨k1, rfl, hk1, hk2, (Tch.of_below ((Below.refl _ _).alloc (Nat.le_refl _) _)).trans ht⟩
end Go.Proofs.Ythnilpibpmlaeaa
