/- MayRead and ReadsOf: both sides; ReadsWhole. -/
import Derived.Test.YtkmhpiojbocjkaaA16
import Derived.Test.YtkmhpiojbocjkaaLW
import Derived.Maps.AppendAt
namespace Go.Proofs.Ytkmhpiojbocjkaa
set_option linter.unusedSimpArgs false
set_option linter.unusedVariables false
open Go.RowKit

/-- What MayRead answers. -/
def mayF (ps : List Pt) : List Int := if validF ps then mayR ps else []

/-- Ten marks: which nodes the first parts have. -/
def Mrk10 (w : World) (g : Nat) (ps : List Pt) : Prop :=
  g < w.heap.size ∧ ∀ t : Nat, t < 10 → w.cell? ⟨g, t, none⟩ = some (.bool (hasNode ps t)) ∧ w.frozen? ⟨g, t, none⟩ = false

theorem Mrk10.below {w w' : World} {g : Nat} {ps : List Pt} (h : Mrk10 w g ps) (hb : Below w.heap.size w w') : Mrk10 w' g ps :=
  ⟨Nat.lt_of_lt_of_le h.1 hb.size, fun t ht => ⟨(hb.cell (p := ⟨g, t, none⟩) h.1).trans (h.2 t ht).1, (hb.frozen (p := ⟨g, t, none⟩) h.1).trans (h.2 t ht).2⟩⟩

theorem hasNode_append (ps : List Pt) (p : Pt) (t : Nat) : hasNode (ps ++ [p]) t = (hasNode ps t || (p.k == 1 && p.n == (t : Int))) := by
  simp [hasNode, List.any_append]

theorem Mrk10.keep {w : World} {g : Nat} {ps : List Pt} {p : Pt} (h : Mrk10 w g ps) (hp : (p.k == 1) = false) : Mrk10 w g (ps ++ [p]) :=
  ⟨h.1, fun t ht => by rw [hasNode_append, hp]; simpa using h.2 t ht⟩

theorem Mrk10.set {w : World} {g : Nat} {ps : List Pt} {p : Pt} (h : Mrk10 w g ps) (q : Nat) (hq : q < 10) (hk : (p.k == 1) = true) (hn : p.n = (q : Int)) : Mrk10 (w.setCell ⟨g, q, none⟩ (.bool true)) g (ps ++ [p]) := by
  refine ⟨by simpa [World.setCell] using h.1, fun j hj => ?_⟩
  obtain ⟨h1, h2⟩ := h.2 j hj
  rw [hasNode_append, hk, hn]
  by_cases e : j = q
  · subst e
    refine ⟨?_, by simpa using h2⟩
    rw [World.cell?_setCell_same _ _ _ h1]; simp
  · refine ⟨?_, by simpa using h2⟩
    rw [World.cell?_setCell_other _ _ _ _ (by intro e'; simp at e'; try omega), h1]
    have : ((q : Int) == (j : Int)) = false := by simp; omega
    simp [this]

theorem mayR_below (ps : List Pt) : (((List.range 10).filter (hasNode ps)).map fun m : Nat => (m : Int)) = mayR ps := rfl

set_option maxRecDepth 100000 in
set_option maxHeartbeats 1600000 in
theorem impl_MayRead (A : Option Addr) (n c : Nat) (ps : List Pt) (w : World) (B : Nat) (hB : B ≤ w.heap.size) (hn : n = ps.length) (h : PS w B A ps) (hs : n ≤ 1999999) :
    Calls Try.prog 57 #[.agg #[.slice A n c]] w fun e w' => RetI w (mayF ps) e w' := by
  obtain ⟨i0, hi, hz0, hz1, hz2⟩ := info_parts info_int
  have H := Lib.hid h
  have HN := Lib.hid hn
  clear h hn
  cases hv : validF ps
  · have hd : mayF ps = [] := by simp [mayF, hv]
    rw [hd]
    have HV := Lib.hid hv
    clear hd hv
    go_enter Try.func57, Try.ntmps57
    go_wp2_with fail
    refine (impl_ValidFormula _ _ _ ps _ B (by simp; omega) HN.out (H.out.alloc hB _) (by omega)).mono ?_
    rintro e w1 ⟨rfl, hb⟩
    rw [HV.out]
    go_wp2
    go_ret
    exact ⟨_, rfl, World.ownsRow_nil _ _ _ _, ((Below.refl _ _).alloc (Nat.le_refl _) _).trans (hb.mono (by simp))⟩
  · have hd : mayF ps = mayR ps := by simp [mayF, hv]
    rw [hd]
    obtain ⟨hg, h1, h12⟩ := validF_good ps hv
    have HV := Lib.hid hv
    have HG := Lib.hid hg
    clear hd hv hg h1 h12
    go_enter Try.func57, Try.ntmps57
    go_wp2_with fail
    refine (impl_ValidFormula _ _ _ ps _ B (by simp; omega) HN.out (H.out.alloc hB _) (by omega)).mono ?_
    rintro e w1 ⟨rfl, hb⟩
    rw [HV.out]
    have hbox : w1.cell? ⟨w.heap.size, 0, none⟩ = some (.slice A n c) := (hb.cell (p := ⟨w.heap.size, 0, none⟩) (by simp)).trans (by go_simp)
    have HW := Lib.hid ((H.out.alloc hB _).below hb (by simp; omega))
    have hw1 : w.heap.size + 1 ≤ w1.heap.size := by have := hb.size; simpa using this
    have hB1 : Below w.heap.size w w1 := ((Below.refl _ _).alloc (Nat.le_refl _) _).trans (hb.mono (by simp))
    have hws : w.heap.size < w1.heap.size := by omega
    clear hb H
    go_wp2
    go_loopw [14] (fun i wr => ∃ k : Nat, k ≤ n ∧ i = .int .i64 k ∧ Hid (Mrk10 wr w1.heap.size (ps.take k)) ∧ Hid (Below w1.heap.size w1 wr)) (fun i _ => n - (intOf i).toNat)
    case atStart =>
      refine ⟨0, Nat.zero_le _, rfl, ⟨by simp, fun t ht => ?_⟩, below_new w1 _⟩
      have ht' : t = 0 ∨ t = 1 ∨ t = 2 ∨ t = 3 ∨ t = 4 ∨ t = 5 ∨ t = 6 ∨ t = 7 ∨ t = 8 ∨ t = 9 := by omega
      rcases ht' with rfl | rfl | rfl | rfl | rfl | rfl | rfl | rfl | rfl | rfl <;> exact ⟨by go_simp; rfl, by go_simp⟩
    case round =>
      obtain ⟨k, hk, rfl, HM, HB⟩ := hrel
      have hwr : w1.heap.size < wr.heap.size := HM.out.1
      by_cases hlt : k < n
      · obtain ⟨b, off, rfl, hbB, hc⟩ := HW.out (by have := HN.out; omega)
        obtain ⟨c0, c1, c2, c3, c4⟩ := hc k (by have := HN.out; omega)
        clear hc
        have hbw : b < w1.heap.size := by omega
        have b0 := (HB.out.cell (p := ⟨b, off + k * 5, none⟩) hbw).trans c0
        have b1 := (HB.out.cell (p := ⟨b, off + k * 5 + 1, none⟩) hbw).trans c1
        have b2 := (HB.out.cell (p := ⟨b, off + k * 5 + 2, none⟩) hbw).trans c2
        have b3 := (HB.out.cell (p := ⟨b, off + k * 5 + 3, none⟩) hbw).trans c3
        have b4 := (HB.out.cell (p := ⟨b, off + k * 5 + 4, none⟩) hbw).trans c4
        clear c0 c1 c2 c3 c4
        have hgk := HG.out k (by have := HN.out; omega)
        have HTS := Lib.hid (take_succ_getD ps k (by have := HN.out; omega))
        generalize ps.getD k default = p at *
        cases h1 : (p.k == 1)
        · have H1 := Lib.hid h1
          go_wp2
          go_roundw
          case rel => exact ⟨k + 1, by omega, by go_num, by rw [HTS.out]; exact (HM.out.below (below_new wr _)).keep H1.out, HB.out.alloc (by omega) _⟩
          case measure => simp [intOf]; omega
        · obtain ⟨q, hq⟩ : ∃ q : Nat, p.n = (q : Int) := by
            have := (good_num p k hgk).2 (by simpa using h1)
            exact ⟨p.n.toNat, by omega⟩
          have hq10 : q < 10 := by
            have := (good_num p k hgk).2 (by simpa using h1)
            omega
          have HMa := Lib.hid (HM.out.below (below_new wr (.cells #[.int .i64 p.k, .int .i64 p.a, .int .i64 p.b, .int .i64 p.c, .int .i64 p.n] 117)))
          rw [hq] at b4 HMa
          obtain ⟨hm1, hm2⟩ := HMa.out.2 q hq10
          have H1 := Lib.hid h1
          have HQ := Lib.hid hq
          clear hgk hq
          go_wp2
          go_roundw
          case rel => exact ⟨k + 1, by omega, by go_num, by rw [HTS.out]; exact (HM.out.set q hq10 H1.out HQ.out).below (below_new _ _), (HB.out.setCell (p := ⟨w1.heap.size, q, none⟩) (Nat.le_refl _) _).alloc (by simp [World.setCell]; omega) _⟩
          case measure => simp [intOf]; omega
      · obtain rfl : k = n := by omega
        rw [List.take_of_length_le (by have := HN.out; omega)] at HM
        clear hlt hk
        go_wp2
        go_loopw [6, 25] (fun v i wi => ∃ m : Nat, m ≤ 10 ∧ i = .int .i64 m ∧ Hid (OwnI wi (w1.heap.size + 1) v (((List.range m).filter (hasNode ps)).map fun m : Nat => (m : Int))) ∧ Hid (Below (w1.heap.size + 1) wr wi)) (fun _ i _ => 10 - (intOf i).toNat)
        case atStart => exact ⟨0, by omega, rfl, World.ownsRow_nil _ _ _ _, Below.refl _ _⟩
        case round =>
          obtain ⟨m, hm, rfl, HO, HBi⟩ := hrel
          by_cases hm10 : m < 10
          · have hc := (HBi.out.cell (p := ⟨w1.heap.size, m, none⟩) (by simp)).trans (HM.out.2 m hm10).1
            have HST := Lib.hid (mayR_step ps m)
            have hml := mayR_len ps m
            generalize hF : (((List.range m).filter (hasNode ps)).map fun m : Nat => (m : Int)) = F at *
            clear hF
            cases hh : hasNode ps m
            · rw [hh] at hc
              have HH := Lib.hid hh
              clear hh
              go_wp2
              go_roundw
              case rel => exact ⟨m + 1, by omega, by go_num, by rw [HST.out, HH.out]; simpa [Hid] using HO.out, HBi.out⟩
              case measure => simp [intOf]; omega
            · rw [hh] at hc
              have HH := Lib.hid hh
              clear hh
              obtain ⟨wi, hwi⟩ : ∃ wi : World, wi = wr := ⟨_, rfl⟩
              have hsz : w1.heap.size + 1 ≤ wi.heap.size := by have := HBi.out.size; rw [hwi]; omega
              rw [hwi] at hsz
              clear hwi
              go_wp2_with (at_builtin; refine wpList_append_own _ rfl _ _ 55 rfl (w1.heap.size + 1) 3 i0 (.int .i64 0) 1 8 Try.underlying55 hi hz0 hz1 hz2 rfl (by decide) _ _ _ rfl (HO.out.alloc _) ⟨_, 0, none⟩ 1 1 [.int .i64 m] rfl rfl (cell_one_new _ _ _) ?c2 ?c3 ?c4 ?c5 ?_)
              case c2 => intro u hu; simp at hu; subst hu; rfl
              case c3 => unfold maxLen; omega
              case c4 => omega
              case c5 => simp; omega
              intro v' w3 hown' hgrow _
              have hpos := (HO.out.alloc (.cells #[.int .i64 m] 3)).lt
              have HO' : Hid (OwnI w3 (w1.heap.size + 1) v' (((List.range (m + 1)).filter (hasNode ps)).map fun m : Nat => (m : Int))) := by
                rw [HST.out, HH.out]
                simpa [OwnI, Hid] using hown'
              have HB' := Lib.hid ((HBi.out.alloc hsz (.cells #[.int .i64 m] 3)).grown hgrow (by simp; omega) (fun q hq => (hpos q hq).1))
              clear hown' hgrow hpos
              go_wp2
              go_roundw
              case rel => exact ⟨m + 1, by omega, by go_num, HO'.out, HB'.out⟩
              case measure => simp [intOf]; omega
          · obtain rfl : m = 10 := by omega
            rw [mayR_below] at HO
            go_wp2
            go_ret
            exact ⟨_, rfl, own_mono HO.out (by omega), hB1.trans ((HB.out.trans (HBi.out.mono (by omega))).mono (by omega))⟩

set_option maxHeartbeats 400000 in
theorem slices_Index (A : Option Addr) (n c : Nat) (xs : List Int) (x : Int) (w : World) (B : Nat) (hB : B ≤ w.heap.size) (hn : n = xs.length) (h : IS w B A xs) (hs : n ≤ 2000000) :
    Calls Try.prog 74 #[.slice A n c, .int .i64 x] w fun e w' => e = .returned (.int .i64 (plc xs x)) ∧ w = w' := by
  have H := Lib.hid h
  have HN := Lib.hid hn
  clear hn h
  go_enter Try.func74, Try.ntmps74
  go_wp2
  go_loop [8] (fun i => ∃ k : Nat, k ≤ n ∧ i = .int .i64 k ∧ Hid (∀ j, j < k → xs.getD j 0 ≠ x)) (fun i => n - (intOf i).toNat)
  case atStart => exact ⟨0, Nat.zero_le _, rfl, fun j hj => by omega⟩
  case round =>
    obtain ⟨k, hk, rfl, HA⟩ := hrel
    by_cases hlt : k < n
    · obtain ⟨b, off, rfl, hbB, hc⟩ := H.out (by have := HN.out; omega)
      have c0 := hc k (by have := HN.out; omega)
      clear hc H
      generalize hp : xs.getD k 0 = p at *
      have HP := Lib.hid hp
      clear hp
      cases hr : (x == p)
      · have HR := Lib.hid hr
        go_wp2
        go_round
        case rel => exact ⟨k + 1, by omega, by go_num, fun j hj => by
          rcases Nat.lt_or_ge j k with h1 | h1
          · exact HA.out j h1
          · obtain rfl : j = k := by omega
            rw [HP.out]; intro e; have := HR.out; rw [e] at this; simp at this⟩
        case measure => simp [intOf]; omega
      · have HR := Lib.hid hr
        go_wp2
        go_ret
        refine ⟨ret_i ?_, rfl⟩
        exact (plc_at xs x k (by have := HN.out; omega) (by rw [HP.out]; have := HR.out; simp at this; exact this.symm) HA.out).symm
    · go_wp2
      go_ret
      refine ⟨ret_i ?_, rfl⟩
      exact (plc_none xs x fun j hj => HA.out j (by have := HN.out; omega)).symm

theorem plc_ge (l : List Int) (x : Int) : decide (0 ≤ plc l x) = decide (x ∈ l) := by
  unfold plc
  by_cases h : x ∈ l
  · simp [h]
  · simp [h]

set_option maxHeartbeats 400000 in
theorem slices_Contains (A : Option Addr) (n c : Nat) (xs : List Int) (x : Int) (w : World) (B : Nat) (hB : B ≤ w.heap.size) (hn : n = xs.length) (h : IS w B A xs) (hs : n ≤ 2000000) :
    Calls Try.prog 62 #[.slice A n c, .int .i64 x] w fun e w' => e = .returned (.bool (decide (x ∈ xs))) ∧ w = w' := by
  have H := Lib.hid h
  have HN := Lib.hid hn
  have HP := Lib.hid (plc_ge xs x)
  clear hn h
  go_enter Try.func62, Try.ntmps62
  go_wp2_with fail
  refine (slices_Index A n c xs x _ B hB HN.out H.out hs).mono ?_
  rintro e w' ⟨rfl, rfl⟩
  go_wp2
  all_goals
    go_ret
    exact ⟨ret_b (by rw [← HP.out]; try simp), rfl⟩

/-- The footprint of the closure of ReadsOf: the variable's block, and the row that it holds. -/
def footR (g : Nat) (w : World) (k : Nat) : Prop := k = g ∨ ∃ v, w.cell? ⟨g, 0, none⟩ = some v ∧ v.ownBlock = some k

/-- What the closure of ReadsOf keeps: the variable holds the first ones of what was read; all below it is as it was. -/
structure IR (g : Nat) (W : World) (acc : List Int) (w : World) : Prop where
  bel : Below g W w
  lt : g < w.heap.size
  free : w.frozen? ⟨g, 0, none⟩ = false
  cell : ∃ v, w.cell? ⟨g, 0, none⟩ = some v ∧ OwnI w (g + 1) v (firsts acc)

theorem IR.step {g : Nat} {W w w' : World} {acc : List Int} (h : IR g W acc w) (hb : Below w.heap.size w w') : IR g W acc w' := by
  obtain ⟨v, hv, ho⟩ := h.cell
  exact ⟨h.bel.trans (hb.mono (Nat.le_of_lt h.lt)), Nat.lt_of_lt_of_le h.lt hb.size, (hb.frozen (p := ⟨g, 0, none⟩) h.lt).trans h.free, v, (hb.cell (p := ⟨g, 0, none⟩) h.lt).trans hv, own_below ho hb⟩

theorem IR.foot_lt {g : Nat} {W w : World} {acc : List Int} (h : IR g W acc w) (k : Nat) (hf : footR g w k) : k < w.heap.size := by
  rcases hf with rfl | ⟨v, hv, hk⟩
  · exact h.lt
  · obtain ⟨v', hv', ho⟩ := h.cell
    rw [hv] at hv'
    cases hv'
    exact (ho.lt k hk).2

theorem IR.foot_step {g : Nat} {W w w' : World} {acc : List Int} (h : IR g W acc w) (hb : Below w.heap.size w w') (k : Nat) (hf : footR g w' k) : footR g w k := by
  rcases hf with rfl | ⟨v, hv, hk⟩
  · exact .inl rfl
  · exact .inr ⟨v, by rw [← hb.cell (p := ⟨g, 0, none⟩) h.lt]; exact hv, hk⟩

theorem firsts_snoc (acc : List Int) (x : Int) : firsts (acc ++ [x]) = if x ∈ firsts acc then firsts acc else firsts acc ++ [x] := by
  unfold firsts
  rw [List.foldl_append]
  rfl

set_option maxRecDepth 100000 in
set_option maxHeartbeats 1600000 in
theorem look_read (A' : Option Addr) (m c' g gv q : Nat) (vs acc : List Int) (W w : World) (B : Nat) (hm : m = vs.length) (hs' : m ≤ 2000000) (hq : q < vs.length) (hgv : gv < g) (hBg : B ≤ g) (hc : W.cell? ⟨gv, 0, none⟩ = some (.slice A' m c')) (h : IS W B A' vs) (hI : IR g W acc w) (hac : (firsts acc).length ≤ 1000000) :
    Calls Try.prog 120 #[.int .i64 q, .pointer (some ⟨g, 0, none⟩), .pointer (some ⟨gv, 0, none⟩)] w fun e w' => e = .returned (.int .i64 (vs.getD q 0)) ∧ IR g W (acc ++ [(q : Int)]) w' ∧ Fr (footR g) w w' := by
  obtain ⟨i0, hi, hz0, hz1, hz2⟩ := info_parts info_int
  obtain ⟨b, off, rfl, hb, hcc⟩ := h (by omega)
  have hx := (hI.bel.cell (p := ⟨b, off + q, none⟩) (by show b < g; omega)).trans (hcc q hq)
  have hcv := (hI.bel.cell (p := ⟨gv, 0, none⟩) hgv).trans hc
  have hqm : q < m := by omega
  generalize vs.getD q 0 = x at *
  obtain ⟨v, hv, ho⟩ := hI.cell
  obtain ⟨A3, c3, rfl, hIS⟩ := ho.form
  have hgw := hI.lt
  have hfz := hI.free
  have HII := Lib.hid hI
  have HO := Lib.hid ho
  have HIS := Lib.hid hIS
  have hFS := firsts_snoc acc q
  clear hcc h hm hq hc hI ho hIS
  generalize hF : firsts acc = F at *
  have HF := Lib.hid hF
  have HFS := Lib.hid hFS
  clear hF hFS
  generalize hl : F.length = l at *
  have HL := Lib.hid hl
  clear hl
  cases hin : decide ((q : Int) ∈ F)
  · have HIN := Lib.hid hin
    clear hin
    go_enter Try.func120, Try.ntmps120
    go_wp2_with fail
    refine (slices_Contains A3 l c3 F q _ _ (Nat.le_refl _) HL.out.symm HIS.out (by omega)).mono ?_
    rintro e w' ⟨rfl, rfl⟩
    rw [HIN.out]
    go_wp2_with (at_builtin; refine wpList_append_own_at _ rfl _ _ 55 rfl (g + 1) 3 i0 (.int .i64 0) 1 8 Try.underlying55 hi hz0 hz1 hz2 rfl (by decide) _ _ _ rfl (by have := HO.out.alloc (.cells #[.int .i64 q] 3); rw [HL.out] at this; exact this) ⟨w.heap.size, 0, none⟩ 1 1 [.int .i64 q] rfl rfl (cell_one_new _ _ _) ?c2 ?c3 ?c4 ?c5 ?_)
    case c2 => intro u hu; simp at hu; subst hu; rfl
    case c3 => unfold maxLen; omega
    case c4 => omega
    case c5 => simp; omega
    intro v' w3 hown' hgrow _ hwhere
    have hol := HO.out.lt
    obtain ⟨A4, c4, rfl⟩ := own_form hown'
    have hng : ∀ j, j ≤ g → some j ≠ (Value.slice A3 l c3).ownBlock := fun j hj e => by have := (hol j e.symm).1; omega
    have hga : ∀ j, j ≤ g → (w.alloc (.cells #[.int .i64 q] 3)).heap[j]? = w.heap[j]? := fun j hj => Below.heap_alloc w _ j (by omega)
    have hw3 : ∀ j, j ≤ g → w3.heap[j]? = w.heap[j]? := fun j hj => (hgrow.block j (by simp; omega) (hng j hj)).trans (hga j hj)
    have hv3 : w3.cell? ⟨g, 0, none⟩ = some (.slice A3 l c3) := (World.cell?_of_block (a := ⟨g, 0, none⟩) (hw3 g (Nat.le_refl _))).trans hv
    have hf3 : w3.frozen? ⟨g, 0, none⟩ = false := (World.frozen?_of_block (a := ⟨g, 0, none⟩) (hw3 g (Nat.le_refl _))).trans hfz
    have hcv3 : w3.cell? ⟨gv, 0, none⟩ = some (.slice (some ⟨b, off, none⟩) m c') := (World.cell?_of_block (a := ⟨gv, 0, none⟩) (hw3 gv (Nat.le_of_lt hgv))).trans hcv
    have hx3 : w3.cell? ⟨b, off + q, none⟩ = some (.int .i64 x) := (World.cell?_of_block (a := ⟨b, off + q, none⟩) (hw3 b (by omega))).trans hx
    have hbg : b ≠ g := by omega
    have hgvg : gv ≠ g := by omega
    have hcv4 := (World.cell?_setCell_other (w := w3) (a := ⟨g, 0, none⟩) (b := ⟨gv, 0, none⟩) (.slice A4 (l + 1) c4) (by intro e; simp at e; try omega)).trans hcv3
    have hx4 := (World.cell?_setCell_other (w := w3) (a := ⟨g, 0, none⟩) (b := ⟨b, off + q, none⟩) (.slice A4 (l + 1) c4) (by intro e; simp at e; try omega)).trans hx3
    have HG := Lib.hid hgrow
    have HOW := Lib.hid hown'
    have HWH := Lib.hid hwhere
    have HW3 := Lib.hid hw3
    have HOL := Lib.hid hol
    have HNG := Lib.hid hng
    clear hgrow hown' hwhere hw3 hol hng hga hcv hx hfz
    go_wp2
    go_ret
    have hnin : ¬ (q : Int) ∈ F := of_decide_eq_false HIN.out
    have hsz : w.heap.size + 1 ≤ w3.heap.size := by have := HG.out.size; simpa using this
    refine ⟨rfl, ⟨?_, by simp [World.setCell]; omega, by simpa using hf3, .slice A4 (l + 1) c4, World.cell?_setCell_same _ _ _ hv3, ?_⟩, ⟨by simp [World.setCell]; omega, ?_, ?_⟩⟩
    · exact ((HII.out.bel.alloc (Nat.le_of_lt hgw) _).grown HG.out (by simp; omega) (fun k hk => by have := (HOL.out k hk).1; omega)).setCell (p := ⟨g, 0, none⟩) (Nat.le_refl _) _
    · rw [HFS.out, if_neg hnin]
      refine ownsRow_setCell_below ?_ (by simp) _
      have h1 := HOW.out
      rw [List.length_append, List.map_append, HL.out]
      exact h1
    · intro k hk hn
      have hkg : k ≠ g := fun e => hn (.inl e)
      have hko : some k ≠ (Value.slice A3 l c3).ownBlock := fun e => hn (.inr ⟨_, ‹w.cell? ⟨g, 0, none⟩ = some (.slice A3 l c3)›, e.symm⟩)
      rw [Below.heap_setCell _ _ _ _ hkg, HG.out.block k (by simp; omega) hko, Below.heap_alloc _ _ _ hk]
    · intro k hk
      rcases hk with rfl | ⟨v2, hv2, hk2⟩
      · exact .inl (.inl rfl)
      · rw [World.cell?_setCell_same _ _ _ hv3] at hv2
        cases hv2
        rcases HWH.out with h1 | h1
        · exact .inl (.inr ⟨_, ‹w.cell? ⟨g, 0, none⟩ = some (.slice A3 l c3)›, h1.symm.trans hk2⟩)
        · rw [h1] at hk2
          simp at hk2
          right; omega
  · have HIN := Lib.hid hin
    clear hin
    go_enter Try.func120, Try.ntmps120
    go_wp2_with fail
    refine (slices_Contains A3 l c3 F q _ _ (Nat.le_refl _) HL.out.symm HIS.out (by omega)).mono ?_
    rintro e w' ⟨rfl, rfl⟩
    rw [HIN.out]
    go_wp2
    go_ret
    refine ⟨rfl, ?_, Fr.of_below (Below.refl _ _) fun k hf => hf⟩
    have hmem : (q : Int) ∈ F := of_decide_eq_true HIN.out
    refine ⟨HII.out.bel, HII.out.lt, HII.out.free, ?_⟩
    rw [HFS.out, if_pos hmem, ← HF.out]
    exact HII.out.cell
end Go.Proofs.Ytkmhpiojbocjkaa
