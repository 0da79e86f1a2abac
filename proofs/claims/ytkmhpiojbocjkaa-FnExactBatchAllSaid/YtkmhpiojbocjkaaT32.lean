/- The standing contracts of BatchAll. -/
import Derived.Test.YtkmhpiojbocjkaaT31
namespace Go.Proofs.Ytkmhpiojbocjkaa
set_option linter.unusedSimpArgs false
set_option linter.unusedVariables false
open Go.RowKit

theorem acells_new (w : World) (cs : Array Value) (t : TypeId) (xs : List Value) (hx : cs.toList = xs) : ∀ j u, xs[j]? = some u → (w.alloc (.cells cs t)).cell? ((⟨w.heap.size, 0, none⟩ : Addr).add j) = some u := by
  subst hx
  intro j u hj
  have hadd : (⟨w.heap.size, 0, none⟩ : Addr).add j = ⟨w.heap.size, j, none⟩ := by unfold Addr.add; split <;> simp_all
  rw [hadd, cell_of_row _ w.heap.size j cs t (0, 0) (heap_alloc_new w _)]
  simpa using hj

def plainA (a : Ac) : Bool := (a.k != 2) && (a.k != 3)
def preA (l : List Ac) (k : Nat) : List Ac := ⟨2, 0, 0⟩ :: (l.take k).filter plainA
theorem preA_yes (l : List Ac) (k : Nat) (h : k < l.length) (hp : plainA (l.getD k default) = true) : preA l (k + 1) = preA l k ++ [l.getD k default] := by
  unfold preA
  rw [take_succ_getD l k h, List.filter_append, show ([l.getD k default].filter plainA) = [l.getD k default] by rw [List.filter_cons, hp]; rfl]
  rfl
theorem preA_no (l : List Ac) (k : Nat) (h : k < l.length) (hp : plainA (l.getD k default) = false) : preA l (k + 1) = preA l k := by
  unfold preA
  rw [take_succ_getD l k h, List.filter_append, show ([l.getD k default].filter plainA) = [] by rw [List.filter_cons, hp]; rfl]
  simp
theorem preA_len (l : List Ac) (k : Nat) : (preA l k).length ≤ k + 1 := by
  unfold preA
  have := List.length_filter_le plainA (l.take k)
  simp only [List.length_cons, List.length_take] at *
  omega
def batchL (l : List Ac) : List Ac := preA l l.length ++ [⟨3, 0, 0⟩]
def batchF (gs : List Nd) (l : List Ac) : List Ac := if validA gs l && decide ((batchL l).length ≤ 30) then batchL l else []
theorem batchF_len (gs : List Nd) (l : List Ac) : (batchF gs l).length ≤ 30 := by
  unfold batchF
  split
  · rename_i h
    simp only [Bool.and_eq_true, decide_eq_true_eq] at h
    exact h.2
  · simp

theorem top_impl_ValidActs (gs : List Nd) (ac : List Ac) (hG : GB gs) (hL : ac.length ≤ 1048576) : ∀ (A : Option Addr) (n c : Nat) (A' : Option Addr) (m c' : Nat) (w : World), n = gs.length → n ≤ c → GS w w.heap.size A gs → m = ac.length → CS w w.heap.size A' ac →
    Calls Try.prog 11 #[.agg #[.slice A n c], .slice A' m c'] w fun e w' => e = .returned (.bool (validA gs ac)) ∧ Below w.heap.size w w' :=
  fun A n c A' m c' w hn hc h hm h' => impl_ValidActs gs ac hG hL A n c A' m c' w w.heap.size (Nat.le_refl _) hn hc h hm h'

set_option maxHeartbeats 800000 in
theorem top_spec_ValidActs (gs : List Nd) (ac : List Ac) (hG : GB gs) (hL : ac.length ≤ 1048576) : ∀ (A : Option Addr) (n c : Nat) (A' : Option Addr) (m c' : Nat) (w : World), n = gs.length → n ≤ c → GS w w.heap.size A gs → m = ac.length → CS w w.heap.size A' ac →
    Calls Try.prog 8 #[.agg #[.slice A n c], .slice A' m c'] w fun e w' => e = .returned (.bool (validA gs ac)) ∧ Below w.heap.size w w' := by
  intro A n c A' m c' w hn hnc h hm h'
  have H := Lib.hid h
  have HX := Lib.hid h'
  have HC := Lib.hid fun (w' : World) (hB : w.heap.size ≤ w'.heap.size) (h : GS w' w.heap.size A gs) (h' : CS w' w.heap.size A' ac) => spec_validActs gs ac hG hL A n c A' m c' w' w.heap.size hB hn h hm h'
  generalize validA gs ac = r at *
  clear h h' hn hm
  go_enter Try.func8, Try.ntmps8
  go_wp2_with fail
  refine (HC.out _ (by simp) (H.out.alloc (Nat.le_refl _) _) (HX.out.alloc (Nat.le_refl _) _)).mono ?_
  rintro e w1 ⟨rfl, hb⟩
  go_wp2
  go_ret
  exact ⟨rfl, ((Below.refl _ _).alloc (Nat.le_refl _) _).trans (hb.mono (by simp))⟩

theorem retA_own {w w1 w' : World} {v : Value} {n : Nat} {xs : List Ac} {vs : List Value} (hn : n = xs.length) (hv : vs = xs.flatMap Ac.cells) (h : w'.ownsRow w1.heap.size 46 3 v n vs) (h1 : w.heap.size ≤ w1.heap.size) (hb : Below w.heap.size w w') : RetA w xs (.returned v) w' := by
  subst hn hv
  exact ⟨_, rfl, own_mono h h1, hb⟩

set_option maxRecDepth 100000 in
set_option maxHeartbeats 3200000 in
theorem top_spec_BatchAll (gs : List Nd) (ac : List Ac) (hG : GB gs) (hL : ac.length ≤ 1048576) : ∀ (A : Option Addr) (n c : Nat) (A' : Option Addr) (m c' : Nat) (w : World), n = gs.length → n ≤ c → GS w w.heap.size A gs → m = ac.length → CS w w.heap.size A' ac →
    Calls Try.prog 16 #[.agg #[.slice A n c], .slice A' m c'] w fun e w' => RetA w (batchF gs ac) e w' := by
  intro A n c A' m c' w hn hnc h hm h'
  obtain ⟨i0, hi, hz0, hz1, hz2⟩ := info_parts info_act
  have H := Lib.hid h
  have HX := Lib.hid h'
  have HM := Lib.hid hm
  have HC := Lib.hid fun (w' : World) (hB : w.heap.size ≤ w'.heap.size) (h : GS w' w.heap.size A gs) (h' : CS w' w.heap.size A' ac) => spec_validActs gs ac hG hL A n c A' m c' w' w.heap.size hB hn h hm h'
  have hF : batchF gs ac = if validA gs ac && decide ((batchL ac).length ≤ 30) then batchL ac else [] := rfl
  have h30 : validA gs ac = true → m ≤ 30 := fun hv => by rw [hm]; exact validA_short gs ac hv
  generalize validA gs ac = r at *
  clear h h' hn hm
  cases r
  · rw [hF]
    go_enter Try.func16, Try.ntmps16
    go_wp2_with fail
    refine (HC.out _ (by simp) (H.out.alloc (Nat.le_refl _) _) (HX.out.alloc (Nat.le_refl _) _)).mono ?_
    rintro e w1 ⟨rfl, hb⟩
    go_wp2
    go_ret
    exact RetA.nil (((Below.refl _ _).alloc (Nat.le_refl _) _).trans (hb.mono (by simp)))
  have hm30 := h30 rfl
  have HF : Hid (batchF gs ac = if decide ((batchL ac).length ≤ 30) then batchL ac else []) := by rw [hF]; simp [Hid]
  clear h30 hF
  go_enter Try.func16, Try.ntmps16
  go_wp2_with fail
  refine (HC.out _ (by simp) (H.out.alloc (Nat.le_refl _) _) (HX.out.alloc (Nat.le_refl _) _)).mono ?_
  rintro e w1 ⟨rfl, hb⟩
  have HX1 := Lib.hid ((HX.out.alloc (Nat.le_refl _) (.cells #[.slice A n c] 31)).below hb (by simp))
  have hB1 := Lib.hid (((Below.refl w.heap.size w).alloc (Nat.le_refl _) (.cells #[.slice A n c] 31)).trans (hb.mono (by simp)))
  have hl1 : w.heap.size < w1.heap.size := by have := hb.size; simp at this; omega
  have HOW0 := Lib.hid (World.ownsRow_lit (e := 46) (size := 3) (base := w1.heap.size) w1 #[.int .i64 2, .int .i64 0, .int .i64 0] 1 (Nat.le_refl _) (by unfold maxLen; omega) (by simp))
  clear hb
  go_wp2
  go_loopw [5, 6] (fun v u wr => ∃ (k : Nat), k ≤ m ∧ u = .int .i64 k ∧ Hid (wr.ownsRow w1.heap.size 46 3 v (preA ac k).length ((preA ac k).flatMap Ac.cells)) ∧ Hid (Below w1.heap.size w1 wr) ∧ w1.heap.size ≤ wr.heap.size) (fun _ u _ => m - (intOf u).toNat)
  case atStart => exact ⟨0, Nat.zero_le _, rfl, by simpa [preA, Ac.cells, Hid] using HOW0.out, (Below.refl _ _).alloc (Nat.le_refl _) _, by simp⟩
  case round =>
    obtain ⟨k, hk, rfl, HO, HB, hwr⟩ := hrel
    obtain ⟨A2, c2, rfl⟩ := own_form HO.out
    obtain ⟨l, hl⟩ : ∃ l : Nat, l = (preA ac k).length := ⟨_, rfl⟩
    have hl31 : l ≤ 31 := by have := preA_len ac k; omega
    have HL := Lib.hid hl
    rw [← hl] at HO ⊢
    clear hl
    by_cases hlt : k < m
    · obtain ⟨b, off, rfl, hbB, c0, c1, c2'⟩ := HX1.out.at_ k (by have := HM.out; omega)
      have b0 := (HB.out.cell (p := ⟨b, off + k * 3, none⟩) (show b < w1.heap.size by omega)).trans c0
      have b1 := (HB.out.cell (p := ⟨b, off + k * 3 + 1, none⟩) (show b < w1.heap.size by omega)).trans c1
      have b2 := (HB.out.cell (p := ⟨b, off + k * 3 + 2, none⟩) (show b < w1.heap.size by omega)).trans c2'
      have hbr : b < wr.heap.size := by omega
      have hyes := preA_yes ac k (by have := HM.out; omega)
      have hno := preA_no ac k (by have := HM.out; omega)
      clear c0 c1 c2'
      generalize ac.getD k default = p at *
      have HYES := Lib.hid hyes
      have HNO := Lib.hid hno
      clear hyes hno
      by_cases h2 : p.k = 2
      · have e2 : (p.k != 2) = false := by simp [h2]
        have HNE := Lib.hid (HNO.out (by unfold plainA; rw [e2]; rfl))
        clear h2
        go_wp2
        all_goals try (go_region; go_wp2)
        go_roundw
        case rel => exact ⟨k + 1, by omega, by go_num, by rw [HNE.out, ← HL.out]; first | exact HO.out | exact HO.out.drew, by first | exact HB.out | exact HB.out.drew, by first | exact hwr | (simp; exact hwr)⟩
        case measure => simp [intOf]; omega
      by_cases h3 : p.k = 3
      · have e2 : (p.k != 2) = true := by simp [h3]
        have e3 : (p.k != 3) = false := by simp [h3]
        have HNE := Lib.hid (HNO.out (by unfold plainA; rw [e2, e3]; rfl))
        clear h2 h3
        go_wp2
        all_goals try (go_region; go_wp2)
        go_roundw
        case rel => exact ⟨k + 1, by omega, by go_num, by rw [HNE.out, ← HL.out]; first | exact HO.out | exact HO.out.drew, by first | exact HB.out | exact HB.out.drew, by first | exact hwr | (simp; exact hwr)⟩
        case measure => simp [intOf]; omega
      have e2 : (p.k != 2) = true := by simp [h2]
      have e3 : (p.k != 3) = true := by simp [h3]
      have HYE := Lib.hid (HYES.out (by unfold plainA; rw [e2, e3]; rfl))
      clear h2 h3
      go_wp2_with (at_builtin; refine wpList_append_own _ rfl _ _ 33 rfl w1.heap.size 46 i0 _ 3 24 Try.underlying33 hi hz0 hz1 hz2 rfl (by decide) _ _ _ rfl (HO.out.alloc _) ⟨_, 0, none⟩ 1 1 p.cells rfl rfl (acells_new _ _ _ _ rfl) ?d2 ?d3 ?d4 ?d5 ?_)
      case d2 => intro u hu; simp [Ac.cells] at hu; rcases hu with rfl | rfl | rfl <;> rfl
      case d3 => unfold maxLen; omega
      case d4 => omega
      case d5 => simp; omega
      intro v' w3 hown' hgrow _
      have hpos := (HO.out.alloc (.cells #[.int .i64 p.k, .int .i64 p.a, .int .i64 p.b] 46)).lt
      have HB3 : Hid (Below w1.heap.size w1 w3) := (HB.out.alloc hwr (.cells #[.int .i64 p.k, .int .i64 p.a, .int .i64 p.b] 46)).grown hgrow (by simp; omega) (fun q hq => (hpos q hq).1)
      have HO3 : Hid (w3.ownsRow w1.heap.size 46 3 v' (preA ac (k + 1)).length ((preA ac (k + 1)).flatMap Ac.cells)) := by
        rw [HYE.out, List.length_append, List.flatMap_append, ← HL.out]
        simpa [Hid] using hown'
      clear hown' hgrow hpos
      go_wp2
      go_roundw
      case rel => exact ⟨k + 1, by omega, by go_num, HO3.out, HB3.out, HB3.out.size⟩
      case measure => simp [intOf]; omega
    · obtain rfl : k = m := by omega
      go_wp2_with (at_builtin; refine wpList_append_own _ rfl _ _ 33 rfl w1.heap.size 46 i0 _ 3 24 Try.underlying33 hi hz0 hz1 hz2 rfl (by decide) _ _ _ rfl (HO.out.alloc _) ⟨_, 0, none⟩ 1 1 (Ac.cells ⟨3, 0, 0⟩) rfl rfl (acells_new _ _ _ _ rfl) ?d2 ?d3 ?d4 ?d5 ?_)
      case d2 => intro u hu; simp [Ac.cells] at hu; rcases hu with rfl | rfl | rfl <;> rfl
      case d3 => unfold maxLen; omega
      case d4 => omega
      case d5 => simp; omega
      intro v' w3 hown' hgrow _
      have hpos := (HO.out.alloc (.cells #[.int .i64 3, .int .i64 0, .int .i64 0] 46)).lt
      have HB3 : Hid (Below w1.heap.size w1 w3) := (HB.out.alloc hwr (.cells #[.int .i64 3, .int .i64 0, .int .i64 0] 46)).grown hgrow (by simp; omega) (fun q hq => (hpos q hq).1)
      have HBL : Hid (batchL ac = preA ac k ++ [⟨3, 0, 0⟩]) := by unfold batchL; rw [← HM.out]; rfl
      have HBN : Hid ((batchL ac).length = l + 1) := by rw [HBL.out, List.length_append, ← HL.out]; rfl
      have HO3 : Hid (w3.ownsRow w1.heap.size 46 3 v' (l + 1) ((batchL ac).flatMap Ac.cells)) := by
        rw [HBL.out, List.flatMap_append]
        simpa [Hid] using hown'
      obtain ⟨A3, c3, rfl⟩ := own_form HO3.out
      clear hown' hgrow hpos
      by_cases h30 : l + 1 ≤ 30
      · go_wp2
        go_ret
        rw [HF.out, HBN.out, show decide (l + 1 ≤ 30) = true by simpa using h30]
        exact retA_own HBN.out.symm rfl HO3.out (by omega) (hB1.out.trans (HB3.out.mono (by omega)))
      · go_wp2
        go_ret
        rw [HF.out, HBN.out, show decide (l + 1 ≤ 30) = false by simpa using h30]
        exact RetA.nil (hB1.out.trans (HB3.out.mono (by omega)))
set_option maxRecDepth 100000 in
set_option maxHeartbeats 3200000 in
theorem top_impl_BatchAll (gs : List Nd) (ac : List Ac) (hG : GB gs) (hL : ac.length ≤ 1048576) : ∀ (A : Option Addr) (n c : Nat) (A' : Option Addr) (m c' : Nat) (w : World), n = gs.length → n ≤ c → GS w w.heap.size A gs → m = ac.length → CS w w.heap.size A' ac →
    Calls Try.prog 17 #[.agg #[.slice A n c], .slice A' m c'] w fun e w' => RetA w (batchF gs ac) e w' := by
  intro A n c A' m c' w hn hnc h hm h'
  obtain ⟨i0, hi, hz0, hz1, hz2⟩ := info_parts info_act
  have H := Lib.hid h
  have HX := Lib.hid h'
  have HM := Lib.hid hm
  have HC := Lib.hid fun (w' : World) (hB : w.heap.size ≤ w'.heap.size) (h : GS w' w.heap.size A gs) (h' : CS w' w.heap.size A' ac) => impl_ValidActs gs ac hG hL A n c A' m c' w' w.heap.size hB hn hnc h hm h'
  have hF : batchF gs ac = if validA gs ac && decide ((batchL ac).length ≤ 30) then batchL ac else [] := rfl
  have h30 : validA gs ac = true → m ≤ 30 := fun hv => by rw [hm]; exact validA_short gs ac hv
  generalize validA gs ac = r at *
  clear h h' hn hm
  cases r
  · rw [hF]
    go_enter Try.func17, Try.ntmps17
    go_wp2_with fail
    refine (HC.out _ (by simp) (H.out.alloc (Nat.le_refl _) _) (HX.out.alloc (Nat.le_refl _) _)).mono ?_
    rintro e w1 ⟨rfl, hb⟩
    go_wp2
    go_ret
    exact RetA.nil (((Below.refl _ _).alloc (Nat.le_refl _) _).trans (hb.mono (by simp)))
  have hm30 := h30 rfl
  have HF : Hid (batchF gs ac = if decide ((batchL ac).length ≤ 30) then batchL ac else []) := by rw [hF]; simp [Hid]
  clear h30 hF
  go_enter Try.func17, Try.ntmps17
  go_wp2_with fail
  refine (HC.out _ (by simp) (H.out.alloc (Nat.le_refl _) _) (HX.out.alloc (Nat.le_refl _) _)).mono ?_
  rintro e w1 ⟨rfl, hb⟩
  have HX1 := Lib.hid ((HX.out.alloc (Nat.le_refl _) (.cells #[.slice A n c] 31)).below hb (by simp))
  have hB1 := Lib.hid (((Below.refl w.heap.size w).alloc (Nat.le_refl _) (.cells #[.slice A n c] 31)).trans (hb.mono (by simp)))
  have hl1 : w.heap.size < w1.heap.size := by have := hb.size; simp at this; omega
  have HOW0 := Lib.hid (World.ownsRow_lit (e := 46) (size := 3) (base := w1.heap.size) w1 #[.int .i64 2, .int .i64 0, .int .i64 0] 1 (Nat.le_refl _) (by unfold maxLen; omega) (by simp))
  clear hb
  go_wp2
  go_loopw [5, 16] (fun v u wr => ∃ (k : Nat), k ≤ m ∧ u = .int .i64 k ∧ Hid (wr.ownsRow w1.heap.size 46 3 v (preA ac k).length ((preA ac k).flatMap Ac.cells)) ∧ Hid (Below w1.heap.size w1 wr) ∧ w1.heap.size ≤ wr.heap.size) (fun _ u _ => m - (intOf u).toNat)
  case atStart => exact ⟨0, Nat.zero_le _, rfl, by simpa [preA, Ac.cells, Hid] using HOW0.out, (Below.refl _ _).alloc (Nat.le_refl _) _, by simp⟩
  case round =>
    obtain ⟨k, hk, rfl, HO, HB, hwr⟩ := hrel
    obtain ⟨A2, c2, rfl⟩ := own_form HO.out
    obtain ⟨l, hl⟩ : ∃ l : Nat, l = (preA ac k).length := ⟨_, rfl⟩
    have hl31 : l ≤ 31 := by have := preA_len ac k; omega
    have HL := Lib.hid hl
    rw [← hl] at HO ⊢
    clear hl
    by_cases hlt : k < m
    · obtain ⟨b, off, rfl, hbB, c0, c1, c2'⟩ := HX1.out.at_ k (by have := HM.out; omega)
      have b0 := (HB.out.cell (p := ⟨b, off + k * 3, none⟩) (show b < w1.heap.size by omega)).trans c0
      have b1 := (HB.out.cell (p := ⟨b, off + k * 3 + 1, none⟩) (show b < w1.heap.size by omega)).trans c1
      have b2 := (HB.out.cell (p := ⟨b, off + k * 3 + 2, none⟩) (show b < w1.heap.size by omega)).trans c2'
      have hbr : b < wr.heap.size := by omega
      have hyes := preA_yes ac k (by have := HM.out; omega)
      have hno := preA_no ac k (by have := HM.out; omega)
      clear c0 c1 c2'
      generalize ac.getD k default = p at *
      have HYES := Lib.hid hyes
      have HNO := Lib.hid hno
      clear hyes hno
      have HO2 := Lib.hid (HO.out.alloc (.cells #[.int .i64 p.k, .int .i64 p.a, .int .i64 p.b] 46))
      have HB2 := Lib.hid (HB.out.alloc hwr (.cells #[.int .i64 p.k, .int .i64 p.a, .int .i64 p.b] 46))
      by_cases h2 : p.k = 2
      · have e2 : (p.k != 2) = false := by simp [h2]
        have HNE := Lib.hid (HNO.out (by unfold plainA; rw [e2]; rfl))
        clear h2
        go_wp2
        all_goals try (go_region; go_wp2)
        go_roundw
        case rel => exact ⟨k + 1, by omega, by go_num, by rw [HNE.out, ← HL.out]; first | exact HO2.out | exact HO2.out.drew, by first | exact HB2.out | exact HB2.out.drew, by simp; omega⟩
        case measure => simp [intOf]; omega
      by_cases h3 : p.k = 3
      · have e2 : (p.k != 2) = true := by simp [h3]
        have e3 : (p.k != 3) = false := by simp [h3]
        have HNE := Lib.hid (HNO.out (by unfold plainA; rw [e2, e3]; rfl))
        clear h2 h3
        go_wp2
        all_goals try (go_region; go_wp2)
        go_roundw
        case rel => exact ⟨k + 1, by omega, by go_num, by rw [HNE.out, ← HL.out]; first | exact HO2.out | exact HO2.out.drew, by first | exact HB2.out | exact HB2.out.drew, by simp; omega⟩
        case measure => simp [intOf]; omega
      have e2 : (p.k != 2) = true := by simp [h2]
      have e3 : (p.k != 3) = true := by simp [h3]
      have hnw := acells_new (wr.alloc (.cells #[.int .i64 p.k, .int .i64 p.a, .int .i64 p.b] 46)) #[.int .i64 p.k, .int .i64 p.a, .int .i64 p.b] 46 p.cells rfl
      simp only [World.size_alloc] at hnw
      have HNW := Lib.hid hnw
      clear hnw
      have HYE := Lib.hid (HYES.out (by unfold plainA; rw [e2, e3]; rfl))
      clear h2 h3
      go_wp2_with (at_builtin; refine wpList_append_own _ rfl _ _ 33 rfl w1.heap.size 46 i0 _ 3 24 Try.underlying33 hi hz0 hz1 hz2 rfl (by decide) _ _ _ rfl (HO2.out.alloc _) ⟨_, 0, none⟩ 1 1 p.cells rfl rfl HNW.out ?d2 ?d3 ?d4 ?d5 ?_)
      case d2 => intro u hu; simp [Ac.cells] at hu; rcases hu with rfl | rfl | rfl <;> rfl
      case d3 => unfold maxLen; omega
      case d4 => omega
      case d5 => simp; omega
      intro v' w3 hown' hgrow _
      have hpos := (HO2.out.alloc (.cells #[.int .i64 p.k, .int .i64 p.a, .int .i64 p.b] 46)).lt
      have HB3 : Hid (Below w1.heap.size w1 w3) := (HB2.out.alloc (by simp; omega) (.cells #[.int .i64 p.k, .int .i64 p.a, .int .i64 p.b] 46)).grown hgrow (by simp; omega) (fun q hq => (hpos q hq).1)
      have HO3 : Hid (w3.ownsRow w1.heap.size 46 3 v' (preA ac (k + 1)).length ((preA ac (k + 1)).flatMap Ac.cells)) := by
        rw [HYE.out, List.length_append, List.flatMap_append, ← HL.out]
        simpa [Hid] using hown'
      clear hown' hgrow hpos
      go_wp2
      go_roundw
      case rel => exact ⟨k + 1, by omega, by go_num, HO3.out, HB3.out, HB3.out.size⟩
      case measure => simp [intOf]; omega
    · obtain rfl : k = m := by omega
      go_wp2_with (at_builtin; refine wpList_append_own _ rfl _ _ 33 rfl w1.heap.size 46 i0 _ 3 24 Try.underlying33 hi hz0 hz1 hz2 rfl (by decide) _ _ _ rfl (HO.out.alloc _) ⟨_, 0, none⟩ 1 1 (Ac.cells ⟨3, 0, 0⟩) rfl rfl (acells_new _ _ _ _ rfl) ?d2 ?d3 ?d4 ?d5 ?_)
      case d2 => intro u hu; simp [Ac.cells] at hu; rcases hu with rfl | rfl | rfl <;> rfl
      case d3 => unfold maxLen; omega
      case d4 => omega
      case d5 => simp; omega
      intro v' w3 hown' hgrow _
      have hpos := (HO.out.alloc (.cells #[.int .i64 3, .int .i64 0, .int .i64 0] 46)).lt
      have HB3 : Hid (Below w1.heap.size w1 w3) := (HB.out.alloc hwr (.cells #[.int .i64 3, .int .i64 0, .int .i64 0] 46)).grown hgrow (by simp; omega) (fun q hq => (hpos q hq).1)
      have HBL : Hid (batchL ac = preA ac k ++ [⟨3, 0, 0⟩]) := by unfold batchL; rw [← HM.out]; rfl
      have HBN : Hid ((batchL ac).length = l + 1) := by rw [HBL.out, List.length_append, ← HL.out]; rfl
      have HO3 : Hid (w3.ownsRow w1.heap.size 46 3 v' (l + 1) ((batchL ac).flatMap Ac.cells)) := by
        rw [HBL.out, List.flatMap_append]
        simpa [Hid] using hown'
      obtain ⟨A3, c3, rfl⟩ := own_form HO3.out
      clear hown' hgrow hpos
      by_cases h30 : l + 1 ≤ 30
      · go_wp2
        go_ret
        rw [HF.out, HBN.out, show decide (l + 1 ≤ 30) = true by simpa using h30]
        exact retA_own HBN.out.symm rfl HO3.out (by omega) (hB1.out.trans (HB3.out.mono (by omega)))
      · go_wp2
        go_ret
        rw [HF.out, HBN.out, show decide (l + 1 ≤ 30) = false by simpa using h30]
        exact RetA.nil (hB1.out.trans (HB3.out.mono (by omega)))
end Go.Proofs.Ytkmhpiojbocjkaa
