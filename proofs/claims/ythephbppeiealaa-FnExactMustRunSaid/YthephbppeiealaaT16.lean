/- The standing contracts of MustRun: together. -/
import Derived.Test.YthephbppeiealaaT15
import Derived.Laws.Entries
namespace Go.Proofs.Ythephbppeiealaa
set_option linter.unusedSimpArgs false
set_option linter.unusedVariables false
open Go.RowKit

/-- A function value is stored as every other value of one cell is. -/
theorem run_store_func {P : Program} {w : World} (a : Addr) (m : Mode) (f : Fn) (b c : Array Value) : (store a (.func f b c) m).run P w = stored P w a (.func f b c) m := run_store P w a _ m rfl
attribute [local go_sem ↓] run_store_func

set_option maxRecDepth 100000 in
set_option maxHeartbeats 3200000 in
theorem top_impl_MustRun (gs : List Nd) (xs ys : List Int) (hG : GB gs) (hL : xs.length ≤ 1048576) (hL2 : ys.length ≤ 1048576) : ∀ (A : Option Addr) (n c : Nat) (A1 : Option Addr) (m1 c1 : Nat) (A2 : Option Addr) (m2 c2 : Nat) (w : World), n = gs.length → n ≤ c → GS w w.heap.size A gs → m1 = xs.length → IS w w.heap.size A1 xs → m2 = ys.length → IS w w.heap.size A2 ys →
    Calls Try.prog 36 #[.agg #[.slice A n c], .slice A1 m1 c1, .slice A2 m2 c2] w fun e w' => RetI w (mustF gs xs ys) e w' := by
  intro A n c A1 m1 c1 A2 m2 c2 w hn hnc h hx h1 hy h2
  have hm1 : m1 ≤ 2000000 := by omega
  have hm2 : m2 ≤ 2000000 := by omega
  have hn1 : n ≤ 1048576 := by rw [hn]; exact hG.1
  have HG0 := Lib.hid (h.alloc (Nat.le_refl _) (.cells #[.slice A n c] 34))
  have HX0 := Lib.hid (h1.alloc (Nat.le_refl _) (.cells #[.slice A n c] 34))
  have HY0 := Lib.hid (h2.alloc (Nat.le_refl _) (.cells #[.slice A n c] 34))
  have HN := Lib.hid hn
  have HDX := Lib.hid fun (w' : World) (hB : w.heap.size ≤ w'.heap.size) (h : GS w' w.heap.size A gs) (h' : IS w' w.heap.size A1 xs) => impl_ValidCells A A1 n c m1 c1 gs xs w' w.heap.size hB hn hnc hx h h' hG hm1
  have HDY := Lib.hid fun (w' : World) (hB : w.heap.size ≤ w'.heap.size) (h : GS w' w.heap.size A gs) (h' : IS w' w.heap.size A2 ys) => impl_ValidCells A A2 n c m2 c2 gs ys w' w.heap.size hB hn hnc hy h h' hG hm2
  have HCH := Lib.hid fun (w' : World) (h : GS w' w'.heap.size A gs) (h1 : IS w' w'.heap.size A1 xs) (h2 : IS w' w'.heap.size A2 ys) => top_impl_ChangedBy gs xs ys hG hL hL2 A n c A1 m1 c1 A2 m2 c2 w' hn hnc h hx h1 hy h2
  have HDE := Lib.hid fun (w' : World) (h : GS w' w'.heap.size A gs) (h1 : IS w' w'.heap.size A1 xs) => top_impl_DepsOf gs xs hG hL A n c A1 m1 c1 w' hn hnc h hx h1
  have hB0 : Below w.heap.size w (w.alloc (.cells #[.slice A n c] 34)) := (Below.refl _ _).alloc (Nat.le_refl _) _
  have hb12 : chgB gs xs ys = (okC gs xs && okC gs ys) := by unfold chgB okC; cases validG gs <;> cases validC gs xs <;> simp
  have hmf : mustF gs xs ys = if chgB gs xs ys then nwTo (mustP gs (mean gs xs) (diffTo (mean gs xs) (mean gs ys) gs.length)) gs.length else [] := rfl
  rw [hmf, hb12]
  clear hmf
  cases hox : okC gs xs
  · rw [hox] at HDX
    clear hb12 hox h h1 h2 hn hx hy hG
    simp only [Bool.false_and, Bool.false_eq_true, if_false]
    go_enter Try.func36, Try.ntmps36
    go_wp2_with fail
    refine (HDX.out _ hB0.size HG0.out HX0.out).mono ?_
    rintro e w1 ⟨rfl, hb⟩
    go_wp2
    go_ret
    exact RetI.nil (hB0.trans (hb.mono hB0.size))
  rw [hox] at HDX
  cases hoy : okC gs ys
  · rw [hoy] at HDY
    clear hb12 hox hoy h h1 h2 hn hx hy hG
    simp only [Bool.and_false, Bool.false_eq_true, if_false]
    go_enter Try.func36, Try.ntmps36
    go_wp2_with fail
    refine (HDX.out _ hB0.size HG0.out HX0.out).mono ?_
    rintro e w1 ⟨rfl, hb⟩
    have q1 : w1.cell? ⟨w.heap.size, 0, none⟩ = some (.slice A n c) := (hb.cell (p := ⟨w.heap.size, 0, none⟩) (by simp)).trans (by go_simp)
    have hB1 := hB0.trans (hb.mono hB0.size)
    have HG1 := Lib.hid (HG0.out.below hb hB0.size)
    have HY1 := Lib.hid (HY0.out.below hb hB0.size)
    clear hb
    go_wp2_with fail
    refine (HDY.out _ hB1.size HG1.out HY1.out).mono ?_
    rintro e w2 ⟨rfl, hb2⟩
    go_wp2
    go_ret
    exact RetI.nil (hB1.trans (hb2.mono hB1.size))
  rw [hoy] at HDY
  simp only [Bool.and_true, if_true]
  have hvg := (okC_parts gs xs hox).1
  have hn10 : n ≤ 10 := by have := (validG_parts gs hvg).1; omega
  have hcf : chgF gs xs ys = diffTo (mean gs xs) (mean gs ys) gs.length := by unfold chgF; rw [hb12, hox, hoy]; rfl
  have hdf : depsF gs xs = depTo gs (mean gs xs) gs.length := by unfold depsF; rw [hox]; rfl
  have hsm := must_same gs xs ys hox hoy
  have hdt := fun q (hq : q < gs.length) => depTo_at gs (mean gs xs) gs.length q hq
  have hdl := depTo_len gs (mean gs xs) gs.length
  have hdb : ∀ j, ((depTo gs (mean gs xs) gs.length).getD j []).length ≤ 1048576 := by have := (depsF_len gs xs).1.2; rw [hdf] at this; exact this
  have hcl := diffTo_len (mean gs xs) (mean gs ys) gs.length
  rw [hcf] at HCH
  rw [hdf] at HDE
  have HP : Hid (∀ q, q < gs.length → (!((gs.getD q default).k == 0) && (decide ((q : Int) ∈ diffTo (mean gs xs) (mean gs ys) gs.length) || meetB ((depTo gs (mean gs xs) gs.length).getD q []) (diffTo (mean gs xs) (mean gs ys) gs.length))) = mustP gs (mean gs xs) (diffTo (mean gs xs) (mean gs ys) gs.length) q) := fun q hq => by rw [hdt q hq]; exact hsm q hq
  generalize mustP gs (mean gs xs) (diffTo (mean gs xs) (mean gs ys) gs.length) = P at *
  generalize diffTo (mean gs xs) (mean gs ys) gs.length = C at *
  generalize depTo gs (mean gs xs) gs.length = D at *
  rw [← hn] at hdl hcl
  have HDL := Lib.hid hdl
  have HDB := Lib.hid hdb
  obtain ⟨lc, hlc⟩ : ∃ lc : Nat, lc = C.length := ⟨_, rfl⟩
  have hlc2 : lc ≤ 2000000 := by omega
  have HLC := Lib.hid hlc
  obtain ⟨dn, hdn⟩ : ∃ dn : Nat, dn = D.length := ⟨_, rfl⟩
  have HDN := Lib.hid hdn
  have hdn2 : dn = n := by omega
  have HDN2 := Lib.hid hdn2
  rw [← hn]
  clear hb12 hox hoy hvg hcf hdf hsm hdt hdl hdb hcl hlc hdn hdn2 h h1 h2 hn hx hy hG
  go_enter Try.func36, Try.ntmps36
  go_wp2_with fail
  refine (HDX.out _ hB0.size HG0.out HX0.out).mono ?_
  rintro e w1 ⟨rfl, hb⟩
  have q1 : w1.cell? ⟨w.heap.size, 0, none⟩ = some (.slice A n c) := (hb.cell (p := ⟨w.heap.size, 0, none⟩) (by simp)).trans (by go_simp)
  have hB1 := hB0.trans (hb.mono hB0.size)
  have hl1 : w.heap.size < w1.heap.size := by have := hb.size; simp at this; omega
  have HG1 := Lib.hid (HG0.out.below hb hB0.size)
  have HX1 := Lib.hid (HX0.out.below hb hB0.size)
  have HY1 := Lib.hid (HY0.out.below hb hB0.size)
  clear hb hB0 HG0 HX0 HY0
  go_wp2_with fail
  refine (HDY.out _ hB1.size HG1.out HY1.out).mono ?_
  rintro e w2 ⟨rfl, hb⟩
  have q2 := (hb.cell (p := ⟨w.heap.size, 0, none⟩) hl1).trans q1
  have hB2 := hB1.trans (hb.mono hB1.size)
  have hl2 : w.heap.size < w2.heap.size := Nat.lt_of_lt_of_le hl1 hb.size
  have HG2 := Lib.hid ((HG1.out.below hb hB1.size).more (B' := w2.heap.size) hB2.size)
  have HX2 := Lib.hid ((HX1.out.below hb hB1.size).more (B' := w2.heap.size) hB2.size)
  have HY2 := Lib.hid ((HY1.out.below hb hB1.size).more (B' := w2.heap.size) hB2.size)
  clear hb q1 HG1 HX1 HY1 hB1 hl1 HDX HDY
  go_wp2_with fail
  refine (HCH.out w2 HG2.out HX2.out HY2.out).mono ?_
  rintro e w3 ⟨v3, rfl, ho3, hb⟩
  obtain ⟨A3, c3, rfl, hI3⟩ := OwnI.form ho3
  have q3 := (hb.cell (p := ⟨w.heap.size, 0, none⟩) hl2).trans q2
  have hB3 := hB2.trans (hb.mono hB2.size)
  have hl3 : w.heap.size < w3.heap.size := Nat.lt_of_lt_of_le hl2 hb.size
  rw [← HLC.out]
  have HG3 := Lib.hid ((((HG2.out.below hb (Nat.le_refl _)).more hb.size).alloc (Nat.le_refl _) (.cells #[.slice A3 lc c3] 25)).more (B' := (w3.alloc (.cells #[.slice A3 lc c3] 25)).heap.size) (by simp))
  have HX3 := Lib.hid (((HX2.out.step hb).alloc (Nat.le_refl _) (.cells #[.slice A3 lc c3] 25)).more (B' := (w3.alloc (.cells #[.slice A3 lc c3] 25)).heap.size) (by simp))
  have HC3 := Lib.hid ((hI3.alloc (Nat.le_refl _) (.cells #[.slice A3 lc c3] 25)).more (B' := (w3.alloc (.cells #[.slice A3 lc c3] 25)).heap.size) (by simp))
  clear hb q2 HG2 HX2 HY2 hB2 hl2 ho3 hI3 HCH
  go_wp2_with fail
  refine (HDE.out _ HG3.out HX3.out).mono ?_
  rintro e w4 ⟨v4, rfl, ho4, hb⟩
  obtain ⟨A4, c4, rfl⟩ := ho4.form
  have hl4 : w3.heap.size + 1 ≤ w4.heap.size := by have := hb.size; simpa using this
  have q4 := (hb.cell (p := ⟨w.heap.size, 0, none⟩) (by simp; omega)).trans ((World.cell?_alloc_lt _ _ ⟨w.heap.size, 0, none⟩ hl3).trans q3)
  have p4 : w4.cell? ⟨w3.heap.size, 0, none⟩ = some (.slice A3 lc c3) := (hb.cell (p := ⟨w3.heap.size, 0, none⟩) (by simp)).trans (by go_simp)
  have hB4 := (hB3.alloc hB3.size (.cells #[.slice A3 lc c3] 25)).trans (hb.mono (by simp; omega))
  have HG4 := Lib.hid ((HG3.out.below hb (Nat.le_refl _)).more hb.size)
  have HC4 := Lib.hid (HC3.out.step hb)
  have HD4 := Lib.hid ho4.lists
  rw [← HDN.out]
  clear hb q3 HG3 HX3 HC3 hB3 ho4 HDE
  have HIM : Hid (IM w.heap.size w3.heap.size (w4.heap.size + 1) w4.heap.size A n c gs A3 lc c3 C A4 dn c4 D ((w4.alloc (.cells #[.slice A4 dn c4] 26)).alloc (.cells #[.func (.func 92) #[] #[.pointer (some ⟨w3.heap.size, 0, none⟩)]] 98))) := by
    refine ⟨by simp; omega, by simp; omega, by simp, by simp; omega, ?_, ?_, by go_simp, by go_simp, ?_, ?_, ?_⟩
    · exact (World.cell?_alloc_lt _ _ ⟨w.heap.size, 0, none⟩ (by simp; omega)).trans ((World.cell?_alloc_lt _ _ ⟨w.heap.size, 0, none⟩ (by show w.heap.size < w4.heap.size; omega)).trans q4)
    · exact (World.cell?_alloc_lt _ _ ⟨w3.heap.size, 0, none⟩ (by simp; omega)).trans ((World.cell?_alloc_lt _ _ ⟨w3.heap.size, 0, none⟩ (by show w3.heap.size < w4.heap.size; omega)).trans p4)
    · exact ((HG4.out.alloc (Nat.le_refl _) _).alloc (by simp) _).more (by simp; omega)
    · exact ((HC4.out.alloc (Nat.le_refl _) _).alloc (by simp) _).more (by simp; omega)
    · exact ((HD4.out.alloc (Nat.le_refl _) _).alloc (by simp) _).more (by simp; omega)
  have hB5 := Lib.hid ((hB4.alloc hB4.size (.cells #[.slice A4 dn c4] 26)).alloc (by simp; have := hB4.size; omega) (.cells #[.func (.func 92) #[] #[.pointer (some ⟨w3.heap.size, 0, none⟩)]] 98))
  have HNW := Lib.hid (impl_nodesWhere3 95 (.pointer (some ⟨w.heap.size, 0, none⟩)) (.pointer (some ⟨w4.heap.size + 1, 0, none⟩)) (.pointer (some ⟨w4.heap.size, 0, none⟩)) P
    (fun w' => IM w.heap.size w3.heap.size (w4.heap.size + 1) w4.heap.size A n c gs A3 lc c3 C A4 dn c4 D w') A n c (by omega)
    (fun wa wb h hb => h.step hb)
    (fun q w => by kernel_rfl)
    (fun q wa hq h => (must2_at w.heap.size w3.heap.size (w4.heap.size + 1) w4.heap.size A n c gs A3 lc c3 C A4 dn c4 D q wa h HN.out HDN.out HDN2.out HLC.out hlc2 HDB.out hq (by omega)).mono fun e w' he => ⟨by rw [he.1, HP.out q (by have := HN.out; omega)], he.2⟩)
    _ HIM.out)
  have hlt4 : w.heap.size < w4.heap.size := by omega
  clear HIM HG4 HC4 HD4 hB4
  go_wp2_with fail
  refine HNW.out.mono ?_
  rintro e w6 ⟨v, rfl, ho, hb⟩
  go_wp2
  go_ret
  exact ⟨v, by simp, own_mono ho hB5.out.size, hB5.out.trans (hb.mono hB5.out.size)⟩
end Go.Proofs.Ythephbppeiealaa
