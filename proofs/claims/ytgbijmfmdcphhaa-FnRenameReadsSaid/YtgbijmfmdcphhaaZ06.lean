/- Texts put together: A26 R6 M10. -/
import Derived.Test.YtgbijmfmdcphhaaZ05
import Derived.Deep.RegionHeld3
/- Both RenameReads. -/
namespace Go.Proofs.Ytgbijmfmdcphhaa
set_option linter.unusedSimpArgs false
set_option linter.unusedVariables false
open Go.RowKit

theorem canRen_parts (ps : List Pt) (tos : List Int) (h : canRen ps tos = true) : validF ps = true ∧ tos.length ≤ 10 ∧ eachOK ps tos.length = true := by
  simp only [canRen, Bool.and_eq_true, decide_eq_true_eq] at h
  exact ⟨h.1, h.2.1.1, h.2.2⟩

theorem eachOK_at (ps : List Pt) (m k : Nat) (h : eachOK ps m = true) (hk : k < ps.length) (h1 : ((ps.getD k default).k == 1) = true) : (ps.getD k default).n < (m : Int) := by
  unfold eachOK at h
  rw [List.all_eq_true] at h
  have := h (ps.getD k default) (getD_mem' ps k hk)
  rw [h1] at this
  simpa using this

set_option maxRecDepth 100000 in
set_option maxHeartbeats 3200000 in
theorem impl_RenameReads (A A' : Option Addr) (n c m c' : Nat) (ps : List Pt) (tos : List Int) (B : Nat) (hn : n = ps.length) (hm : m = tos.length) (hs : n ≤ 1999999) (hs' : m ≤ 2000000) (w : World) (hB : B ≤ w.heap.size) (h : PS w B A ps) (h' : IS w B A' tos) :
    Calls Try.prog 21 #[.agg #[.slice A n c], .slice A' m c'] w fun e w' => RetP w (renF ps tos) e w' := by
  have H := Lib.hid h
  have HN := Lib.hid hn
  have H' := Lib.hid h'
  have HM := Lib.hid hm
  clear hn h hm h'
  cases hv : validF ps
  · have hr : renF ps tos = [] := by simp [renF, canRen, hv]
    rw [hr]
    have HV := Lib.hid hv
    clear hr hv
    go_enter Try.func21, Try.ntmps21
    go_wp2_with fail
    refine (impl_ValidFormula _ _ _ ps _ B (by simp; omega) HN.out ((H.out.alloc hB _).alloc (by simp; omega) _) (by omega)).mono ?_
    rintro e w1 ⟨rfl, hb⟩
    rw [HV.out]
    have hz' : w.heap.size + 1 < w1.heap.size := by have := hb.size; simp at this; omega
    have hf : w1.frozen? ⟨w.heap.size + 1, 0, none⟩ = false := (hb.frozen (p := ⟨w.heap.size + 1, 0, none⟩) (by simp)).trans (by go_simp)
    have hc : w1.cell? ⟨w.heap.size + 1, 0, none⟩ = some (.slice none 0 0) := (hb.cell (p := ⟨w.heap.size + 1, 0, none⟩) (by simp)).trans (by go_simp)
    have HB := Lib.hid hb
    clear hb
    go_wp2
    refine bodyPost_ret (v := .agg #[.slice none 0 0]) (by simp [results, Try.results21, go_sem, hz', hc]) rfl (RetP.zero rfl ?_)
    exact ((((Below.refl _ _).alloc (Nat.le_refl _) _).alloc (by simp) _).trans (HB.out.mono (by simp; omega))).setCell (by simp) _
  · cases hr2 : (decide (tos.length ≤ 10) && allR tos 0 9)
    · have hr : renF ps tos = [] := by simp only [renF, canRen, hr2]; simp
      rw [hr]
      have HV := Lib.hid hv
      have HR2 := Lib.hid hr2
      clear hr hv hr2
      go_enter Try.func21, Try.ntmps21
      go_wp2_with fail
      refine (impl_ValidFormula _ _ _ ps _ B (by simp; omega) HN.out ((H.out.alloc hB _).alloc (by simp; omega) _) (by omega)).mono ?_
      rintro e w1 ⟨rfl, hb⟩
      rw [HV.out]
      have hz' : w.heap.size + 1 < w1.heap.size := by have := hb.size; simp at this; omega
      have hf : w1.frozen? ⟨w.heap.size + 1, 0, none⟩ = false := (hb.frozen (p := ⟨w.heap.size + 1, 0, none⟩) (by simp)).trans (by go_simp)
      have hc : w1.cell? ⟨w.heap.size + 1, 0, none⟩ = some (.slice none 0 0) := (hb.cell (p := ⟨w.heap.size + 1, 0, none⟩) (by simp)).trans (by go_simp)
      have HI1 := Lib.hid (((H'.out.alloc hB (.cells #[.slice A n c] 25)).alloc (by simp; omega) (.cells #[.slice none 0 0] 25)).below hb (by simp; omega))
      have HB := Lib.hid hb
      clear hb
      go_wp2_with fail
      refine (impl_allInRange _ _ _ tos _ _ B (by omega) HM.out HI1.out hs').mono ?_
      rintro e w2 ⟨rfl, rfl⟩
      rw [HR2.out]
      go_wp2
      refine bodyPost_ret (v := .agg #[.slice none 0 0]) (by simp [results, Try.results21, go_sem, hz', hc]) rfl (RetP.zero rfl ?_)
      exact ((((Below.refl _ _).alloc (Nat.le_refl _) _).alloc (by simp) _).trans (HB.out.mono (by simp; omega))).setCell (by simp) _
    · cases hea : eachOK ps m
      · have hr : renF ps tos = [] := by simp only [renF, canRen, hr2, ← HM.out, hea]; simp
        rw [hr]
        have HV := Lib.hid hv
        have HR2 := Lib.hid hr2
        have HEA := Lib.hid hea
        clear hr hv hr2 hea
        go_enter Try.func21, Try.ntmps21
        go_wp2_with fail
        refine (impl_ValidFormula _ _ _ ps _ B (by simp; omega) HN.out ((H.out.alloc hB _).alloc (by simp; omega) _) (by omega)).mono ?_
        rintro e w1 ⟨rfl, hb⟩
        rw [HV.out]
        have hz' : w.heap.size + 1 < w1.heap.size := by have := hb.size; simp at this; omega
        have hbox : w1.cell? ⟨w.heap.size, 0, none⟩ = some (.slice A n c) := (hb.cell (p := ⟨w.heap.size, 0, none⟩) (by simp; omega)).trans (by go_simp)
        have hf : w1.frozen? ⟨w.heap.size + 1, 0, none⟩ = false := (hb.frozen (p := ⟨w.heap.size + 1, 0, none⟩) (by simp)).trans (by go_simp)
        have hc : w1.cell? ⟨w.heap.size + 1, 0, none⟩ = some (.slice none 0 0) := (hb.cell (p := ⟨w.heap.size + 1, 0, none⟩) (by simp)).trans (by go_simp)
        have HI1 := Lib.hid (((H'.out.alloc hB (.cells #[.slice A n c] 25)).alloc (by simp; omega) (.cells #[.slice none 0 0] 25)).below hb (by simp; omega))
        have HP1 := Lib.hid (((H.out.alloc hB (.cells #[.slice A n c] 25)).alloc (by simp; omega) (.cells #[.slice none 0 0] 25)).below hb (by simp; omega))
        have HB := Lib.hid ((((Below.refl w.heap.size w).alloc (Nat.le_refl _) (.cells #[.slice A n c] 25)).alloc (by simp) (.cells #[.slice none 0 0] 25)).trans (hb.mono (by simp; omega)))
        clear hb
        go_wp2_with fail
        refine (impl_allInRange _ _ _ tos _ _ B (by omega) HM.out HI1.out hs').mono ?_
        rintro e w2 ⟨rfl, rfl⟩
        rw [HR2.out]
        go_wp2_with fail
        refine (impl_hasEach _ _ _ _ _ _ ps _ B (by omega) HN.out HP1.out (by omega) hs').mono ?_
        rintro e w2 ⟨rfl, hb2⟩
        rw [HEA.out]
        have hz2 : w.heap.size + 1 < w2.heap.size := by have := hb2.size; omega
        have hf2 : w2.frozen? ⟨w.heap.size + 1, 0, none⟩ = false := (hb2.frozen (p := ⟨w.heap.size + 1, 0, none⟩) hz').trans hf
        have hc2 : w2.cell? ⟨w.heap.size + 1, 0, none⟩ = some (.slice none 0 0) := (hb2.cell (p := ⟨w.heap.size + 1, 0, none⟩) hz').trans hc
        have HB2 := Lib.hid (HB.out.trans (hb2.mono (by omega)))
        clear hb2 hf hc hbox
        go_wp2
        refine bodyPost_ret (v := .agg #[.slice none 0 0]) (by simp [results, Try.results21, go_sem, hz2, hc2]) rfl (RetP.zero rfl ?_)
        exact HB2.out.setCell (by simp) _
      · have hr : renF ps tos = mix tos ps n := by
          rw [mix_all tos ps n HN.out]
          have : canRen ps tos = true := by simp only [canRen]; rw [hr2, ← HM.out, hea, hv]; rfl
          simp [renF, this]
        rw [hr]
        obtain ⟨hg, h1, h12⟩ := validF_good ps hv
        have h1n : 1 ≤ n := by have := HN.out; omega
        have HG := Lib.hid hg
        have HV := Lib.hid hv
        have HR2 := Lib.hid hr2
        have HEA := Lib.hid hea
        clear hr hv hr2 hea hg h1 h12
        go_enter Try.func21, Try.ntmps21
        go_wp2_with fail
        refine (impl_ValidFormula _ _ _ ps _ B (by simp; omega) HN.out ((H.out.alloc hB _).alloc (by simp; omega) _) (by omega)).mono ?_
        rintro e w1 ⟨rfl, hb⟩
        rw [HV.out]
        have hz' : w.heap.size + 1 < w1.heap.size := by have := hb.size; simp at this; omega
        have hbox : w1.cell? ⟨w.heap.size, 0, none⟩ = some (.slice A n c) := (hb.cell (p := ⟨w.heap.size, 0, none⟩) (by simp; omega)).trans (by go_simp)
        have hf : w1.frozen? ⟨w.heap.size + 1, 0, none⟩ = false := (hb.frozen (p := ⟨w.heap.size + 1, 0, none⟩) (by simp)).trans (by go_simp)
        have hc : w1.cell? ⟨w.heap.size + 1, 0, none⟩ = some (.slice none 0 0) := (hb.cell (p := ⟨w.heap.size + 1, 0, none⟩) (by simp)).trans (by go_simp)
        have HI1 := Lib.hid (((H'.out.alloc hB (.cells #[.slice A n c] 25)).alloc (by simp; omega) (.cells #[.slice none 0 0] 25)).below hb (by simp; omega))
        have HP1 := Lib.hid (((H.out.alloc hB (.cells #[.slice A n c] 25)).alloc (by simp; omega) (.cells #[.slice none 0 0] 25)).below hb (by simp; omega))
        have HB := Lib.hid ((((Below.refl w.heap.size w).alloc (Nat.le_refl _) (.cells #[.slice A n c] 25)).alloc (by simp) (.cells #[.slice none 0 0] 25)).trans (hb.mono (by simp; omega)))
        clear hb
        go_wp2_with fail
        refine (impl_allInRange _ _ _ tos _ _ B (by omega) HM.out HI1.out hs').mono ?_
        rintro e w2 ⟨rfl, rfl⟩
        rw [HR2.out]
        go_wp2_with fail
        refine (impl_hasEach _ _ _ _ _ _ ps _ B (by omega) HN.out HP1.out (by omega) hs').mono ?_
        rintro e w2 ⟨rfl, hb2⟩
        rw [HEA.out]
        have hz2 : w.heap.size + 1 < w2.heap.size := by have := hb2.size; omega
        have hbox2 : w2.cell? ⟨w.heap.size, 0, none⟩ = some (.slice A n c) := (hb2.cell (p := ⟨w.heap.size, 0, none⟩) (by show w.heap.size < w1.heap.size; omega)).trans hbox
        have hf2 : w2.frozen? ⟨w.heap.size + 1, 0, none⟩ = false := (hb2.frozen (p := ⟨w.heap.size + 1, 0, none⟩) hz').trans hf
        have hc2 : w2.cell? ⟨w.heap.size + 1, 0, none⟩ = some (.slice none 0 0) := (hb2.cell (p := ⟨w.heap.size + 1, 0, none⟩) hz').trans hc
        have HP2 := Lib.hid (HP1.out.below hb2 (by omega))
        have HI2 := Lib.hid (HI1.out.below hb2 (by omega))
        have HB2 := Lib.hid (HB.out.trans (hb2.mono (by omega)))
        clear hb2 hf hc hbox HP1 HI1
        go_wp2_with fail
        refine (clone_parts A n c ps _ B (by omega) HN.out h1n HP2.out (by omega)).mono ?_
        rintro e w3 ⟨v, rfl, hown, hb3⟩
        rw [← HN.out] at hown
        have hg3 : ∃ g cap, v = .slice (some ⟨g, 0, none⟩) n cap := by
          rcases hown.2 with ⟨_, h0⟩ | ⟨g, cap, cur, hv, _⟩
          · omega
          · exact ⟨g, cap, hv⟩
        obtain ⟨g, cap, rfl⟩ := hg3
        have hgb := hown.lt g rfl
        have HB3 := Lib.hid hb3
        have HO3 := Lib.hid hown
        have HF2 := Lib.hid hf2
        have HC2 := Lib.hid hc2
        have hg2 : w2.heap.size ≤ g := hgb.1
        clear hown hb3 hf2 hc2 hbox2 HP2 hgb
        go_wp2
        go_loopw [28] (fun i wr => ∃ k : Nat, k ≤ n ∧ i = .int .i64 k ∧ Hid (wr.ownsRow w2.heap.size 73 5 (.slice (some ⟨g, 0, none⟩) n cap) n ((mix tos ps k).flatMap Pt.cells)) ∧ Hid (Below w2.heap.size w2 wr)) (fun i _ => n - (intOf i).toNat)
        case atStart => exact ⟨0, Nat.zero_le _, rfl, by rw [mix_zero]; exact HO3.out, HB3.out⟩
        case round =>
          clear HO3 HB3
          obtain ⟨k, hk, rfl, HO, HBr⟩ := hrel
          have hgw : g < wr.heap.size := (HO.out.lt g rfl).2
          by_cases hlt : k < n
          · have hkl : k < ps.length := by have := HN.out; omega
            obtain ⟨c0, c1, c2, c3, c4⟩ := cells_get (mix tos ps k) k (by rw [mix_len]; exact hkl)
            rw [mix_getD tos ps k hkl] at c0 c1 c2 c3 c4
            have b0 := (HO.out.cellAt (k * 5) (by omega)).trans c0
            have b1 := (HO.out.cellAt (k * 5 + 1) (by omega)).trans c1
            have b2 := (HO.out.cellAt (k * 5 + 2) (by omega)).trans c2
            have b3 := (HO.out.cellAt (k * 5 + 3) (by omega)).trans c3
            have b4 := (HO.out.cellAt (k * 5 + 4) (by omega)).trans c4
            have f4 := HO.out.frozenAt (k * 5 + 4)
            have hgk := HG.out k hkl
            have HMS := Lib.hid (mix_succ tos ps k hkl)
            have HMG := Lib.hid (mix_getD tos ps k hkl)
            have HML := Lib.hid (mix_len tos ps k)
            have HKL := Lib.hid hkl
            clear c0 c1 c2 c3 c4
            cases h1 : ((ps.getD k default).k == 1)
            · have HMK := Lib.hid (mix_keep tos ps k hkl h1)
              have H1 := Lib.hid h1
              clear hgk hkl f4
              generalize ps.getD k default = p at *
              clear H1
              go_wp2
              go_roundw
              case rel => exact ⟨k + 1, by omega, by go_num, by rw [HMK.out]; exact HO.out.alloc _, HBr.out.alloc (by omega) _⟩
              case measure => simp [intOf]; omega
            · have hlt2 := eachOK_at ps m k HEA.out hkl h1
              generalize ps.getD k default = p at *
              obtain ⟨q, hq⟩ : ∃ q : Nat, p.n = (q : Int) := by
                have := (good_num p k hgk).2 (by simpa using h1)
                exact ⟨p.n.toNat, by omega⟩
              have hqm : q < m := by omega
              obtain ⟨b', off', rfl, hbB', hc'⟩ := HI2.out (by have := HM.out; omega)
              have hx := (HBr.out.cell (p := ⟨b', off' + q, none⟩) (by show b' < w2.heap.size; omega)).trans (hc' q (by have := HM.out; omega))
              have hren : ren tos p = { p with n := tos.getD q 0 } := by unfold ren; rw [h1, if_pos rfl, hq]; rfl
              have HRE := Lib.hid hren
              rw [hq] at b4
              have H1 := Lib.hid h1
              have hbw' : b' < wr.heap.size := by have := HBr.out.size; omega
              clear hgk hkl hc' hren hlt2 hq
              generalize tos.getD q 0 = x at *
              go_wp2
              go_roundw
              case rel =>
                refine ⟨k + 1, by omega, by go_num, ?_, ?_⟩
                · have h2 := (HO.out.stored (k * 5 + 4) (.int .i64 x)).1
                  rw [cells_set4 _ k (by rw [HML.out]; exact HKL.out) x, HMG.out, ← HRE.out, ← HMS.out] at h2
                  exact h2.alloc _
                · exact (HBr.out.setCell (p := ⟨g, k * 5 + 4, none⟩) hg2 _).alloc (by simp [World.setCell]; omega) _
              case measure => simp [intOf]; omega
          · obtain rfl : k = n := by omega
            have hf3 : wr.frozen? ⟨w.heap.size + 1, 0, none⟩ = false := (HBr.out.frozen (p := ⟨w.heap.size + 1, 0, none⟩) hz2).trans HF2.out
            have hc3 : wr.cell? ⟨w.heap.size + 1, 0, none⟩ = some (.slice none 0 0) := (HBr.out.cell (p := ⟨w.heap.size + 1, 0, none⟩) hz2).trans HC2.out
            have hzr : w.heap.size + 1 < wr.heap.size := by have := HBr.out.size; omega
            have HML := Lib.hid ((mix_len tos ps k).trans HN.out.symm)
            clear hlt hk
            go_wp2
            refine bodyPost_ret (v := .agg #[.slice (some ⟨g, 0, none⟩) k cap]) (by simp [results, Try.results21, go_sem, hzr, hc3]) rfl ⟨_, rfl, ?_, ?_⟩
            · rw [HML.out]
              have h1 := HO.out
              have h2 : w.heap.size ≤ w2.heap.size := by omega
              exact own_mono (ownsRow_setCell_below (a := ⟨w.heap.size + 1, 0, none⟩) h1 (show w.heap.size + 1 < w2.heap.size by omega) _) h2
            · exact (HB2.out.trans (HBr.out.mono (by omega))).setCell (by simp) _

theorem eachOK_take (ps : List Pt) (m k : Nat) (h : eachOK (ps.take k) m = true) (hk : k < ps.length) (h1 : ((ps.getD k default).k == 1 && decide ((m : Int) ≤ (ps.getD k default).n)) = false) : eachOK (ps.take (k + 1)) m = true := by
  rw [take_succ_getD ps k hk]
  unfold eachOK at *
  rw [List.all_append, h]
  simp only [List.all_cons, List.all_nil, h1]; rfl

theorem eachOK_false (ps : List Pt) (m k : Nat) (hk : k < ps.length) (h1 : ((ps.getD k default).k == 1 && decide ((m : Int) ≤ (ps.getD k default).n)) = true) : eachOK ps m = false := by
  unfold eachOK
  rw [List.all_eq_false]
  exact ⟨ps.getD k default, getD_mem' ps k hk, by rw [h1]; simp⟩

set_option maxRecDepth 100000 in
set_option maxHeartbeats 3200000 in
theorem spec_RenameReads (A A' : Option Addr) (n c m c' : Nat) (ps : List Pt) (tos : List Int) (B : Nat) (hn : n = ps.length) (hm : m = tos.length) (hs : n ≤ 1999999) (hs' : m ≤ 2000000) (w : World) (hB : B ≤ w.heap.size) (h : PS w B A ps) (h' : IS w B A' tos) :
    Calls Try.prog 22 #[.agg #[.slice A n c], .slice A' m c'] w fun e w' => RetP w (renF ps tos) e w' := by
  obtain ⟨i1, hi1, hy0, hy1, hy2⟩ := info_parts info_part
  have H := Lib.hid h
  have HN := Lib.hid hn
  have H' := Lib.hid h'
  have HM := Lib.hid hm
  clear hn h hm h'
  cases hv : validF ps
  · have hr : renF ps tos = [] := by simp [renF, canRen, hv]
    rw [hr]
    have HV := Lib.hid hv
    clear hr hv
    go_enter Try.func22, Try.ntmps22
    go_wp2_with fail
    refine (spec_validFormula _ _ _ ps _ B (by simp; omega) HN.out ((H.out.alloc hB _).alloc (by simp; omega) _) (by omega)).mono ?_
    rintro e w1 ⟨rfl, hb⟩
    rw [HV.out]
    have hz' : w.heap.size + 1 < w1.heap.size := by have := hb.size; simp at this; omega
    have hf : w1.frozen? ⟨w.heap.size + 1, 0, none⟩ = false := (hb.frozen (p := ⟨w.heap.size + 1, 0, none⟩) (by simp)).trans (by go_simp)
    have hc : w1.cell? ⟨w.heap.size + 1, 0, none⟩ = some (.slice none 0 0) := (hb.cell (p := ⟨w.heap.size + 1, 0, none⟩) (by simp)).trans (by go_simp)
    have HB := Lib.hid hb
    clear hb
    go_wp2
    refine bodyPost_ret (v := .agg #[.slice none 0 0]) (by simp [results, Try.results22, go_sem, hz', hc]) rfl (RetP.zero rfl ?_)
    exact ((((Below.refl _ _).alloc (Nat.le_refl _) _).alloc (by simp) _).trans (HB.out.mono (by simp; omega))).setCell (by simp) _
  · by_cases h10 : 10 < m
    · have hr : renF ps tos = [] := by
        have : decide (tos.length ≤ 10) = false := by rw [← HM.out]; simp; omega
        simp only [renF, canRen, this]; simp
      rw [hr]
      have HV := Lib.hid hv
      clear hr hv
      go_enter Try.func22, Try.ntmps22
      go_wp2_with fail
      refine (spec_validFormula _ _ _ ps _ B (by simp; omega) HN.out ((H.out.alloc hB _).alloc (by simp; omega) _) (by omega)).mono ?_
      rintro e w1 ⟨rfl, hb⟩
      rw [HV.out]
      have hz' : w.heap.size + 1 < w1.heap.size := by have := hb.size; simp at this; omega
      have hf : w1.frozen? ⟨w.heap.size + 1, 0, none⟩ = false := (hb.frozen (p := ⟨w.heap.size + 1, 0, none⟩) (by simp)).trans (by go_simp)
      have hc : w1.cell? ⟨w.heap.size + 1, 0, none⟩ = some (.slice none 0 0) := (hb.cell (p := ⟨w.heap.size + 1, 0, none⟩) (by simp)).trans (by go_simp)
      have HB := Lib.hid hb
      clear hb
      go_wp2
      refine bodyPost_ret (v := .agg #[.slice none 0 0]) (by simp [results, Try.results22, go_sem, hz', hc]) rfl (RetP.zero rfl ?_)
      exact ((((Below.refl _ _).alloc (Nat.le_refl _) _).alloc (by simp) _).trans (HB.out.mono (by simp; omega))).setCell (by simp) _
    · cases har : allR tos 0 9
      · have hr : renF ps tos = [] := by simp only [renF, canRen, har]; simp
        rw [hr]
        have HV := Lib.hid hv
        have HAR := Lib.hid har
        clear hr hv har
        go_enter Try.func22, Try.ntmps22
        go_wp2_with fail
        refine (spec_validFormula _ _ _ ps _ B (by simp; omega) HN.out ((H.out.alloc hB _).alloc (by simp; omega) _) (by omega)).mono ?_
        rintro e w1 ⟨rfl, hb⟩
        rw [HV.out]
        have hz' : w.heap.size + 1 < w1.heap.size := by have := hb.size; simp at this; omega
        have hf : w1.frozen? ⟨w.heap.size + 1, 0, none⟩ = false := (hb.frozen (p := ⟨w.heap.size + 1, 0, none⟩) (by simp)).trans (by go_simp)
        have hc : w1.cell? ⟨w.heap.size + 1, 0, none⟩ = some (.slice none 0 0) := (hb.cell (p := ⟨w.heap.size + 1, 0, none⟩) (by simp)).trans (by go_simp)
        have HI1 := Lib.hid (((H'.out.alloc hB (.cells #[.slice A n c] 25)).alloc (by simp; omega) (.cells #[.slice none 0 0] 25)).below hb (by simp; omega))
        have HB := Lib.hid hb
        clear hb
        go_wp2_with fail
        refine (spec_allIn _ _ _ tos _ _ _ B (by omega) HM.out HI1.out hs').mono ?_
        rintro e w2 ⟨rfl, rfl⟩
        rw [HAR.out]
        go_wp2
        refine bodyPost_ret (v := .agg #[.slice none 0 0]) (by simp [results, Try.results22, go_sem, hz', hc]) rfl (RetP.zero rfl ?_)
        exact ((((Below.refl _ _).alloc (Nat.le_refl _) _).alloc (by simp) _).trans (HB.out.mono (by simp; omega))).setCell (by simp) _
      · have HRF := Lib.hid (show eachOK ps m = false → renF ps tos = [] by
          intro h; simp only [renF, canRen, ← HM.out, h]; simp)
        have HRT := Lib.hid (show eachOK ps m = true → renF ps tos = mix tos ps n by
          intro h
          have h10' : decide (tos.length ≤ 10) = true := by rw [← HM.out]; simp; omega
          have : canRen ps tos = true := by simp only [canRen]; rw [h10', har, ← HM.out, h, hv]; rfl
          rw [mix_all tos ps n HN.out]
          simp [renF, this])
        obtain ⟨hg, h1, h12⟩ := validF_good ps hv
        have h1n : 1 ≤ n := by have := HN.out; omega
        have HG := Lib.hid hg
        have HV := Lib.hid hv
        have HAR := Lib.hid har
        clear hv hg h1 h12 har
        generalize renF ps tos = R at *
        go_enter Try.func22, Try.ntmps22
        go_wp2_with fail
        refine (spec_validFormula _ _ _ ps _ B (by simp; omega) HN.out ((H.out.alloc hB _).alloc (by simp; omega) _) (by omega)).mono ?_
        rintro e w1 ⟨rfl, hb⟩
        rw [HV.out]
        have hz' : w.heap.size + 1 < w1.heap.size := by have := hb.size; simp at this; omega
        have hbox : w1.cell? ⟨w.heap.size, 0, none⟩ = some (.slice A n c) := (hb.cell (p := ⟨w.heap.size, 0, none⟩) (by simp; omega)).trans (by go_simp)
        have hf : w1.frozen? ⟨w.heap.size + 1, 0, none⟩ = false := (hb.frozen (p := ⟨w.heap.size + 1, 0, none⟩) (by simp)).trans (by go_simp)
        have hc : w1.cell? ⟨w.heap.size + 1, 0, none⟩ = some (.slice none 0 0) := (hb.cell (p := ⟨w.heap.size + 1, 0, none⟩) (by simp)).trans (by go_simp)
        have HI1 := Lib.hid (((H'.out.alloc hB (.cells #[.slice A n c] 25)).alloc (by simp; omega) (.cells #[.slice none 0 0] 25)).below hb (by simp; omega))
        have HP1 := Lib.hid (((H.out.alloc hB (.cells #[.slice A n c] 25)).alloc (by simp; omega) (.cells #[.slice none 0 0] 25)).below hb (by simp; omega))
        have HB := Lib.hid ((((Below.refl w.heap.size w).alloc (Nat.le_refl _) (.cells #[.slice A n c] 25)).alloc (by simp) (.cells #[.slice none 0 0] 25)).trans (hb.mono (by simp; omega)))
        clear hb
        go_wp2_with fail
        refine (spec_allIn _ _ _ tos _ _ _ B (by omega) HM.out HI1.out hs').mono ?_
        rintro e w2 ⟨rfl, rfl⟩
        rw [HAR.out]
        obtain ⟨b, off, rfl, hbB, hpc⟩ := HP1.out (by have := HN.out; omega)
        have HPC := Lib.hid (news_of_parts hpc)
        have hnew := World.ownsRow_lit (e := 73) (size := 5) (base := w1.heap.size) w1 #[] 0 (Nat.le_refl _) (by unfold maxLen; omega) (by simp)
        have HNEW := Lib.hid hnew
        have hbw1 : b < w1.heap.size := by omega
        have hz0 : w.heap.size < w1.heap.size := by omega
        clear hnew hpc
        go_wp2_with (at_builtin; refine wpList_append_own_at _ rfl _ _ 23 rfl w1.heap.size 73 i1 _ 5 40 Try.underlying23 hi1 hy0 hy1 hy2 rfl (by decide) _ _ _ rfl HNEW.out ⟨b, off, none⟩ n c (ps.flatMap Pt.cells) rfl ?d1 ?d6 (cells_one ps) ?d3 ?d4 ?d5 ?_)
        case d1 => rw [length_cells, HN.out]
        case d6 => exact news_alloc HPC.out hbw1 _
        case d3 => unfold maxLen; omega
        case d4 => omega
        case d5 => simp
        intro v' w3 hown' hgrow _ hwhere
        have hown'' : w3.ownsRow w1.heap.size 73 5 v' n (ps.flatMap Pt.cells) := by simpa using hown'
        have hg3 : ∃ g cap, v' = .slice (some ⟨g, 0, none⟩) n cap := by
          rcases hown''.2 with ⟨_, h0⟩ | ⟨g, cap, cur, hv, _⟩
          · omega
          · exact ⟨g, cap, hv⟩
        obtain ⟨g, cap, rfl⟩ := hg3
        have hgb := hown''.lt g rfl
        have hb3 : Below w1.heap.size w1 w3 := ((Below.refl _ _).alloc (Nat.le_refl _) (.cells #[] 73)).grown hgrow (by simp) (fun k hk => by simp [Value.ownBlock] at hk; omega)
        have hz3 : w.heap.size + 1 < w3.heap.size := by have := hb3.size; omega
        have hw13 : w1.heap.size ≤ w3.heap.size := hb3.size
        have HO3 := Lib.hid (hown''.alloc (.cells #[.slice (some ⟨g, 0, none⟩) n cap] 25))
        have HB3 := Lib.hid (hb3.alloc hw13 (.cells #[.slice (some ⟨g, 0, none⟩) n cap] 25))
        have HF1 := Lib.hid hf
        have HC1 := Lib.hid hc
        have hg2 : w1.heap.size ≤ g := hgb.1
        have hgw3 : g < w3.heap.size := hgb.2
        clear hown' hown'' hgrow hwhere hb3 hf hc hbox HP1 HNEW HPC hgb
        go_wp2
        go_loopw [6] (fun i wr => ∃ k : Nat, k ≤ n ∧ i = .int .i64 k ∧ Hid (wr.ownsRow w1.heap.size 73 5 (.slice (some ⟨g, 0, none⟩) n cap) n ((mix tos ps k).flatMap Pt.cells)) ∧ Hid (Below w1.heap.size w1 wr) ∧ Hid (eachOK (ps.take k) m = true) ∧ Hid (wr.cell? ⟨w3.heap.size, 0, none⟩ = some (.slice (some ⟨g, 0, none⟩) n cap)) ∧ w3.heap.size < wr.heap.size) (fun i _ => n - (intOf i).toNat)
        case atStart => exact ⟨0, Nat.zero_le _, rfl, by rw [mix_zero]; exact HO3.out, HB3.out, by simp [Hid, eachOK], by simp only [Hid]; go_simp, by simp⟩
        case round =>
          clear HO3 HB3
          obtain ⟨k, hk, rfl, HO, HBr, HE, HFB, hwr⟩ := hrel
          have hfb := HFB.out
          have hgw : g < wr.heap.size := (HO.out.lt g rfl).2
          have hf3 : wr.frozen? ⟨w.heap.size + 1, 0, none⟩ = false := (HBr.out.frozen (p := ⟨w.heap.size + 1, 0, none⟩) hz').trans HF1.out
          have hc3 : wr.cell? ⟨w.heap.size + 1, 0, none⟩ = some (.slice none 0 0) := (HBr.out.cell (p := ⟨w.heap.size + 1, 0, none⟩) hz').trans HC1.out
          have hzr : w.heap.size + 1 < wr.heap.size := by omega
          by_cases hlt : k < n
          · have hkl : k < ps.length := by have := HN.out; omega
            obtain ⟨c0, c1, c2, c3, c4⟩ := cells_get (mix tos ps k) k (by rw [mix_len]; exact hkl)
            rw [mix_getD tos ps k hkl] at c0 c1 c2 c3 c4
            have b0 := (HO.out.cellAt (k * 5) (by omega)).trans c0
            have b4 := (HO.out.cellAt (k * 5 + 4) (by omega)).trans c4
            have f4 := HO.out.frozenAt (k * 5 + 4)
            have hgk := HG.out k hkl
            have HMS := Lib.hid (mix_succ tos ps k hkl)
            have HMG := Lib.hid (mix_getD tos ps k hkl)
            have HML := Lib.hid (mix_len tos ps k)
            have HKL := Lib.hid hkl
            have HET := Lib.hid (eachOK_take ps m k HE.out hkl)
            clear c0 c1 c2 c3 c4
            cases h1 : ((ps.getD k default).k == 1)
            · have HMK := Lib.hid (mix_keep tos ps k hkl h1)
              have HE2 := Lib.hid (HET.out (by rw [h1]; rfl))
              have h1' : ((ps.getD k default).k != 1) = true := by unfold bne; rw [h1]; rfl
              clear hgk hkl f4 HET HE h1 hf3 hc3
              have H1' := Lib.hid h1'
              generalize ps.getD k default = p at *
              have h1' := H1'.out
              clear H1'
              go_wp2
              go_roundw
              case rel => exact ⟨k + 1, by omega, by go_num, by rw [HMK.out]; exact HO.out, HBr.out, HE2.out, HFB.out, hwr⟩
              case measure => simp [intOf]; omega
            · have h1' : ((ps.getD k default).k != 1) = false := by unfold bne; rw [h1]; rfl
              cases hlt2 : decide ((m : Int) ≤ (ps.getD k default).n)
              · have HE2 := Lib.hid (HET.out (by rw [h1, hlt2]; rfl))
                clear HET HE
                generalize ps.getD k default = p at *
                obtain ⟨q, hq⟩ : ∃ q : Nat, p.n = (q : Int) := by
                  have := (good_num p k hgk).2 (by simpa using h1)
                  exact ⟨p.n.toNat, by omega⟩
                have hqm : q < m := by have := of_decide_eq_false hlt2; omega
                obtain ⟨b', off', rfl, hbB', hc'⟩ := HI1.out (by have := HM.out; omega)
                have hx := (HBr.out.cell (p := ⟨b', off' + q, none⟩) (by show b' < w1.heap.size; omega)).trans (hc' q (by have := HM.out; omega))
                have hren : ren tos p = { p with n := tos.getD q 0 } := by unfold ren; rw [h1, if_pos rfl, hq]; rfl
                have HRE := Lib.hid hren
                rw [hq] at b4 hlt2
                have hbw' : b' < wr.heap.size := by omega
                have hqmi : (q : Int) < (m : Int) := by omega
                clear hgk hkl hc' hren hlt2 hq h1 hf3 hc3
                generalize tos.getD q 0 = x at *
                go_wp2
                go_region
                go_wp2
                go_roundw
                case rel =>
                  refine ⟨k + 1, by omega, by go_num, ?_, ?_, HE2.out, ?_, by simp [World.setCell]; exact hwr⟩
                  · have h2 := (HO.out.stored (k * 5 + 4) (.int .i64 x)).1
                    rw [cells_set4 _ k (by rw [HML.out]; exact HKL.out) x, HMG.out, ← HRE.out, ← HMS.out] at h2
                    exact h2
                  · exact (HBr.out.setCell (p := ⟨g, k * 5 + 4, none⟩) hg2 _).drew
                  · have h3 : w3.heap.size ≠ g := by omega
                    simp only [Hid]
                    show (wr.setCell ⟨g, k * 5 + 4, none⟩ (.int .i64 x)).cell? ⟨w3.heap.size, 0, none⟩ = _
                    rw [World.cell?_setCell_other _ _ _ _ (by intro e; simp at e; try omega)]
                    exact HFB.out
                case measure => simp [intOf]; omega
              · have hR := HRF.out (eachOK_false ps m k hkl (by rw [h1, hlt2]; rfl))
                have hle : (m : Int) ≤ (ps.getD k default).n := of_decide_eq_true hlt2
                have HR := Lib.hid hR
                clear hR hgk HET HE h1 hkl hlt2
                generalize ps.getD k default = p at *
                go_wp2
                refine bodyPost_ret (v := .agg #[.slice none 0 0]) (by simp [results, Try.results22, go_sem, hzr, hc3]) rfl (by rw [HR.out]; refine RetP.zero rfl ?_; exact (HB.out.trans (HBr.out.mono (by omega))).setCell (by simp) _)
          · obtain rfl : k = n := by omega
            have hR := HRT.out (by have := HE.out; rwa [List.take_of_length_le (by have := HN.out; omega)] at this)
            have HR := Lib.hid hR
            have HML := Lib.hid ((mix_len tos ps k).trans HN.out.symm)
            clear hlt hk hR
            go_wp2
            refine bodyPost_ret (v := .agg #[.slice (some ⟨g, 0, none⟩) k cap]) (by simp [results, Try.results22, go_sem, hzr, hc3]) rfl (by
              rw [HR.out]
              refine ⟨_, rfl, ?_, ?_⟩
              · rw [HML.out]
                have h1 := HO.out
                have h2 : w.heap.size ≤ w1.heap.size := by omega
                exact own_mono (ownsRow_setCell_below (a := ⟨w.heap.size + 1, 0, none⟩) h1 (show w.heap.size + 1 < w1.heap.size by omega) _) h2
              · exact (HB.out.trans (HBr.out.mono (by omega))).setCell (by simp) _)
end Go.Proofs.Ytgbijmfmdcphhaa

/- The laws' own helpers on formulas and on lists that ascend, where they answer true. -/
namespace Go.Proofs.Ytgbijmfmdcphhaa
set_option linter.unusedSimpArgs false
set_option linter.unusedVariables false
open Go.RowKit

set_option maxHeartbeats 1600000 in
theorem laws_ascends (A : Option Addr) (n c : Nat) (xs : List Int) (w : World) (B : Nat) (hB : B ≤ w.heap.size) (hn : n = xs.length) (h : IS w B A xs) (hs : n ≤ 2000000) (hd : ∀ j, j + 1 < xs.length → xs.getD j 0 < xs.getD (j + 1) 0) :
    Calls Try.prog 49 #[.slice A n c] w fun e w' => e = .returned (.bool true) ∧ Below w.heap.size w w' := by
  have H := Lib.hid h
  have HN := Lib.hid hn
  have HD := Lib.hid hd
  clear hn h hd
  go_enter Try.func49, Try.ntmps49
  go_wp2
  go_loopw [3] (fun i wr => ∃ j : Nat, i = .int .i64 ((j : Int) + 1) ∧ Hid (Below w.heap.size w wr)) (fun i _ => n - (intOf i).toNat)
  case atStart => exact ⟨0, rfl, Below.refl _ _⟩
  case round =>
    obtain ⟨j, rfl, HB⟩ := hrel
    by_cases hlt : j + 1 < n
    · obtain ⟨b, off, rfl, hbB, hc⟩ := H.out (by have := HN.out; omega)
      have c0 := (HB.out.cell (p := ⟨b, off + j, none⟩) (by show b < w.heap.size; omega)).trans (hc j (by have := HN.out; omega))
      have c1 := (HB.out.cell (p := ⟨b, off + (j + 1), none⟩) (by show b < w.heap.size; omega)).trans (hc (j + 1) (by have := HN.out; omega))
      have hxy := HD.out j (by have := HN.out; omega)
      clear hc H
      generalize xs.getD j 0 = x at *
      generalize xs.getD (j + 1) 0 = y at *
      have hle : ¬ y ≤ x := by omega
      have hw1 : IntKind.i64.wrap ((j : Int) + 1 - 1) = (j : Int) := by rw [IntWalk.i64_in _ (by omega)]; omega
      have hw2 : IntKind.i64.wrap ((j : Int)) = (j : Int) := by rw [IntWalk.i64_in _ (by omega)]
      have ht : ((j : Int) + 1).toNat = j + 1 := by omega
      have hb1 : (j : Int) + 1 < n := by omega
      have hb0 : (0 : Int) ≤ (j : Int) + 1 := by omega
      go_wp2
      go_quiet (fail)
      clear hw1 hw2 ht
      go_wp2
      go_roundw
      case rel => exact ⟨j + 1, by go_num, drewN_below0 HB.out⟩
      case measure => simp [intOf]; omega
    · have hlt' : ¬ (j : Int) + 1 < n := by omega
      go_wp2
      go_ret
      exact ⟨rfl, HB.out⟩

set_option maxRecDepth 100000 in
set_option maxHeartbeats 3200000 in
theorem laws_equalFormula (A A' : Option Addr) (n c c' : Nat) (ps : List Pt) (w : World) (hn : n = ps.length) (h : PS w w.heap.size A ps) (h' : PS w w.heap.size A' ps) (hs : n ≤ 2000000) :
    Calls Try.prog 14 #[.agg #[.slice A n c], .agg #[.slice A' n c']] w fun e w' => e = .returned (.bool true) ∧ Below w.heap.size w w' := by
  have hne : ((n : Int) != (n : Int)) = false := by simp
  obtain ⟨W2, hW2⟩ : ∃ W2, W2 = (w.alloc (.cells #[.slice A n c] 25)).alloc (.cells #[.slice A' n c'] 25) := ⟨_, rfl⟩
  have HB0 : Hid (Below w.heap.size w W2) := by rw [hW2]; exact ((Below.refl w.heap.size w).alloc (Nat.le_refl _) _).alloc (by simp) _
  have hs2 : w.heap.size + 2 ≤ W2.heap.size := by rw [hW2]; simp
  have HT : Hid (W2.cell? ⟨w.heap.size, 0, none⟩ = some (.slice A n c) ∧ W2.cell? ⟨w.heap.size + 1, 0, none⟩ = some (.slice A' n c')) := by rw [hW2]; exact ⟨by go_simp, by go_simp⟩
  have H := Lib.hid (h.below HB0.out (Nat.le_refl _))
  have H' := Lib.hid (h'.below HB0.out (Nat.le_refl _))
  have HN := Lib.hid hn
  have HW2 := Lib.hid hW2
  clear hn h h' hW2
  go_enter Try.func14, Try.ntmps14
  go_wp2
  rw [← HW2.out]
  go_loopw [5] (fun i wr => ∃ k : Nat, k ≤ n ∧ i = .int .i64 k ∧ Hid (Below W2.heap.size W2 wr)) (fun i _ => n - (intOf i).toNat)
  case atStart => exact ⟨0, Nat.zero_le _, rfl, Below.refl _ _⟩
  case round =>
    obtain ⟨k, hk, rfl, HB⟩ := hrel
    have q0 := (HB.out.cell (p := ⟨w.heap.size, 0, none⟩) (by show w.heap.size < W2.heap.size; omega)).trans HT.out.1
    have q1 := (HB.out.cell (p := ⟨w.heap.size + 1, 0, none⟩) (by show w.heap.size + 1 < W2.heap.size; omega)).trans HT.out.2
    by_cases hlt : k < n
    · obtain ⟨b, off, rfl, hbB, hc⟩ := (H.out.below HB.out (by omega)) (by have := HN.out; omega)
      obtain ⟨b2, off2, rfl, hbB2, hc2⟩ := (H'.out.below HB.out (by omega)) (by have := HN.out; omega)
      obtain ⟨a0, a1, a2, a3, a4⟩ := hc k (by have := HN.out; omega)
      obtain ⟨e0, e1, e2, e3, e4⟩ := hc2 k (by have := HN.out; omega)
      clear hc hc2
      generalize ps.getD k default = p at *
      go_wp2
      refine wp_region_held_drew (S := fun w' => (w'.cell? ⟨w.heap.size, 0, none⟩ = some (.slice (some ⟨b, off, none⟩) n c) ∧ w'.cell? ⟨w.heap.size + 1, 0, none⟩ = some (.slice (some ⟨b2, off2, none⟩) n c')) ∧ (w'.cell? ⟨b, off + k * 5, none⟩ = some (.int .i64 p.k) ∧ w'.cell? ⟨b, off + k * 5 + 1, none⟩ = some (.int .i64 p.a) ∧ w'.cell? ⟨b, off + k * 5 + 2, none⟩ = some (.int .i64 p.b) ∧ w'.cell? ⟨b, off + k * 5 + 3, none⟩ = some (.int .i64 p.c) ∧ w'.cell? ⟨b, off + k * 5 + 4, none⟩ = some (.int .i64 p.n)) ∧ (w'.cell? ⟨b2, off2 + k * 5, none⟩ = some (.int .i64 p.k) ∧ w'.cell? ⟨b2, off2 + k * 5 + 1, none⟩ = some (.int .i64 p.a) ∧ w'.cell? ⟨b2, off2 + k * 5 + 2, none⟩ = some (.int .i64 p.b) ∧ w'.cell? ⟨b2, off2 + k * 5 + 3, none⟩ = some (.int .i64 p.c) ∧ w'.cell? ⟨b2, off2 + k * 5 + 4, none⟩ = some (.int .i64 p.n))) (by kernel_rfl) ⟨⟨q0, q1⟩, ⟨a0, a1, a2, a3, a4⟩, ⟨e0, e1, e2, e3, e4⟩⟩ (fun hHeld => ?_)
      refine wpAnyH_take (i := 0) (oi := ⟨some 20, _, _, _, _, _⟩) (v := ?_) rfl (by kernel_rfl) (by kernel_rfl) (by kernel_rfl) (fun _ _ _ h => h) (Or.inl ⟨by rfl, ?_⟩) (by assumption) ?_; rotate_left; (focus (intro w hSw; (try dsimp only at hSw); go_simp; (try with_reducible rfl))); (try simp only [Act.put, List.setIfInBounds_toArray, List.set_cons_zero, List.set_cons_succ])
      refine wpAnyH_take (i := 1) (oi := ⟨some 21, _, _, _, _, _⟩) (v := ?_) rfl (by kernel_rfl) (by kernel_rfl) (by kernel_rfl) (fun _ _ _ h => h) (Or.inl ⟨by rfl, ?_⟩) (by assumption) ?_; rotate_left; (focus (intro w hSw; (try dsimp only at hSw); go_simp; (try with_reducible rfl))); (try simp only [Act.put, List.setIfInBounds_toArray, List.set_cons_zero, List.set_cons_succ])
      refine wpAnyH_take (i := 2) (oi := ⟨some 22, _, _, _, _, _⟩) (v := ?_) rfl (by kernel_rfl) (by kernel_rfl) (by kernel_rfl) (fun _ _ _ h => h) (Or.inl ⟨by rfl, ?_⟩) (by assumption) ?_; rotate_left; (focus (intro w hSw; (try dsimp only at hSw); go_simp; (try with_reducible rfl))); (try simp only [Act.put, List.setIfInBounds_toArray, List.set_cons_zero, List.set_cons_succ])
      refine wpAnyH_take (i := 3) (oi := ⟨some 23, _, _, _, _, _⟩) (v := ?_) rfl (by kernel_rfl) (by kernel_rfl) (by kernel_rfl) (fun _ _ _ h => h) (Or.inl ⟨by rfl, ?_⟩) (by assumption) ?_; rotate_left; (focus (intro w hSw; (try dsimp only at hSw); go_simp; (try with_reducible rfl))); (try simp only [Act.put, List.setIfInBounds_toArray, List.set_cons_zero, List.set_cons_succ])
      refine wpAnyH_take (i := 4) (oi := ⟨some 24, _, _, _, _, _⟩) (v := ?_) rfl (by kernel_rfl) (by kernel_rfl) (by kernel_rfl) (fun _ _ _ h => h) (Or.inl ⟨by rfl, ?_⟩) (by assumption) ?_; rotate_left; (focus (intro w hSw; (try dsimp only at hSw); go_simp; (try with_reducible rfl))); (try simp only [Act.put, List.setIfInBounds_toArray, List.set_cons_zero, List.set_cons_succ])
      refine wpAnyH_take (i := 5) (oi := ⟨some 25, _, _, _, _, _⟩) (v := ?_) rfl (by kernel_rfl) (by kernel_rfl) (by kernel_rfl) (fun _ _ _ h => h) (Or.inl ⟨by rfl, ?_⟩) (by assumption) ?_; rotate_left; (focus (intro w hSw; (try dsimp only at hSw); go_simp; (try with_reducible rfl))); (try simp only [Act.put, List.setIfInBounds_toArray, List.set_cons_zero, List.set_cons_succ])
      refine wpAnyH_take (i := 6) (oi := ⟨some 26, _, _, _, _, _⟩) (v := ?_) rfl (by kernel_rfl) (by kernel_rfl) (by kernel_rfl) (fun _ _ _ h => h) (Or.inl ⟨by rfl, ?_⟩) (by assumption) ?_; rotate_left; (focus (intro w hSw; (try dsimp only at hSw); go_simp; (try with_reducible rfl))); (try simp only [Act.put, List.setIfInBounds_toArray, List.set_cons_zero, List.set_cons_succ])
      refine wpAnyH_take (i := 7) (oi := ⟨some 27, _, _, _, _, _⟩) (v := ?_) rfl (by kernel_rfl) (by kernel_rfl) (by kernel_rfl) (fun _ _ _ h => h) (Or.inl ⟨by rfl, ?_⟩) (by assumption) ?_; rotate_left; (focus (intro w hSw; (try dsimp only at hSw); go_simp; (try with_reducible rfl))); (try simp only [Act.put, List.setIfInBounds_toArray, List.set_cons_zero, List.set_cons_succ])
      refine wpAnyH_take (i := 8) (oi := ⟨some 28, _, _, _, _, _⟩) (v := ?_) rfl (by kernel_rfl) (by kernel_rfl) (by kernel_rfl) (fun _ _ _ h => h) (Or.inl ⟨by rfl, ?_⟩) (by assumption) ?_; rotate_left; (focus (intro w hSw; (try dsimp only at hSw); go_simp; (try with_reducible rfl))); (try simp only [Act.put, List.setIfInBounds_toArray, List.set_cons_zero, List.set_cons_succ])
      refine wpAnyH_take (i := 9) (oi := ⟨some 29, _, _, _, _, _⟩) (v := ?_) rfl (by kernel_rfl) (by kernel_rfl) (by kernel_rfl) (fun _ _ _ h => h) (Or.inl ⟨by rfl, ?_⟩) (by assumption) ?_; rotate_left; (focus (intro w hSw; (try dsimp only at hSw); go_simp; (try with_reducible rfl))); (try simp only [Act.put, List.setIfInBounds_toArray, List.set_cons_zero, List.set_cons_succ])
      refine wpAnyH_take (i := 10) (oi := ⟨some 30, _, _, _, _, _⟩) (v := ?_) rfl (by kernel_rfl) (by kernel_rfl) (by kernel_rfl) (fun _ _ _ h => h) (Or.inl ⟨by rfl, ?_⟩) (by assumption) ?_; rotate_left; (focus (intro w hSw; (try dsimp only at hSw); go_simp; (try with_reducible rfl))); (try simp only [Act.put, List.setIfInBounds_toArray, List.set_cons_zero, List.set_cons_succ])
      refine wpAnyH_done (by kernel_rfl) ?_ _
      go_wp2
      go_roundw
      case rel => exact ⟨k + 1, by omega, by go_num, HB.out.drew⟩
      case measure => simp [intOf]; omega
    · obtain rfl : k = n := by omega
      go_wp2
      go_ret
      exact ⟨rfl, HB0.out.trans (HB.out.mono (by omega))⟩

theorem mayR_asc (ps : List Pt) (j : Nat) (h : j + 1 < (mayR ps).length) : (mayR ps).getD j 0 < (mayR ps).getD (j + 1) 0 := by
  have hp : (mayR ps).Pairwise (· < ·) := by
    unfold mayR
    rw [List.pairwise_map]
    refine List.Pairwise.imp ?_ (List.Pairwise.filter _ List.pairwise_lt_range)
    intro a b hab
    omega
  have := List.pairwise_iff_getElem.1 hp j (j + 1) (by omega) h (by omega)
  simpa [List.getD, h, show j < (mayR ps).length by omega] using this
theorem mayF_asc (ps : List Pt) (j : Nat) (h : j + 1 < (mayF ps).length) : (mayF ps).getD j 0 < (mayF ps).getD (j + 1) 0 := by
  unfold mayF at *
  split at h
  · rename_i hv; rw [if_pos hv]; exact mayR_asc ps j h
  · simp at h
/-- The first numbers. -/
def numTo (k : Nat) : List Int := (List.range k).map fun i : Nat => (i : Int)
theorem numTo_succ (k : Nat) : numTo (k + 1) = numTo k ++ [(k : Int)] := by unfold numTo; rw [List.range_succ, List.map_append]; rfl
theorem numTo_len (k : Nat) : (numTo k).length = k := by simp [numTo]
theorem numTo_get (k j : Nat) (h : j < k) : (numTo k).getD j 0 = (j : Int) := by simp [numTo, List.getD, h]
theorem ren_num (ps : List Pt) (h : validF ps = true) : renF ps (numTo 10) = ps := by
  obtain ⟨hg, h1, h12⟩ := validF_good ps h
  have hgm : ∀ p ∈ ps, (p.k == 1) = true → 0 ≤ p.n ∧ p.n < 10 := by
    intro p hp hk
    obtain ⟨j, hj, rfl⟩ := List.mem_iff_getElem.1 hp
    have := hg j hj
    have e : ps.getD j default = ps[j] := by simp [List.getD, hj]
    rw [e] at this
    have := (good_num _ _ this).2 (by simpa using hk)
    omega
  have hc : canRen ps (numTo 10) = true := by
    unfold canRen
    rw [h, numTo_len]
    have ha : allR (numTo 10) 0 9 = true := allR_true _ _ _ fun k hk => by
      rw [numTo_len] at hk
      rw [numTo_get 10 k hk]
      unfold rng
      simp
      omega
    have he : eachOK ps 10 = true := by
      unfold eachOK
      rw [List.all_eq_true]
      intro p hp
      cases h1 : (p.k == 1)
      · simp
      · have := hgm p hp h1
        simp
        omega
    rw [ha, he]; rfl
  unfold renF
  rw [hc]
  simp only [if_true]
  have : ∀ p ∈ ps, ren (numTo 10) p = p := fun p hp => by
    unfold ren
    cases h1 : (p.k == 1)
    · rfl
    · have hb := hgm p hp h1
      simp only [if_true]
      rw [numTo_get 10 _ (by omega), Int.toNat_of_nonneg hb.1]
  rw [List.map_congr_left this, List.map_id']
end Go.Proofs.Ytgbijmfmdcphhaa

/- Plain facts on formulas as trees: a valid formula has as many parts as its tree; parts in order are a valid formula of the same tree. -/
namespace Go.Proofs.Ytgbijmfmdcphhaa
set_option linter.unusedSimpArgs false
set_option linter.unusedVariables false

theorem tmAt_fuel (ps : List Pt) (hg : AllGood ps) : ∀ (i f : Nat), i < ps.length → i < f → tmAt ps f i = tmAt ps (i + 1) i := by
  intro i
  induction i using Nat.strongRecOn with
  | _ i ih =>
    intro f hi hf
    obtain ⟨f', rfl⟩ : ∃ f', f = f' + 1 := ⟨f - 1, by omega⟩
    have hb := good_bel_nat _ _ (hg i hi)
    have hk := good_kind _ _ (hg i hi)
    rw [tmAt_eq, tmAt_eq]
    generalize ps.getD i default = p at *
    have key : ∀ a : Nat, a < i → tmAt ps f' a = tmAt ps i a := fun a ha => by
      rw [ih a ha f' (by omega) (by omega), ih a ha i (by omega) ha]
    rcases hk with h | h | h | h
    · simp [h]
    · simp [h]
    · obtain ⟨a, b, ea, eb, la, lb⟩ := hb.1 h
      rw [ea, eb, Int.toNat_natCast, Int.toNat_natCast, key a la, key b lb]
      have k8 : (p.k == 8) = false := by simp only [beq_eq_false_iff_ne, ne_eq]; omega
      rw [k8]; rfl
    · obtain ⟨a, b, c, ea, eb, ec, la, lb, lc⟩ := hb.2 h
      rw [ea, eb, ec, Int.toNat_natCast, Int.toNat_natCast, Int.toNat_natCast, key a la, key b lb, key c lc]

/-- How many parts hang at an index. -/
def szA (ps : List Pt) (j : Nat) : Nat := (tmAt ps (j + 1) j).size
/-- The parts that hang at the indices of a list that are below m. -/
def wS (ps : List Pt) (l : List Int) (m : Nat) : Nat := ((l.filter fun x => decide (x < (m : Int))).map fun x => szA ps x.toNat).sum
theorem wS_append (ps : List Pt) (l l' : List Int) (m : Nat) : wS ps (l ++ l') m = wS ps l m + wS ps l' m := by
  unfold wS; rw [List.filter_append, List.map_append, List.sum_append]
theorem wS_cons (ps : List Pt) (x : Int) (l : List Int) (m : Nat) : wS ps (x :: l) m = (if x < (m : Int) then szA ps x.toNat else 0) + wS ps l m := by
  unfold wS
  rw [List.filter_cons]
  by_cases h : x < (m : Int)
  · simp [h]
  · simp [h]
theorem wS_step (ps : List Pt) (l : List Int) (m : Nat) : wS ps l (m + 1) = wS ps l m + l.count (m : Int) * szA ps m := by
  induction l with
  | nil => simp [wS]
  | cons x l ih =>
    rw [wS_cons, wS_cons, ih, List.count_cons]
    by_cases h : x = (m : Int)
    · subst h
      have h1 : ((m : Int) < ((m + 1 : Nat) : Int)) := by omega
      have h2 : ¬ ((m : Int) < (m : Int)) := by omega
      rw [if_pos h1, if_neg h2]
      simp [Nat.add_mul]
      omega
    · have h1 : (x == (m : Int)) = false := by simpa using h
      rw [h1]
      simp only [Bool.false_eq_true, if_false, Nat.add_zero]
      by_cases h2 : x < (m : Int)
      · rw [if_pos (by omega), if_pos h2]; omega
      · rw [if_neg (by omega), if_neg h2]; omega
theorem wS_zero (ps : List Pt) (l : List Int) (h : ∀ x ∈ l, 0 ≤ x) : wS ps l 0 = 0 := by
  induction l with
  | nil => rfl
  | cons x l ih =>
    rw [wS_cons, ih fun y hy => h y (List.mem_cons_of_mem _ hy), if_neg (by have := h x List.mem_cons_self; omega)]
theorem szA_bel (ps : List Pt) (hg : AllGood ps) (i : Nat) (hi : i < ps.length) : szA ps i = 1 + wS ps (bel (ps.getD i default)) i := by
  unfold szA
  rw [Tm.size_kids, tmAt_kids ps i i (hg i hi)]
  have hb := good_bel _ _ (hg i hi)
  have hf : ∀ x ∈ bel (ps.getD i default), tmAt ps i x.toNat = tmAt ps (x.toNat + 1) x.toNat := fun x hx => by
    have := hb x hx
    exact tmAt_fuel ps hg x.toNat i (by omega) (by omega)
  generalize bel (ps.getD i default) = l at *
  have : ksize (l.map fun b => tmAt ps i b.toNat) = wS ps l i := by
    induction l with
    | nil => rfl
    | cons x l ih =>
      rw [wS_cons, List.map_cons]
      have h1 := hb x List.mem_cons_self
      rw [if_pos (by omega), ← ih (fun y hy => hb y (List.mem_cons_of_mem _ hy)) (fun y hy => hf y (List.mem_cons_of_mem _ hy))]
      unfold ksize szA
      rw [List.map_cons, List.sum_cons, hf x List.mem_cons_self]
  omega

theorem mem_flat_bel (ps : List Pt) (hg : AllGood ps) (x : Int) (h : x ∈ ps.flatMap bel) : 0 ≤ x := by
  obtain ⟨p, hp, hx⟩ := List.mem_flatMap.1 h
  obtain ⟨j, hj, rfl⟩ := List.mem_iff_getElem.1 hp
  have := hg j hj
  have e : ps.getD j default = ps[j] := by simp [List.getD, hj]
  rw [e] at this
  exact (good_bel _ _ this x hx).1
theorem count_take_bel (ps : List Pt) (hg : AllGood ps) (m j : Nat) (hm : m ≤ ps.length) (hj : m ≤ j + 1) : ((ps.take m).flatMap bel).count (j : Int) = 0 := by
  rw [List.count_eq_zero]
  intro h
  obtain ⟨p, hp, hx⟩ := List.mem_flatMap.1 h
  obtain ⟨i, hi, rfl⟩ := List.mem_iff_getElem.1 hp
  rw [List.length_take] at hi
  have := hg i (by omega)
  have e : ps.getD i default = (ps.take m)[i] := by simp [List.getD, show i < ps.length by omega]
  rw [e] at this
  have := (good_bel _ _ this _ hx).2
  omega

/-- A valid formula has as many parts as its tree. -/
theorem size_valid (ps : List Pt) (h : validF ps = true) : (whole ps).size = ps.length := by
  obtain ⟨hg, h1, h12⟩ := validF_good ps h
  have hc : ∀ i, i < ps.length - 1 → (ps.flatMap bel).count (i : Int) = 1 := by
    unfold validF at h
    simp only [Bool.and_eq_true, decide_eq_true_eq] at h
    exact h.1.2
  have key : ∀ d, d ≤ ps.length → d + wS ps (((ps.length - 1 : Nat) : Int) :: (ps.drop (ps.length - d)).flatMap bel) (ps.length - d) = szA ps (ps.length - 1) := by
    intro d
    induction d with
    | zero =>
      intro _
      rw [Nat.sub_zero, List.drop_length, wS_cons, if_pos (by omega), Int.toNat_natCast]
      simp [wS]
    | succ d ih =>
      intro hd
      have ih := ih (by omega)
      obtain ⟨m, hm⟩ : ∃ m, ps.length - d = m + 1 := ⟨ps.length - d - 1, by omega⟩
      have hm2 : ps.length - (d + 1) = m := by omega
      rw [hm] at ih
      rw [hm2]
      have hml : m < ps.length := by omega
      have hdr : ps.drop m = ps.getD m default :: ps.drop (m + 1) := by rw [List.drop_eq_getElem_cons hml]; simp [List.getD, hml]
      rw [wS_step] at ih
      have hcnt : (((ps.length - 1 : Nat) : Int) :: (ps.drop (m + 1)).flatMap bel).count (m : Int) = 1 := by
        rw [List.count_cons]
        by_cases hmn : m = ps.length - 1
        · have : ps.drop (m + 1) = [] := List.drop_eq_nil_of_le (by omega)
          rw [this]
          simp [hmn]
        · have h2 : (((ps.length - 1 : Nat) : Int) == (m : Int)) = false := by simp; omega
          rw [h2]
          have h3 := hc m (by omega)
          have h4 : ps.flatMap bel = (ps.take (m + 1)).flatMap bel ++ (ps.drop (m + 1)).flatMap bel := by rw [← List.flatMap_append, List.take_append_drop]
          rw [h4, List.count_append, count_take_bel ps hg (m + 1) m (by omega) (by omega)] at h3
          simpa using h3
      rw [hcnt, Nat.one_mul, szA_bel ps hg m hml] at ih
      rw [hdr, List.flatMap_cons, wS_cons, wS_append]
      rw [wS_cons] at ih
      omega
  have := key ps.length (Nat.le_refl _)
  rw [Nat.sub_self, List.drop_zero, wS_zero] at this
  · unfold whole
    have e : tmAt ps ps.length (ps.length - 1) = tmAt ps (ps.length - 1 + 1) (ps.length - 1) := by rw [show ps.length - 1 + 1 = ps.length by omega]
    rw [e]
    unfold szA at this
    omega
  · intro x hx
    rcases List.mem_cons.1 hx with rfl | hx
    · omega
    · exact mem_flat_bel ps hg x hx

/-- All parts of a tree are such as formulas have. -/
def Tm.fine : Tm → Prop
  | .num v => 0 ≤ v ∧ v ≤ 99
  | .rd v => 0 ≤ v ∧ v ≤ 9
  | .pr k l r => 2 ≤ k ∧ k ≤ 7 ∧ l.fine ∧ r.fine
  | .ch t a b => t.fine ∧ a.fine ∧ b.fine
theorem tmAt_fine (ps : List Pt) (hg : AllGood ps) (f : Nat) : ∀ i, i < f → i < ps.length → (tmAt ps f i).fine := by
  induction f with
  | zero => intro i hi; omega
  | succ f ih =>
    intro i hi hil
    have hb := good_bel_nat _ _ (hg i hil)
    have hk := good_kind _ _ (hg i hil)
    have hn := good_num _ _ (hg i hil)
    rw [tmAt_eq]
    generalize ps.getD i default = p at *
    rcases hk with h | h | h | h
    · simp only [h]; exact hn.1 h
    · have k0 : (p.k == 0) = false := by simp [h]
      have k1 : (p.k == 1) = true := by simp [h]
      simp only [k0, k1, Bool.false_eq_true, if_false, if_true]; exact hn.2 h
    · obtain ⟨a, b, ea, eb, la, lb⟩ := hb.1 h
      have k0 : (p.k == 0) = false := by simp only [beq_eq_false_iff_ne, ne_eq]; omega
      have k1 : (p.k == 1) = false := by simp only [beq_eq_false_iff_ne, ne_eq]; omega
      have k8 : (p.k == 8) = false := by simp only [beq_eq_false_iff_ne, ne_eq]; omega
      simp only [k0, k1, k8, Bool.false_eq_true, if_false, ea, eb, Int.toNat_natCast]
      exact ⟨h.1, h.2, ih a (by omega) (by omega), ih b (by omega) (by omega)⟩
    · obtain ⟨a, b, c, ea, eb, ec, la, lb, lc⟩ := hb.2 h
      have k0 : (p.k == 0) = false := by simp [h]
      have k1 : (p.k == 1) = false := by simp [h]
      have k8 : (p.k == 8) = true := by simp [h]
      simp only [k0, k1, k8, Bool.false_eq_true, if_false, if_true, ea, eb, ec, Int.toNat_natCast]
      exact ⟨ih a (by omega) (by omega), ih b (by omega) (by omega), ih c (by omega) (by omega)⟩
theorem whole_fine (ps : List Pt) (h : validF ps = true) : (whole ps).fine := by
  obtain ⟨hg, h1, h12⟩ := validF_good ps h
  exact tmAt_fine ps hg ps.length (ps.length - 1) (by omega) (by omega)

theorem getD_mid (pre suf : List Pt) (p : Pt) (k : Nat) (h : pre.length = k) : (pre ++ p :: suf).getD k default = p := by
  subst h
  simp [List.getD]

/-- Parts in order have the tree. -/
theorem tmAt_post (t : Tm) : ∀ (pre suf : List Pt) (k f : Nat), t.fine → pre.length = k → k + t.size ≤ f → tmAt (pre ++ t.post k ++ suf) f (k + t.size - 1) = t := by
  induction t with
  | num v =>
    intro pre suf k f _ hk hf
    obtain ⟨f', rfl⟩ : ∃ f', f = f' + 1 := ⟨f - 1, by simp [Tm.size] at hf; omega⟩
    simp only [Tm.post, Tm.size, Nat.add_sub_cancel, List.append_assoc, List.singleton_append]
    rw [tmAt_eq, getD_mid _ _ _ _ hk]
    rfl
  | rd v =>
    intro pre suf k f _ hk hf
    obtain ⟨f', rfl⟩ : ∃ f', f = f' + 1 := ⟨f - 1, by simp [Tm.size] at hf; omega⟩
    simp only [Tm.post, Tm.size, Nat.add_sub_cancel, List.append_assoc, List.singleton_append]
    rw [tmAt_eq, getD_mid _ _ _ _ hk]
    rfl
  | pr K l r il ir =>
    intro pre suf k f hfi hk hf
    simp only [Tm.size] at hf
    obtain ⟨f', rfl⟩ : ∃ f', f = f' + 1 := ⟨f - 1, by omega⟩
    obtain ⟨h2, h7, hl, hr⟩ := hfi
    have e : pre ++ (Tm.pr K l r).post k ++ suf = (pre ++ l.post k ++ r.post (k + l.size)) ++ (⟨K, ((k + l.size : Nat) : Int) - 1, ((k + l.size + r.size : Nat) : Int) - 1, -1, 0⟩ :: suf) := by simp [Tm.post]
    have ls := l.size_pos
    have rs := r.size_pos
    have hroot : k + (Tm.pr K l r).size - 1 = k + l.size + r.size := by simp only [Tm.size]; omega
    rw [hroot, tmAt_eq]
    have hg : (pre ++ (Tm.pr K l r).post k ++ suf).getD (k + l.size + r.size) default = ⟨K, ((k + l.size : Nat) : Int) - 1, ((k + l.size + r.size : Nat) : Int) - 1, -1, 0⟩ := by
      rw [e, getD_mid _ _ _ _ (by simp [Tm.post_len, hk] <;> omega)]
    rw [hg]
    have k0 : (K == 0) = false := by simp only [beq_eq_false_iff_ne, ne_eq]; omega
    have k1 : (K == 1) = false := by simp only [beq_eq_false_iff_ne, ne_eq]; omega
    have k8 : (K == 8) = false := by simp only [beq_eq_false_iff_ne, ne_eq]; omega
    simp only [k0, k1, k8, Bool.false_eq_true, if_false]
    have ea : (((k + l.size : Nat) : Int) - 1).toNat = k + l.size - 1 := by omega
    have eb : (((k + l.size + r.size : Nat) : Int) - 1).toNat = k + l.size + r.size - 1 := by omega
    rw [ea, eb]
    have e1 : pre ++ (Tm.pr K l r).post k ++ suf = pre ++ l.post k ++ (r.post (k + l.size) ++ (⟨K, ((k + l.size : Nat) : Int) - 1, ((k + l.size + r.size : Nat) : Int) - 1, -1, 0⟩ :: suf)) := by simp [Tm.post]
    have e2 : pre ++ (Tm.pr K l r).post k ++ suf = (pre ++ l.post k) ++ r.post (k + l.size) ++ (⟨K, ((k + l.size : Nat) : Int) - 1, ((k + l.size + r.size : Nat) : Int) - 1, -1, 0⟩ :: suf) := by simp [Tm.post]
    have t1 := il pre (r.post (k + l.size) ++ (⟨K, ((k + l.size : Nat) : Int) - 1, ((k + l.size + r.size : Nat) : Int) - 1, -1, 0⟩ :: suf)) k f' hl hk (by omega)
    have t2 := ir (pre ++ l.post k) (⟨K, ((k + l.size : Nat) : Int) - 1, ((k + l.size + r.size : Nat) : Int) - 1, -1, 0⟩ :: suf) (k + l.size) f' hr (by simp [Tm.post_len, hk] <;> omega) (by omega)
    rw [← e1] at t1
    rw [← e2] at t2
    rw [t1, t2]
  | ch t a b it ia ib =>
    intro pre suf k f hfi hk hf
    simp only [Tm.size] at hf
    obtain ⟨f', rfl⟩ : ∃ f', f = f' + 1 := ⟨f - 1, by omega⟩
    obtain ⟨ht, ha, hb⟩ := hfi
    generalize hp : (⟨8, ((k + t.size : Nat) : Int) - 1, ((k + t.size + a.size : Nat) : Int) - 1, ((k + t.size + a.size + b.size : Nat) : Int) - 1, 0⟩ : Pt) = p
    have hpost : (Tm.ch t a b).post k = t.post k ++ a.post (k + t.size) ++ b.post (k + t.size + a.size) ++ [p] := by rw [← hp]; rfl
    have ts := t.size_pos
    have as_ := a.size_pos
    have bs := b.size_pos
    have hroot : k + (Tm.ch t a b).size - 1 = k + t.size + a.size + b.size := by simp only [Tm.size]; omega
    have hg : (pre ++ (Tm.ch t a b).post k ++ suf).getD (k + t.size + a.size + b.size) default = p := by
      have e : pre ++ (Tm.ch t a b).post k ++ suf = (pre ++ t.post k ++ a.post (k + t.size) ++ b.post (k + t.size + a.size)) ++ p :: suf := by rw [hpost]; simp
      rw [e, getD_mid _ _ _ _ (by simp [Tm.post_len, hk] <;> omega)]
    rw [hroot, tmAt_eq, hg]
    have t1 := it pre (a.post (k + t.size) ++ b.post (k + t.size + a.size) ++ p :: suf) k f' ht hk (by omega)
    have t2 := ia (pre ++ t.post k) (b.post (k + t.size + a.size) ++ p :: suf) (k + t.size) f' ha (by simp [Tm.post_len, hk] <;> omega) (by omega)
    have t3 := ib (pre ++ t.post k ++ a.post (k + t.size)) (p :: suf) (k + t.size + a.size) f' hb (by simp [Tm.post_len, hk] <;> omega) (by omega)
    have e1 : pre ++ (Tm.ch t a b).post k ++ suf = pre ++ t.post k ++ (a.post (k + t.size) ++ b.post (k + t.size + a.size) ++ p :: suf) := by rw [hpost]; simp
    have e2 : pre ++ (Tm.ch t a b).post k ++ suf = (pre ++ t.post k) ++ a.post (k + t.size) ++ (b.post (k + t.size + a.size) ++ p :: suf) := by rw [hpost]; simp
    have e3 : pre ++ (Tm.ch t a b).post k ++ suf = (pre ++ t.post k ++ a.post (k + t.size)) ++ b.post (k + t.size + a.size) ++ (p :: suf) := by rw [hpost]; simp
    rw [← e1] at t1
    rw [← e2] at t2
    rw [← e3] at t3
    rw [← hp]
    have ea : (((k + t.size : Nat) : Int) - 1).toNat = k + t.size - 1 := by omega
    have eb : (((k + t.size + a.size : Nat) : Int) - 1).toNat = k + t.size + a.size - 1 := by omega
    have ec : (((k + t.size + a.size + b.size : Nat) : Int) - 1).toNat = k + t.size + a.size + b.size - 1 := by omega
    simp only [ea, eb, ec]
    rw [t1, t2, t3]
    rfl

theorem whole_post (t : Tm) (h : t.fine) : whole (t.post 0) = t := by
  unfold whole
  rw [Tm.post_len]
  have := tmAt_post t [] [] 0 t.size h rfl (by omega)
  simpa using this

theorem getD_app (l r : List Pt) (j : Nat) : (l ++ r).getD j default = if j < l.length then l.getD j default else r.getD (j - l.length) default := by
  simp only [List.getD]
  split
  · rename_i h; rw [List.getElem?_append_left h]
  · rename_i h; rw [List.getElem?_append_right (by omega)]
/-- The parts in order are good. -/
theorem post_good (t : Tm) : ∀ k j, t.fine → j < t.size → goodPt ((t.post k).getD j default) ((k + j : Nat) : Int) = true := by
  induction t with
  | num v =>
    intro k j hf hj
    obtain rfl : j = 0 := by simp [Tm.size] at hj; omega
    have hf' : 0 ≤ v ∧ v ≤ 99 := hf
    simp [Tm.post, goodPt, ar, rng, hf']
  | rd v =>
    intro k j hf hj
    obtain rfl : j = 0 := by simp [Tm.size] at hj; omega
    have hf' : 0 ≤ v ∧ v ≤ 9 := hf
    simp [Tm.post, goodPt, ar, rng, hf']
  | pr K l r il ir =>
    intro k j hf hj
    obtain ⟨h2, h7, hl, hr⟩ := hf
    simp only [Tm.size] at hj
    have ls := l.size_pos
    have rs := r.size_pos
    simp only [Tm.post]
    rw [getD_app, getD_app, List.length_append, Tm.post_len, Tm.post_len]
    by_cases h : j < l.size + r.size
    · rw [if_pos h]
      by_cases h1 : j < l.size
      · rw [if_pos h1]; exact il k j hl h1
      · rw [if_neg h1]
        have := ir (k + l.size) (j - l.size) hr (by omega)
        rw [show k + l.size + (j - l.size) = k + j by omega] at this
        exact this
    · rw [if_neg h]
      obtain rfl : j = l.size + r.size := by omega
      have ha : ar K = 2 := by unfold ar; rw [if_neg (by omega), if_pos ⟨h2, h7⟩]
      simp only [Nat.sub_self, List.getD_cons_zero, goodPt, ha, rng]
      simp
      omega
  | ch t a b it ia ib =>
    intro k j hf hj
    obtain ⟨ht, ha, hb⟩ := hf
    simp only [Tm.size] at hj
    have ts := t.size_pos
    have as_ := a.size_pos
    have bs := b.size_pos
    simp only [Tm.post]
    rw [getD_app, getD_app, getD_app, List.length_append, List.length_append, Tm.post_len, Tm.post_len, Tm.post_len]
    by_cases h : j < t.size + a.size + b.size
    · rw [if_pos h]
      by_cases h1 : j < t.size + a.size
      · rw [if_pos h1]
        by_cases h2 : j < t.size
        · rw [if_pos h2]; exact it k j ht h2
        · rw [if_neg h2]
          have := ia (k + t.size) (j - t.size) ha (by omega)
          rw [show k + t.size + (j - t.size) = k + j by omega] at this
          exact this
      · rw [if_neg h1]
        have := ib (k + t.size + a.size) (j - (t.size + a.size)) hb (by omega)
        rw [show k + t.size + a.size + (j - (t.size + a.size)) = k + j by omega] at this
        exact this
    · rw [if_neg h]
      obtain rfl : j = t.size + a.size + b.size := by omega
      simp only [Nat.sub_self, List.getD_cons_zero, goodPt, ar, rng]
      simp
      omega

/-- Each part but the last comes once below another one. -/
theorem post_count (t : Tm) : ∀ (k : Nat) (x : Int), t.fine → ((t.post k).flatMap bel).count x = if (k : Int) ≤ x ∧ x < (k : Int) + t.size - 1 then 1 else 0 := by
  induction t with
  | num v =>
    intro k x hf
    rw [if_neg (by simp only [Tm.size]; omega)]
    simp [Tm.post, bel, ar]
  | rd v =>
    intro k x hf
    rw [if_neg (by simp only [Tm.size]; omega)]
    simp [Tm.post, bel, ar]
  | pr K l r il ir =>
    intro k x hf
    obtain ⟨h2, h7, hl, hr⟩ := hf
    have ls := l.size_pos
    have rs := r.size_pos
    have ha : ar K = 2 := by unfold ar; rw [if_neg (by omega), if_pos ⟨h2, h7⟩]
    have hb : bel (⟨K, ((k + l.size : Nat) : Int) - 1, ((k + l.size + r.size : Nat) : Int) - 1, -1, 0⟩ : Pt) = [((k + l.size : Nat) : Int) - 1, ((k + l.size + r.size : Nat) : Int) - 1] := by simp [bel, ha]
    simp only [Tm.post, List.flatMap_append, List.flatMap_cons, List.flatMap_nil, List.append_nil, hb, List.count_append, List.count_cons, List.count_nil, il k x hl, ir (k + l.size) x hr, beq_iff_eq]
    have hsz : (((Tm.pr K l r).size : Nat) : Int) = l.size + r.size + 1 := by simp [Tm.size]
    generalize (Tm.pr K l r).size = sz at *
    by_cases c1 : ((k + l.size : Nat) : Int) - 1 = x
    · rw [if_pos c1]
      by_cases c2 : ((k + l.size + r.size : Nat) : Int) - 1 = x
      · omega
      · rw [if_neg c2, if_neg (by omega), if_neg (by omega), if_pos (by omega)]
    · rw [if_neg c1]
      by_cases c2 : ((k + l.size + r.size : Nat) : Int) - 1 = x
      · rw [if_pos c2, if_neg (by omega), if_neg (by omega), if_pos (by omega)]
      · rw [if_neg c2]
        by_cases c3 : (k : Int) ≤ x ∧ x < (k : Int) + l.size - 1
        · rw [if_pos c3, if_neg (by omega), if_pos (by omega)]
        · rw [if_neg c3]
          by_cases c4 : ((k + l.size : Nat) : Int) ≤ x ∧ x < ((k + l.size : Nat) : Int) + r.size - 1
          · rw [if_pos c4, if_pos (by omega)]
          · rw [if_neg c4, if_neg (by omega)]
  | ch t a b it ia ib =>
    intro k x hf
    obtain ⟨ht, ha, hb⟩ := hf
    have ts := t.size_pos
    have as_ := a.size_pos
    have bs := b.size_pos
    have hbl : bel (⟨8, ((k + t.size : Nat) : Int) - 1, ((k + t.size + a.size : Nat) : Int) - 1, ((k + t.size + a.size + b.size : Nat) : Int) - 1, 0⟩ : Pt) = [((k + t.size : Nat) : Int) - 1, ((k + t.size + a.size : Nat) : Int) - 1, ((k + t.size + a.size + b.size : Nat) : Int) - 1] := by simp [bel, ar]
    simp only [Tm.post, List.flatMap_append, List.flatMap_cons, List.flatMap_nil, List.append_nil, hbl, List.count_append, List.count_cons, List.count_nil, it k x ht, ia (k + t.size) x ha, ib (k + t.size + a.size) x hb, beq_iff_eq]
    have hsz : (((Tm.ch t a b).size : Nat) : Int) = t.size + a.size + b.size + 1 := by simp [Tm.size]
    generalize (Tm.ch t a b).size = sz at *
    by_cases c1 : ((k + t.size : Nat) : Int) - 1 = x
    · rw [if_pos c1, if_neg (by omega : ¬ ((k + t.size + a.size : Nat) : Int) - 1 = x), if_neg (by omega : ¬ ((k + t.size + a.size + b.size : Nat) : Int) - 1 = x), if_neg (by omega), if_neg (by omega), if_neg (by omega), if_pos (by omega)]
    · rw [if_neg c1]
      by_cases c2 : ((k + t.size + a.size : Nat) : Int) - 1 = x
      · rw [if_pos c2, if_neg (by omega : ¬ ((k + t.size + a.size + b.size : Nat) : Int) - 1 = x), if_neg (by omega), if_neg (by omega), if_neg (by omega), if_pos (by omega)]
      · rw [if_neg c2]
        by_cases c5 : ((k + t.size + a.size + b.size : Nat) : Int) - 1 = x
        · rw [if_pos c5, if_neg (by omega), if_neg (by omega), if_neg (by omega), if_pos (by omega)]
        · rw [if_neg c5]
          by_cases c3 : (k : Int) ≤ x ∧ x < (k : Int) + t.size - 1
          · rw [if_pos c3, if_neg (by omega), if_neg (by omega), if_pos (by omega)]
          · rw [if_neg c3]
            by_cases c4 : ((k + t.size : Nat) : Int) ≤ x ∧ x < ((k + t.size : Nat) : Int) + a.size - 1
            · rw [if_pos c4, if_neg (by omega), if_pos (by omega)]
            · rw [if_neg c4]
              by_cases c6 : ((k + t.size + a.size : Nat) : Int) ≤ x ∧ x < ((k + t.size + a.size : Nat) : Int) + b.size - 1
              · rw [if_pos c6, if_pos (by omega)]
              · rw [if_neg c6, if_neg (by omega)]

theorem post_valid (t : Tm) (h : t.fine) (h12 : t.size ≤ 12) : validF (t.post 0) = true := by
  have hs := t.size_pos
  rw [validF_fin]
  · unfold rng; rw [Tm.post_len]; simp; omega
  · intro i hi
    rw [Tm.post_len] at hi
    have := post_good t 0 i h hi
    simpa using this
  · intro i hi
    rw [Tm.post_len] at hi
    rw [post_count t 0 i h, if_pos (by omega)]

/-- A formula in order is valid, of the same tree, and as long. -/
theorem order_facts (ps : List Pt) (h : validF ps = true) : validF (orderF ps) = true ∧ whole (orderF ps) = whole ps ∧ (orderF ps).length = ps.length := by
  have hf := whole_fine ps h
  have hs := size_valid ps h
  have h12 := (validF_good ps h).2.2
  have e : orderF ps = (whole ps).post 0 := by unfold orderF; rw [h]; rfl
  rw [e]
  exact ⟨post_valid _ hf (by omega), whole_post _ hf, by rw [Tm.post_len]; exact hs⟩
theorem deep_facts (ps : List Pt) (h : validF ps = true) : 1 ≤ deepF ps ∧ deepF ps ≤ ps.length ∧ (deepF ps = 1 ↔ ps.length = 1) ∧ deepF (orderF ps) = deepF ps := by
  have hs := size_valid ps h
  obtain ⟨ho, hw, _⟩ := order_facts ps h
  have e : deepF ps = ((whole ps).deep : Int) := by unfold deepF; rw [h]; rfl
  have e2 : deepF (orderF ps) = ((whole (orderF ps)).deep : Int) := by unfold deepF; rw [ho]; rfl
  rw [e2, hw, e]
  have hd := Tm.size_deep (whole ps)
  have key : ∀ t : Tm, 1 ≤ t.deep ∧ (t.deep = 1 ↔ t.size = 1) := by
    intro t
    cases t with
    | num v => simp [Tm.deep, Tm.size]
    | rd v => simp [Tm.deep, Tm.size]
    | pr K l r =>
      have h1 := l.size_pos
      have h2 : 1 ≤ l.deep := by cases l <;> simp [Tm.deep]
      simp only [Tm.deep, Tm.size]
      omega
    | ch t a b =>
      have h1 := t.size_pos
      have h2 : 1 ≤ t.deep := by cases t <;> simp [Tm.deep]
      simp only [Tm.deep, Tm.size]
      omega
  have := key (whole ps)
  refine ⟨by omega, by omega, ?_, rfl⟩
  constructor
  · intro hh; have := this.2.1 (by omega); omega
  · intro hh; have := this.2.2 (by omega); omega
/-- Values of 0 serve a valid formula. -/
theorem zero_canEv (ps : List Pt) (h : validF ps = true) : canEv ps (List.replicate 10 0) = true := by
  obtain ⟨hg, h1, h12⟩ := validF_good ps h
  refine canEv_of ps _ h (by simp) ?_ ?_
  · intro j hj
    have h0 : (List.replicate 10 (0 : Int)).getD j 0 = 0 := by
      simp only [List.getD, List.getElem?_replicate]
      split <;> rfl
    rw [h0]
    omega
  · unfold eachOK
    rw [List.all_eq_true]
    intro p hp
    cases h1 : (p.k == 1)
    · simp
    · obtain ⟨j, hj, rfl⟩ := List.mem_iff_getElem.1 hp
      have := hg j hj
      have e : ps.getD j default = ps[j] := by simp [List.getD, hj]
      rw [e] at this
      have := (good_num _ _ this).2 (by simpa using h1)
      simp
      omega
end Go.Proofs.Ytgbijmfmdcphhaa
