/- Both RenameReads. -/
import Derived.Test.YteeljfblncffpaaA25
namespace Go.Proofs.Yteeljfblncffpaa
set_option linter.unusedSimpArgs false
set_option linter.unusedVariables false
open Go.RowKit

theorem canRen_parts (ps : List Pt) (to : List Int) (h : canRen ps to = true) : validF ps = true ∧ to.length ≤ 10 ∧ eachOK ps to.length = true := by
  simp only [canRen, Bool.and_eq_true, decide_eq_true_eq] at h
  exact ⟨h.1, h.2.1.1, h.2.2⟩

theorem eachOK_at (ps : List Pt) (m k : Nat) (h : eachOK ps m = true) (hk : k < ps.length) (h1 : ((ps.getD k default).k == 1) = true) : (ps.getD k default).n < (m : Int) := by
  unfold eachOK at h
  rw [List.all_eq_true] at h
  have := h (ps.getD k default) (getD_mem' ps k hk)
  rw [h1] at this
  simpa using this

set_option maxRecDepth 100000 in
set_option maxHeartbeats 3200000 in
theorem impl_RenameReads (A A' : Option Addr) (n c m c' : Nat) (ps : List Pt) (to : List Int) (B : Nat) (hn : n = ps.length) (hm : m = to.length) (hs : n ≤ 1999999) (hs' : m ≤ 2000000) (w : World) (hB : B ≤ w.heap.size) (h : PS w B A ps) (h' : IS w B A' to) :
    Calls Try.prog 34 #[.agg #[.slice A n c], .slice A' m c'] w fun e w' => RetP w (renF ps to) e w' := by
  have H := Lib.hid h
  have HN := Lib.hid hn
  have H' := Lib.hid h'
  have HM := Lib.hid hm
  clear hn h hm h'
  cases hv : validF ps
  · have hr : renF ps to = [] := by simp [renF, canRen, hv]
    rw [hr]
    have HV := Lib.hid hv
    clear hr hv
    go_enter Try.func34, Try.ntmps34
    go_wp2_with fail
    refine (impl_ValidFormula _ _ _ ps _ B (by simp; omega) HN.out ((H.out.alloc hB _).alloc (by simp; omega) _) (by omega)).mono ?_
    rintro e w1 ⟨rfl, hb⟩
    rw [HV.out]
    have hz' : w.heap.size + 1 < w1.heap.size := by have := hb.size; simp at this; omega
    have hf : w1.frozen? ⟨w.heap.size + 1, 0, none⟩ = false := (hb.frozen (p := ⟨w.heap.size + 1, 0, none⟩) (by simp)).trans (by go_simp)
    have hc : w1.cell? ⟨w.heap.size + 1, 0, none⟩ = some (.slice none 0 0) := (hb.cell (p := ⟨w.heap.size + 1, 0, none⟩) (by simp)).trans (by go_simp)
    have HB := Lib.hid hb
    clear hb
    go_wp2
    refine bodyPost_ret (v := .agg #[.slice none 0 0]) (by simp [results, Try.results34, go_sem, hz', hc]) rfl (RetP.zero rfl ?_)
    exact ((((Below.refl _ _).alloc (Nat.le_refl _) _).alloc (by simp) _).trans (HB.out.mono (by simp; omega))).setCell (by simp) _
  · cases hr2 : (decide (to.length ≤ 10) && allR to 0 9)
    · have hr : renF ps to = [] := by simp only [renF, canRen, hr2]; simp
      rw [hr]
      have HV := Lib.hid hv
      have HR2 := Lib.hid hr2
      clear hr hv hr2
      go_enter Try.func34, Try.ntmps34
      go_wp2_with fail
      refine (impl_ValidFormula _ _ _ ps _ B (by simp; omega) HN.out ((H.out.alloc hB _).alloc (by simp; omega) _) (by omega)).mono ?_
      rintro e w1 ⟨rfl, hb⟩
      rw [HV.out]
      have hz' : w.heap.size + 1 < w1.heap.size := by have := hb.size; simp at this; omega
      have hf : w1.frozen? ⟨w.heap.size + 1, 0, none⟩ = false := (hb.frozen (p := ⟨w.heap.size + 1, 0, none⟩) (by simp)).trans (by go_simp)
      have hc : w1.cell? ⟨w.heap.size + 1, 0, none⟩ = some (.slice none 0 0) := (hb.cell (p := ⟨w.heap.size + 1, 0, none⟩) (by simp)).trans (by go_simp)
      have HI1 := Lib.hid (((H'.out.alloc hB (.cells #[.slice A n c] 29)).alloc (by simp; omega) (.cells #[.slice none 0 0] 29)).below hb (by simp; omega))
      have HB := Lib.hid hb
      clear hb
      go_wp2_with fail
      refine (impl_allInRange _ _ _ to _ _ B (by omega) HM.out HI1.out hs').mono ?_
      rintro e w2 ⟨rfl, rfl⟩
      rw [HR2.out]
      go_wp2
      refine bodyPost_ret (v := .agg #[.slice none 0 0]) (by simp [results, Try.results34, go_sem, hz', hc]) rfl (RetP.zero rfl ?_)
      exact ((((Below.refl _ _).alloc (Nat.le_refl _) _).alloc (by simp) _).trans (HB.out.mono (by simp; omega))).setCell (by simp) _
    · cases hea : eachOK ps m
      · have hr : renF ps to = [] := by simp only [renF, canRen, hr2, ← HM.out, hea]; simp
        rw [hr]
        have HV := Lib.hid hv
        have HR2 := Lib.hid hr2
        have HEA := Lib.hid hea
        clear hr hv hr2 hea
        go_enter Try.func34, Try.ntmps34
        go_wp2_with fail
        refine (impl_ValidFormula _ _ _ ps _ B (by simp; omega) HN.out ((H.out.alloc hB _).alloc (by simp; omega) _) (by omega)).mono ?_
        rintro e w1 ⟨rfl, hb⟩
        rw [HV.out]
        have hz' : w.heap.size + 1 < w1.heap.size := by have := hb.size; simp at this; omega
        have hbox : w1.cell? ⟨w.heap.size, 0, none⟩ = some (.slice A n c) := (hb.cell (p := ⟨w.heap.size, 0, none⟩) (by simp; omega)).trans (by go_simp)
        have hf : w1.frozen? ⟨w.heap.size + 1, 0, none⟩ = false := (hb.frozen (p := ⟨w.heap.size + 1, 0, none⟩) (by simp)).trans (by go_simp)
        have hc : w1.cell? ⟨w.heap.size + 1, 0, none⟩ = some (.slice none 0 0) := (hb.cell (p := ⟨w.heap.size + 1, 0, none⟩) (by simp)).trans (by go_simp)
        have HI1 := Lib.hid (((H'.out.alloc hB (.cells #[.slice A n c] 29)).alloc (by simp; omega) (.cells #[.slice none 0 0] 29)).below hb (by simp; omega))
        have HP1 := Lib.hid (((H.out.alloc hB (.cells #[.slice A n c] 29)).alloc (by simp; omega) (.cells #[.slice none 0 0] 29)).below hb (by simp; omega))
        have HB := Lib.hid ((((Below.refl w.heap.size w).alloc (Nat.le_refl _) (.cells #[.slice A n c] 29)).alloc (by simp) (.cells #[.slice none 0 0] 29)).trans (hb.mono (by simp; omega)))
        clear hb
        go_wp2_with fail
        refine (impl_allInRange _ _ _ to _ _ B (by omega) HM.out HI1.out hs').mono ?_
        rintro e w2 ⟨rfl, rfl⟩
        rw [HR2.out]
        go_wp2_with fail
        refine (impl_hasEach _ _ _ _ _ _ ps _ B (by omega) HN.out HP1.out (by omega) hs').mono ?_
        rintro e w2 ⟨rfl, hb2⟩
        rw [HEA.out]
        have hz2 : w.heap.size + 1 < w2.heap.size := by have := hb2.size; omega
        have hf2 : w2.frozen? ⟨w.heap.size + 1, 0, none⟩ = false := (hb2.frozen (p := ⟨w.heap.size + 1, 0, none⟩) hz').trans hf
        have hc2 : w2.cell? ⟨w.heap.size + 1, 0, none⟩ = some (.slice none 0 0) := (hb2.cell (p := ⟨w.heap.size + 1, 0, none⟩) hz').trans hc
        have HB2 := Lib.hid (HB.out.trans (hb2.mono (by omega)))
        clear hb2 hf hc hbox
        go_wp2
        refine bodyPost_ret (v := .agg #[.slice none 0 0]) (by simp [results, Try.results34, go_sem, hz2, hc2]) rfl (RetP.zero rfl ?_)
        exact HB2.out.setCell (by simp) _
      · have hr : renF ps to = mix to ps n := by
          rw [mix_all to ps n HN.out]
          have : canRen ps to = true := by simp only [canRen]; rw [hr2, ← HM.out, hea, hv]; rfl
          simp [renF, this]
        rw [hr]
        obtain ⟨hg, h1, h12⟩ := validF_good ps hv
        have h1n : 1 ≤ n := by have := HN.out; omega
        have HG := Lib.hid hg
        have HV := Lib.hid hv
        have HR2 := Lib.hid hr2
        have HEA := Lib.hid hea
        clear hr hv hr2 hea hg h1 h12
        go_enter Try.func34, Try.ntmps34
        go_wp2_with fail
        refine (impl_ValidFormula _ _ _ ps _ B (by simp; omega) HN.out ((H.out.alloc hB _).alloc (by simp; omega) _) (by omega)).mono ?_
        rintro e w1 ⟨rfl, hb⟩
        rw [HV.out]
        have hz' : w.heap.size + 1 < w1.heap.size := by have := hb.size; simp at this; omega
        have hbox : w1.cell? ⟨w.heap.size, 0, none⟩ = some (.slice A n c) := (hb.cell (p := ⟨w.heap.size, 0, none⟩) (by simp; omega)).trans (by go_simp)
        have hf : w1.frozen? ⟨w.heap.size + 1, 0, none⟩ = false := (hb.frozen (p := ⟨w.heap.size + 1, 0, none⟩) (by simp)).trans (by go_simp)
        have hc : w1.cell? ⟨w.heap.size + 1, 0, none⟩ = some (.slice none 0 0) := (hb.cell (p := ⟨w.heap.size + 1, 0, none⟩) (by simp)).trans (by go_simp)
        have HI1 := Lib.hid (((H'.out.alloc hB (.cells #[.slice A n c] 29)).alloc (by simp; omega) (.cells #[.slice none 0 0] 29)).below hb (by simp; omega))
        have HP1 := Lib.hid (((H.out.alloc hB (.cells #[.slice A n c] 29)).alloc (by simp; omega) (.cells #[.slice none 0 0] 29)).below hb (by simp; omega))
        have HB := Lib.hid ((((Below.refl w.heap.size w).alloc (Nat.le_refl _) (.cells #[.slice A n c] 29)).alloc (by simp) (.cells #[.slice none 0 0] 29)).trans (hb.mono (by simp; omega)))
        clear hb
        go_wp2_with fail
        refine (impl_allInRange _ _ _ to _ _ B (by omega) HM.out HI1.out hs').mono ?_
        rintro e w2 ⟨rfl, rfl⟩
        rw [HR2.out]
        go_wp2_with fail
        refine (impl_hasEach _ _ _ _ _ _ ps _ B (by omega) HN.out HP1.out (by omega) hs').mono ?_
        rintro e w2 ⟨rfl, hb2⟩
        rw [HEA.out]
        have hz2 : w.heap.size + 1 < w2.heap.size := by have := hb2.size; omega
        have hbox2 : w2.cell? ⟨w.heap.size, 0, none⟩ = some (.slice A n c) := (hb2.cell (p := ⟨w.heap.size, 0, none⟩) (by show w.heap.size < w1.heap.size; omega)).trans hbox
        have hf2 : w2.frozen? ⟨w.heap.size + 1, 0, none⟩ = false := (hb2.frozen (p := ⟨w.heap.size + 1, 0, none⟩) hz').trans hf
        have hc2 : w2.cell? ⟨w.heap.size + 1, 0, none⟩ = some (.slice none 0 0) := (hb2.cell (p := ⟨w.heap.size + 1, 0, none⟩) hz').trans hc
        have HP2 := Lib.hid (HP1.out.below hb2 (by omega))
        have HI2 := Lib.hid (HI1.out.below hb2 (by omega))
        have HB2 := Lib.hid (HB.out.trans (hb2.mono (by omega)))
        clear hb2 hf hc hbox HP1 HI1
        go_wp2_with fail
        refine (clone_parts A n c ps _ B (by omega) HN.out h1n HP2.out (by omega)).mono ?_
        rintro e w3 ⟨v, rfl, hown, hb3⟩
        rw [← HN.out] at hown
        have hg3 : ∃ g cap, v = .slice (some ⟨g, 0, none⟩) n cap := by
          rcases hown.2 with ⟨_, h0⟩ | ⟨g, cap, cur, hv, _⟩
          · omega
          · exact ⟨g, cap, hv⟩
        obtain ⟨g, cap, rfl⟩ := hg3
        have hgb := hown.lt g rfl
        have HB3 := Lib.hid hb3
        have HO3 := Lib.hid hown
        have HF2 := Lib.hid hf2
        have HC2 := Lib.hid hc2
        have hg2 : w2.heap.size ≤ g := hgb.1
        clear hown hb3 hf2 hc2 hbox2 HP2 hgb
        go_wp2
        go_loopw [28] (fun i wr => ∃ k : Nat, k ≤ n ∧ i = .int .i64 k ∧ Hid (wr.ownsRow w2.heap.size 51 5 (.slice (some ⟨g, 0, none⟩) n cap) n ((mix to ps k).flatMap Pt.cells)) ∧ Hid (Below w2.heap.size w2 wr)) (fun i _ => n - (intOf i).toNat)
        case atStart => exact ⟨0, Nat.zero_le _, rfl, by rw [mix_zero]; exact HO3.out, HB3.out⟩
        case round =>
          clear HO3 HB3
          obtain ⟨k, hk, rfl, HO, HBr⟩ := hrel
          have hgw : g < wr.heap.size := (HO.out.lt g rfl).2
          by_cases hlt : k < n
          · have hkl : k < ps.length := by have := HN.out; omega
            obtain ⟨c0, c1, c2, c3, c4⟩ := cells_get (mix to ps k) k (by rw [mix_len]; exact hkl)
            rw [mix_getD to ps k hkl] at c0 c1 c2 c3 c4
            have b0 := (HO.out.cellAt (k * 5) (by omega)).trans c0
            have b1 := (HO.out.cellAt (k * 5 + 1) (by omega)).trans c1
            have b2 := (HO.out.cellAt (k * 5 + 2) (by omega)).trans c2
            have b3 := (HO.out.cellAt (k * 5 + 3) (by omega)).trans c3
            have b4 := (HO.out.cellAt (k * 5 + 4) (by omega)).trans c4
            have f4 := HO.out.frozenAt (k * 5 + 4)
            have hgk := HG.out k hkl
            have HMS := Lib.hid (mix_succ to ps k hkl)
            have HMG := Lib.hid (mix_getD to ps k hkl)
            have HML := Lib.hid (mix_len to ps k)
            have HKL := Lib.hid hkl
            clear c0 c1 c2 c3 c4
            cases h1 : ((ps.getD k default).k == 1)
            · have HMK := Lib.hid (mix_keep to ps k hkl h1)
              have H1 := Lib.hid h1
              clear hgk hkl f4
              generalize ps.getD k default = p at *
              clear H1
              go_wp2
              go_roundw
              case rel => exact ⟨k + 1, by omega, by go_num, by rw [HMK.out]; exact HO.out.alloc _, HBr.out.alloc (by omega) _⟩
              case measure => simp [intOf]; omega
            · have hlt2 := eachOK_at ps m k HEA.out hkl h1
              generalize ps.getD k default = p at *
              obtain ⟨q, hq⟩ : ∃ q : Nat, p.n = (q : Int) := by
                have := (good_num p k hgk).2 (by simpa using h1)
                exact ⟨p.n.toNat, by omega⟩
              have hqm : q < m := by omega
              obtain ⟨b', off', rfl, hbB', hc'⟩ := HI2.out (by have := HM.out; omega)
              have hx := (HBr.out.cell (p := ⟨b', off' + q, none⟩) (by show b' < w2.heap.size; omega)).trans (hc' q (by have := HM.out; omega))
              have hren : ren to p = { p with n := to.getD q 0 } := by unfold ren; rw [h1, if_pos rfl, hq]; rfl
              have HRE := Lib.hid hren
              rw [hq] at b4
              have H1 := Lib.hid h1
              have hbw' : b' < wr.heap.size := by have := HBr.out.size; omega
              clear hgk hkl hc' hren hlt2 hq
              generalize to.getD q 0 = x at *
              go_wp2
              go_roundw
              case rel =>
                refine ⟨k + 1, by omega, by go_num, ?_, ?_⟩
                · have h2 := (HO.out.stored (k * 5 + 4) (.int .i64 x)).1
                  rw [cells_set4 _ k (by rw [HML.out]; exact HKL.out) x, HMG.out, ← HRE.out, ← HMS.out] at h2
                  exact h2.alloc _
                · exact (HBr.out.setCell (p := ⟨g, k * 5 + 4, none⟩) hg2 _).alloc (by simp [World.setCell]; omega) _
              case measure => simp [intOf]; omega
          · obtain rfl : k = n := by omega
            have hf3 : wr.frozen? ⟨w.heap.size + 1, 0, none⟩ = false := (HBr.out.frozen (p := ⟨w.heap.size + 1, 0, none⟩) hz2).trans HF2.out
            have hc3 : wr.cell? ⟨w.heap.size + 1, 0, none⟩ = some (.slice none 0 0) := (HBr.out.cell (p := ⟨w.heap.size + 1, 0, none⟩) hz2).trans HC2.out
            have hzr : w.heap.size + 1 < wr.heap.size := by have := HBr.out.size; omega
            have HML := Lib.hid ((mix_len to ps k).trans HN.out.symm)
            clear hlt hk
            go_wp2
            refine bodyPost_ret (v := .agg #[.slice (some ⟨g, 0, none⟩) k cap]) (by simp [results, Try.results34, go_sem, hzr, hc3]) rfl ⟨_, rfl, ?_, ?_⟩
            · rw [HML.out]
              have h1 := HO.out
              have h2 : w.heap.size ≤ w2.heap.size := by omega
              exact own_mono (ownsRow_setCell_below (a := ⟨w.heap.size + 1, 0, none⟩) h1 (show w.heap.size + 1 < w2.heap.size by omega) _) h2
            · exact (HB2.out.trans (HBr.out.mono (by omega))).setCell (by simp) _

theorem eachOK_take (ps : List Pt) (m k : Nat) (h : eachOK (ps.take k) m = true) (hk : k < ps.length) (h1 : ((ps.getD k default).k == 1 && decide ((m : Int) ≤ (ps.getD k default).n)) = false) : eachOK (ps.take (k + 1)) m = true := by
  rw [take_succ_getD ps k hk]
  unfold eachOK at *
  rw [List.all_append, h]
  simp only [List.all_cons, List.all_nil, h1]; rfl

theorem eachOK_false (ps : List Pt) (m k : Nat) (hk : k < ps.length) (h1 : ((ps.getD k default).k == 1 && decide ((m : Int) ≤ (ps.getD k default).n)) = true) : eachOK ps m = false := by
  unfold eachOK
  rw [List.all_eq_false]
  exact ⟨ps.getD k default, getD_mem' ps k hk, by rw [h1]; simp⟩

set_option maxRecDepth 100000 in
set_option maxHeartbeats 3200000 in
theorem spec_RenameReads (A A' : Option Addr) (n c m c' : Nat) (ps : List Pt) (to : List Int) (B : Nat) (hn : n = ps.length) (hm : m = to.length) (hs : n ≤ 1999999) (hs' : m ≤ 2000000) (w : World) (hB : B ≤ w.heap.size) (h : PS w B A ps) (h' : IS w B A' to) :
    Calls Try.prog 33 #[.agg #[.slice A n c], .slice A' m c'] w fun e w' => RetP w (renF ps to) e w' := by
  obtain ⟨i1, hi1, hy0, hy1, hy2⟩ := info_parts info_part
  have H := Lib.hid h
  have HN := Lib.hid hn
  have H' := Lib.hid h'
  have HM := Lib.hid hm
  clear hn h hm h'
  cases hv : validF ps
  · have hr : renF ps to = [] := by simp [renF, canRen, hv]
    rw [hr]
    have HV := Lib.hid hv
    clear hr hv
    go_enter Try.func33, Try.ntmps33
    go_wp2_with fail
    refine (spec_validFormula _ _ _ ps _ B (by simp; omega) HN.out ((H.out.alloc hB _).alloc (by simp; omega) _) (by omega)).mono ?_
    rintro e w1 ⟨rfl, hb⟩
    rw [HV.out]
    have hz' : w.heap.size + 1 < w1.heap.size := by have := hb.size; simp at this; omega
    have hf : w1.frozen? ⟨w.heap.size + 1, 0, none⟩ = false := (hb.frozen (p := ⟨w.heap.size + 1, 0, none⟩) (by simp)).trans (by go_simp)
    have hc : w1.cell? ⟨w.heap.size + 1, 0, none⟩ = some (.slice none 0 0) := (hb.cell (p := ⟨w.heap.size + 1, 0, none⟩) (by simp)).trans (by go_simp)
    have HB := Lib.hid hb
    clear hb
    go_wp2
    refine bodyPost_ret (v := .agg #[.slice none 0 0]) (by simp [results, Try.results33, go_sem, hz', hc]) rfl (RetP.zero rfl ?_)
    exact ((((Below.refl _ _).alloc (Nat.le_refl _) _).alloc (by simp) _).trans (HB.out.mono (by simp; omega))).setCell (by simp) _
  · by_cases h10 : 10 < m
    · have hr : renF ps to = [] := by
        have : decide (to.length ≤ 10) = false := by rw [← HM.out]; simp; omega
        simp only [renF, canRen, this]; simp
      rw [hr]
      have HV := Lib.hid hv
      clear hr hv
      go_enter Try.func33, Try.ntmps33
      go_wp2_with fail
      refine (spec_validFormula _ _ _ ps _ B (by simp; omega) HN.out ((H.out.alloc hB _).alloc (by simp; omega) _) (by omega)).mono ?_
      rintro e w1 ⟨rfl, hb⟩
      rw [HV.out]
      have hz' : w.heap.size + 1 < w1.heap.size := by have := hb.size; simp at this; omega
      have hf : w1.frozen? ⟨w.heap.size + 1, 0, none⟩ = false := (hb.frozen (p := ⟨w.heap.size + 1, 0, none⟩) (by simp)).trans (by go_simp)
      have hc : w1.cell? ⟨w.heap.size + 1, 0, none⟩ = some (.slice none 0 0) := (hb.cell (p := ⟨w.heap.size + 1, 0, none⟩) (by simp)).trans (by go_simp)
      have HB := Lib.hid hb
      clear hb
      go_wp2
      refine bodyPost_ret (v := .agg #[.slice none 0 0]) (by simp [results, Try.results33, go_sem, hz', hc]) rfl (RetP.zero rfl ?_)
      exact ((((Below.refl _ _).alloc (Nat.le_refl _) _).alloc (by simp) _).trans (HB.out.mono (by simp; omega))).setCell (by simp) _
    · cases har : allR to 0 9
      · have hr : renF ps to = [] := by simp only [renF, canRen, har]; simp
        rw [hr]
        have HV := Lib.hid hv
        have HAR := Lib.hid har
        clear hr hv har
        go_enter Try.func33, Try.ntmps33
        go_wp2_with fail
        refine (spec_validFormula _ _ _ ps _ B (by simp; omega) HN.out ((H.out.alloc hB _).alloc (by simp; omega) _) (by omega)).mono ?_
        rintro e w1 ⟨rfl, hb⟩
        rw [HV.out]
        have hz' : w.heap.size + 1 < w1.heap.size := by have := hb.size; simp at this; omega
        have hf : w1.frozen? ⟨w.heap.size + 1, 0, none⟩ = false := (hb.frozen (p := ⟨w.heap.size + 1, 0, none⟩) (by simp)).trans (by go_simp)
        have hc : w1.cell? ⟨w.heap.size + 1, 0, none⟩ = some (.slice none 0 0) := (hb.cell (p := ⟨w.heap.size + 1, 0, none⟩) (by simp)).trans (by go_simp)
        have HI1 := Lib.hid (((H'.out.alloc hB (.cells #[.slice A n c] 29)).alloc (by simp; omega) (.cells #[.slice none 0 0] 29)).below hb (by simp; omega))
        have HB := Lib.hid hb
        clear hb
        go_wp2_with fail
        refine (spec_allIn _ _ _ to _ _ _ B (by omega) HM.out HI1.out hs').mono ?_
        rintro e w2 ⟨rfl, rfl⟩
        rw [HAR.out]
        go_wp2
        refine bodyPost_ret (v := .agg #[.slice none 0 0]) (by simp [results, Try.results33, go_sem, hz', hc]) rfl (RetP.zero rfl ?_)
        exact ((((Below.refl _ _).alloc (Nat.le_refl _) _).alloc (by simp) _).trans (HB.out.mono (by simp; omega))).setCell (by simp) _
      · have HRF := Lib.hid (show eachOK ps m = false → renF ps to = [] by
          intro h; simp only [renF, canRen, ← HM.out, h]; simp)
        have HRT := Lib.hid (show eachOK ps m = true → renF ps to = mix to ps n by
          intro h
          have h10' : decide (to.length ≤ 10) = true := by rw [← HM.out]; simp; omega
          have : canRen ps to = true := by simp only [canRen]; rw [h10', har, ← HM.out, h, hv]; rfl
          rw [mix_all to ps n HN.out]
          simp [renF, this])
        obtain ⟨hg, h1, h12⟩ := validF_good ps hv
        have h1n : 1 ≤ n := by have := HN.out; omega
        have HG := Lib.hid hg
        have HV := Lib.hid hv
        have HAR := Lib.hid har
        clear hv hg h1 h12 har
        generalize renF ps to = R at *
        go_enter Try.func33, Try.ntmps33
        go_wp2_with fail
        refine (spec_validFormula _ _ _ ps _ B (by simp; omega) HN.out ((H.out.alloc hB _).alloc (by simp; omega) _) (by omega)).mono ?_
        rintro e w1 ⟨rfl, hb⟩
        rw [HV.out]
        have hz' : w.heap.size + 1 < w1.heap.size := by have := hb.size; simp at this; omega
        have hbox : w1.cell? ⟨w.heap.size, 0, none⟩ = some (.slice A n c) := (hb.cell (p := ⟨w.heap.size, 0, none⟩) (by simp; omega)).trans (by go_simp)
        have hf : w1.frozen? ⟨w.heap.size + 1, 0, none⟩ = false := (hb.frozen (p := ⟨w.heap.size + 1, 0, none⟩) (by simp)).trans (by go_simp)
        have hc : w1.cell? ⟨w.heap.size + 1, 0, none⟩ = some (.slice none 0 0) := (hb.cell (p := ⟨w.heap.size + 1, 0, none⟩) (by simp)).trans (by go_simp)
        have HI1 := Lib.hid (((H'.out.alloc hB (.cells #[.slice A n c] 29)).alloc (by simp; omega) (.cells #[.slice none 0 0] 29)).below hb (by simp; omega))
        have HP1 := Lib.hid (((H.out.alloc hB (.cells #[.slice A n c] 29)).alloc (by simp; omega) (.cells #[.slice none 0 0] 29)).below hb (by simp; omega))
        have HB := Lib.hid ((((Below.refl w.heap.size w).alloc (Nat.le_refl _) (.cells #[.slice A n c] 29)).alloc (by simp) (.cells #[.slice none 0 0] 29)).trans (hb.mono (by simp; omega)))
        clear hb
        go_wp2_with fail
        refine (spec_allIn _ _ _ to _ _ _ B (by omega) HM.out HI1.out hs').mono ?_
        rintro e w2 ⟨rfl, rfl⟩
        rw [HAR.out]
        obtain ⟨b, off, rfl, hbB, hpc⟩ := HP1.out (by have := HN.out; omega)
        have HPC := Lib.hid (news_of_parts hpc)
        have hnew := World.ownsRow_lit (e := 51) (size := 5) (base := w1.heap.size) w1 #[] 0 (Nat.le_refl _) (by unfold maxLen; omega) (by simp)
        have HNEW := Lib.hid hnew
        have hbw1 : b < w1.heap.size := by omega
        have hz0 : w.heap.size < w1.heap.size := by omega
        clear hnew hpc
        go_wp2_with (at_builtin; refine wpList_append_own_at _ rfl _ _ 27 rfl w1.heap.size 51 i1 _ 5 40 Try.underlying27 hi1 hy0 hy1 hy2 rfl (by decide) _ _ _ rfl HNEW.out ⟨b, off, none⟩ n c (ps.flatMap Pt.cells) rfl ?d1 ?d6 (cells_one ps) ?d3 ?d4 ?d5 ?_)
        case d1 => rw [length_cells, HN.out]
        case d6 => exact news_alloc HPC.out hbw1 _
        case d3 => unfold maxLen; omega
        case d4 => omega
        case d5 => simp
        intro v' w3 hown' hgrow _ hwhere
        have hown'' : w3.ownsRow w1.heap.size 51 5 v' n (ps.flatMap Pt.cells) := by simpa using hown'
        have hg3 : ∃ g cap, v' = .slice (some ⟨g, 0, none⟩) n cap := by
          rcases hown''.2 with ⟨_, h0⟩ | ⟨g, cap, cur, hv, _⟩
          · omega
          · exact ⟨g, cap, hv⟩
        obtain ⟨g, cap, rfl⟩ := hg3
        have hgb := hown''.lt g rfl
        have hb3 : Below w1.heap.size w1 w3 := ((Below.refl _ _).alloc (Nat.le_refl _) (.cells #[] 51)).grown hgrow (by simp) (fun k hk => by simp [Value.ownBlock] at hk; omega)
        have hz3 : w.heap.size + 1 < w3.heap.size := by have := hb3.size; omega
        have hw13 : w1.heap.size ≤ w3.heap.size := hb3.size
        have HO3 := Lib.hid (hown''.alloc (.cells #[.slice (some ⟨g, 0, none⟩) n cap] 29))
        have HB3 := Lib.hid (hb3.alloc hw13 (.cells #[.slice (some ⟨g, 0, none⟩) n cap] 29))
        have HF1 := Lib.hid hf
        have HC1 := Lib.hid hc
        have hg2 : w1.heap.size ≤ g := hgb.1
        have hgw3 : g < w3.heap.size := hgb.2
        clear hown' hown'' hgrow hwhere hb3 hf hc hbox HP1 HNEW HPC hgb
        go_wp2
        go_loopw [6] (fun i wr => ∃ k : Nat, k ≤ n ∧ i = .int .i64 k ∧ Hid (wr.ownsRow w1.heap.size 51 5 (.slice (some ⟨g, 0, none⟩) n cap) n ((mix to ps k).flatMap Pt.cells)) ∧ Hid (Below w1.heap.size w1 wr) ∧ Hid (eachOK (ps.take k) m = true) ∧ Hid (wr.cell? ⟨w3.heap.size, 0, none⟩ = some (.slice (some ⟨g, 0, none⟩) n cap)) ∧ w3.heap.size < wr.heap.size) (fun i _ => n - (intOf i).toNat)
        case atStart => exact ⟨0, Nat.zero_le _, rfl, by rw [mix_zero]; exact HO3.out, HB3.out, by simp [Hid, eachOK], by simp only [Hid]; go_simp, by simp⟩
        case round =>
          clear HO3 HB3
          obtain ⟨k, hk, rfl, HO, HBr, HE, HFB, hwr⟩ := hrel
          have hfb := HFB.out
          have hgw : g < wr.heap.size := (HO.out.lt g rfl).2
          have hf3 : wr.frozen? ⟨w.heap.size + 1, 0, none⟩ = false := (HBr.out.frozen (p := ⟨w.heap.size + 1, 0, none⟩) hz').trans HF1.out
          have hc3 : wr.cell? ⟨w.heap.size + 1, 0, none⟩ = some (.slice none 0 0) := (HBr.out.cell (p := ⟨w.heap.size + 1, 0, none⟩) hz').trans HC1.out
          have hzr : w.heap.size + 1 < wr.heap.size := by omega
          by_cases hlt : k < n
          · have hkl : k < ps.length := by have := HN.out; omega
            obtain ⟨c0, c1, c2, c3, c4⟩ := cells_get (mix to ps k) k (by rw [mix_len]; exact hkl)
            rw [mix_getD to ps k hkl] at c0 c1 c2 c3 c4
            have b0 := (HO.out.cellAt (k * 5) (by omega)).trans c0
            have b4 := (HO.out.cellAt (k * 5 + 4) (by omega)).trans c4
            have f4 := HO.out.frozenAt (k * 5 + 4)
            have hgk := HG.out k hkl
            have HMS := Lib.hid (mix_succ to ps k hkl)
            have HMG := Lib.hid (mix_getD to ps k hkl)
            have HML := Lib.hid (mix_len to ps k)
            have HKL := Lib.hid hkl
            have HET := Lib.hid (eachOK_take ps m k HE.out hkl)
            clear c0 c1 c2 c3 c4
            cases h1 : ((ps.getD k default).k == 1)
            · have HMK := Lib.hid (mix_keep to ps k hkl h1)
              have HE2 := Lib.hid (HET.out (by rw [h1]; rfl))
              have h1' : ((ps.getD k default).k != 1) = true := by unfold bne; rw [h1]; rfl
              clear hgk hkl f4 HET HE h1 hf3 hc3
              have H1' := Lib.hid h1'
              generalize ps.getD k default = p at *
              have h1' := H1'.out
              clear H1'
              go_wp2
              go_roundw
              case rel => exact ⟨k + 1, by omega, by go_num, by rw [HMK.out]; exact HO.out, HBr.out, HE2.out, HFB.out, hwr⟩
              case measure => simp [intOf]; omega
            · have h1' : ((ps.getD k default).k != 1) = false := by unfold bne; rw [h1]; rfl
              cases hlt2 : decide ((m : Int) ≤ (ps.getD k default).n)
              · have HE2 := Lib.hid (HET.out (by rw [h1, hlt2]; rfl))
                clear HET HE
                generalize ps.getD k default = p at *
                obtain ⟨q, hq⟩ : ∃ q : Nat, p.n = (q : Int) := by
                  have := (good_num p k hgk).2 (by simpa using h1)
                  exact ⟨p.n.toNat, by omega⟩
                have hqm : q < m := by have := of_decide_eq_false hlt2; omega
                obtain ⟨b', off', rfl, hbB', hc'⟩ := HI1.out (by have := HM.out; omega)
                have hx := (HBr.out.cell (p := ⟨b', off' + q, none⟩) (by show b' < w1.heap.size; omega)).trans (hc' q (by have := HM.out; omega))
                have hren : ren to p = { p with n := to.getD q 0 } := by unfold ren; rw [h1, if_pos rfl, hq]; rfl
                have HRE := Lib.hid hren
                rw [hq] at b4 hlt2
                have hbw' : b' < wr.heap.size := by omega
                have hqmi : (q : Int) < (m : Int) := by omega
                clear hgk hkl hc' hren hlt2 hq h1 hf3 hc3
                generalize to.getD q 0 = x at *
                go_wp2
                go_region
                go_wp2
                go_roundw
                case rel =>
                  refine ⟨k + 1, by omega, by go_num, ?_, ?_, HE2.out, ?_, by simp [World.setCell]; exact hwr⟩
                  · have h2 := (HO.out.stored (k * 5 + 4) (.int .i64 x)).1
                    rw [cells_set4 _ k (by rw [HML.out]; exact HKL.out) x, HMG.out, ← HRE.out, ← HMS.out] at h2
                    exact h2
                  · exact (HBr.out.setCell (p := ⟨g, k * 5 + 4, none⟩) hg2 _).drew
                  · have h3 : w3.heap.size ≠ g := by omega
                    simp only [Hid]
                    show (wr.setCell ⟨g, k * 5 + 4, none⟩ (.int .i64 x)).cell? ⟨w3.heap.size, 0, none⟩ = _
                    rw [World.cell?_setCell_other _ _ _ _ (by intro e; simp at e; try omega)]
                    exact HFB.out
                case measure => simp [intOf]; omega
              · have hR := HRF.out (eachOK_false ps m k hkl (by rw [h1, hlt2]; rfl))
                have hle : (m : Int) ≤ (ps.getD k default).n := of_decide_eq_true hlt2
                have HR := Lib.hid hR
                clear hR hgk HET HE h1 hkl hlt2
                generalize ps.getD k default = p at *
                go_wp2
                refine bodyPost_ret (v := .agg #[.slice none 0 0]) (by simp [results, Try.results33, go_sem, hzr, hc3]) rfl (by rw [HR.out]; refine RetP.zero rfl ?_; exact (HB.out.trans (HBr.out.mono (by omega))).setCell (by simp) _)
          · obtain rfl : k = n := by omega
            have hR := HRT.out (by have := HE.out; rwa [List.take_of_length_le (by have := HN.out; omega)] at this)
            have HR := Lib.hid hR
            have HML := Lib.hid ((mix_len to ps k).trans HN.out.symm)
            clear hlt hk hR
            go_wp2
            refine bodyPost_ret (v := .agg #[.slice (some ⟨g, 0, none⟩) k cap]) (by simp [results, Try.results33, go_sem, hzr, hc3]) rfl (by
              rw [HR.out]
              refine ⟨_, rfl, ?_, ?_⟩
              · rw [HML.out]
                have h1 := HO.out
                have h2 : w.heap.size ≤ w1.heap.size := by omega
                exact own_mono (ownsRow_setCell_below (a := ⟨w.heap.size + 1, 0, none⟩) h1 (show w.heap.size + 1 < w1.heap.size by omega) _) h2
              · exact (HB.out.trans (HBr.out.mono (by omega))).setCell (by simp) _)
end Go.Proofs.Yteeljfblncffpaa
