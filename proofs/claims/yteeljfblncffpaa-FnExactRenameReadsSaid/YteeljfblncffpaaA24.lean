/- Both OrderParts. -/
import Derived.Test.YteeljfblncffpaaA23
namespace Go.Proofs.Yteeljfblncffpaa
set_option linter.unusedSimpArgs false
set_option linter.unusedVariables false
open Go.RowKit

theorem size_whole (ps : List Pt) (h : ps.length ≤ 12) : (whole ps).size ≤ 1000000 := by
  have h1 := size_tmAt ps ps.length (ps.length - 1)
  have h2 : 3 ^ (ps.length + 1) ≤ 3 ^ 13 := Nat.pow_le_pow_right (by omega) (by omega)
  unfold whole
  have h3 : (3 : Nat) ^ 13 = 1594323 := by decide
  omega

/-- What OrderParts answers. -/
def orderF (ps : List Pt) : List Pt := if validF ps then (whole ps).post 0 else []

theorem RetP.zero {w w' : World} {e : Ending} (he : e = .returned (.agg #[.slice none 0 0])) (hb : Below w.heap.size w w') : RetP w [] e w' :=
  ⟨_, he, World.ownsRow_nil _ _ _ _, hb⟩

theorem RetP.mono {w w0 w' : World} {ps : List Pt} {e : Ending} (h : RetP w ps e w') (hb : Below w0.heap.size w0 w) : RetP w0 ps e w' := by
  obtain ⟨v, he, ho, hb'⟩ := h
  exact ⟨v, he, own_mono ho hb.size, hb.trans (hb'.mono hb.size)⟩

set_option maxHeartbeats 800000 in
theorem spec_ordered (A : Option Addr) (n c : Nat) (ps : List Pt) (B : Nat) (hn : n = ps.length) (hg : AllGood ps) (hs : n ≤ 12) (i : Nat) (hin : i < n) (w : World) (hB : B ≤ w.heap.size) (h : PS w B A ps) :
    Calls Try.prog 57 #[.agg #[.slice A n c], .int .i64 i] w fun e w' => RetP w ((tmAt ps n i).post 0) e w' := by
  have H := Lib.hid h
  have hsz := size_tmAt ps n i
  have h2 : 3 ^ (n + 1) ≤ 3 ^ 13 := Nat.pow_le_pow_right (by omega) (by omega)
  have h3 : (3 : Nat) ^ 13 = 1594323 := by decide
  have hsz1 : (tmAt ps n i).size ≤ 1000000 := by omega
  have HPL := Lib.hid ((tmAt ps n i).post_len 0)
  have HPO := Lib.hid (spec_post A n c ps B hn hg (by omega) n (Nat.le_refl _) i)
  clear hsz h2 h3 h hn hg
  generalize (tmAt ps n i).size = z at *
  generalize (tmAt ps n i).post = R at *
  go_enter Try.func57, Try.ntmps57
  go_wp2_with fail
  refine (HPO.out (.slice (some ⟨w.heap.size + 1 + 1, 0, none⟩) 0 0) 0 [] (w.heap.size + 1 + 1) _ hin hin (by omega) (by simp) (((H.out.alloc hB _).alloc (by simp; omega) _).alloc (by simp; omega) _) rfl (by omega) ?_).mono ?_
  · have h1 := World.ownsRow_lit (e := 51) (size := 5) (base := w.heap.size + 1 + 1) ((w.alloc (.cells #[.slice A n c] 29)).alloc (.cells #[.slice none 0 0] 29)) #[] 0 (by simp) (by unfold maxLen; omega) (by simp)
    simpa using h1
  rintro e w1 ⟨v, rfl, hown, hgr⟩
  have hb := hgr.bel (B := w.heap.size + 1 + 1) (fun k hk => by simp [Value.ownBlock] at hk; omega) (by simp)
  obtain ⟨A2, c2, rfl⟩ := own_form hown
  have HO := Lib.hid hown
  have HB := Lib.hid hb
  have hz : w.heap.size + 1 + 1 < w1.heap.size := by have := hgr.size; simp at this; omega
  have hz' : w.heap.size + 1 < w1.heap.size := by omega
  have hf : w1.frozen? ⟨w.heap.size + 1, 0, none⟩ = false := (hb.frozen (p := ⟨w.heap.size + 1, 0, none⟩) (by simp)).trans (by go_simp)
  have hc : w1.cell? ⟨w.heap.size + 1, 0, none⟩ = some (.slice none 0 0) := (hb.cell (p := ⟨w.heap.size + 1, 0, none⟩) (by simp)).trans (by go_simp)
  clear hown hgr hb
  go_wp2
  refine bodyPost_ret (v := .agg #[.slice A2 z c2]) (by simp [results, Try.results57, go_sem, hz', hc]) rfl ⟨_, rfl, ?_, ?_⟩
  · have h1 := HO.out
    simp only [Nat.zero_add, List.nil_append] at h1
    rw [HPL.out]
    exact own_mono (ownsRow_setCell_below h1 (by simp) _) (by omega)
  · exact ((((Below.refl _ _).alloc (Nat.le_refl _) _).alloc (by simp) _).alloc (by simp; omega) _ |>.trans (HB.out.mono (by omega))).setCell (by simp) _

set_option maxHeartbeats 800000 in
theorem spec_OrderParts (A : Option Addr) (n c : Nat) (ps : List Pt) (w : World) (B : Nat) (hB : B ≤ w.heap.size) (hn : n = ps.length) (h : PS w B A ps) (hs : n ≤ 1999999) :
    Calls Try.prog 30 #[.agg #[.slice A n c]] w fun e w' => RetP w (orderF ps) e w' := by
  have H := Lib.hid h
  have HN := Lib.hid hn
  clear h hn
  cases hv : validF ps
  · have hd : orderF ps = [] := by simp [orderF, hv]
    rw [hd]
    have HV := Lib.hid hv
    clear hd hv
    go_enter Try.func30, Try.ntmps30
    go_wp2_with fail
    refine (spec_validFormula _ _ _ ps _ B (by simp; omega) HN.out ((H.out.alloc hB _).alloc (by simp; omega) _) (by omega)).mono ?_
    rintro e w1 ⟨rfl, hb⟩
    rw [HV.out]
    have hz' : w.heap.size + 1 < w1.heap.size := by have := hb.size; simp at this; omega
    have hf : w1.frozen? ⟨w.heap.size + 1, 0, none⟩ = false := (hb.frozen (p := ⟨w.heap.size + 1, 0, none⟩) (by simp)).trans (by go_simp)
    have hc : w1.cell? ⟨w.heap.size + 1, 0, none⟩ = some (.slice none 0 0) := (hb.cell (p := ⟨w.heap.size + 1, 0, none⟩) (by simp)).trans (by go_simp)
    have HB := Lib.hid hb
    clear hb
    go_wp2
    refine bodyPost_ret (v := .agg #[.slice none 0 0]) (by simp [results, Try.results30, go_sem, hz', hc]) rfl (RetP.zero rfl ?_)
    exact ((((Below.refl _ _).alloc (Nat.le_refl _) _).alloc (by simp) _).trans (HB.out.mono (by simp; omega))).setCell (by simp) _
  · obtain ⟨hg, h1, h12⟩ := validF_good ps hv
    have hd : orderF ps = (tmAt ps n (n - 1)).post 0 := by rw [orderF, if_pos hv, HN.out]; rfl
    rw [hd]
    have h1' : 1 ≤ n := by have := HN.out; omega
    have h12' : n ≤ 12 := by have := HN.out; omega
    obtain ⟨m, rfl⟩ : ∃ m, n = m + 1 := ⟨n - 1, by omega⟩
    rw [show m + 1 - 1 = m from rfl]
    have HV := Lib.hid hv
    have HG := Lib.hid hg
    clear hd hv hg h1 h12 h1'
    go_enter Try.func30, Try.ntmps30
    go_wp2_with fail
    refine (spec_validFormula _ _ _ ps _ B (by simp; omega) HN.out ((H.out.alloc hB _).alloc (by simp; omega) _) (by omega)).mono ?_
    rintro e w1 ⟨rfl, hb⟩
    rw [HV.out]
    have hz' : w.heap.size + 1 < w1.heap.size := by have := hb.size; simp at this; omega
    have hbox : w1.cell? ⟨w.heap.size, 0, none⟩ = some (.slice A (m + 1) c) := (hb.cell (p := ⟨w.heap.size, 0, none⟩) (by simp; omega)).trans (by go_simp)
    have hf : w1.frozen? ⟨w.heap.size + 1, 0, none⟩ = false := (hb.frozen (p := ⟨w.heap.size + 1, 0, none⟩) (by simp)).trans (by go_simp)
    have hc : w1.cell? ⟨w.heap.size + 1, 0, none⟩ = some (.slice none 0 0) := (hb.cell (p := ⟨w.heap.size + 1, 0, none⟩) (by simp)).trans (by go_simp)
    have HW := Lib.hid (((H.out.alloc hB (.cells #[.slice A (m + 1) c] 29)).alloc (by simp; omega) (.cells #[.slice none 0 0] 29)).below hb (by simp; omega))
    have HB1 := Lib.hid ((((Below.refl w.heap.size w).alloc (Nat.le_refl _) (.cells #[.slice A (m + 1) c] 29)).alloc (by simp) (.cells #[.slice none 0 0] 29)).trans (hb.mono (by simp; omega)))
    clear hb
    go_wp2_with fail
    refine (spec_ordered A (m + 1) c ps B HN.out HG.out h12' m (by omega) _ (by omega) HW.out).mono ?_
    rintro e w2 ⟨v, rfl, hown, hb2⟩
    obtain ⟨A2, c2, rfl⟩ := own_form hown
    have hz2 : w.heap.size + 1 < w2.heap.size := by have := hb2.size; omega
    have hf2 : w2.frozen? ⟨w.heap.size + 1, 0, none⟩ = false := (hb2.frozen (p := ⟨w.heap.size + 1, 0, none⟩) hz').trans hf
    have hc2 : w2.cell? ⟨w.heap.size + 1, 0, none⟩ = some (.slice none 0 0) := (hb2.cell (p := ⟨w.heap.size + 1, 0, none⟩) hz').trans hc
    have HO := Lib.hid hown
    have HB2 := Lib.hid hb2
    clear hown hb2
    go_wp2
    refine bodyPost_ret (v := .agg #[.slice A2 ((tmAt ps (m + 1) m).post 0).length c2]) (by simp [results, Try.results30, go_sem, hz2, hc2]) rfl ⟨_, rfl, ?_, ?_⟩
    · have h1 := HO.out
      have h2 : w.heap.size ≤ w1.heap.size := by omega
      exact own_mono (ownsRow_setCell_below (a := ⟨w.heap.size + 1, 0, none⟩) h1 (show w.heap.size + 1 < w1.heap.size by omega) _) h2
    · exact (HB1.out.trans (HB2.out.mono (by omega))).setCell (by simp) _

set_option maxHeartbeats 800000 in
theorem impl_OrderParts (A : Option Addr) (n c : Nat) (ps : List Pt) (w : World) (B : Nat) (hB : B ≤ w.heap.size) (hn : n = ps.length) (h : PS w B A ps) (hs : n ≤ 1999999) :
    Calls Try.prog 31 #[.agg #[.slice A n c]] w fun e w' => RetP w (orderF ps) e w' := by
  have H := Lib.hid h
  have HN := Lib.hid hn
  clear h hn
  cases hv : validF ps
  · have hd : orderF ps = [] := by simp [orderF, hv]
    rw [hd]
    have HV := Lib.hid hv
    clear hd hv
    go_enter Try.func31, Try.ntmps31
    go_wp2_with fail
    refine (impl_ValidFormula _ _ _ ps _ B (by simp; omega) HN.out ((H.out.alloc hB _).alloc (by simp; omega) _) (by omega)).mono ?_
    rintro e w1 ⟨rfl, hb⟩
    rw [HV.out]
    have hz' : w.heap.size + 1 < w1.heap.size := by have := hb.size; simp at this; omega
    have hf : w1.frozen? ⟨w.heap.size + 1, 0, none⟩ = false := (hb.frozen (p := ⟨w.heap.size + 1, 0, none⟩) (by simp)).trans (by go_simp)
    have hc : w1.cell? ⟨w.heap.size + 1, 0, none⟩ = some (.slice none 0 0) := (hb.cell (p := ⟨w.heap.size + 1, 0, none⟩) (by simp)).trans (by go_simp)
    have HB := Lib.hid hb
    clear hb
    go_wp2
    refine bodyPost_ret (v := .agg #[.slice none 0 0]) (by simp [results, Try.results31, go_sem, hz', hc]) rfl (RetP.zero rfl ?_)
    exact ((((Below.refl _ _).alloc (Nat.le_refl _) _).alloc (by simp) _).trans (HB.out.mono (by simp; omega))).setCell (by simp) _
  · obtain ⟨hg, h1, h12⟩ := validF_good ps hv
    have hd : orderF ps = (tmAt ps n (n - 1)).post 0 := by rw [orderF, if_pos hv, HN.out]; rfl
    rw [hd]
    have h1' : 1 ≤ n := by have := HN.out; omega
    have hsw := size_whole ps h12
    rw [show whole ps = tmAt ps n (n - 1) by rw [HN.out]; rfl] at hsw
    have HV := Lib.hid hv
    have HWH := Lib.hid (fun (w : World) => impl_wholeOf A n c ps B HN.out hg (by omega) h1' w)
    clear hd hv hg h1 h12
    generalize tmAt ps n (n - 1) = t at *
    go_enter Try.func31, Try.ntmps31
    go_wp2_with fail
    refine (impl_ValidFormula _ _ _ ps _ B (by simp; omega) HN.out ((H.out.alloc hB _).alloc (by simp; omega) _) (by omega)).mono ?_
    rintro e w1 ⟨rfl, hb⟩
    rw [HV.out]
    have hz' : w.heap.size + 1 < w1.heap.size := by have := hb.size; simp at this; omega
    have hbox : w1.cell? ⟨w.heap.size, 0, none⟩ = some (.slice A n c) := (hb.cell (p := ⟨w.heap.size, 0, none⟩) (by simp; omega)).trans (by go_simp)
    have hf : w1.frozen? ⟨w.heap.size + 1, 0, none⟩ = false := (hb.frozen (p := ⟨w.heap.size + 1, 0, none⟩) (by simp)).trans (by go_simp)
    have hc : w1.cell? ⟨w.heap.size + 1, 0, none⟩ = some (.slice none 0 0) := (hb.cell (p := ⟨w.heap.size + 1, 0, none⟩) (by simp)).trans (by go_simp)
    have HW := Lib.hid (((H.out.alloc hB (.cells #[.slice A n c] 29)).alloc (by simp; omega) (.cells #[.slice none 0 0] 29)).below hb (by simp; omega))
    have HB1 := Lib.hid ((((Below.refl w.heap.size w).alloc (Nat.le_refl _) (.cells #[.slice A n c] 29)).alloc (by simp) (.cells #[.slice none 0 0] 29)).trans (hb.mono (by simp; omega)))
    clear hb
    go_wp2_with fail
    refine (HWH.out _ (by omega) HW.out).mono ?_
    rintro e w2 ⟨T, x, rfl, hT, hb2⟩
    have HT := Lib.hid hT
    have hz2 : w.heap.size + 1 < w2.heap.size := by have := hb2.size; omega
    have hf2 : w2.frozen? ⟨w.heap.size + 1, 0, none⟩ = false := (hb2.frozen (p := ⟨w.heap.size + 1, 0, none⟩) hz').trans hf
    have hc2 : w2.cell? ⟨w.heap.size + 1, 0, none⟩ = some (.slice none 0 0) := (hb2.cell (p := ⟨w.heap.size + 1, 0, none⟩) hz').trans hc
    have HB2 := Lib.hid (HB1.out.trans (hb2.mono (by omega)))
    clear hT hb2 HB1
    go_wp2_with fail
    rw [← HT.out]
    refine (impl_formulaOf t _ hsw).mono ?_
    rintro e w3 ⟨v, rfl, hown, hb3⟩
    obtain ⟨A3, c3, rfl⟩ := own_form hown
    have hz3 : w.heap.size + 1 < w3.heap.size := by have := hb3.size; omega
    have hf3 : w3.frozen? ⟨w.heap.size + 1, 0, none⟩ = false := (hb3.frozen (p := ⟨w.heap.size + 1, 0, none⟩) hz2).trans hf2
    have hc3 : w3.cell? ⟨w.heap.size + 1, 0, none⟩ = some (.slice none 0 0) := (hb3.cell (p := ⟨w.heap.size + 1, 0, none⟩) hz2).trans hc2
    have HO := Lib.hid hown
    have HB3 := Lib.hid hb3
    clear hown hb3
    go_wp2
    refine bodyPost_ret (v := .agg #[.slice A3 (t.post 0).length c3]) (by simp [results, Try.results31, go_sem, hz3, hc3]) rfl ⟨_, rfl, ?_, ?_⟩
    · have h1 := HO.out
      have h2 : w.heap.size ≤ w2.heap.size := by omega
      exact own_mono (ownsRow_setCell_below (a := ⟨w.heap.size + 1, 0, none⟩) h1 (show w.heap.size + 1 < w2.heap.size by omega) _) h2
    · exact (HB2.out.trans (HB3.out.mono (by omega))).setCell (by simp) _
end Go.Proofs.Yteeljfblncffpaa
