/- Owners: the standing contracts of AddCleanup and SetContext. -/
import Derived.Test.YtdcfmoaomlfijaaV14

namespace Go.Proofs.Ytdcfmoaomlfijaa
set_option linter.unusedSimpArgs false
set_option linter.unusedVariables false
open Go.RowKit

set_option maxRecDepth 100000 in
set_option maxHeartbeats 3200000 in
theorem top_impl_AddCleanup (ds : List On) (o l : Int) (hO : OB ds) : ∀ (A : Option Addr) (n c : Nat) (w : World), n = ds.length → n ≤ c → OS w w.heap.size A ds →
    Calls Try.prog 27 #[.slice A n c, .int .i64 o, .int .i64 l] w fun e w' => RetOB w (addF ds o l) (addB ds o l) e w' := by
  intro A n c w hn hnc h
  obtain ⟨i0, hi, hz0, hz1, hz2⟩ := info_parts info_int
  have hnb : n ≤ 1048576 := by rw [hn]; exact hO.1
  have HS := Lib.hid h
  have HC := Lib.hid (impl_hasOpenOwner A n c ds o w w.heap.size (Nat.le_refl _) hn hnc h hO)
  cases hv : hasOpO ds o
  · rw [hv] at HC
    have hf : addB ds o l = false := by unfold addB; rw [hv]; rfl
    unfold addF
    rw [hf]
    clear hf hn h hO hv
    simp only [Bool.false_eq_true, if_false]
    go_enter Try.func27, Try.ntmps27
    go_wp2_with fail
    refine HC.out.mono ?_
    rintro e w1 ⟨rfl, hb⟩
    go_wp2
    go_ret2
    exact RetOB.nil hb
  rw [hv] at HC
  obtain ⟨k, rfl, hkd, hval⟩ := hasOpO_at hv
  have hkn : k < n := by omega
  cases hr : rng l 0 50
  · have hE := hr
    have hf : addB ds (k : Int) l = false := by unfold addB; rw [hr]; simp
    unfold addF
    rw [hf]
    clear hf hn h hO hE hval
    simp only [Bool.false_eq_true, if_false]
    go_enter Try.func27, Try.ntmps27
    go_wp2_with fail
    refine HC.out.mono ?_
    rintro e w1 ⟨rfl, hb⟩
    go_wp2_with fail
    refine (impl_inRange _ _ _).mono ?_
    rintro e w' ⟨rfl, rfl⟩
    go_wp2
    go_ret2
    exact RetOB.nil hb
  obtain ⟨b, off, rfl, hbB, c0, c1, ⟨A1, n1, d1, c2, hn1, hp1⟩, -⟩ := h.at_ k hkd
  have hlen := (okO_len hval k).1
  by_cases h5 : n1 = 5
  · have h5' : ((n1 : Int) == 5) = true := by simp; omega
    have hf : addB ds (k : Int) l = false := by unfold addB; rw [Int.toNat_natCast, ← hn1, decide_eq_true h5]; simp
    unfold addF
    rw [hf]
    clear hf hn h hO hval c0 c1 hp1 hn1 hlen h5
    simp only [Bool.false_eq_true, if_false]
    go_enter Try.func27, Try.ntmps27
    go_wp2_with fail
    refine HC.out.mono ?_
    rintro e w1 ⟨rfl, hb⟩
    have b2 := (hb.cell (p := ⟨b, off + k * 4 + 2, none⟩) (by simp; omega)).trans c2
    go_wp2_with fail
    refine (impl_inRange _ _ _).mono ?_
    rintro e w' ⟨rfl, rfl⟩
    go_wp2
    go_ret2
    exact RetOB.nil hb
  have h5' : ((n1 : Int) == 5) = false := by simp; omega
  have hf : addB ds (k : Int) l = true := by unfold addB; rw [hv, hr, Int.toNat_natCast, ← hn1, decide_eq_false h5]; rfl
  have hce : addF ds (k : Int) l = ds.set k (withCl ds k l) := by unfold addF; rw [hf]; simp
  rw [hf, hce]
  have HCP := Lib.hid fun (w' : World) (hB : w.heap.size ≤ w'.heap.size) (h : OS w' w.heap.size (some ⟨b, off, none⟩) ds) => impl_copyOwners (some ⟨b, off, none⟩) n c ds w' w.heap.size hB hn h hO
  have HN := Lib.hid hn
  have HN1 := Lib.hid hn1
  have hn15 : n1 ≤ 5 := by omega
  have HKD := Lib.hid hkd
  clear hf hce hn h hO hval c0 c1 hp1 hn1 hlen h5 hv hkd
  go_enter Try.func27, Try.ntmps27
  go_wp2_with fail
  refine HC.out.mono ?_
  rintro e w1 ⟨rfl, hb⟩
  have b2 := (hb.cell (p := ⟨b, off + k * 4 + 2, none⟩) (by simp; omega)).trans c2
  have HB1 := Lib.hid hb
  go_wp2_with fail
  refine (impl_inRange _ _ _).mono ?_
  rintro e w' ⟨rfl, rfl⟩
  have hs1 := hb.size
  have HS1 := Lib.hid (HS.out.below hb (Nat.le_refl _))
  clear hb
  go_wp2_with fail
  refine (HCP.out w1 hs1 HS1.out).mono ?_
  rintro e w2 ⟨rfl, ho, hb2⟩
  obtain ⟨g, hg⟩ : ∃ g : Nat, g = w1.heap.size := ⟨_, rfl⟩
  obtain ⟨cap, hcap⟩ : ∃ cap : Nat, cap = n := ⟨_, rfl⟩
  have ho' : OwO w1.heap.size w2.heap.size (.slice (some ⟨g, 0, none⟩) n cap) n ds w2 := by rw [hg, hcap]; exact ho
  have hvv : Value.slice (some ⟨w1.heap.size, 0, none⟩) n n = .slice (some ⟨g, 0, none⟩) n cap := by rw [hg, hcap]
  rw [hvv]
  clear hvv hg hcap ho
  obtain ⟨-, xs, us, hr2', hul, hfl, hss⟩ := ho'
  have hxl : xs.length = n * 4 := hr2'.1.1
  obtain ⟨-, -, f2, f3⟩ := hfl k HKD.out
  have hs2 := hb2.size
  have hgl := (hr2'.1.lt g rfl).2
  obtain ⟨A5, m5, c5, r1, r2, r3⟩ := hss.row (k * 2) (by omega)
  rw [lenOfO, rowO_cl] at r2
  rw [rowOfO, rowO_cl] at r3
  have hm5 : m5 ≤ 5 := by have := HN1.out; omega
  have u2 := (hr2'.1.cellAt (k * 4 + 2) (by omega)).trans (f2.trans r1)
  have R1 := Lib.hid r1
  have R2 := Lib.hid r2
  have R3 := Lib.hid r3
  have HR := Lib.hid hr2'
  have HUL := Lib.hid hul
  have HFL := Lib.hid hfl
  have HSS := Lib.hid hss
  have HB2 := Lib.hid (HB1.out.trans (hb2.mono HB1.out.size))
  clear r1 r2 r3 hr2' hul hfl hss hxl f2 f3 hb2 HC HCP HS HS1
  go_wp2_with (at_builtin; refine wpList_append_own_at _ rfl _ _ 29 rfl w1.heap.size 3 i0 (.int .i64 0) 1 8 Try.underlying29 hi hz0 hz1 hz2 rfl (by decide) _ _ _ rfl (R3.out.1.alloc _) ⟨_, 0, none⟩ 1 1 [.int .i64 l] rfl rfl (cell_one_new _ _ _) ?c2 ?c3 ?c4 ?c5 ?_)
  case c2 => first | rfl | (intro u hu; simp at hu; subst hu; rfl)
  case c3 => unfold maxLen; omega
  case c4 => omega
  case c5 => first | omega | (simp; omega)
  intro v' w3 hown' hgrow _ hblk
  obtain ⟨A6, c6, rfl⟩ := own_form hown'
  have hz3 := hgrow.size
  have hz3' : w2.heap.size + 1 ≤ w3.heap.size := by simpa using hz3
  have hr3 : OwR w1.heap.size w2.heap.size 50 4 (.slice (some ⟨g, 0, none⟩) n cap) n xs w3 := ⟨(HR.out.1.alloc _).kept hgrow (blocks_ne (HR.out.1.alloc (.cells #[.int .i64 l] 3)) (R3.out.1.alloc (.cells #[.int .i64 l] 3)) owner_ne_int), HR.out.2⟩
  have hxl : xs.length = n * 4 := hr3.1.1
  have d2 := hr3.1.cellAt (k * 4 + 2) (by omega)
  rw [List.getElem?_eq_getElem (by omega)] at d2
  have e2 := hr3.1.frozenAt (k * 4 + 2)
  generalize xs[k * 4 + 2]'(by omega) = v2 at d2
  have hpos := (R3.out.1.alloc (.cells #[.int .i64 l] 3)).lt
  have HSG : Hid (SSk w1.heap.size w3.heap.size (us.set (k * 2) (.slice A6 (m5 + 1) c6)) (lenOf (rowsO (ds.set k (withCl ds k l)))) (rowOf (rowsO (ds.set k (withCl ds k l)))) w3) := by
    refine SSk.grow (w := w2.alloc (.cells #[.int .i64 l] 3)) (hi := w2.heap.size) (HSS.out.keep fun q _ hq => ((Below.refl w2.heap.size w2).alloc (Nat.le_refl _) _).block q hq) (by simp) R1.out hgrow hown' (by rw [World.size_alloc]; exact hblk) ?_ ?_ fun j hj => ?_
    · rw [lenOfO, rowO_set ds k _ HKD.out, if_pos rfl]; simp only [withCl, List.length_append, List.length_singleton]; rw [← R2.out]
    · rw [rowOfO, rowO_set ds k _ HKD.out, if_pos rfl]; simp only [withCl, List.map_append, List.map_cons, List.map_nil]; try rfl
    · rw [lenOfO, rowOfO, rowO_set ds k _ HKD.out, if_neg hj]
      by_cases e5 : j = k * 2 + 1
      · rw [if_pos e5, lenOfO, rowOfO, e5, rowO_cx]; exact ⟨rfl, rfl⟩
      · rw [if_neg e5, lenOfO, rowOfO]; exact ⟨rfl, rfl⟩
  have HR3 := Lib.hid hr3
  have HB3 := Lib.hid ((HB2.out.alloc HB2.out.size (.cells #[.int .i64 l] 3)).grown hgrow (by simp; omega) (fun q hq => by have := (hpos q hq).1; omega))
  clear hown' hgrow hblk hpos hr3 hxl hz3 u2
  go_wp2
  go_ret2
  have hfin := OwO.field (e := 0) (lo := w1.heap.size) (top := w3.heap.size) (d' := withCl ds k l) (by omega) HN.out HR3.out HUL.out HFL.out hkn (by simpa using HSG.out) rfl rfl (by omega)
  refine ⟨_, rfl, ?_, HB3.out.setCell (by show w.heap.size ≤ g; have := (HR3.out.1.lt g rfl).1; omega) _⟩
  have hsz : (w3.setCell ⟨g, k * 4 + 2, none⟩ (.slice A6 (m5 + 1) c6)).heap.size = w3.heap.size := by simp [World.setCell]
  rw [hsz, List.length_set, ← HN.out]
  exact hfin.mono (by omega) (Nat.le_refl _)

set_option maxRecDepth 100000 in
set_option maxHeartbeats 3200000 in
theorem top_spec_AddCleanup (ds : List On) (o l : Int) (hO : OB ds) : ∀ (A : Option Addr) (n c : Nat) (w : World), n = ds.length → n ≤ c → OS w w.heap.size A ds →
    Calls Try.prog 26 #[.slice A n c, .int .i64 o, .int .i64 l] w fun e w' => RetOB w (addF ds o l) (addB ds o l) e w' := by
  intro A n c w hn hnc h
  obtain ⟨i0, hi, hz0, hz1, hz2⟩ := info_parts info_int
  have hnb : n ≤ 1048576 := by rw [hn]; exact hO.1
  have HS := Lib.hid h
  have HC := Lib.hid (spec_validOwners A n c ds w w.heap.size (Nat.le_refl _) hn h hO)
  have HI := Lib.hid fun (w' : World) (hB : w.heap.size ≤ w'.heap.size) (h : OS w' w.heap.size A ds) => spec_isOpen A n c ds o w' w.heap.size hB hn h hnb
  cases hv0 : validO ds
  · rw [hv0] at HC
    have hf : addB ds o l = false := by unfold addB hasOpO hasO; rw [hv0]; rfl
    unfold addF
    rw [hf]
    clear hf hn h hO hv0 HI
    simp only [Bool.false_eq_true, if_false]
    go_enter Try.func26, Try.ntmps26
    go_wp2_with fail
    refine HC.out.mono ?_
    rintro e w1 ⟨rfl, hb⟩
    go_wp2
    go_ret2
    exact RetOB.nil hb
  rw [hv0] at HC
  cases hio : (rng o 0 ((n : Int) - 1) && opn ds o)
  · rw [hio] at HI
    have hf : addB ds o l = false := by unfold addB hasOpO hasO; rw [hv0, Bool.true_and, ← hn, hio]; rfl
    unfold addF
    rw [hf]
    clear hf hn h hO hv0 hio
    simp only [Bool.false_eq_true, if_false]
    go_enter Try.func26, Try.ntmps26
    go_wp2_with fail
    refine HC.out.mono ?_
    rintro e w1 ⟨rfl, hb⟩
    go_wp2_with fail
    refine (HI.out w1 hb.size (HS.out.below hb (Nat.le_refl _))).mono ?_
    rintro e w1' ⟨rfl, rfl⟩
    go_wp2
    go_ret2
    exact RetOB.nil hb
  rw [hio] at HI
  have hv : hasOpO ds o = true := by unfold hasOpO hasO; rw [hv0, Bool.true_and, ← hn, hio]
  clear hio hv0
  obtain ⟨k, rfl, hkd, hval⟩ := hasOpO_at hv
  have hkn : k < n := by omega
  cases hr : rng l 0 50
  · have hE := hr
    have hf : addB ds (k : Int) l = false := by unfold addB; rw [hr]; simp
    unfold addF
    rw [hf]
    clear hf hn h hO hE hval
    simp only [Bool.false_eq_true, if_false]
    go_enter Try.func26, Try.ntmps26
    go_wp2_with fail
    refine HC.out.mono ?_
    rintro e w1 ⟨rfl, hb⟩
    go_wp2_with fail
    refine (HI.out w1 hb.size (HS.out.below hb (Nat.le_refl _))).mono ?_
    rintro e w1' ⟨rfl, rfl⟩
    go_wp2_with fail
    refine (spec_inRange _ _ _ _).mono ?_
    rintro e w' ⟨rfl, rfl⟩
    go_wp2
    go_ret2
    exact RetOB.nil hb
  obtain ⟨b, off, rfl, hbB, c0, c1, ⟨A1, n1, d1, c2, hn1, hp1⟩, -⟩ := h.at_ k hkd
  have hlen := (okO_len hval k).1
  by_cases h5 : n1 = 5
  · have h5' : ((n1 : Int) == 5) = true := by simp; omega
    have hf : addB ds (k : Int) l = false := by unfold addB; rw [Int.toNat_natCast, ← hn1, decide_eq_true h5]; simp
    unfold addF
    rw [hf]
    clear hf hn h hO hval c0 c1 hp1 hn1 hlen h5
    simp only [Bool.false_eq_true, if_false]
    go_enter Try.func26, Try.ntmps26
    go_wp2_with fail
    refine HC.out.mono ?_
    rintro e w1 ⟨rfl, hb⟩
    have b2 := (hb.cell (p := ⟨b, off + k * 4 + 2, none⟩) (by simp; omega)).trans c2
    go_wp2_with fail
    refine (HI.out w1 hb.size (HS.out.below hb (Nat.le_refl _))).mono ?_
    rintro e w1' ⟨rfl, rfl⟩
    go_wp2_with fail
    refine (spec_inRange _ _ _ _).mono ?_
    rintro e w' ⟨rfl, rfl⟩
    go_wp2
    go_ret2
    exact RetOB.nil hb
  have h5' : ((n1 : Int) == 5) = false := by simp; omega
  have hf : addB ds (k : Int) l = true := by unfold addB; rw [hv, hr, Int.toNat_natCast, ← hn1, decide_eq_false h5]; rfl
  have hce : addF ds (k : Int) l = ds.set k (withCl ds k l) := by unfold addF; rw [hf]; simp
  rw [hf, hce]
  have HCP := Lib.hid fun (w' : World) (hB : w.heap.size ≤ w'.heap.size) (h : OS w' w.heap.size (some ⟨b, off, none⟩) ds) => spec_copyOwners (some ⟨b, off, none⟩) n c ds w' w.heap.size hB hn h hO
  have HN := Lib.hid hn
  have HN1 := Lib.hid hn1
  have hn15 : n1 ≤ 5 := by omega
  have HKD := Lib.hid hkd
  clear hf hce hn h hO hval c0 c1 hp1 hn1 hlen h5 hv hkd
  go_enter Try.func26, Try.ntmps26
  go_wp2_with fail
  refine HC.out.mono ?_
  rintro e w1 ⟨rfl, hb⟩
  have b2 := (hb.cell (p := ⟨b, off + k * 4 + 2, none⟩) (by simp; omega)).trans c2
  have HB1 := Lib.hid hb
  go_wp2_with fail
  refine (HI.out w1 hb.size (HS.out.below hb (Nat.le_refl _))).mono ?_
  rintro e w1' ⟨rfl, rfl⟩
  go_wp2_with fail
  refine (spec_inRange _ _ _ _).mono ?_
  rintro e w' ⟨rfl, rfl⟩
  have hs1 := hb.size
  have HS1 := Lib.hid (HS.out.below hb (Nat.le_refl _))
  clear hb
  go_wp2_with fail
  refine (HCP.out w1 hs1 HS1.out).mono ?_
  rintro e w2 ⟨v, rfl, ho, hb2⟩
  rw [← HN.out] at ho
  obtain ⟨-, xs, us, hr2', hul, hfl, hss⟩ := ho
  rcases hr2'.1.2 with ⟨-, hz⟩ | ⟨g, cap, cur, rfl, -⟩
  · omega
  have hxl : xs.length = n * 4 := hr2'.1.1
  obtain ⟨-, -, f2, f3⟩ := hfl k HKD.out
  have hs2 := hb2.size
  have hgl := (hr2'.1.lt g rfl).2
  obtain ⟨A5, m5, c5, r1, r2, r3⟩ := hss.row (k * 2) (by omega)
  rw [lenOfO, rowO_cl] at r2
  rw [rowOfO, rowO_cl] at r3
  have hm5 : m5 ≤ 5 := by have := HN1.out; omega
  have u2 := (hr2'.1.cellAt (k * 4 + 2) (by omega)).trans (f2.trans r1)
  have R1 := Lib.hid r1
  have R2 := Lib.hid r2
  have R3 := Lib.hid r3
  have HR := Lib.hid hr2'
  have HUL := Lib.hid hul
  have HFL := Lib.hid hfl
  have HSS := Lib.hid hss
  have HB2 := Lib.hid (HB1.out.trans (hb2.mono HB1.out.size))
  clear r1 r2 r3 hr2' hul hfl hss hxl f2 f3 hb2 HC HCP HS HS1
  go_wp2_with (at_builtin; refine wpList_append_own_at _ rfl _ _ 29 rfl w1.heap.size 3 i0 (.int .i64 0) 1 8 Try.underlying29 hi hz0 hz1 hz2 rfl (by decide) _ _ _ rfl (R3.out.1.alloc _) ⟨_, 0, none⟩ 1 1 [.int .i64 l] rfl rfl (cell_one_new _ _ _) ?c2 ?c3 ?c4 ?c5 ?_)
  case c2 => first | rfl | (intro u hu; simp at hu; subst hu; rfl)
  case c3 => unfold maxLen; omega
  case c4 => omega
  case c5 => first | omega | (simp; omega)
  intro v' w3 hown' hgrow _ hblk
  obtain ⟨A6, c6, rfl⟩ := own_form hown'
  have hz3 := hgrow.size
  have hz3' : w2.heap.size + 1 ≤ w3.heap.size := by simpa using hz3
  have hr3 : OwR w1.heap.size w2.heap.size 50 4 (.slice (some ⟨g, 0, none⟩) n cap) n xs w3 := ⟨(HR.out.1.alloc _).kept hgrow (blocks_ne (HR.out.1.alloc (.cells #[.int .i64 l] 3)) (R3.out.1.alloc (.cells #[.int .i64 l] 3)) owner_ne_int), HR.out.2⟩
  have hxl : xs.length = n * 4 := hr3.1.1
  have d2 := hr3.1.cellAt (k * 4 + 2) (by omega)
  rw [List.getElem?_eq_getElem (by omega)] at d2
  have e2 := hr3.1.frozenAt (k * 4 + 2)
  generalize xs[k * 4 + 2]'(by omega) = v2 at d2
  have hpos := (R3.out.1.alloc (.cells #[.int .i64 l] 3)).lt
  have HSG : Hid (SSk w1.heap.size w3.heap.size (us.set (k * 2) (.slice A6 (m5 + 1) c6)) (lenOf (rowsO (ds.set k (withCl ds k l)))) (rowOf (rowsO (ds.set k (withCl ds k l)))) w3) := by
    refine SSk.grow (w := w2.alloc (.cells #[.int .i64 l] 3)) (hi := w2.heap.size) (HSS.out.keep fun q _ hq => ((Below.refl w2.heap.size w2).alloc (Nat.le_refl _) _).block q hq) (by simp) R1.out hgrow hown' (by rw [World.size_alloc]; exact hblk) ?_ ?_ fun j hj => ?_
    · rw [lenOfO, rowO_set ds k _ HKD.out, if_pos rfl]; simp only [withCl, List.length_append, List.length_singleton]; rw [← R2.out]
    · rw [rowOfO, rowO_set ds k _ HKD.out, if_pos rfl]; simp only [withCl, List.map_append, List.map_cons, List.map_nil]; try rfl
    · rw [lenOfO, rowOfO, rowO_set ds k _ HKD.out, if_neg hj]
      by_cases e5 : j = k * 2 + 1
      · rw [if_pos e5, lenOfO, rowOfO, e5, rowO_cx]; exact ⟨rfl, rfl⟩
      · rw [if_neg e5, lenOfO, rowOfO]; exact ⟨rfl, rfl⟩
  have HR3 := Lib.hid hr3
  have HB3 := Lib.hid ((HB2.out.alloc HB2.out.size (.cells #[.int .i64 l] 3)).grown hgrow (by simp; omega) (fun q hq => by have := (hpos q hq).1; omega))
  clear hown' hgrow hblk hpos hr3 hxl hz3 u2
  go_wp2
  go_ret2
  have hfin := OwO.field (e := 0) (lo := w1.heap.size) (top := w3.heap.size) (d' := withCl ds k l) (by omega) HN.out HR3.out HUL.out HFL.out hkn (by simpa using HSG.out) rfl rfl (by omega)
  refine ⟨_, rfl, ?_, HB3.out.setCell (by show w.heap.size ≤ g; have := (HR3.out.1.lt g rfl).1; omega) _⟩
  have hsz : (w3.setCell ⟨g, k * 4 + 2, none⟩ (.slice A6 (m5 + 1) c6)).heap.size = w3.heap.size := by simp [World.setCell]
  rw [hsz, List.length_set, ← HN.out]
  exact hfin.mono (by omega) (Nat.le_refl _)

set_option maxRecDepth 100000 in
set_option maxHeartbeats 3200000 in
theorem top_impl_SetContext (ds : List On) (o key x : Int) (hO : OB ds) : ∀ (A : Option Addr) (n c : Nat) (w : World), n = ds.length → n ≤ c → OS w w.heap.size A ds →
    Calls Try.prog 29 #[.slice A n c, .int .i64 o, .int .i64 key, .int .i64 x] w fun e w' => RetOB w (ctxF ds o key x) (ctxB ds o key x) e w' := by
  intro A n c w hn hnc h
  have hnb : n ≤ 1048576 := by rw [hn]; exact hO.1
  have HS := Lib.hid h
  have HC := Lib.hid (impl_hasOpenOwner A n c ds o w w.heap.size (Nat.le_refl _) hn hnc h hO)
  cases hv : hasOpO ds o
  · rw [hv] at HC
    have hf : ctxB ds o key x = false := by unfold ctxB; rw [hv]; rfl
    unfold ctxF
    rw [hf]
    clear hf hn h hO hv
    simp only [Bool.false_eq_true, if_false]
    go_enter Try.func29, Try.ntmps29
    go_wp2_with fail
    refine HC.out.mono ?_
    rintro e w1 ⟨rfl, hb⟩
    go_wp2
    go_ret2
    exact RetOB.nil hb
  rw [hv] at HC
  obtain ⟨k, rfl, hkd, hval⟩ := hasOpO_at hv
  have hkn : k < n := by omega
  cases hr : rng key 0 2
  · have hE := hr
    have hf : ctxB ds (k : Int) key x = false := by unfold ctxB; rw [hr]; simp
    unfold ctxF
    rw [hf]
    clear hf hn h hO hE hval
    simp only [Bool.false_eq_true, if_false]
    go_enter Try.func29, Try.ntmps29
    go_wp2_with fail
    refine HC.out.mono ?_
    rintro e w1 ⟨rfl, hb⟩
    go_wp2_with fail
    refine (impl_inRange _ _ _).mono ?_
    rintro e w' ⟨rfl, rfl⟩
    go_wp2
    go_ret2
    exact RetOB.nil hb
  cases hr2 : rng x 0 50
  · have hE := hr
    have hf : ctxB ds (k : Int) key x = false := by unfold ctxB; rw [hr2]; simp
    unfold ctxF
    rw [hf]
    clear hf hn h hO hE hval
    simp only [Bool.false_eq_true, if_false]
    go_enter Try.func29, Try.ntmps29
    go_wp2_with fail
    refine HC.out.mono ?_
    rintro e w1 ⟨rfl, hb⟩
    go_wp2_with fail
    refine (impl_inRange _ _ _).mono ?_
    rintro e w' ⟨rfl, rfl⟩
    go_wp2_with fail
    refine (impl_inRange _ _ _).mono ?_
    rintro e w' ⟨rfl, rfl⟩
    go_wp2
    go_ret2
    exact RetOB.nil hb
  have hf : ctxB ds (k : Int) key x = true := by unfold ctxB; rw [hv, hr, hr2]; rfl
  obtain ⟨hj0, hj1⟩ := (rng_iff _ _ _).1 hr
  obtain ⟨j, rfl⟩ : ∃ j : Nat, key = j := ⟨key.toNat, by omega⟩
  have hj3 : j < 3 := by omega
  have hcx3 := (okO_len2 hval k hkd)
  have hce : ctxF ds (k : Int) (j : Int) x = ds.set k (withCx ds k j x) := by unfold ctxF; rw [hf]; simp
  rw [hf, hce]
  have HCP := Lib.hid fun (w' : World) (hB : w.heap.size ≤ w'.heap.size) (h : OS w' w.heap.size A ds) => impl_copyOwners A n c ds w' w.heap.size hB hn h hO
  have HN := Lib.hid hn
  have HC3 := Lib.hid hcx3
  have HKD := Lib.hid hkd
  clear hf hce hn h hO hval hv hj0 hj1 hcx3 hkd
  go_enter Try.func29, Try.ntmps29
  go_wp2_with fail
  refine HC.out.mono ?_
  rintro e w1 ⟨rfl, hb⟩
  have HB1 := Lib.hid hb
  go_wp2_with fail
  refine (impl_inRange _ _ _).mono ?_
  rintro e w' ⟨rfl, rfl⟩
  go_wp2_with fail
  refine (impl_inRange _ _ _).mono ?_
  rintro e w' ⟨rfl, rfl⟩
  have hs1 := hb.size
  have HS1 := Lib.hid (HS.out.below hb (Nat.le_refl _))
  clear hb
  go_wp2_with fail
  refine (HCP.out w1 hs1 HS1.out).mono ?_
  rintro e w2 ⟨rfl, ho, hb2⟩
  obtain ⟨g, hg⟩ : ∃ g : Nat, g = w1.heap.size := ⟨_, rfl⟩
  obtain ⟨cap, hcap⟩ : ∃ cap : Nat, cap = n := ⟨_, rfl⟩
  have ho' : OwO w1.heap.size w2.heap.size (.slice (some ⟨g, 0, none⟩) n cap) n ds w2 := by rw [hg, hcap]; exact ho
  have hvv : Value.slice (some ⟨w1.heap.size, 0, none⟩) n n = .slice (some ⟨g, 0, none⟩) n cap := by rw [hg, hcap]
  rw [hvv]
  clear hvv hg hcap ho
  obtain ⟨-, xs, us, hr2', hul, hfl, hss⟩ := ho'
  have hxl : xs.length = n * 4 := hr2'.1.1
  obtain ⟨-, -, f2, f3⟩ := hfl k HKD.out
  have hs2 := hb2.size
  have hgl := (hr2'.1.lt g rfl).2
  obtain ⟨A5, m5, c5, r1, r2, r3⟩ := hss.row (k * 2 + 1) (by omega)
  rw [lenOfO, rowO_cx] at r2
  have r3' := r3
  rw [rowOfO, rowO_cx] at r3'
  have hm5 : m5 = 3 := by have := HC3.out; omega
  rcases r3'.1.2 with ⟨-, hz'⟩ | ⟨gx, capx, curx, hvx, -⟩
  · omega
  simp only [Value.slice.injEq] at hvx
  obtain ⟨rfl, -, rfl⟩ := hvx
  have u2 := (hr2'.1.cellAt (k * 4 + 3) (by omega)).trans (f3.trans r1)
  have hyl : ((ds.getD k default).cx.map (Value.int .i64)).length = m5 * 1 := r3'.1.1
  have y2 := r3'.1.cellAt j (by omega)
  rw [List.getElem?_eq_getElem (by omega)] at y2
  have z2 := r3'.1.frozenAt j
  generalize ((ds.getD k default).cx.map (Value.int .i64))[j]'(by omega) = vx at y2
  have hjm : j < m5 := by omega
  have hst := r3'.1.stored j (.int .i64 x)
  have hgx := (r3'.1.lt gx rfl).1
  have hlen : lenOf (rowsO (ds.set k (withCx ds k j x))) = lenOf (rowsO ds) := by
    funext i
    rw [lenOfO, lenOfO, rowO_set ds k _ HKD.out]
    by_cases e1 : i = k * 2
    · rw [if_pos e1, e1, rowO_cl]; rfl
    · rw [if_neg e1]
      by_cases e2 : i = k * 2 + 1
      · rw [if_pos e2, e2, rowO_cx]; simp [withCx]
      · rw [if_neg e2]
  have HSG : Hid (SSk w1.heap.size w2.heap.size us (lenOf (rowsO (ds.set k (withCx ds k j x)))) (rowOf (rowsO (ds.set k (withCx ds k j x)))) (w2.setCell ⟨gx, j, none⟩ (.int .i64 x))) := by
    rw [hlen]
    refine hss.put1 r1 ?_ fun i hi => ?_
    · rw [rowOfO, rowOfO, rowO_set ds k _ HKD.out, if_neg (by omega), if_pos rfl, rowO_cx]; simp only [withCx, List.map_set]
    · rw [rowOfO, rowOfO, rowO_set ds k _ HKD.out]
      by_cases e1 : i = k * 2
      · rw [if_pos e1, e1, rowO_cl]; rfl
      · rw [if_neg e1, if_neg hi]
  have HR3 : Hid (OwR w1.heap.size w2.heap.size 50 4 (.slice (some ⟨g, 0, none⟩) n cap) n xs (w2.setCell ⟨gx, j, none⟩ (.int .i64 x))) := ⟨hr2'.1.kept hst.2 (blocks_ne hr2'.1 r3'.1 owner_ne_int), hr2'.2⟩
  have HUL := Lib.hid hul
  have HFL := Lib.hid hfl
  have HB3 := Lib.hid ((HB1.out.trans (hb2.mono HB1.out.size)).setCell (p := ⟨gx, j, none⟩) (by show w.heap.size ≤ gx; omega) (.int .i64 x))
  have HM := Lib.hid hm5
  clear r1 r2 r3 r3' hr2' hul hfl hss hxl f2 f3 hb2 HC HCP HS HS1 hst hlen hyl hm5
  go_wp2
  go_ret2
  refine ⟨_, rfl, ?_, HB3.out⟩
  have hsz : (w2.setCell ⟨gx, j, none⟩ (.int .i64 x)).heap.size = w2.heap.size := by simp [World.setCell]
  rw [hsz, List.length_set, ← HN.out]
  refine OwO.mono (lo := w1.heap.size) (hi := w2.heap.size) ⟨by rw [List.length_set]; exact HN.out, xs, us, HR3.out, HUL.out, fun i hi => ?_, HSG.out⟩ (by omega) (Nat.le_refl _)
  have hi' : i < ds.length := by simpa using hi
  rw [getD_set ds k i _ HKD.out]
  by_cases ei : i = k
  · subst ei; rw [if_pos rfl]; exact HFL.out i hi'
  · rw [if_neg ei]; exact HFL.out i hi'

set_option maxRecDepth 100000 in
set_option maxHeartbeats 3200000 in
theorem top_spec_SetContext (ds : List On) (o key x : Int) (hO : OB ds) : ∀ (A : Option Addr) (n c : Nat) (w : World), n = ds.length → n ≤ c → OS w w.heap.size A ds →
    Calls Try.prog 28 #[.slice A n c, .int .i64 o, .int .i64 key, .int .i64 x] w fun e w' => RetOB w (ctxF ds o key x) (ctxB ds o key x) e w' := by
  intro A n c w hn hnc h
  have hnb : n ≤ 1048576 := by rw [hn]; exact hO.1
  have HS := Lib.hid h
  have HC := Lib.hid (spec_validOwners A n c ds w w.heap.size (Nat.le_refl _) hn h hO)
  have HI := Lib.hid fun (w' : World) (hB : w.heap.size ≤ w'.heap.size) (h : OS w' w.heap.size A ds) => spec_isOpen A n c ds o w' w.heap.size hB hn h hnb
  cases hv0 : validO ds
  · rw [hv0] at HC
    have hf : ctxB ds o key x = false := by unfold ctxB hasOpO hasO; rw [hv0]; rfl
    unfold ctxF
    rw [hf]
    clear hf hn h hO hv0 HI
    simp only [Bool.false_eq_true, if_false]
    go_enter Try.func28, Try.ntmps28
    go_wp2_with fail
    refine HC.out.mono ?_
    rintro e w1 ⟨rfl, hb⟩
    go_wp2
    go_ret2
    exact RetOB.nil hb
  rw [hv0] at HC
  cases hio : (rng o 0 ((n : Int) - 1) && opn ds o)
  · rw [hio] at HI
    have hf : ctxB ds o key x = false := by unfold ctxB hasOpO hasO; rw [hv0, Bool.true_and, ← hn, hio]; rfl
    unfold ctxF
    rw [hf]
    clear hf hn h hO hv0 hio
    simp only [Bool.false_eq_true, if_false]
    go_enter Try.func28, Try.ntmps28
    go_wp2_with fail
    refine HC.out.mono ?_
    rintro e w1 ⟨rfl, hb⟩
    go_wp2_with fail
    refine (HI.out w1 hb.size (HS.out.below hb (Nat.le_refl _))).mono ?_
    rintro e w1' ⟨rfl, rfl⟩
    go_wp2
    go_ret2
    exact RetOB.nil hb
  rw [hio] at HI
  have hv : hasOpO ds o = true := by unfold hasOpO hasO; rw [hv0, Bool.true_and, ← hn, hio]
  clear hio hv0
  obtain ⟨k, rfl, hkd, hval⟩ := hasOpO_at hv
  have hkn : k < n := by omega
  cases hr : rng key 0 2
  · have hE := hr
    have hf : ctxB ds (k : Int) key x = false := by unfold ctxB; rw [hr]; simp
    unfold ctxF
    rw [hf]
    clear hf hn h hO hE hval
    simp only [Bool.false_eq_true, if_false]
    go_enter Try.func28, Try.ntmps28
    go_wp2_with fail
    refine HC.out.mono ?_
    rintro e w1 ⟨rfl, hb⟩
    go_wp2_with fail
    refine (HI.out w1 hb.size (HS.out.below hb (Nat.le_refl _))).mono ?_
    rintro e w1' ⟨rfl, rfl⟩
    go_wp2_with fail
    refine (spec_inRange _ _ _ _).mono ?_
    rintro e w' ⟨rfl, rfl⟩
    go_wp2
    go_ret2
    exact RetOB.nil hb
  cases hr2 : rng x 0 50
  · have hE := hr
    have hf : ctxB ds (k : Int) key x = false := by unfold ctxB; rw [hr2]; simp
    unfold ctxF
    rw [hf]
    clear hf hn h hO hE hval
    simp only [Bool.false_eq_true, if_false]
    go_enter Try.func28, Try.ntmps28
    go_wp2_with fail
    refine HC.out.mono ?_
    rintro e w1 ⟨rfl, hb⟩
    go_wp2_with fail
    refine (HI.out w1 hb.size (HS.out.below hb (Nat.le_refl _))).mono ?_
    rintro e w1' ⟨rfl, rfl⟩
    go_wp2_with fail
    refine (spec_inRange _ _ _ _).mono ?_
    rintro e w' ⟨rfl, rfl⟩
    go_wp2_with fail
    refine (spec_inRange _ _ _ _).mono ?_
    rintro e w' ⟨rfl, rfl⟩
    go_wp2
    go_ret2
    exact RetOB.nil hb
  have hf : ctxB ds (k : Int) key x = true := by unfold ctxB; rw [hv, hr, hr2]; rfl
  obtain ⟨hj0, hj1⟩ := (rng_iff _ _ _).1 hr
  obtain ⟨j, rfl⟩ : ∃ j : Nat, key = j := ⟨key.toNat, by omega⟩
  have hj3 : j < 3 := by omega
  have hcx3 := (okO_len2 hval k hkd)
  have hce : ctxF ds (k : Int) (j : Int) x = ds.set k (withCx ds k j x) := by unfold ctxF; rw [hf]; simp
  rw [hf, hce]
  have HCP := Lib.hid fun (w' : World) (hB : w.heap.size ≤ w'.heap.size) (h : OS w' w.heap.size A ds) => spec_copyOwners A n c ds w' w.heap.size hB hn h hO
  have HN := Lib.hid hn
  have HC3 := Lib.hid hcx3
  have HKD := Lib.hid hkd
  clear hf hce hn h hO hval hv hj0 hj1 hcx3 hkd
  go_enter Try.func28, Try.ntmps28
  go_wp2_with fail
  refine HC.out.mono ?_
  rintro e w1 ⟨rfl, hb⟩
  have HB1 := Lib.hid hb
  go_wp2_with fail
  refine (HI.out w1 hb.size (HS.out.below hb (Nat.le_refl _))).mono ?_
  rintro e w1' ⟨rfl, rfl⟩
  go_wp2_with fail
  refine (spec_inRange _ _ _ _).mono ?_
  rintro e w' ⟨rfl, rfl⟩
  go_wp2_with fail
  refine (spec_inRange _ _ _ _).mono ?_
  rintro e w' ⟨rfl, rfl⟩
  have hs1 := hb.size
  have HS1 := Lib.hid (HS.out.below hb (Nat.le_refl _))
  clear hb
  go_wp2_with fail
  refine (HCP.out w1 hs1 HS1.out).mono ?_
  rintro e w2 ⟨v, rfl, ho, hb2⟩
  rw [← HN.out] at ho
  obtain ⟨-, xs, us, hr2', hul, hfl, hss⟩ := ho
  rcases hr2'.1.2 with ⟨-, hz⟩ | ⟨g, cap, cur, rfl, -⟩
  · omega
  have hxl : xs.length = n * 4 := hr2'.1.1
  obtain ⟨-, -, f2, f3⟩ := hfl k HKD.out
  have hs2 := hb2.size
  have hgl := (hr2'.1.lt g rfl).2
  obtain ⟨A5, m5, c5, r1, r2, r3⟩ := hss.row (k * 2 + 1) (by omega)
  rw [lenOfO, rowO_cx] at r2
  have r3' := r3
  rw [rowOfO, rowO_cx] at r3'
  have hm5 : m5 = 3 := by have := HC3.out; omega
  rcases r3'.1.2 with ⟨-, hz'⟩ | ⟨gx, capx, curx, hvx, -⟩
  · omega
  simp only [Value.slice.injEq] at hvx
  obtain ⟨rfl, -, rfl⟩ := hvx
  have u2 := (hr2'.1.cellAt (k * 4 + 3) (by omega)).trans (f3.trans r1)
  have hyl : ((ds.getD k default).cx.map (Value.int .i64)).length = m5 * 1 := r3'.1.1
  have y2 := r3'.1.cellAt j (by omega)
  rw [List.getElem?_eq_getElem (by omega)] at y2
  have z2 := r3'.1.frozenAt j
  generalize ((ds.getD k default).cx.map (Value.int .i64))[j]'(by omega) = vx at y2
  have hjm : j < m5 := by omega
  have hst := r3'.1.stored j (.int .i64 x)
  have hgx := (r3'.1.lt gx rfl).1
  have hlen : lenOf (rowsO (ds.set k (withCx ds k j x))) = lenOf (rowsO ds) := by
    funext i
    rw [lenOfO, lenOfO, rowO_set ds k _ HKD.out]
    by_cases e1 : i = k * 2
    · rw [if_pos e1, e1, rowO_cl]; rfl
    · rw [if_neg e1]
      by_cases e2 : i = k * 2 + 1
      · rw [if_pos e2, e2, rowO_cx]; simp [withCx]
      · rw [if_neg e2]
  have HSG : Hid (SSk w1.heap.size w2.heap.size us (lenOf (rowsO (ds.set k (withCx ds k j x)))) (rowOf (rowsO (ds.set k (withCx ds k j x)))) (w2.setCell ⟨gx, j, none⟩ (.int .i64 x))) := by
    rw [hlen]
    refine hss.put1 r1 ?_ fun i hi => ?_
    · rw [rowOfO, rowOfO, rowO_set ds k _ HKD.out, if_neg (by omega), if_pos rfl, rowO_cx]; simp only [withCx, List.map_set]
    · rw [rowOfO, rowOfO, rowO_set ds k _ HKD.out]
      by_cases e1 : i = k * 2
      · rw [if_pos e1, e1, rowO_cl]; rfl
      · rw [if_neg e1, if_neg hi]
  have HR3 : Hid (OwR w1.heap.size w2.heap.size 50 4 (.slice (some ⟨g, 0, none⟩) n cap) n xs (w2.setCell ⟨gx, j, none⟩ (.int .i64 x))) := ⟨hr2'.1.kept hst.2 (blocks_ne hr2'.1 r3'.1 owner_ne_int), hr2'.2⟩
  have HUL := Lib.hid hul
  have HFL := Lib.hid hfl
  have HB3 := Lib.hid ((HB1.out.trans (hb2.mono HB1.out.size)).setCell (p := ⟨gx, j, none⟩) (by show w.heap.size ≤ gx; omega) (.int .i64 x))
  have HM := Lib.hid hm5
  clear r1 r2 r3 r3' hr2' hul hfl hss hxl f2 f3 hb2 HC HCP HS HS1 hst hlen hyl hm5
  go_wp2
  go_ret2
  refine ⟨_, rfl, ?_, HB3.out⟩
  have hsz : (w2.setCell ⟨gx, j, none⟩ (.int .i64 x)).heap.size = w2.heap.size := by simp [World.setCell]
  rw [hsz, List.length_set, ← HN.out]
  refine OwO.mono (lo := w1.heap.size) (hi := w2.heap.size) ⟨by rw [List.length_set]; exact HN.out, xs, us, HR3.out, HUL.out, fun i hi => ?_, HSG.out⟩ (by omega) (Nat.le_refl _)
  have hi' : i < ds.length := by simpa using hi
  rw [getD_set ds k i _ HKD.out]
  by_cases ei : i = k
  · subst ei; rw [if_pos rfl]; exact HFL.out i hi'
  · rw [if_neg ei]; exact HFL.out i hi'
end Go.Proofs.Ytdcfmoaomlfijaa
