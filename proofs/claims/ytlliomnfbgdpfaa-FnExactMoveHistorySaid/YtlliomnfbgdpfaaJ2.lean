/- Valid histories: the standing contracts of ValidHistory. -/
import Derived.Test.YtlliomnfbgdpfaaJ1
import Derived.Test.YtlliomnfbgdpfaaS1

namespace Go.Proofs.Ytlliomnfbgdpfaa
set_option linter.unusedSimpArgs false
set_option linter.unusedVariables false
open Go.RowKit

def validHi (gs : List Nd) (st : Hi) : Bool := validG gs && rng st.ss.length 1 10 && rng st.ix 0 (st.ss.length - 1) && st.ss.all (validC gs)

theorem allS_bad (l : List (List Int)) (p : List Int → Bool) (k : Nat) (h : k < l.length) (hp : p (l.getD k []) = false) : l.all p = false := by
  rw [List.all_eq_false]
  exact ⟨l.getD k [], by rw [List.getD_eq_getElem?_getD, List.getElem?_eq_getElem h]; exact List.getElem_mem _, by rw [hp]; simp⟩
theorem allS_good (l : List (List Int)) (p : List Int → Bool) (h : ∀ k, k < l.length → p (l.getD k []) = true) : l.all p = true := by
  rw [List.all_eq_true]
  intro x hx
  obtain ⟨k, hk, rfl⟩ := List.getElem_of_mem hx
  have := h k hk
  rwa [List.getD_eq_getElem?_getD, List.getElem?_eq_getElem hk] at this

set_option maxRecDepth 100000 in
set_option maxHeartbeats 1600000 in
theorem spec_validHistory (A A1 : Option Addr) (n c m c1 : Nat) (gs : List Nd) (st : Hi) (w : World) (B : Nat) (hB : B ≤ w.heap.size) (hn : n = gs.length) (hm : m = st.ss.length) (h : GS w B A gs) (h' : HiS w B A1 st) (hG : GB gs) (hH : HiB st) :
    Calls Try.prog 33 #[.agg #[.slice A n c], .agg #[.slice A1 m c1, .int .i64 st.ix]] w fun e w' => e = .returned (.bool (validHi gs st)) ∧ Below w.heap.size w w' := by
  have hm1 : m ≤ 1048576 := by rw [hm]; exact hH.1
  have H := Lib.hid h
  have HI := Lib.hid (show SS w B A1 st.ss from h')
  have HM := Lib.hid hm
  have HV := Lib.hid fun (w' : World) (hB : B ≤ w'.heap.size) (h : GS w' B A gs) => spec_validGraph A n c gs w' B hB hn h hG
  have HD := Lib.hid fun (A' : Option Addr) (m' c' : Nat) (xs : List Int) (w' : World) (hB : B ≤ w'.heap.size) (hm' : m' = xs.length) (hl : m' ≤ 2000000) (h : GS w' B A gs) (h' : IS w' B A' xs) => spec_validCells A A' n c m' c' gs xs w' B hB hn hm' h h' (by have := hG.1; omega) hl
  have HLB := Lib.hid hH.2.1.2
  have hval : validHi gs st = (validG gs && rng st.ss.length 1 10 && rng st.ix 0 (st.ss.length - 1) && st.ss.all (validC gs)) := rfl
  rw [← hm] at hval
  rw [hval]
  obtain ⟨xss, ix⟩ := st
  dsimp only at *
  generalize hvg : validG gs = vg at *
  have HALL := Lib.hid (allS_bad xss (validC gs))
  have HGOOD := Lib.hid (allS_good xss (validC gs))
  generalize validC gs = P at *
  generalize xss.all P = al at *
  clear h h' hn hm hG hH hval hvg
  obtain ⟨W2, hW2⟩ : ∃ W, W = (w.alloc (.cells #[.slice A n c] 33)).alloc (.cells #[.slice A1 m c1, .int .i64 ix] 35) := ⟨_, rfl⟩
  have hb2 : Below w.heap.size w W2 := by rw [hW2]; exact ((Below.refl _ _).alloc (Nat.le_refl _) _).alloc (by simp) _
  have hs2 : W2.heap.size = w.heap.size + 2 := by rw [hW2]; simp
  have q0 : W2.cell? ⟨w.heap.size, 0, none⟩ = some (.slice A n c) := by rw [hW2]; go_simp
  have q1 : W2.cell? ⟨w.heap.size + 1, 0, none⟩ = some (.slice A1 m c1) := by rw [hW2]; go_simp
  have q2 : W2.cell? ⟨w.heap.size + 1, 1, none⟩ = some (.int .i64 ix) := by rw [hW2]; go_simp
  have HB2 := Lib.hid hb2
  have HQ0 := Lib.hid q0
  have HQ1 := Lib.hid q1
  have HQ2 := Lib.hid q2
  have HS2 := Lib.hid hs2
  have hs3 : w.heap.size + 2 ≤ W2.heap.size := by omega
  have HW2 := Lib.hid hW2
  clear hW2 hb2 hs2 q0 q1 q2
  go_enter Try.func33, Try.ntmps33
  go_wp2
  go_loopw [5] (fun i wr => ∃ k : Nat, k ≤ m ∧ i = .int .i64 k ∧ Hid (∀ j, j < k → P (xss.getD j []) = true) ∧ Hid (Below W2.heap.size W2 wr)) (fun i _ => m - (intOf i).toNat)
  case atStart => exact ⟨0, Nat.zero_le _, rfl, fun j hj => by omega, by rw [HW2.out]; exact Below.refl _ _⟩
  case round =>
    obtain ⟨k, hk, rfl, HP, HB⟩ := hrel
    have q0 := (HB.out.cell (p := ⟨w.heap.size, 0, none⟩) (by simp; omega)).trans HQ0.out
    have q1 := (HB.out.cell (p := ⟨w.heap.size + 1, 0, none⟩) (by simp; omega)).trans HQ1.out
    have q2 := (HB.out.cell (p := ⟨w.heap.size + 1, 1, none⟩) (by simp; omega)).trans HQ2.out
    have HG1 := Lib.hid ((H.out.below HB2.out hB).below HB.out (by omega))
    have hB0 : B ≤ wr.heap.size := by have := HB.out.size; omega
    have HBW := Lib.hid (HB2.out.trans (HB.out.mono (by omega)))
    by_cases hlt : k < m
    · obtain ⟨b, off, rfl, hbB, A2, n2, c2, e0, hn2, hps⟩ := HI.out.at_ k (by have := HM.out; omega)
      have e1 := (HBW.out.cell (p := ⟨b, off + k, none⟩) (by simp; omega)).trans e0
      have HPS := Lib.hid (hps.below HBW.out hB)
      have hnb := HLB.out k
      have HC := Lib.hid (HD.out A2 n2 c2 (xss.getD k []) wr.drew hB0 hn2 (by omega) HG1.out HPS.out)
      have HB3 := Lib.hid (HALL.out k (by have := HM.out; omega))
      obtain ⟨r, hr⟩ : ∃ r, r = P (xss.getD k []) := ⟨_, rfl⟩
      have HR := Lib.hid hr
      rw [← hr] at HC HB3
      clear e0 hn2 hps hnb hr HPS
      cases r
      · have hal : al = false := HB3.out rfl
        subst hal
        go_wp2
        go_still_tail 6, (by kernel_rfl)
        go_wp2_with fail
        refine HC.out.mono ?_
        rintro e w3 ⟨rfl, hb3'⟩
        have hb3 := below_of_drew hb3'
        go_wp2
        go_ret
        exact ⟨ret_b (by simp), HBW.out.trans (hb3.mono HBW.out.size)⟩
      · go_wp2
        go_still_tail 6, (by kernel_rfl)
        go_wp2_with fail
        refine HC.out.mono ?_
        rintro e w3 ⟨rfl, hb3'⟩
        have hb3 := below_of_drew hb3'
        have HB4 := Lib.hid (HB.out.trans (hb3.mono HB.out.size))
        clear q0 q1 q2 hb3 hb3'
        go_wp2
        go_roundw
        case rel =>
          refine ⟨k + 1, by omega, by go_num, fun j hj => ?_, HB4.out⟩
          rcases Nat.lt_or_ge j k with h1 | h1
          · exact HP.out j h1
          · obtain rfl : j = k := by omega
            exact HR.out.symm
        case measure => simp [intOf]; omega
    · obtain rfl : k = m := by omega
      have hal : al = true := HGOOD.out (by rw [← HM.out]; exact HP.out)
      subst hal
      have HC := Lib.hid (HV.out wr hB0 HG1.out)
      have HIR := Lib.hid fun (w' : World) => spec_inRange k 1 10 w'
      have HIQ := Lib.hid fun (w' : World) => spec_inRange ix 0 ((k : Int) - 1) w'
      obtain ⟨r1, hr1⟩ : ∃ r, r = rng k 1 10 := ⟨_, rfl⟩
      obtain ⟨r2, hr2⟩ : ∃ r, r = rng ix 0 ((k : Int) - 1) := ⟨_, rfl⟩
      rw [← hr1] at HIR
      rw [← hr2] at HIQ
      have HR1 := Lib.hid hr1
      have HR2 := Lib.hid hr2
      clear hr1 hr2
      cases vg
      · go_wp2_with fail
        refine HC.out.mono ?_
        rintro e w3 ⟨rfl, hb3⟩
        go_wp2
        go_ret
        exact ⟨ret_b (by simp), HBW.out.trans (hb3.mono HBW.out.size)⟩
      · cases r1
        · go_wp2_with fail
          refine HC.out.mono ?_
          rintro e w3 ⟨rfl, hb3⟩
          have p1 := (hb3.cell (p := ⟨w.heap.size + 1, 0, none⟩) (by have := HB.out.size; simp; omega)).trans q1
          have HB4 := Lib.hid (HBW.out.trans (hb3.mono HBW.out.size))
          clear q0 q1 q2 hb3
          go_wp2_with fail
          refine (HIR.out _).mono ?_
          rintro e w4 ⟨rfl, rfl⟩
          go_wp2
          go_ret
          exact ⟨ret_b (by rw [← HR1.out, ← HR2.out]; simp), HB4.out⟩
        · go_wp2_with fail
          refine HC.out.mono ?_
          rintro e w3 ⟨rfl, hb3⟩
          have p1 := (hb3.cell (p := ⟨w.heap.size + 1, 0, none⟩) (by have := HB.out.size; simp; omega)).trans q1
          have p2 := (hb3.cell (p := ⟨w.heap.size + 1, 1, none⟩) (by have := HB.out.size; simp; omega)).trans q2
          have HB4 := Lib.hid (HBW.out.trans (hb3.mono HBW.out.size))
          clear q0 q1 q2 hb3
          go_wp2_with fail
          refine (HIR.out _).mono ?_
          rintro e w4 ⟨rfl, rfl⟩
          go_wp2_with fail
          refine (HIQ.out _).mono ?_
          rintro e w5 ⟨rfl, rfl⟩
          go_wp2
          go_ret
          exact ⟨ret_b (by rw [← HR1.out, ← HR2.out]; simp), HB4.out⟩

set_option maxRecDepth 100000 in
set_option maxHeartbeats 1600000 in
theorem impl_ValidHistory (A A1 : Option Addr) (n c m c1 : Nat) (gs : List Nd) (st : Hi) (w : World) (B : Nat) (hB : B ≤ w.heap.size) (hn : n = gs.length) (hnc : n ≤ c) (hm : m = st.ss.length) (h : GS w B A gs) (h' : HiS w B A1 st) (hG : GB gs) (hH : HiB st) :
    Calls Try.prog 13 #[.agg #[.slice A n c], .agg #[.slice A1 m c1, .int .i64 st.ix]] w fun e w' => e = .returned (.bool (validHi gs st)) ∧ Below w.heap.size w w' := by
  have hm1 : m ≤ 1048576 := by rw [hm]; exact hH.1
  have H := Lib.hid h
  have HI := Lib.hid (show SS w B A1 st.ss from h')
  have HM := Lib.hid hm
  have HD := Lib.hid fun (A' : Option Addr) (m' c' : Nat) (xs : List Int) (w' : World) (hB : B ≤ w'.heap.size) (hm' : m' = xs.length) (hl : m' ≤ 2000000) (h : GS w' B A gs) (h' : IS w' B A' xs) => impl_ValidCells A A' n c m' c' gs xs w' B hB hn hnc hm' h h' hG hl
  have HLB := Lib.hid hH.2.1.2
  have hval : validHi gs st = (validG gs && rng st.ss.length 1 10 && rng st.ix 0 (st.ss.length - 1) && st.ss.all (validC gs)) := rfl
  rw [← hm] at hval
  rw [hval]
  obtain ⟨xss, ix⟩ := st
  dsimp only at *
  have HOK := Lib.hid fun (xs : List Int) => show okC gs xs = (validG gs && validC gs xs) from rfl
  have HALL := Lib.hid (allS_bad xss (validC gs))
  have HGOOD := Lib.hid (allS_good xss (validC gs))
  have HIR := Lib.hid fun (w' : World) => impl_inRange ix ((m : Int) - 1) w'
  obtain ⟨r2, hr2⟩ : ∃ r, r = rng ix 0 ((m : Int) - 1) := ⟨_, rfl⟩
  rw [← hr2] at HIR
  rw [← hr2]
  have HR2 := Lib.hid hr2
  generalize okC gs = Q at *
  generalize validC gs = P at *
  generalize xss.all P = al at *
  generalize validG gs = vg at *
  clear h h' hn hm hG hH hval hr2
  obtain ⟨W2, hW2⟩ : ∃ W, W = (w.alloc (.cells #[.slice A n c] 33)).alloc (.cells #[.slice A1 m c1, .int .i64 ix] 35) := ⟨_, rfl⟩
  have hb2 : Below w.heap.size w W2 := by rw [hW2]; exact ((Below.refl _ _).alloc (Nat.le_refl _) _).alloc (by simp) _
  have hs2 : W2.heap.size = w.heap.size + 2 := by rw [hW2]; simp
  have q0 : W2.cell? ⟨w.heap.size, 0, none⟩ = some (.slice A n c) := by rw [hW2]; go_simp
  have HB2 := Lib.hid hb2
  have HQ0 := Lib.hid q0
  have HS2 := Lib.hid hs2
  have hs3 : w.heap.size + 2 ≤ W2.heap.size := by omega
  have HW2 := Lib.hid hW2
  clear hW2 hb2 hs2 q0
  by_cases h10 : 10 < m
  · have hf : rng m 1 10 = false := by simp [rng]; omega
    rw [hf]
    have hgt : (10 : Int) < (m : Int) := by omega
    clear hf
    go_enter Try.func13, Try.ntmps13
    go_wp2
    go_ret
    exact ⟨ret_b (by simp), by have := HB2.out; rw [HW2.out] at this; exact this⟩
  have hgt : ¬ (10 : Int) < (m : Int) := by omega
  cases r2
  · go_enter Try.func13, Try.ntmps13
    go_wp2_with fail
    refine (HIR.out _).mono ?_
    rintro e w4 ⟨rfl, rfl⟩
    go_wp2
    go_ret
    exact ⟨ret_b (by simp), by have := HB2.out; rw [HW2.out] at this; exact this⟩
  have hm0 : 1 ≤ m := by
    have := HR2.out.symm
    simp [rng] at this; omega
  have hrg : rng m 1 10 = true := by simp [rng]; omega
  rw [hrg]
  clear hrg
  go_enter Try.func13, Try.ntmps13
  go_wp2_with fail
  refine (HIR.out _).mono ?_
  rintro e w4 ⟨rfl, rfl⟩
  go_wp2
  go_loopw [24] (fun i wr => ∃ k : Nat, k ≤ m ∧ i = .int .i64 k ∧ Hid (∀ j, j < k → Q (xss.getD j []) = true) ∧ Hid (Below W2.heap.size W2 wr)) (fun i _ => m - (intOf i).toNat)
  case atStart => exact ⟨0, Nat.zero_le _, rfl, fun j hj => by omega, by rw [HW2.out]; exact Below.refl _ _⟩
  case round =>
    obtain ⟨k, hk, rfl, HP, HB⟩ := hrel
    have q0 := (HB.out.cell (p := ⟨w.heap.size, 0, none⟩) (by simp; omega)).trans HQ0.out
    have HG1 := Lib.hid ((H.out.below HB2.out hB).below HB.out (by omega))
    have hB0 : B ≤ wr.heap.size := by have := HB.out.size; omega
    have HBW := Lib.hid (HB2.out.trans (HB.out.mono (by omega)))
    by_cases hlt : k < m
    · obtain ⟨b, off, rfl, hbB, A2, n2, c2, e0, hn2, hps⟩ := HI.out.at_ k (by have := HM.out; omega)
      have e1 := (HBW.out.cell (p := ⟨b, off + k, none⟩) (by simp; omega)).trans e0
      have HPS := Lib.hid (hps.below HBW.out hB)
      have hnb := HLB.out k
      have HC := Lib.hid (HD.out A2 n2 c2 (xss.getD k []) wr hB0 hn2 (by omega) HG1.out HPS.out)
      have HB3 := Lib.hid (HALL.out k (by have := HM.out; omega))
      have HOK3 := Lib.hid (HOK.out (xss.getD k []))
      obtain ⟨r, hr⟩ : ∃ r, r = Q (xss.getD k []) := ⟨_, rfl⟩
      have HR := Lib.hid hr
      rw [← hr] at HC HOK3
      clear e0 hn2 hps hnb hr HPS
      cases r
      · have hal : (vg && al) = false := by
          have h3 := HOK3.out
          cases vg
          · rfl
          · simpa using HB3.out (by simpa using h3.symm)
        go_wp2_with fail
        refine HC.out.mono ?_
        rintro e w3 ⟨rfl, hb3⟩
        go_wp2
        go_ret
        exact ⟨ret_b (by cases vg <;> simp_all), HBW.out.trans (hb3.mono HBW.out.size)⟩
      · go_wp2_with fail
        refine HC.out.mono ?_
        rintro e w3 ⟨rfl, hb3⟩
        have HB4 := Lib.hid (HB.out.trans (hb3.mono HB.out.size))
        clear q0 hb3
        go_wp2
        go_roundw
        case rel =>
          refine ⟨k + 1, by omega, by go_num, fun j hj => ?_, HB4.out⟩
          rcases Nat.lt_or_ge j k with h1 | h1
          · exact HP.out j h1
          · obtain rfl : j = k := by omega
            exact HR.out.symm
        case measure => simp [intOf]; omega
    · obtain rfl : k = m := by omega
      have hvg : vg = true := by
        have h1 := HP.out 0 (by omega)
        rw [HOK.out] at h1
        cases vg <;> simp_all
      have hal : al = true := HGOOD.out (by
        rw [← HM.out]
        intro j hj
        have h1 := HP.out j hj
        rw [HOK.out, hvg] at h1
        simpa using h1)
      subst hvg
      subst hal
      go_wp2
      go_ret
      exact ⟨ret_b (by simp), HBW.out⟩

theorem top_spec_ValidHistory (gs : List Nd) (st : Hi) (hG : GB gs) (hH : HiB st) : ∀ (A : Option Addr) (n c : Nat) (A1 : Option Addr) (m c1 : Nat) (w : World), n = gs.length → n ≤ c → GS w w.heap.size A gs → m = st.ss.length → HiS w w.heap.size A1 st →
    Calls Try.prog 10 #[.agg #[.slice A n c], .agg #[.slice A1 m c1, .int .i64 st.ix]] w fun e w' => e = .returned (.bool (validHi gs st)) ∧ Below w.heap.size w w' := by
  intro A n c A1 m c1 w hn _ h hm h'
  have HC := Lib.hid fun (w' : World) (hB : w.heap.size ≤ w'.heap.size) (h : GS w' w.heap.size A gs) (h' : HiS w' w.heap.size A1 st) => spec_validHistory A A1 n c m c1 gs st w' w.heap.size hB hn hm h h' hG hH
  have H := Lib.hid h
  have HI := Lib.hid (show SS w w.heap.size A1 st.ss from h')
  obtain ⟨xss, ix⟩ := st
  generalize validHi gs ⟨xss, ix⟩ = r at *
  dsimp only at *
  clear hn hm h h' hG hH
  go_enter Try.func10, Try.ntmps10
  go_wp2_with fail
  refine (HC.out _ (by simp; omega) ((H.out.alloc (Nat.le_refl _) _).alloc (by simp) _) ((HI.out.alloc (Nat.le_refl _) _).alloc (by simp) _)).mono ?_
  rintro e w1 ⟨rfl, hb⟩
  go_wp2
  go_ret
  exact ⟨rfl, (((Below.refl _ _).alloc (Nat.le_refl _) _).alloc (by simp) _).trans (hb.mono (by simp; omega))⟩

theorem top_impl_ValidHistory (gs : List Nd) (st : Hi) (hG : GB gs) (hH : HiB st) : ∀ (A : Option Addr) (n c : Nat) (A1 : Option Addr) (m c1 : Nat) (w : World), n = gs.length → n ≤ c → GS w w.heap.size A gs → m = st.ss.length → HiS w w.heap.size A1 st →
    Calls Try.prog 13 #[.agg #[.slice A n c], .agg #[.slice A1 m c1, .int .i64 st.ix]] w fun e w' => e = .returned (.bool (validHi gs st)) ∧ Below w.heap.size w w' :=
  fun A n c A1 m c1 w hn hnc h hm h' => impl_ValidHistory A A1 n c m c1 gs st w w.heap.size (Nat.le_refl _) hn hnc hm h h' hG hH
end Go.Proofs.Ytlliomnfbgdpfaa
