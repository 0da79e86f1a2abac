/- The standing contracts of ValidEager. -/
import Derived.Test.YthephbppeiealaaM6
import Derived.Test.YthephbppeiealaaE2
import Derived.Test.YthephbppeiealaaT5
namespace Go.Proofs.Ythephbppeiealaa
set_option linter.unusedSimpArgs false
set_option linter.unusedVariables false
open Go.RowKit

set_option maxHeartbeats 800000 in
theorem spec_sameInts (A A' : Option Addr) (n n' c c' : Nat) (a b : List Int) (w : World) (B : Nat) (hB : B ≤ w.heap.size) (hn : n = a.length) (hn' : n' = b.length) (h : IS w B A a) (h' : IS w B A' b) (hs : n ≤ 2000000) (hs' : n' ≤ 2000000) :
    Calls Try.prog 130 #[.slice A n c, .slice A' n' c'] w fun e w' => e = .returned (.bool (decide (a = b))) ∧ Below w.heap.size w w' := by
  by_cases hl : n = n'
  · have hne : ((n : Int) != (n' : Int)) = false := by simp [hl]
    subst hl
    have HC := Lib.hid (spec_differing A A' n c c' a b w B hB hn hn' h h' hs)
    have HD := Lib.hid (diffTo_same a b n hn hn')
    have hd0 := diffTo_len a b n
    generalize diffTo a b n = D at *
    generalize decide (a = b) = r at *
    clear hn hn' h h'
    go_enter Try.func130, Try.ntmps130
    go_wp2_with fail
    refine HC.out.mono ?_
    rintro e w1 ⟨v, rfl, ho, hb⟩
    obtain ⟨A1, c1, rfl, _⟩ := OwnI.form ho
    have hd := HD.out
    cases r
    · have h0 : ((D.length : Int) == 0) = false := by simp at hd ⊢; omega
      clear ho hd
      go_wp2
      go_ret
      exact ⟨rfl, hb⟩
    · have h0 : ((D.length : Int) == 0) = true := by simp at hd ⊢; omega
      clear ho hd
      go_wp2
      go_ret
      exact ⟨rfl, hb⟩
  · have hne : ((n : Int) != (n' : Int)) = true := by simp; omega
    have hf : decide (a = b) = false := by rw [decide_eq_false_iff_not]; rintro rfl; omega
    rw [hf]
    clear hl hn hn' h h' hf
    go_enter Try.func130, Try.ntmps130
    go_wp2
    go_ret
    exact ⟨rfl, Below.refl _ _⟩

set_option maxHeartbeats 800000 in
theorem slices_Equal (A A' : Option Addr) (n n' c c' : Nat) (a b : List Int) (w : World) (B : Nat) (hB : B ≤ w.heap.size) (hn : n = a.length) (hn' : n' = b.length) (h : IS w B A a) (h' : IS w B A' b) (hs : n ≤ 2000000) (hs' : n' ≤ 2000000) :
    Calls Try.prog 68 #[.slice A n c, .slice A' n' c'] w fun e w' => e = .returned (.bool (decide (a = b))) ∧ Below w.heap.size w w' := by
  by_cases hl : n = n'
  · have hne : ((n : Int) != (n' : Int)) = false := by simp [hl]
    have HL := Lib.hid hl
    have HN := Lib.hid hn
    have HN' := Lib.hid hn'
    have H := Lib.hid h
    have H' := Lib.hid h'
    clear hl hn hn' h h'
    go_enter Try.func68, Try.ntmps68
    go_wp2
    go_loopw [13] (fun i wr => ∃ k : Nat, k ≤ n ∧ i = .int .i64 k ∧ Hid (∀ j, j < k → a.getD j 0 = b.getD j 0) ∧ Below w.heap.size w wr) (fun i _ => n - (intOf i).toNat)
    case atStart => exact ⟨0, Nat.zero_le _, rfl, fun j hj => by omega, Below.refl _ _⟩
    case round =>
      obtain ⟨k, hk, rfl, HT, hb⟩ := hrel
      by_cases hlt : k < n
      · have hlt' : k < n' := by have := HL.out; omega
        obtain ⟨b1, off, rfl, hbB, hc⟩ := H.out (by have := HN.out; omega)
        obtain ⟨b2, off', rfl, hbB', hc'⟩ := H'.out (by have := HN'.out; omega)
        have d1 := hc k (by have := HN.out; omega)
        have d2 := hc' k (by have := HN'.out; omega)
        have e1 := (hb.cell (p := ⟨b1, off + k, none⟩) (by simp; omega)).trans d1
        have e2 := (hb.cell (p := ⟨b2, off' + k, none⟩) (by simp; omega)).trans d2
        clear hc hc' d1 d2 H H'
        have HNE : Hid (a.getD k 0 ≠ b.getD k 0 → decide (a = b) = false) := fun hh => by rw [decide_eq_false_iff_not]; rintro rfl; exact hh rfl
        have HEQ : Hid (a.getD k 0 = b.getD k 0 → ∀ j, j < k + 1 → a.getD j 0 = b.getD j 0) := fun hh j hj => by
          rcases Nat.lt_or_ge j k with h1 | h1
          · exact HT.out j h1
          · obtain rfl : j = k := by omega
            exact hh
        generalize a.getD k 0 = x at *
        generalize b.getD k 0 = y at *
        cases hxy : (x == y)
        · have hne2 : (x != y) = true := by simp [bne, hxy]
          have HF := Lib.hid (HNE.out (by simpa using hxy))
          clear hxy
          go_wp2
          go_region
          go_wp2
          go_ret
          exact ⟨ret_b HF.out.symm, hb.drew⟩
        · have hne2 : (x != y) = false := by simp [bne, hxy]
          have HF := Lib.hid (HEQ.out (by simpa using hxy))
          clear hxy
          go_wp2
          go_region
          go_wp2
          go_roundw
          case rel => exact ⟨k + 1, by omega, by go_num, HF.out, hb.drew⟩
          case measure => simp [intOf]; omega
      · obtain rfl : k = n := by omega
        go_wp2
        go_ret
        refine ⟨ret_b ?_, hb⟩
        symm
        apply decide_eq_true
        have h1 := HN.out
        have h2 := HN'.out
        have h3 := HL.out
        apply List.ext_getElem (by omega)
        intro j hj hj'
        have := HT.out j (by omega)
        simpa [List.getD, hj, hj'] using this
  · have hne : ((n : Int) != (n' : Int)) = true := by simp; omega
    have hf : decide (a = b) = false := by rw [decide_eq_false_iff_not]; rintro rfl; omega
    rw [hf]
    clear hl hn hn' h h' hf
    go_enter Try.func68, Try.ntmps68
    go_wp2
    go_ret
    exact ⟨rfl, Below.refl _ _⟩

set_option maxRecDepth 100000 in
set_option maxHeartbeats 3200000 in
theorem spec_validEager (A A' E : Option Addr) (n c m c' p ec : Nat) (gs : List Nd) (st : Eg) (w : World) (B : Nat) (hB : B ≤ w.heap.size) (hn : n = gs.length) (hm : m = st.vs.length) (hp : p = st.rs.length) (h : GS w B A gs) (h' : ES w B A' E st) (hs : GB gs) (hb0 : EB st) :
    Calls Try.prog 62 #[.agg #[.slice A n c], .agg #[.slice A' m c', .slice E p ec]] w fun e w' => e = .returned (.bool (validE gs st)) ∧ Below w.heap.size w w' := by
  have HC := Lib.hid fun (w' : World) (hB : B ≤ w'.heap.size) (h : GS w' B A gs) => spec_validGraph A n c gs w' B hB hn h hs
  have hm1 : m ≤ 1048576 := by rw [hm]; exact hb0.1
  have hp1 : p ≤ 1048576 := by rw [hp]; exact hb0.2.1.1
  have hn1 : n ≤ 1048576 := by rw [hn]; exact hs.1
  have hve : validE gs st = (validG gs && (decide (st.vs.length = gs.length) && (decide (st.rs.length = gs.length) && (allR st.vs 0 999 && allE gs st)))) := rfl
  rw [← hn, ← hm, ← hp] at hve
  have H := Lib.hid h
  have H' := Lib.hid h'
  have HN := Lib.hid hn
  have HM := Lib.hid hm
  have HP := Lib.hid hp
  have HSB := Lib.hid hb0.2.1
  cases hvg : validG gs
  · have hf : validE gs st = false := by rw [hve, hvg]; rfl
    rw [hf]
    rw [hvg] at HC
    clear hf hve hvg h h' hn hm hp hs hb0
    go_enter Try.func62, Try.ntmps62
    go_wp2_with fail
    refine (HC.out _ (by simp; omega) ((H.out.alloc hB _).alloc (by simp; omega) _)).mono ?_
    rintro e w1 ⟨rfl, hb⟩
    go_wp2
    go_ret
    exact ⟨rfl, (((Below.refl _ _).alloc (Nat.le_refl _) _).alloc (by simp) _).trans (hb.mono (by simp; omega))⟩
  rw [hvg] at HC
  by_cases hl1 : m = n
  case neg =>
    have hne : ((m : Int) != (n : Int)) = true := by simp; omega
    have hf : validE gs st = false := by rw [hve, decide_eq_false hl1]; simp
    rw [hf]
    clear hf hve hvg h h' hn hm hp hs hb0
    go_enter Try.func62, Try.ntmps62
    go_wp2_with fail
    refine (HC.out _ (by simp; omega) ((H.out.alloc hB _).alloc (by simp; omega) _)).mono ?_
    rintro e w1 ⟨rfl, hb⟩
    have q0 : w1.cell? ⟨w.heap.size, 0, none⟩ = some (.slice A n c) := (hb.cell (p := ⟨w.heap.size, 0, none⟩) (by simp; omega)).trans (by go_simp)
    have q1 : w1.cell? ⟨w.heap.size + 1, 0, none⟩ = some (.slice A' m c') := (hb.cell (p := ⟨w.heap.size + 1, 0, none⟩) (by simp)).trans (by go_simp)
    have q2 : w1.cell? ⟨w.heap.size + 1, 1, none⟩ = some (.slice E p ec) := (hb.cell (p := ⟨w.heap.size + 1, 1, none⟩) (by simp)).trans (by go_simp)
    have hB1 : Below w.heap.size w w1 := (((Below.refl _ _).alloc (Nat.le_refl _) _).alloc (by simp) _).trans (hb.mono (by simp; omega))
    have hl1 : w.heap.size + 2 ≤ w1.heap.size := by have := hb.size; simp at this; omega
    go_wp2
    go_ret
    exact ⟨rfl, hB1⟩
  have hne1 : ((m : Int) != (n : Int)) = false := by simp [hl1]
  by_cases hl2 : p = n
  case neg =>
    have hne : ((p : Int) != (n : Int)) = true := by simp; omega
    have hf : validE gs st = false := by rw [hve, decide_eq_false hl2]; simp
    rw [hf]
    clear hf hve hvg h h' hn hm hp hs hb0 hl1
    go_enter Try.func62, Try.ntmps62
    go_wp2_with fail
    refine (HC.out _ (by simp; omega) ((H.out.alloc hB _).alloc (by simp; omega) _)).mono ?_
    rintro e w1 ⟨rfl, hb⟩
    have q0 : w1.cell? ⟨w.heap.size, 0, none⟩ = some (.slice A n c) := (hb.cell (p := ⟨w.heap.size, 0, none⟩) (by simp; omega)).trans (by go_simp)
    have q1 : w1.cell? ⟨w.heap.size + 1, 0, none⟩ = some (.slice A' m c') := (hb.cell (p := ⟨w.heap.size + 1, 0, none⟩) (by simp)).trans (by go_simp)
    have q2 : w1.cell? ⟨w.heap.size + 1, 1, none⟩ = some (.slice E p ec) := (hb.cell (p := ⟨w.heap.size + 1, 1, none⟩) (by simp)).trans (by go_simp)
    have hB1 : Below w.heap.size w w1 := (((Below.refl _ _).alloc (Nat.le_refl _) _).alloc (by simp) _).trans (hb.mono (by simp; omega))
    have hl1 : w.heap.size + 2 ≤ w1.heap.size := by have := hb.size; simp at this; omega
    go_wp2
    go_ret
    exact ⟨rfl, hB1⟩
  have hne2 : ((p : Int) != (n : Int)) = false := by simp [hl2]
  have HAR := Lib.hid fun (w' : World) (hB : B ≤ w'.heap.size) (h : IS w' B A' st.vs) => spec_allIn A' m c' st.vs 0 999 w' B hB hm h (by omega)
  cases hr : allR st.vs 0 999
  · have hf : validE gs st = false := by rw [hve, hr]; simp
    rw [hf]
    rw [hr] at HAR
    clear hf hve hvg h h' hn hm hp hs hb0 hl1 hl2 hr
    go_enter Try.func62, Try.ntmps62
    go_wp2_with fail
    refine (HC.out _ (by simp; omega) ((H.out.alloc hB _).alloc (by simp; omega) _)).mono ?_
    rintro e w1 ⟨rfl, hb⟩
    have q0 : w1.cell? ⟨w.heap.size, 0, none⟩ = some (.slice A n c) := (hb.cell (p := ⟨w.heap.size, 0, none⟩) (by simp; omega)).trans (by go_simp)
    have q1 : w1.cell? ⟨w.heap.size + 1, 0, none⟩ = some (.slice A' m c') := (hb.cell (p := ⟨w.heap.size + 1, 0, none⟩) (by simp)).trans (by go_simp)
    have q2 : w1.cell? ⟨w.heap.size + 1, 1, none⟩ = some (.slice E p ec) := (hb.cell (p := ⟨w.heap.size + 1, 1, none⟩) (by simp)).trans (by go_simp)
    have hB1 : Below w.heap.size w w1 := (((Below.refl _ _).alloc (Nat.le_refl _) _).alloc (by simp) _).trans (hb.mono (by simp; omega))
    have hl1 : w.heap.size + 2 ≤ w1.heap.size := by have := hb.size; simp at this; omega
    go_wp2_with fail
    refine (HAR.out _ (by omega) (((H'.out.1.alloc hB _).alloc (by simp; omega) _).below hb (by simp; omega))).mono ?_
    rintro e w' ⟨rfl, rfl⟩
    go_wp2
    go_ret
    exact ⟨rfl, hB1⟩
  rw [hr] at HAR
  have hf : validE gs st = allE gs st := by rw [hve, hvg, decide_eq_true hl1, decide_eq_true hl2, hr]; simp
  rw [hf]
  have hvo : VOK st.vs := allR_VOK st.vs hr
  have hn10 : n ≤ 10 := by rw [hn]; exact (validG_parts gs hvg).1
  have HRUN := Lib.hid fun (i : Nat) (hi : i < gs.length) (hk : ((gs.getD i default).k == 0) = false) (A1 : Option Addr) (n1 c1 : Nat) (hn1 : n1 = (gs.getD i default).ps.length) (w' : World) (B1 : Nat) (hB : B1 ≤ w'.heap.size) (h : PS w' B1 A1 (gs.getD i default).ps) (h' : IS w' B1 A' st.vs) =>
    (show Calls _ _ _ _ _ from
      have hce := eager_canEv gs st.vs i hvg (by omega) hr hi hk
      have hcp := canEv_parts _ _ hce
      have hg := validF_good _ hcp.1
      spec_run A1 A' n1 c1 m c' (gs.getD i default).ps st.vs B1 hn1 hm hg.1 (by rw [hm]; exact hcp.2.2.2) hvo (by omega) (by omega) (by omega) w' hB h h')
  have HBAD := Lib.hid fun (i : Nat) (hi : i < gs.length) => allE_bad gs st i hi
  have HFBD := Lib.hid fun (i : Nat) (hi : i < gs.length) => eager_depF_bd gs st.vs hvg (by omega) i hi
  have HFIN := Lib.hid (allE_fin gs st)
  have HL1 := Lib.hid hl1
  have HL2 := Lib.hid hl2
  clear hf hve hvg h h' hn hm hp hs hb0 hl1 hl2 hr hvo
  go_enter Try.func62, Try.ntmps62
  go_wp2_with fail
  refine (HC.out _ (by simp; omega) ((H.out.alloc hB _).alloc (by simp; omega) _)).mono ?_
  rintro e w1 ⟨rfl, hb⟩
  have q0 : w1.cell? ⟨w.heap.size, 0, none⟩ = some (.slice A n c) := (hb.cell (p := ⟨w.heap.size, 0, none⟩) (by simp; omega)).trans (by go_simp)
  have q1 : w1.cell? ⟨w.heap.size + 1, 0, none⟩ = some (.slice A' m c') := (hb.cell (p := ⟨w.heap.size + 1, 0, none⟩) (by simp)).trans (by go_simp)
  have q2 : w1.cell? ⟨w.heap.size + 1, 1, none⟩ = some (.slice E p ec) := (hb.cell (p := ⟨w.heap.size + 1, 1, none⟩) (by simp)).trans (by go_simp)
  have hB1 : Below w.heap.size w w1 := (((Below.refl _ _).alloc (Nat.le_refl _) _).alloc (by simp) _).trans (hb.mono (by simp; omega))
  have hl1 : w.heap.size + 2 ≤ w1.heap.size := by have := hb.size; simp at this; omega
  have HG1 := Lib.hid (((H.out.alloc hB (.cells #[.slice A n c] 34)).alloc (by simp; omega) (.cells #[.slice A' m c', .slice E p ec] 36)).below hb (by simp; omega))
  have HE1 := Lib.hid (((H'.out.alloc hB (.cells #[.slice A n c] 34)).alloc (by simp; omega) (.cells #[.slice A' m c', .slice E p ec] 36)).below hb (by simp; omega))
  clear hb H H' HC
  go_wp2_with fail
  refine (HAR.out _ (by omega) HE1.out.1).mono ?_
  rintro e w' ⟨rfl, rfl⟩
  clear HAR
  go_wp2
  go_loopw [5] (fun u wr => ∃ k : Nat, k ≤ n ∧ u = .int .i64 k ∧ Hid (∀ i, i < k → okE gs st i = true) ∧ Hid (Below w1.heap.size w1 wr) ∧ w1.heap.size ≤ wr.heap.size) (fun u _ => n - (intOf u).toNat)
  case atStart => exact ⟨0, Nat.zero_le _, rfl, fun i hi => by omega, Below.refl _ _, Nat.le_refl _⟩
  case round =>
    obtain ⟨k, hk, rfl, HK, HB, hwr⟩ := hrel
    have r0 := (HB.out.cell (p := ⟨w.heap.size, 0, none⟩) (by simp; omega)).trans q0
    have r1 := (HB.out.cell (p := ⟨w.heap.size + 1, 0, none⟩) (by simp; omega)).trans q1
    have r2 := (HB.out.cell (p := ⟨w.heap.size + 1, 1, none⟩) (by simp; omega)).trans q2
    by_cases hlt : k < n
    · have hkg : k < gs.length := by have := HN.out; omega
      have hkm : k < m := by have := HL1.out; omega
      have hkp : k < p := by have := HL2.out; omega
      obtain ⟨b, off, hA, hbB, c0, A1, n1, c1, c2, hn1', hps⟩ := HG1.out.at_ k hkg
      obtain ⟨b2, off2, hA', hbB2, hcx⟩ := HE1.out.1 (by have := HM.out; omega)
      have d0 := hcx k (by have := HM.out; omega)
      obtain ⟨b3, off3, hE, hbB3, A3, n3, c3, d1, hn3, hls⟩ := HE1.out.2.at_ k (by have := HP.out; omega)
      have e0 := (HB.out.cell (p := ⟨b, off + k * 2, none⟩) (by simp; omega)).trans c0
      have e1 := (HB.out.cell (p := ⟨b, off + k * 2 + 1, none⟩) (by simp; omega)).trans c2
      have e2 := (HB.out.cell (p := ⟨b2, off2 + k, none⟩) (by simp; omega)).trans d0
      have e3 := (HB.out.cell (p := ⟨b3, off3 + k, none⟩) (by simp; omega)).trans d1
      have HPS := Lib.hid (hps.below HB.out (by omega))
      have HIS := Lib.hid (HE1.out.1.below HB.out (by omega))
      have HLS := Lib.hid (hls.below HB.out (by omega))
      have hn3b : n3 ≤ 1048576 := by rw [hn3]; exact HSB.out.2 k
      have HNK := Lib.hid (HBAD.out k hkg)
      have HNT : Hid (okE gs st k = true → ∀ i, i < k + 1 → okE gs st i = true) := fun h j hj => by
        rcases Nat.lt_or_ge j k with h1 | h1
        · exact HK.out j h1
        · obtain rfl : j = k := by omega
          exact h
      have hoe : okE gs st k = (valE gs st.vs k == st.vs.getD k 0 && decide (depF gs st.vs k = st.rs.getD k [])) := rfl
      have hvl : valE gs st.vs k = if (gs.getD k default).k == 0 then st.vs.getD k 0 else (whole (gs.getD k default).ps).ev st.vs := rfl
      have hdl : depF gs st.vs k = if (gs.getD k default).k == 0 then [] else firsts ((whole (gs.getD k default).ps).rds st.vs) := rfl
      have HRK := Lib.hid fun (hk : ((gs.getD k default).k == 0) = false) => HRUN.out k hkg hk A1 n1 c1 hn1'
      have HN3 := Lib.hid hn3
      have z0 : w.heap.size < wr.heap.size := by omega
      have z1 : w.heap.size + 1 < wr.heap.size := by omega
      have z2 : b < wr.heap.size := by omega
      have z3 : b2 < wr.heap.size := by omega
      have z4 : b3 < wr.heap.size := by omega
      clear c0 c2 d0 d1 hcx hps hls hn3 hn1' HK HBAD
      rw [hvl, hdl] at hoe
      have hfb := HFBD.out k hkg
      rw [hdl] at hfb
      clear hvl hdl HFBD
      generalize okE gs st k = r at *
      generalize gs.getD k default = d at *
      generalize st.vs.getD k 0 = x at *
      generalize st.rs.getD k [] = L at *
      cases hd : (d.k == 0)
      · have hd' : (d.k != 0) = true := by simp [bne, hd]
        have HR := Lib.hid (HRK.out hd)
        rw [hd] at hoe
        rw [hd] at hfb
        simp only [Bool.false_eq_true, if_false] at hoe hfb
        have HFB := Lib.hid hfb
        clear hfb
        generalize (whole d.ps).ev st.vs = X at *
        generalize firsts ((whole d.ps).rds st.vs) = F at *
        subst hA hA' hE
        clear hd HRK
        go_wp2
        obtain ⟨W2, hW2⟩ : ∃ W2, W2 = wr.alloc (.cells #[] 3) := ⟨_, rfl⟩
        have s0 : W2.cell? ⟨w.heap.size, 0, none⟩ = some (.slice (some ⟨b, off, none⟩) n c) := by rw [hW2]; exact (World.cell?_alloc_lt wr _ _ z0).trans r0
        have s1 : W2.cell? ⟨w.heap.size + 1, 0, none⟩ = some (.slice (some ⟨b2, off2, none⟩) m c') := by rw [hW2]; exact (World.cell?_alloc_lt wr _ _ z1).trans r1
        have s2 : W2.cell? ⟨w.heap.size + 1, 1, none⟩ = some (.slice (some ⟨b3, off3, none⟩) p ec) := by rw [hW2]; exact (World.cell?_alloc_lt wr _ _ z1).trans r2
        have t0 : W2.cell? ⟨b, off + k * 2, none⟩ = some (.int .i64 d.k) := by rw [hW2]; exact (World.cell?_alloc_lt wr _ _ z2).trans e0
        have t1 : W2.cell? ⟨b, off + k * 2 + 1, none⟩ = some (.slice A1 n1 c1) := by rw [hW2]; exact (World.cell?_alloc_lt wr _ _ z2).trans e1
        have t2 : W2.cell? ⟨b2, off2 + k, none⟩ = some (.int .i64 x) := by rw [hW2]; exact (World.cell?_alloc_lt wr _ _ z3).trans e2
        have t3 : W2.cell? ⟨b3, off3 + k, none⟩ = some (.slice A3 n3 c3) := by rw [hW2]; exact (World.cell?_alloc_lt wr _ _ z4).trans e3
        have hs2 : wr.heap.size ≤ W2.heap.size := by rw [hW2]; simp
        have HPS2 : Hid (PS W2 B A1 d.ps) := by rw [hW2]; exact HPS.out.alloc (by omega) _
        have HIS2 : Hid (IS W2 B (some ⟨b2, off2, none⟩) st.vs) := by rw [hW2]; exact HIS.out.alloc (by omega) _
        have HLS2 : Hid (IS W2 B A3 L) := by rw [hW2]; exact HLS.out.alloc (by omega) _
        have HB2 : Hid (Below w1.heap.size w1 W2) := by rw [hW2]; exact HB.out.alloc hwr _
        rw [← hW2]
        clear hW2 r0 r1 r2 e0 e1 e2 e3 z0 z1 z2 z3 z4 HPS HIS HLS HB
        have hBW : B ≤ W2.heap.size := by omega
        have v0 : w.heap.size < W2.heap.size := by omega
        have v1 : w.heap.size + 1 < W2.heap.size := by omega
        have v2 : b < W2.heap.size := by omega
        go_region_held3 (fun w' => w'.cell? ⟨w.heap.size, 0, none⟩ = some (.slice (some ⟨b, off, none⟩) n c) ∧ w'.cell? ⟨b, off + k * 2 + 1, none⟩ = some (.slice A1 n1 c1) ∧ w'.cell? ⟨w.heap.size + 1, 0, none⟩ = some (.slice (some ⟨b2, off2, none⟩) m c')) (first | exact ⟨s0, t1, s1⟩ | exact ⟨u0, u5, u1⟩)
          (first
            | (go_at_call 129; refine (HR.out W2.drew B hBW HPS2.out HIS2.out).mono ?_; rintro e w5 ⟨v5, rfl, ho, hb5'⟩; obtain ⟨g5, c5, rfl, hg5, hg5'⟩ := ho.form; have hb5 : Below W2.heap.size W2 w5 := below_of_drew hb5'; have u0 := (hb5.cell (p := ⟨w.heap.size, 0, none⟩) v0).trans s0; have u1 := (hb5.cell (p := ⟨w.heap.size + 1, 0, none⟩) v1).trans s1; have u5 := (hb5.cell (p := ⟨b, off + k * 2 + 1, none⟩) v2).trans t1))
        have hs5 : W2.heap.size ≤ w5.heap.size := hb5.size
        have u2 := (hb5.cell (p := ⟨w.heap.size + 1, 1, none⟩) v1).trans s2
        have u3 := (hb5.cell (p := ⟨b2, off2 + k, none⟩) (by show b2 < W2.heap.size; omega)).trans t2
        have u4 := (hb5.cell (p := ⟨b3, off3 + k, none⟩) (by show b3 < W2.heap.size; omega)).trans t3
        have HLS5 := Lib.hid ((HLS2.out.below hb5 hBW).more (B' := w5.heap.size) (by omega))
        have HF5 : Hid (IS w5 w5.heap.size (some ⟨g5, 0, none⟩) F) := IS.of_own ho.1
        have HB5 := Lib.hid (HB2.out.trans (hb5.mono (show w1.heap.size ≤ W2.heap.size by omega)))
        have HSI := Lib.hid (spec_sameInts (some ⟨g5, 0, none⟩) A3 F.length n3 c5 c3 F L w5 w5.heap.size (Nat.le_refl _) rfl HN3.out HF5.out HLS5.out (by have := HFB.out; omega) (by omega))
        generalize F.length = fl at *
        clear ho hb5 s0 s1 s2 t0 t1 t2 t3
        cases hx : (X == x)
        · have hx' : (X != x) = true := by simp [bne, hx]
          have HNF := Lib.hid (HNK.out (by rw [hoe, hx]; rfl))
          clear hx hoe
          go_wp2
          go_ret
          exact ⟨ret_b HNF.out.symm, hB1.trans (HB5.out.mono (by omega))⟩
        · have hx' : (X != x) = false := by simp [bne, hx]
          rw [hx, Bool.true_and] at hoe
          rw [← hoe] at HSI
          clear hx hoe
          go_wp2_with fail
          refine HSI.out.mono ?_
          rintro e w6 ⟨rfl, hb6⟩
          have HB6 := Lib.hid (HB5.out.trans (hb6.mono HB5.out.size))
          cases r
          · go_wp2
            go_ret
            exact ⟨ret_b (HNK.out (by first | rfl | trivial)).symm, hB1.trans (HB6.out.mono (by omega))⟩
          · go_wp2
            go_roundw
            case rel => exact ⟨k + 1, by omega, by go_num, HNT.out (by first | rfl | trivial), HB6.out, HB6.out.size⟩
            case measure => simp [intOf]; omega
      · have hd' : (d.k != 0) = false := by simp [bne, hd]
        rw [hd] at hoe
        simp only [if_true, beq_self_eq_true, Bool.true_and] at hoe
        have hxx : (x != x) = false := by simp
        subst hA hA' hE
        have HLS2 := Lib.hid ((HLS.out.alloc (by omega) (.cells #[] 3)).more (B' := (wr.alloc (.cells #[] 3)).heap.size) (by simp; omega))
        have HSI := Lib.hid (spec_sameInts (some ⟨wr.heap.size, 0, none⟩) A3 0 n3 0 c3 [] L (wr.alloc (.cells #[] 3)) _ (Nat.le_refl _) rfl HN3.out (fun h => absurd h (by simp)) HLS2.out (by omega) (by omega))
        rw [← hoe] at HSI
        clear hd HRK hoe
        go_wp2_with fail
        refine HSI.out.mono ?_
        rintro e w6 ⟨rfl, hb6⟩
        have HB6 := Lib.hid ((HB.out.alloc hwr _).trans (hb6.mono (by simp; omega)))
        cases r
        · go_wp2
          go_ret
          exact ⟨ret_b (HNK.out (by first | rfl | trivial)).symm, hB1.trans (HB6.out.mono (by omega))⟩
        · go_wp2
          go_roundw
          case rel => exact ⟨k + 1, by omega, by go_num, HNT.out (by first | rfl | trivial), HB6.out, HB6.out.size⟩
          case measure => simp [intOf]; omega
    · obtain rfl : k = n := by omega
      go_wp2
      go_ret
      exact ⟨ret_b (HFIN.out fun i hi => HK.out i (by have := HN.out; omega)).symm, hB1.trans (HB.out.mono (by omega))⟩

set_option maxRecDepth 100000 in
theorem top_spec_ValidEager (gs : List Nd) (st : Eg) (hG : GB gs) (hE : EB st) : ∀ (A : Option Addr) (n c : Nat) (A' : Option Addr) (m c' : Nat) (E : Option Addr) (p ec : Nat) (w : World), n = gs.length → n ≤ c → GS w w.heap.size A gs → m = st.vs.length → p = st.rs.length → ES w w.heap.size A' E st →
    Calls Try.prog 16 #[.agg #[.slice A n c], .agg #[.slice A' m c', .slice E p ec]] w fun e w' => e = .returned (.bool (validE gs st)) ∧ Below w.heap.size w w' := by
  intro A n c A' m c' E p ec w hn _ h hm hp h'
  have HC := Lib.hid (spec_validEager A A' E n c m c' p ec gs st _ w.heap.size (by simp; omega) hn hm hp ((h.alloc (Nat.le_refl _) (.cells #[.slice A n c] 34)).alloc (by simp) (.cells #[.slice A' m c', .slice E p ec] 36)) ((h'.alloc (Nat.le_refl _) (.cells #[.slice A n c] 34)).alloc (by simp) (.cells #[.slice A' m c', .slice E p ec] 36)) hG hE)
  clear h h' hn hm hp hG hE
  go_enter Try.func16, Try.ntmps16
  go_wp2_with fail
  refine HC.out.mono ?_
  rintro e w1 ⟨rfl, hb⟩
  go_wp2
  go_ret
  exact ⟨rfl, (((Below.refl _ _).alloc (Nat.le_refl _) _).alloc (by simp) _).trans (hb.mono (by simp; omega))⟩

end Go.Proofs.Ythephbppeiealaa
