/- The standing contracts of MustRun. -/
import Derived.Test.YthephbppeiealaaM7
import Derived.Test.YthephbppeiealaaT9
import Derived.Test.YthephbppeiealaaA17
import Derived.Deep.RegionHeld3
namespace Go.Proofs.Ythephbppeiealaa
set_option linter.unusedSimpArgs false
set_option linter.unusedVariables false
open Go.RowKit

theorem meetB_bad (a b : List Int) (h : ∀ k, k < a.length → a.getD k 0 ∉ b) : meetB a b = false := by
  unfold meetB
  rw [List.any_eq_false]
  intro x hx
  obtain ⟨j, hj, he⟩ := List.mem_iff_getElem.1 hx
  have := h j hj
  simp only [decide_eq_true_eq]
  rw [show a.getD j 0 = x by simp [List.getD, hj, he]] at this
  exact this
theorem meetB_good (a b : List Int) (k : Nat) (hk : k < a.length) (h : a.getD k 0 ∈ b) : meetB a b = true := by
  unfold meetB
  rw [List.any_eq_true]
  exact ⟨a.getD k 0, by simp [List.getD, hk], decide_eq_true h⟩

set_option maxHeartbeats 800000 in
theorem spec_meets (A A' : Option Addr) (n n' c c' : Nat) (a b : List Int) (w : World) (B : Nat) (hB : B ≤ w.heap.size) (hn : n = a.length) (hn' : n' = b.length) (h : IS w B A a) (h' : IS w B A' b) (hs : n ≤ 2000000) (hs' : n' ≤ 2000000) :
    Calls Try.prog 88 #[.slice A n c, .slice A' n' c'] w fun e w' => e = .returned (.bool (meetB a b)) ∧ Below w.heap.size w w' := by
  have H := Lib.hid h
  have HN := Lib.hid hn
  have HPC := Lib.hid fun (x : Int) => spec_placeIn A' n' c' b x w B hB hn' h' hs'
  clear h h' hn hn'
  go_enter Try.func88, Try.ntmps88
  go_wp2
  go_loopw [5] (fun i wr => ∃ k : Nat, k ≤ n ∧ i = .int .i64 k ∧ Hid (∀ j, j < k → a.getD j 0 ∉ b) ∧ wr = w) (fun i _ => n - (intOf i).toNat)
  case atStart => exact ⟨0, Nat.zero_le _, rfl, fun j hj => by omega, rfl⟩
  case round =>
    obtain ⟨k, hk, rfl, HA, rfl⟩ := hrel
    by_cases hlt : k < n
    · obtain ⟨b1, off, rfl, hbB, hc⟩ := H.out (by have := HN.out; omega)
      have c0 := hc k (by have := HN.out; omega)
      have HG := Lib.hid (meetB_good a b k (by have := HN.out; omega))
      have HPX := Lib.hid (HPC.out (a.getD k 0))
      have HNX : Hid (a.getD k 0 ∉ b → ∀ j, j < k + 1 → a.getD j 0 ∉ b) := fun h j hj => by
        rcases Nat.lt_or_ge j k with h1 | h1
        · exact HA.out j h1
        · obtain rfl : j = k := by omega
          exact h
      clear hc H
      generalize a.getD k 0 = x at *
      by_cases hm : x ∈ b
      · have hge : decide (plc b x ≥ 0) = true := by unfold plc; rw [if_pos hm]; simp
        have HG2 := Lib.hid (HG.out hm)
        generalize plc b x = p at *
        clear hm
        go_wp2_with fail
        refine HPX.out.mono ?_
        rintro e w' ⟨rfl, rfl⟩
        go_wp2
        go_ret
        exact ⟨ret_b HG2.out.symm, Below.refl _ _⟩
      · have hge : decide (plc b x ≥ 0) = false := by unfold plc; rw [if_neg hm]; simp
        have HG2 := Lib.hid (HNX.out hm)
        generalize plc b x = p at *
        clear hm
        go_wp2_with fail
        refine HPX.out.mono ?_
        rintro e w' ⟨rfl, rfl⟩
        go_wp2
        go_roundw
        case rel => exact ⟨k + 1, by omega, by go_num, HG2.out, by first | rfl | trivial⟩
        case measure => simp [intOf]; omega
    · obtain rfl : k = n := by omega
      go_wp2
      go_ret
      exact ⟨ret_b (meetB_bad a b fun j hj => HA.out j (by have := HN.out; omega)).symm, Below.refl _ _⟩

theorem nwTo_zero (P : Nat → Bool) : nwTo P 0 = [] := rfl
theorem retI_at {w w1 : World} {v : Value} {xs : List Int} {lo : Nat} (h : OwnI w1 lo v xs) : ∃ A c, v = .slice A xs.length c ∧ IS w1 w1.heap.size A xs := OwnI.form h

set_option maxRecDepth 100000 in
set_option maxHeartbeats 3200000 in
theorem top_spec_MustRun (gs : List Nd) (xs ys : List Int) (hG : GB gs) (hL : xs.length ≤ 1048576) (hL2 : ys.length ≤ 1048576) : ∀ (A : Option Addr) (n c : Nat) (A1 : Option Addr) (m1 c1 : Nat) (A2 : Option Addr) (m2 c2 : Nat) (w : World), n = gs.length → n ≤ c → GS w w.heap.size A gs → m1 = xs.length → IS w w.heap.size A1 xs → m2 = ys.length → IS w w.heap.size A2 ys →
    Calls Try.prog 35 #[.agg #[.slice A n c], .slice A1 m1 c1, .slice A2 m2 c2] w fun e w' => RetI w (mustF gs xs ys) e w' := by
  intro A n c A1 m1 c1 A2 m2 c2 w hn hnc h hx h1 hy h2
  obtain ⟨i0, hi, hz0, hz1, hz2⟩ := info_parts info_int
  have hm1 : m1 ≤ 2000000 := by omega
  have hm2 : m2 ≤ 2000000 := by omega
  have hn1 : n ≤ 1048576 := by rw [hn]; exact hG.1
  have HG0 := Lib.hid (h.alloc (Nat.le_refl _) (.cells #[.slice A n c] 34))
  have HX0 := Lib.hid (h1.alloc (Nat.le_refl _) (.cells #[.slice A n c] 34))
  have HY0 := Lib.hid (h2.alloc (Nat.le_refl _) (.cells #[.slice A n c] 34))
  have HN := Lib.hid hn
  have HC := Lib.hid fun (w' : World) (hB : w.heap.size ≤ w'.heap.size) (h : GS w' w.heap.size A gs) => spec_validGraph A n c gs w' w.heap.size hB hn h hG
  have HDX := Lib.hid fun (w' : World) (hB : w.heap.size ≤ w'.heap.size) (h : GS w' w.heap.size A gs) (h' : IS w' w.heap.size A1 xs) => spec_validCells A A1 n c m1 c1 gs xs w' w.heap.size hB hn hx h h' (by omega) hm1
  have HDY := Lib.hid fun (w' : World) (hB : w.heap.size ≤ w'.heap.size) (h : GS w' w.heap.size A gs) (h' : IS w' w.heap.size A2 ys) => spec_validCells A A2 n c m2 c2 gs ys w' w.heap.size hB hn hy h h' (by omega) hm2
  have HMX := Lib.hid fun (w' : World) (hB : w.heap.size ≤ w'.heap.size) (h : GS w' w.heap.size A gs) (h' : IS w' w.heap.size A1 xs) (hok : okC gs xs = true) => spec_meaning A A1 n c m1 c1 gs xs w' w.heap.size hB hn hx h h' hok
  have HMY := Lib.hid fun (w' : World) (hB : w.heap.size ≤ w'.heap.size) (h : GS w' w.heap.size A gs) (h' : IS w' w.heap.size A2 ys) (hok : okC gs ys = true) => spec_meaning A A2 n c m2 c2 gs ys w' w.heap.size hB hn hy h h' hok
  have hB0 : Below w.heap.size w (w.alloc (.cells #[.slice A n c] 34)) := (Below.refl _ _).alloc (Nat.le_refl _) _
  have hcb : chgB gs xs ys = (validG gs && validC gs xs && validC gs ys) := rfl
  have hmf : mustF gs xs ys = if chgB gs xs ys then nwTo (mustP gs (mean gs xs) (diffTo (mean gs xs) (mean gs ys) gs.length)) gs.length else [] := rfl
  rw [hmf]
  clear hmf
  cases hvg : validG gs
  · have hcf : chgB gs xs ys = false := by rw [hcb, hvg]; rfl
    rw [hcf]
    rw [hvg] at HC
    clear hcf hcb hvg h h1 h2 hn hx hy hG
    simp only [Bool.false_eq_true, if_false]
    go_enter Try.func35, Try.ntmps35
    go_wp2_with fail
    refine (HC.out _ hB0.size HG0.out).mono ?_
    rintro e w1 ⟨rfl, hb⟩
    go_wp2
    go_ret
    exact RetI.nil (hB0.trans (hb.mono hB0.size))
  rw [hvg] at HC
  cases hvx : validC gs xs
  · have hcf : chgB gs xs ys = false := by rw [hcb, hvx]; simp
    rw [hcf]
    rw [hvx] at HDX
    clear hcf hcb hvg hvx h h1 h2 hn hx hy hG
    simp only [Bool.false_eq_true, if_false]
    go_enter Try.func35, Try.ntmps35
    go_wp2_with fail
    refine (HC.out _ hB0.size HG0.out).mono ?_
    rintro e w1 ⟨rfl, hb⟩
    have q1 : w1.cell? ⟨w.heap.size, 0, none⟩ = some (.slice A n c) := (hb.cell (p := ⟨w.heap.size, 0, none⟩) (by simp)).trans (by go_simp)
    have hB1 := hB0.trans (hb.mono hB0.size)
    have HG1 := Lib.hid (HG0.out.below hb hB0.size)
    have HX1 := Lib.hid (HX0.out.below hb hB0.size)
    go_wp2_with fail
    refine (HDX.out _ hB1.size HG1.out HX1.out).mono ?_
    rintro e w2 ⟨rfl, hb2⟩
    go_wp2
    go_ret
    exact RetI.nil (hB1.trans (hb2.mono hB1.size))
  rw [hvx] at HDX
  cases hvy : validC gs ys
  · have hcf : chgB gs xs ys = false := by rw [hcb, hvy]; simp
    rw [hcf]
    rw [hvy] at HDY
    clear hcf hcb hvg hvx hvy h h1 h2 hn hx hy hG
    simp only [Bool.false_eq_true, if_false]
    go_enter Try.func35, Try.ntmps35
    go_wp2_with fail
    refine (HC.out _ hB0.size HG0.out).mono ?_
    rintro e w1 ⟨rfl, hb⟩
    have q1 : w1.cell? ⟨w.heap.size, 0, none⟩ = some (.slice A n c) := (hb.cell (p := ⟨w.heap.size, 0, none⟩) (by simp)).trans (by go_simp)
    have hB1 := hB0.trans (hb.mono hB0.size)
    have hl1 : w.heap.size < w1.heap.size := by have := hb.size; simp at this; omega
    have HG1 := Lib.hid (HG0.out.below hb hB0.size)
    have HX1 := Lib.hid (HX0.out.below hb hB0.size)
    have HY1 := Lib.hid (HY0.out.below hb hB0.size)
    clear hb
    go_wp2_with fail
    refine (HDX.out _ hB1.size HG1.out HX1.out).mono ?_
    rintro e w2 ⟨rfl, hb2⟩
    have q2 := (hb2.cell (p := ⟨w.heap.size, 0, none⟩) hl1).trans q1
    have hB2 := hB1.trans (hb2.mono hB1.size)
    have HG2 := Lib.hid (HG1.out.below hb2 hB1.size)
    have HY2 := Lib.hid (HY1.out.below hb2 hB1.size)
    clear hb2 q1
    go_wp2_with fail
    refine (HDY.out _ hB2.size HG2.out HY2.out).mono ?_
    rintro e w3 ⟨rfl, hb3⟩
    go_wp2
    go_ret
    exact RetI.nil (hB2.trans (hb3.mono hB2.size))
  rw [hvy] at HDY
  have hcf : chgB gs xs ys = true := by rw [hcb, hvg, hvx, hvy]; rfl
  have hox : okC gs xs = true := by unfold okC; rw [hvg, hvx]; rfl
  have hoy : okC gs ys = true := by unfold okC; rw [hvg, hvy]; rfl
  rw [hcf]
  simp only [if_true]
  have hn10 : n ≤ 10 := by have := (validG_parts gs hvg).1; omega
  have hvo : VOK (mean gs xs) := meanTo_VOK gs xs hox gs.length (Nat.le_refl _)
  have hml := mean_len gs xs
  have hml2 := mean_len gs ys
  rw [← hn] at hml hml2
  have HMX2 := Lib.hid fun (w' : World) (hB : w.heap.size ≤ w'.heap.size) (h : GS w' w.heap.size A gs) (h' : IS w' w.heap.size A1 xs) => HMX.out w' hB h h' hox
  have HMY2 := Lib.hid fun (w' : World) (hB : w.heap.size ≤ w'.heap.size) (h : GS w' w.heap.size A gs) (h' : IS w' w.heap.size A2 ys) => HMY.out w' hB h h' hoy
  have HDP := Lib.hid fun (A5 : Option Addr) (c5 i : Nat) (w' : World) (B : Nat) (hB : B ≤ w'.heap.size) (h : GS w' B A gs) (h' : IS w' B A5 (mean gs xs)) (hi : i < n) => spec_deps A A5 n c n c5 gs (mean gs xs) i w' B hB hn hml.symm rfl h h' hvg hvo hi
  have HFBD := Lib.hid fun (i : Nat) (hi : i < gs.length) => eager_depF_bd gs (mean gs xs) hvg (by rw [hml]; exact hn) i hi
  have HML := Lib.hid hml
  have HML2 := Lib.hid hml2
  have hmp : ∀ i, mustP gs (mean gs xs) (diffTo (mean gs xs) (mean gs ys) gs.length) i = (!((gs.getD i default).k == 0) && meetB (depF gs (mean gs xs) i) (diffTo (mean gs xs) (mean gs ys) gs.length)) := fun i => rfl
  rw [← hn] at hmp
  rw [← hn]
  have hdl := diffTo_len (mean gs xs) (mean gs ys) n
  have HDF := Lib.hid fun (A4 A5 : Option Addr) (c4 c5 : Nat) (w' : World) (h : IS w' w'.heap.size A4 (mean gs xs)) (h' : IS w' w'.heap.size A5 (mean gs ys)) => spec_differing A4 A5 n c4 c5 (mean gs xs) (mean gs ys) w' w'.heap.size (Nat.le_refl _) hml.symm hml2.symm h h' (by omega)
  generalize mustP gs (mean gs xs) (diffTo (mean gs xs) (mean gs ys) n) = P at *
  generalize diffTo (mean gs xs) (mean gs ys) n = C at *
  have HMP := Lib.hid hmp
  generalize mean gs xs = MX at *
  generalize mean gs ys = MY at *
  clear hcf hcb hvg hvx hvy hox hoy hvo hml hml2 hmp h h1 h2 hn hx hy hG HMX HMY
  go_enter Try.func35, Try.ntmps35
  go_wp2_with fail
  refine (HC.out _ hB0.size HG0.out).mono ?_
  rintro e w1 ⟨rfl, hb⟩
  have q1 : w1.cell? ⟨w.heap.size, 0, none⟩ = some (.slice A n c) := (hb.cell (p := ⟨w.heap.size, 0, none⟩) (by simp)).trans (by go_simp)
  have hB1 := hB0.trans (hb.mono hB0.size)
  have hl1 : w.heap.size < w1.heap.size := by have := hb.size; simp at this; omega
  have HG1 := Lib.hid (HG0.out.below hb hB0.size)
  have HX1 := Lib.hid (HX0.out.below hb hB0.size)
  have HY1 := Lib.hid (HY0.out.below hb hB0.size)
  clear hb hB0 HG0 HX0 HY0
  go_wp2_with fail
  refine (HDX.out _ hB1.size HG1.out HX1.out).mono ?_
  rintro e w2 ⟨rfl, hb⟩
  have q2 := (hb.cell (p := ⟨w.heap.size, 0, none⟩) hl1).trans q1
  have hB2 := hB1.trans (hb.mono hB1.size)
  have hl2 : w.heap.size < w2.heap.size := Nat.lt_of_lt_of_le hl1 hb.size
  have HG2 := Lib.hid (HG1.out.below hb hB1.size)
  have HX2 := Lib.hid (HX1.out.below hb hB1.size)
  have HY2 := Lib.hid (HY1.out.below hb hB1.size)
  clear hb q1 HG1 HX1 HY1 hB1 hl1
  go_wp2_with fail
  refine (HDY.out _ hB2.size HG2.out HY2.out).mono ?_
  rintro e w3 ⟨rfl, hb⟩
  have q3 := (hb.cell (p := ⟨w.heap.size, 0, none⟩) hl2).trans q2
  have hB3 := hB2.trans (hb.mono hB2.size)
  have hl3 : w.heap.size < w3.heap.size := Nat.lt_of_lt_of_le hl2 hb.size
  have HG3 := Lib.hid (HG2.out.below hb hB2.size)
  have HX3 := Lib.hid (HX2.out.below hb hB2.size)
  have HY3 := Lib.hid (HY2.out.below hb hB2.size)
  clear hb q2 HG2 HX2 HY2 hB2 hl2
  clear HC HDX HDY
  go_wp2_with fail
  refine (HMX2.out _ hB3.size HG3.out HX3.out).mono ?_
  rintro e w4 ⟨v4, rfl, ho4, hb⟩
  obtain ⟨A4, c4, rfl, hI4⟩ := OwnI.at_ ho4 HML.out
  have HI4 := Lib.hid hI4
  have q4 := (hb.cell (p := ⟨w.heap.size, 0, none⟩) hl3).trans q3
  have hB4 := hB3.trans (hb.mono hB3.size)
  have hl4 : w.heap.size < w4.heap.size := Nat.lt_of_lt_of_le hl3 hb.size
  have HG4 := Lib.hid (HG3.out.below hb hB3.size)
  have HX4 := Lib.hid (HX3.out.below hb hB3.size)
  have HY4 := Lib.hid (HY3.out.below hb hB3.size)
  clear hb q3 HG3 HX3 HY3 hB3 hl3
  clear ho4 hI4
  go_wp2_with fail
  refine (HMY2.out _ hB4.size HG4.out HY4.out).mono ?_
  rintro e w5 ⟨v5, rfl, ho5, hb⟩
  obtain ⟨A5, c5, rfl, hI5⟩ := OwnI.at_ ho5 HML2.out
  have HJ5 := Lib.hid hI5
  have HI5 := Lib.hid (HI4.out.step hb)
  have q5 := (hb.cell (p := ⟨w.heap.size, 0, none⟩) hl4).trans q4
  have hB5 := hB4.trans (hb.mono hB4.size)
  have hl5 : w.heap.size < w5.heap.size := Nat.lt_of_lt_of_le hl4 hb.size
  have HG5 := Lib.hid (HG4.out.below hb hB4.size)
  clear hb q4 HG4 hB4 hl4
  clear ho5 hI5 HI4 HX4 HY4
  go_wp2_with fail
  refine (HDF.out A4 A5 c4 c5 w5 HI5.out HJ5.out).mono ?_
  rintro e w6 ⟨v6, rfl, ho6, hb⟩
  obtain ⟨A6, c6, rfl, hI6⟩ := OwnI.form ho6
  have HC6 := Lib.hid hI6
  have HI6 := Lib.hid (HI5.out.step hb)
  have q6 := (hb.cell (p := ⟨w.heap.size, 0, none⟩) hl5).trans q5
  have hB6 := hB5.trans (hb.mono hB5.size)
  have hl6 : w.heap.size < w6.heap.size := Nat.lt_of_lt_of_le hl5 hb.size
  have HG6 := Lib.hid (HG5.out.below hb hB5.size)
  clear hb q5 HG5 hB5 hl5
  have HG7 := Lib.hid (HG6.out.more (B' := w6.heap.size) hB6.size)
  obtain ⟨lc, hlc⟩ : ∃ lc : Nat, lc = C.length := ⟨_, rfl⟩
  have HLC := Lib.hid hlc
  have hlc2 : lc ≤ 2000000 := by omega
  rw [← hlc]
  clear ho6 hI6 HI5 HJ5 hlc HMX2 HMY2 HDF HG6
  have hrow0 := World.ownsRow_lit (e := 3) (size := 1) (base := w6.heap.size) w6 #[] 0 (Nat.le_refl _) (by unfold maxLen; omega) (by simp)
  have HROW := Lib.hid hrow0
  clear hrow0
  go_wp2
  go_loopw [9, 10] (fun v i wr => ∃ k : Nat, k ≤ n ∧ i = .int .i64 k ∧ Hid (OwnI wr w6.heap.size v (nwTo P k)) ∧ Hid (Below w6.heap.size w6 wr) ∧ w6.heap.size ≤ wr.heap.size) (fun _ i _ => n - (intOf i).toNat)
  case atStart => exact ⟨0, Nat.zero_le _, rfl, Lib.hid (by unfold OwnI; simpa [nwTo_zero] using HROW.out), (Below.refl _ _).alloc (Nat.le_refl _) _, by simp⟩
  case round =>
    obtain ⟨k, hk, rfl, HO, HB, hwr⟩ := hrel
    have q7 := (HB.out.cell (p := ⟨w.heap.size, 0, none⟩) hl6).trans q6
    by_cases hlt : k < n
    · have hkg : k < gs.length := by have := HN.out; omega
      have HST := Lib.hid (nwTo_step P k)
      have hdl := nwTo_len P k
      have HPK := Lib.hid (HMP.out k)
      have HGR := Lib.hid (HG7.out.below HB.out (Nat.le_refl _))
      have HIR := Lib.hid (HI6.out.below HB.out (Nat.le_refl _))
      obtain ⟨b, off, hA, hbB, c0, _, _, _, _, _⟩ := HGR.out.at_ k hkg
      have HDK := Lib.hid (HDP.out A4 c4 k wr w6.heap.size hwr HGR.out HIR.out hlt)
      have hfb := HFBD.out k hkg
      generalize nwTo P k = NW at *
      generalize P k = p at *
      generalize depF gs MX k = D at *
      generalize (gs.getD k default).k = kd at *
      cases hd : (kd == 0)
      · have hd' : (kd != 0) = true := by simp [bne, hd]
        have HPK2 : Hid (p = meetB D C) := by have := HPK.out; rw [hd] at this; simpa [Hid] using this
        subst hA
        clear hd HPK
        go_wp2_with fail
        refine HDK.out.mono ?_
        rintro e w8 ⟨v8, rfl, ho8, hb8⟩
        obtain ⟨A8, c8, rfl, hI8⟩ := OwnI.form ho8
        have HB8 := Lib.hid (HB.out.trans (hb8.mono hwr))
        have HC8 := Lib.hid ((HC6.out.below HB8.out (Nat.le_refl _)).more (B' := w8.heap.size) HB8.out.size)
        have HMT := Lib.hid (spec_meets A8 A6 D.length lc c8 c6 D C w8 w8.heap.size (Nat.le_refl _) rfl HLC.out hI8 HC8.out (by omega) hlc2)
        have HO8 := Lib.hid (show OwnI w8 w6.heap.size _ NW from own_below HO.out hb8)
        rw [← HPK2.out] at HMT
        clear ho8 hI8 hb8 HPK2 c0 HDK
        go_wp2_with fail
        refine HMT.out.mono ?_
        rintro e w9 ⟨rfl, hb9⟩
        have HO9 := Lib.hid (show OwnI w9 w6.heap.size _ NW from own_below HO8.out hb9)
        have HB9 := Lib.hid (HB8.out.trans (hb9.mono HB8.out.size))
        have hw9 := HB9.out.size
        clear hb9
        cases p
        · go_wp2
          go_roundw
          case rel => exact ⟨k + 1, by omega, by go_num, by rw [HST.out]; simpa using HO9, HB9.out, hw9⟩
          case measure => simp [intOf]; omega
        · go_wp2_with (at_builtin; refine wpList_append_own _ rfl _ _ 25 rfl w6.heap.size 3 i0 (.int .i64 0) 1 8 Try.underlying25 hi hz0 hz1 hz2 rfl (by decide) _ _ _ rfl (HO9.out.alloc _) ⟨_, 0, none⟩ 1 1 [.int .i64 k] rfl rfl (cell_one_new _ _ _) ?c2 ?c3 ?c4 ?c5 ?_)
          case c2 => first | rfl | (intro u hu; simp at hu; subst hu; rfl)
          case c3 => unfold maxLen; omega
          case c4 => omega
          case c5 => first | omega | (simp; omega)
          intro v' w10 hown' hgrow _
          have hpos := (HO9.out.alloc (.cells #[.int .i64 k] 3)).lt
          have HO' : Hid (OwnI w10 w6.heap.size v' (nwTo P (k + 1))) := by
            rw [HST.out]
            simpa [OwnI, Hid] using hown'
          have HB' := Lib.hid ((HB9.out.alloc hw9 (.cells #[.int .i64 k] 3)).grown hgrow (by first | (simp; omega) | omega) (fun q hq => (hpos q hq).1))
          clear hown' hgrow hpos
          go_wp2
          go_roundw
          case rel => exact ⟨k + 1, by omega, by go_num, HO'.out, HB'.out, HB'.out.size⟩
          case measure => simp [intOf]; omega
      · have hd' : (kd != 0) = false := by simp [bne, hd]
        have HPK2 : Hid (p = false) := by have := HPK.out; rw [hd] at this; simpa [Hid] using this
        subst hA
        clear hd HPK HDK
        go_wp2
        go_roundw
        case rel => exact ⟨k + 1, by omega, by go_num, by rw [HST.out, HPK2.out]; simpa using HO, HB.out, hwr⟩
        case measure => simp [intOf]; omega
    · obtain rfl : k = n := by omega
      go_wp2
      go_ret
      exact ⟨_, rfl, own_mono HO.out hB6.size, hB6.trans (HB.out.mono hB6.size)⟩
end Go.Proofs.Ythephbppeiealaa
