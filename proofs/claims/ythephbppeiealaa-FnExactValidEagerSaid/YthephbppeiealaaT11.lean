/- The standing contracts of ValidEager, the program's. -/
import Derived.Test.YthephbppeiealaaM6
import Derived.Test.YthephbppeiealaaE2
import Derived.Test.YthephbppeiealaaT11b
namespace Go.Proofs.Ythephbppeiealaa
set_option linter.unusedSimpArgs false
set_option linter.unusedVariables false
open Go.RowKit

set_option maxRecDepth 100000 in
set_option maxHeartbeats 3200000 in
theorem impl_ValidEager (A A' E : Option Addr) (n c m c' p ec : Nat) (gs : List Nd) (st : Eg) (w : World) (B : Nat) (hB : B ≤ w.heap.size) (hn : n = gs.length) (hnc : n ≤ c) (hm : m = st.vs.length) (hp : p = st.rs.length) (h : GS w B A gs) (h' : ES w B A' E st) (hs : GB gs) (hb0 : EB st) :
    Calls Try.prog 19 #[.agg #[.slice A n c], .agg #[.slice A' m c', .slice E p ec]] w fun e w' => e = .returned (.bool (validE gs st)) ∧ Below w.heap.size w w' := by
  have HC := Lib.hid fun (w' : World) (hB : B ≤ w'.heap.size) (h : GS w' B A gs) => impl_ValidGraph A n c gs w' B hB hn h hs hnc
  have hm1 : m ≤ 1048576 := by rw [hm]; exact hb0.1
  have hp1 : p ≤ 1048576 := by rw [hp]; exact hb0.2.1.1
  have hn1 : n ≤ 1048576 := by rw [hn]; exact hs.1
  have hve : validE gs st = (validG gs && (decide (st.vs.length = gs.length) && (decide (st.rs.length = gs.length) && (allR st.vs 0 999 && allE gs st)))) := rfl
  rw [← hn, ← hm, ← hp] at hve
  have H := Lib.hid h
  have H' := Lib.hid h'
  have HN := Lib.hid hn
  have HM := Lib.hid hm
  have HP := Lib.hid hp
  have HSB := Lib.hid hb0.2.1
  cases hvg : validG gs
  · have hf : validE gs st = false := by rw [hve, hvg]; rfl
    rw [hf]
    rw [hvg] at HC
    clear hf hve hvg h h' hn hm hp hs hb0
    go_enter Try.func19, Try.ntmps19
    go_wp2_with fail
    refine (HC.out _ (by simp; omega) ((H.out.alloc hB _).alloc (by simp; omega) _)).mono ?_
    rintro e w1 ⟨rfl, hb⟩
    go_wp2
    go_ret
    exact ⟨rfl, (((Below.refl _ _).alloc (Nat.le_refl _) _).alloc (by simp) _).trans (hb.mono (by simp; omega))⟩
  rw [hvg] at HC
  by_cases hl1 : m = n
  case neg =>
    have hne : ((m : Int) != (n : Int)) = true := by simp; omega
    have hf : validE gs st = false := by rw [hve, decide_eq_false hl1]; simp
    rw [hf]
    clear hf hve hvg h h' hn hm hp hs hb0
    go_enter Try.func19, Try.ntmps19
    go_wp2_with fail
    refine (HC.out _ (by simp; omega) ((H.out.alloc hB _).alloc (by simp; omega) _)).mono ?_
    rintro e w1 ⟨rfl, hb⟩
    have q0 : w1.cell? ⟨w.heap.size, 0, none⟩ = some (.slice A n c) := (hb.cell (p := ⟨w.heap.size, 0, none⟩) (by simp; omega)).trans (by go_simp)
    have q1 : w1.cell? ⟨w.heap.size + 1, 0, none⟩ = some (.slice A' m c') := (hb.cell (p := ⟨w.heap.size + 1, 0, none⟩) (by simp)).trans (by go_simp)
    have q2 : w1.cell? ⟨w.heap.size + 1, 1, none⟩ = some (.slice E p ec) := (hb.cell (p := ⟨w.heap.size + 1, 1, none⟩) (by simp)).trans (by go_simp)
    have hB1 : Below w.heap.size w w1 := (((Below.refl _ _).alloc (Nat.le_refl _) _).alloc (by simp) _).trans (hb.mono (by simp; omega))
    have hl1 : w.heap.size + 2 ≤ w1.heap.size := by have := hb.size; simp at this; omega
    go_wp2
    go_ret
    exact ⟨rfl, hB1⟩
  have hne1 : ((m : Int) != (n : Int)) = false := by simp [hl1]
  by_cases hl2 : p = n
  case neg =>
    have hne : ((p : Int) != (n : Int)) = true := by simp; omega
    have hf : validE gs st = false := by rw [hve, decide_eq_false hl2]; simp
    rw [hf]
    clear hf hve hvg h h' hn hm hp hs hb0 hl1
    go_enter Try.func19, Try.ntmps19
    go_wp2_with fail
    refine (HC.out _ (by simp; omega) ((H.out.alloc hB _).alloc (by simp; omega) _)).mono ?_
    rintro e w1 ⟨rfl, hb⟩
    have q0 : w1.cell? ⟨w.heap.size, 0, none⟩ = some (.slice A n c) := (hb.cell (p := ⟨w.heap.size, 0, none⟩) (by simp; omega)).trans (by go_simp)
    have q1 : w1.cell? ⟨w.heap.size + 1, 0, none⟩ = some (.slice A' m c') := (hb.cell (p := ⟨w.heap.size + 1, 0, none⟩) (by simp)).trans (by go_simp)
    have q2 : w1.cell? ⟨w.heap.size + 1, 1, none⟩ = some (.slice E p ec) := (hb.cell (p := ⟨w.heap.size + 1, 1, none⟩) (by simp)).trans (by go_simp)
    have hB1 : Below w.heap.size w w1 := (((Below.refl _ _).alloc (Nat.le_refl _) _).alloc (by simp) _).trans (hb.mono (by simp; omega))
    have hl1 : w.heap.size + 2 ≤ w1.heap.size := by have := hb.size; simp at this; omega
    go_wp2
    go_ret
    exact ⟨rfl, hB1⟩
  have hne2 : ((p : Int) != (n : Int)) = false := by simp [hl2]
  have HAR := Lib.hid fun (w' : World) (hB : B ≤ w'.heap.size) (h : IS w' B A' st.vs) => impl_allInRange A' m c' st.vs 999 w' B hB hm h (by omega)
  have hn10 : n ≤ 10 := by rw [hn]; exact (validG_parts gs hvg).1
  have h10 : decide (st.vs.length ≤ 10) = true := decide_eq_true (by omega)
  rw [h10, Bool.true_and] at HAR
  cases hr : allR st.vs 0 999
  · have hf : validE gs st = false := by rw [hve, hr]; simp
    rw [hf]
    rw [hr] at HAR
    clear hf hve hvg h h' hn hm hp hs hb0 hl1 hl2 hr h10
    go_enter Try.func19, Try.ntmps19
    go_wp2_with fail
    refine (HC.out _ (by simp; omega) ((H.out.alloc hB _).alloc (by simp; omega) _)).mono ?_
    rintro e w1 ⟨rfl, hb⟩
    have q0 : w1.cell? ⟨w.heap.size, 0, none⟩ = some (.slice A n c) := (hb.cell (p := ⟨w.heap.size, 0, none⟩) (by simp; omega)).trans (by go_simp)
    have q1 : w1.cell? ⟨w.heap.size + 1, 0, none⟩ = some (.slice A' m c') := (hb.cell (p := ⟨w.heap.size + 1, 0, none⟩) (by simp)).trans (by go_simp)
    have q2 : w1.cell? ⟨w.heap.size + 1, 1, none⟩ = some (.slice E p ec) := (hb.cell (p := ⟨w.heap.size + 1, 1, none⟩) (by simp)).trans (by go_simp)
    have hB1 : Below w.heap.size w w1 := (((Below.refl _ _).alloc (Nat.le_refl _) _).alloc (by simp) _).trans (hb.mono (by simp; omega))
    have hl1 : w.heap.size + 2 ≤ w1.heap.size := by have := hb.size; simp at this; omega
    go_wp2_with fail
    refine (HAR.out _ (by omega) (((H'.out.1.alloc hB _).alloc (by simp; omega) _).below hb (by simp; omega))).mono ?_
    rintro e w' ⟨rfl, rfl⟩
    go_wp2
    go_ret
    exact ⟨rfl, hB1⟩
  rw [hr] at HAR
  have hf : validE gs st = allE gs st := by rw [hve, hvg, decide_eq_true hl1, decide_eq_true hl2, hr]; simp
  rw [hf]
  have HRUN := Lib.hid fun (i : Nat) (hi : i < n) (w' : World) (B1 : Nat) (hB : B1 ≤ w'.heap.size) (h : GS w' B1 A gs) (h' : IS w' B1 A' st.vs) =>
    impl_runOf A A' n c m c' gs st.vs i w' B1 hB hn hm h h' hvg (by omega) hr hi
  have HBAD := Lib.hid fun (i : Nat) (hi : i < gs.length) => allE_bad gs st i hi
  have HFBD := Lib.hid fun (i : Nat) (hi : i < gs.length) => eager_depF_bd gs st.vs hvg (by omega) i hi
  have HFIN := Lib.hid (allE_fin gs st)
  have HL1 := Lib.hid hl1
  have HL2 := Lib.hid hl2
  clear hf hve hvg h h' hn hm hp hs hb0 hl1 hl2 hr h10
  go_enter Try.func19, Try.ntmps19
  go_wp2_with fail
  refine (HC.out _ (by simp; omega) ((H.out.alloc hB _).alloc (by simp; omega) _)).mono ?_
  rintro e w1 ⟨rfl, hb⟩
  have q0 : w1.cell? ⟨w.heap.size, 0, none⟩ = some (.slice A n c) := (hb.cell (p := ⟨w.heap.size, 0, none⟩) (by simp; omega)).trans (by go_simp)
  have q1 : w1.cell? ⟨w.heap.size + 1, 0, none⟩ = some (.slice A' m c') := (hb.cell (p := ⟨w.heap.size + 1, 0, none⟩) (by simp)).trans (by go_simp)
  have q2 : w1.cell? ⟨w.heap.size + 1, 1, none⟩ = some (.slice E p ec) := (hb.cell (p := ⟨w.heap.size + 1, 1, none⟩) (by simp)).trans (by go_simp)
  have hB1 : Below w.heap.size w w1 := (((Below.refl _ _).alloc (Nat.le_refl _) _).alloc (by simp) _).trans (hb.mono (by simp; omega))
  have hl1 : w.heap.size + 2 ≤ w1.heap.size := by have := hb.size; simp at this; omega
  have HG1 := Lib.hid (((H.out.alloc hB (.cells #[.slice A n c] 34)).alloc (by simp; omega) (.cells #[.slice A' m c', .slice E p ec] 36)).below hb (by simp; omega))
  have HE1 := Lib.hid (((H'.out.alloc hB (.cells #[.slice A n c] 34)).alloc (by simp; omega) (.cells #[.slice A' m c', .slice E p ec] 36)).below hb (by simp; omega))
  clear hb H H' HC
  go_wp2_with fail
  refine (HAR.out _ (by omega) HE1.out.1).mono ?_
  rintro e w' ⟨rfl, rfl⟩
  clear HAR
  go_wp2
  go_loopw [36] (fun u wr => ∃ k : Nat, k ≤ n ∧ u = .int .i64 k ∧ Hid (∀ i, i < k → okE gs st i = true) ∧ Hid (Below w1.heap.size w1 wr) ∧ w1.heap.size ≤ wr.heap.size) (fun u _ => n - (intOf u).toNat)
  case atStart => exact ⟨0, Nat.zero_le _, rfl, fun i hi => by omega, Below.refl _ _, Nat.le_refl _⟩
  case round =>
    obtain ⟨k, hk, rfl, HK, HB, hwr⟩ := hrel
    have r0 := (HB.out.cell (p := ⟨w.heap.size, 0, none⟩) (by simp; omega)).trans q0
    have r1 := (HB.out.cell (p := ⟨w.heap.size + 1, 0, none⟩) (by simp; omega)).trans q1
    have r2 := (HB.out.cell (p := ⟨w.heap.size + 1, 1, none⟩) (by simp; omega)).trans q2
    by_cases hlt : k < n
    · have hkg : k < gs.length := by have := HN.out; omega
      have hkm : k < m := by have := HL1.out; omega
      have hkp : k < p := by have := HL2.out; omega
      obtain ⟨b2, off2, hA', hbB2, hcx⟩ := HE1.out.1 (by have := HM.out; omega)
      have d0 := hcx k (by have := HM.out; omega)
      obtain ⟨b3, off3, hE, hbB3, A3, n3, c3, d1, hn3, hls⟩ := HE1.out.2.at_ k (by have := HP.out; omega)
      have HGR := Lib.hid (HG1.out.below HB.out (by omega))
      have HIS := Lib.hid (HE1.out.1.below HB.out (by omega))
      have hn3b : n3 ≤ 1048576 := by rw [hn3]; exact HSB.out.2 k
      have HNK := Lib.hid (HBAD.out k hkg)
      have HNT : Hid (okE gs st k = true → ∀ i, i < k + 1 → okE gs st i = true) := fun h j hj => by
        rcases Nat.lt_or_ge j k with h1 | h1
        · exact HK.out j h1
        · obtain rfl : j = k := by omega
          exact h
      have hoe : okE gs st k = (valE gs st.vs k == st.vs.getD k 0 && decide (depF gs st.vs k = st.rs.getD k [])) := rfl
      have HRK := Lib.hid (HRUN.out k hlt wr B (by omega) HGR.out HIS.out)
      have HN3 := Lib.hid hn3
      have HFB := Lib.hid (HFBD.out k hkg)
      clear hcx hn3 HK HBAD HFBD
      generalize okE gs st k = r at *
      generalize valE gs st.vs k = X at *
      generalize depF gs st.vs k = F at *
      generalize st.vs.getD k 0 = x at *
      generalize st.rs.getD k [] = L at *
      subst hA' hE
      go_wp2_with fail
      refine HRK.out.mono ?_
      rintro e w5 ⟨v5, rfl, ho, hb5⟩
      obtain ⟨A5, c5, rfl, hI5⟩ := ho.form
      have HB5 := Lib.hid (HB.out.trans (hb5.mono hwr))
      have hs5 : wr.heap.size ≤ w5.heap.size := hb5.size
      have u1 := (hb5.cell (p := ⟨w.heap.size + 1, 0, none⟩) (by show w.heap.size + 1 < wr.heap.size; omega)).trans r1
      have u2 := (hb5.cell (p := ⟨w.heap.size + 1, 1, none⟩) (by show w.heap.size + 1 < wr.heap.size; omega)).trans r2
      have u3 := (HB5.out.cell (p := ⟨b2, off2 + k, none⟩) (by show b2 < w1.heap.size; omega)).trans d0
      have u4 := (HB5.out.cell (p := ⟨b3, off3 + k, none⟩) (by show b3 < w1.heap.size; omega)).trans d1
      have HLS5 := Lib.hid ((hls.below HB5.out (by omega)).more (B' := w5.heap.size) (by omega))
      have HSI := Lib.hid (slices_Equal A3 A5 n3 F.length c3 c5 L F w5 w5.heap.size (Nat.le_refl _) HN3.out rfl HLS5.out hI5 (by omega) (by have := HFB.out; omega))
      generalize F.length = fl at *
      clear ho hb5 d0 d1 hls hI5 HRK
      cases hx : (X == x)
      · have hx' : (x != X) = true := by simp [bne] at hx ⊢; exact fun e => hx e.symm
        have HNF := Lib.hid (HNK.out (by rw [hoe, hx]; rfl))
        clear hx hoe
        go_wp2
        go_ret
        exact ⟨ret_b HNF.out.symm, hB1.trans (HB5.out.mono (by omega))⟩
      · have hx' : (x != X) = false := by simp at hx; simp [bne, hx]
        rw [hx, Bool.true_and] at hoe
        have hsy : decide (F = L) = decide (L = F) := decide_eq_decide.mpr ⟨Eq.symm, Eq.symm⟩
        rw [hsy] at hoe
        rw [← hoe] at HSI
        clear hx hoe hsy
        go_wp2_with fail
        refine HSI.out.mono ?_
        rintro e w6 ⟨rfl, hb6⟩
        have HB6 := Lib.hid (HB5.out.trans (hb6.mono HB5.out.size))
        cases r
        · go_wp2
          go_ret
          exact ⟨ret_b (HNK.out (by first | rfl | trivial)).symm, hB1.trans (HB6.out.mono (by omega))⟩
        · go_wp2
          go_roundw
          case rel => exact ⟨k + 1, by omega, by go_num, HNT.out (by first | rfl | trivial), HB6.out, HB6.out.size⟩
          case measure => simp [intOf]; omega
    · obtain rfl : k = n := by omega
      go_wp2
      go_ret
      exact ⟨ret_b (HFIN.out fun i hi => HK.out i (by have := HN.out; omega)).symm, hB1.trans (HB.out.mono (by omega))⟩

theorem top_impl_ValidEager (gs : List Nd) (st : Eg) (hG : GB gs) (hE : EB st) : ∀ (A : Option Addr) (n c : Nat) (A' : Option Addr) (m c' : Nat) (E : Option Addr) (p ec : Nat) (w : World), n = gs.length → n ≤ c → GS w w.heap.size A gs → m = st.vs.length → p = st.rs.length → ES w w.heap.size A' E st →
    Calls Try.prog 19 #[.agg #[.slice A n c], .agg #[.slice A' m c', .slice E p ec]] w fun e w' => e = .returned (.bool (validE gs st)) ∧ Below w.heap.size w w' :=
  fun A n c A' m c' E p ec w hn hnc h hm hp h' => impl_ValidEager A A' E n c m c' p ec gs st w w.heap.size (Nat.le_refl _) hn hnc hm hp h h' hG hE
end Go.Proofs.Ythephbppeiealaa
