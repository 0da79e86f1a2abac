/- The standing contracts of StartEager. -/
import Derived.Test.YthephbppeiealaaE2
import Derived.Test.YthephbppeiealaaM6
import Derived.Deep.RegionHeld3
import Derived.Deep.AppendLies
namespace Go.Proofs.Ythephbppeiealaa
set_option linter.unusedSimpArgs false
set_option linter.unusedVariables false
open Go.RowKit

/-- The state after all nodes ran. -/
def startF (gs : List Nd) (xs : List Int) : Eg := if okC gs xs then ⟨mean gs xs, depTo gs (mean gs xs) gs.length⟩ else ⟨[], []⟩

theorem EB.of_small (e : Eg) (h1 : e.vs.length ≤ 1000) (h2 : SB e.rs) (h3 : (e.rs.map List.length).sum ≤ 1000) : EB e := by
  have h4 : ((rowsE e).map List.length).sum ≤ 1048576 := by unfold rowsE; simp; omega
  exact ⟨by omega, h2, SB2.of_sum (by unfold rowsE; simp; have := h2.1; omega) h4, by omega, h4⟩

theorem depTo_sum (gs : List Nd) (vs : List Int) (hg : validG gs = true) (hl : vs.length = gs.length) : ∀ k, k ≤ gs.length → ((depTo gs vs k).map List.length).sum ≤ k * 10 := by
  intro k
  induction k with
  | zero => intro _; simp [depTo]
  | succ k ih =>
    intro hk
    rw [depTo_succ, List.map_append, List.sum_append]
    have h1 := ih (by omega)
    have h2 := eager_depF_bd gs vs hg hl k (by omega)
    simp
    omega

theorem startF_EB (gs : List Nd) (xs : List Int) : EB (startF gs xs) := by
  unfold startF
  cases h : okC gs xs
  · exact EB.of_small _ (by simp) ⟨by simp, fun j => by simp [List.getD]⟩ (by simp)
  · simp only [if_true]
    have hg := (okC_parts gs xs h).1
    have h10 := (validG_parts gs hg).1
    have hml := mean_len gs xs
    have hs := depTo_sum gs (mean gs xs) hg hml gs.length (Nat.le_refl _)
    exact EB.of_small _ (by show (mean gs xs).length ≤ 1000; omega) (SB.of_sum (by show (depTo gs (mean gs xs) gs.length).length ≤ 1048576; rw [depTo_len]; omega) (by show ((depTo gs (mean gs xs) gs.length).map List.length).sum ≤ 1048576; omega)) (by show ((depTo gs (mean gs xs) gs.length).map List.length).sum ≤ 1000; omega)

theorem OwR.of_own {w : World} {lo n : Nat} {A : Option Addr} {c : Nat} {xs : List Int} (h : OwnI w lo (.slice A n c) xs) (hn : n = xs.length) : OwR lo w.heap.size 3 1 (.slice A n c) n (xs.map (Value.int .i64)) w := by
  subst hn
  exact OwR.start h

theorem OwSS.setCell {lo hi n : Nat} {v : Value} {xss : List (List Int)} {w : World} (h : OwSS lo hi v n xss w) {a : Addr} (ha : a.block < lo) (u : Value) : OwSS lo hi v n xss (w.setCell a u) :=
  OwSS.loc _ _ _ _ _ _ _ h fun k hk _ => Below.heap_setCell _ _ _ _ (by omega)

set_option maxRecDepth 100000 in
set_option maxHeartbeats 3200000 in
theorem spec_startEager (A A' : Option Addr) (n c m c' : Nat) (gs : List Nd) (xs : List Int) (w : World) (B : Nat) (hB : B ≤ w.heap.size) (hn : n = gs.length) (hm : m = xs.length) (h : GS w B A gs) (h' : IS w B A' xs) (hok : okC gs xs = true) :
    Calls Try.prog 73 #[.agg #[.slice A n c], .slice A' m c'] w fun e w' => RetE w ⟨mean gs xs, depTo gs (mean gs xs) gs.length⟩ e w' := by
  obtain ⟨i1, hi, hz0, hz1, hz2⟩ := info_parts info_ints1
  have hvg := (okC_parts gs xs hok).1
  have hn10 : n ≤ 10 := by have := (validG_parts gs hvg).1; omega
  have hml := mean_len gs xs
  rw [← hn] at hml
  have hvo : VOK (mean gs xs) := meanTo_VOK gs xs hok gs.length (Nat.le_refl _)
  have HM := Lib.hid fun (w' : World) (hB : B ≤ w'.heap.size) (h : GS w' B A gs) (h' : IS w' B A' xs) => spec_meaning A A' n c m c' gs xs w' B hB hn hm h h' hok
  have HDP := Lib.hid fun (A5 : Option Addr) (c5 i : Nat) (w' : World) (B : Nat) (hB : B ≤ w'.heap.size) (h : GS w' B A gs) (h' : IS w' B A5 (mean gs xs)) (hi : i < n) => spec_deps A A5 n c n c5 gs (mean gs xs) i w' B hB hn hml.symm rfl h h' hvg hvo hi
  have HML := Lib.hid hml
  have HDT := Lib.hid (depTo_succ gs (mean gs xs))
  have HDL := Lib.hid (depTo_len gs (mean gs xs))
  have H := Lib.hid h
  have HX := Lib.hid h'
  rw [← hn]
  clear hvg hok hml hvo h h' hn hm
  generalize mean gs xs = M at *
  go_enter Try.func73, Try.ntmps73
  go_wp2_with fail
  refine (HM.out _ (by simp; omega) ((H.out.alloc hB _).alloc (by simp; omega) _) ((HX.out.alloc hB _).alloc (by simp; omega) _)).mono ?_
  rintro e w1 ⟨v1, rfl, ho, hb⟩
  obtain ⟨A1, c1, rfl, hI1⟩ := OwnI.at_ ho HML.out
  have q1 : w1.cell? ⟨w.heap.size, 0, none⟩ = some (.slice A n c) := (hb.cell (p := ⟨w.heap.size, 0, none⟩) (by simp; omega)).trans (by go_simp)
  have k0 : w1.cell? ⟨w.heap.size + 1, 0, none⟩ = some (.slice none 0 0) := (hb.cell (p := ⟨w.heap.size + 1, 0, none⟩) (by simp)).trans (by go_simp)
  have k1 : w1.cell? ⟨w.heap.size + 1, 1, none⟩ = some (.slice none 0 0) := (hb.cell (p := ⟨w.heap.size + 1, 1, none⟩) (by simp)).trans (by go_simp)
  have f0 : w1.frozen? ⟨w.heap.size + 1, 0, none⟩ = false := (hb.frozen (p := ⟨w.heap.size + 1, 0, none⟩) (by simp)).trans (by go_simp)
  have f1 : w1.frozen? ⟨w.heap.size + 1, 1, none⟩ = false := (hb.frozen (p := ⟨w.heap.size + 1, 1, none⟩) (by simp)).trans (by go_simp)
  have hB1 : Below w.heap.size w w1 := (((Below.refl _ _).alloc (Nat.le_refl _) _).alloc (by simp) _).trans (hb.mono (by simp; omega))
  have hl1 : w.heap.size + 2 ≤ w1.heap.size := by have := hb.size; simp at this; omega
  simp only [World.size_alloc] at ho
  have HO1 := Lib.hid ho
  have HI1 := Lib.hid hI1
  have HG1 := Lib.hid ((H.out.below hB1 hB).more (B' := w1.heap.size) (by omega))
  clear hb ho hI1 H HX HM
  go_wp2
  go_loopw [6] (fun u wr => ∃ (k : Nat) (v : Value), k ≤ n ∧ u = .int .i64 k ∧ Hid (wr.cell? ⟨w1.heap.size, 0, none⟩ = some (.slice A1 n c1)) ∧ Hid (wr.cell? ⟨w1.heap.size, 1, none⟩ = some v) ∧ Hid (wr.frozen? ⟨w1.heap.size, 1, none⟩ = false) ∧ Hid (OwSS (w1.heap.size + 1) wr.heap.size v k (depTo gs M k) wr) ∧ Hid (Below w1.heap.size w1 wr) ∧ w1.heap.size + 1 ≤ wr.heap.size) (fun u _ => n - (intOf u).toNat)
  case atStart => exact ⟨0, .slice none 0 0, Nat.zero_le _, rfl, Lib.hid (by go_simp), Lib.hid (by go_simp), Lib.hid (by go_simp), Lib.hid (by simpa [depTo] using OwSS.nil _ _ _), (Below.refl _ _).alloc (Nat.le_refl _) _, by simp⟩
  case round =>
    obtain ⟨k, v, hk, rfl, P0, P1, PF, HO, HB, hwr⟩ := hrel
    have q2 := (HB.out.cell (p := ⟨w.heap.size, 0, none⟩) (by show w.heap.size < w1.heap.size; omega)).trans q1
    by_cases hlt : k < n
    · obtain ⟨hkl, us, hrow, hss⟩ := HO.out
      obtain ⟨Av, cv, rfl⟩ := own_form hrow.1
      have HROW := Lib.hid hrow.1
      have HSS := Lib.hid hss
      have HKL := Lib.hid hkl
      have HGR := Lib.hid (HG1.out.below HB.out (Nat.le_refl _))
      have HIR := Lib.hid (HI1.out.below HB.out (Nat.le_refl _))
      have HDS := Lib.hid (HDT.out k)
      have HDK := Lib.hid fun (w' : World) (B : Nat) (hB : B ≤ w'.heap.size) (h : GS w' B A gs) (h' : IS w' B A1 M) => HDP.out A1 c1 k w' B hB h h' hlt
      generalize depF gs M k = D at *
      have hwr1 : w1.heap.size ≤ wr.heap.size := by omega
      have hy0 : w.heap.size < wr.heap.size := by omega
      have hy1 : w1.heap.size < wr.heap.size := by omega
      have p0 := P0.out
      have p1 := P1.out
      clear hkl hrow hss
      go_wp2
      go_region_law
        (first
          | (go_simp; go_at_call 89; refine (HDK.out _ w1.heap.size ?_ ?_ ?_).mono ?_; exact hwr1; exact HGR.out; exact HIR.out; rintro e w5 ⟨v5, rfl, ho5, hb5'⟩; obtain ⟨A5, c5, rfl, hI5⟩ := OwnI.form ho5; have hb5 : Below wr.heap.size wr w5 := (by first | exact hb5' | exact below_of_drew hb5'); have HO5 := Lib.hid ho5; have HB5 := Lib.hid hb5; have HR5 := Lib.hid (own_below HROW.out hb5); have hs5 : wr.heap.size ≤ w5.heap.size := hb5.size; have r2 := (hb5.cell (p := ⟨w.heap.size, 0, none⟩) hy0).trans q2; have r0 := (hb5.cell (p := ⟨w1.heap.size, 0, none⟩) hy1).trans p0; have r1 := (hb5.cell (p := ⟨w1.heap.size, 1, none⟩) hy1).trans p1; have rf := (hb5.frozen (p := ⟨w1.heap.size, 1, none⟩) hy1).trans PF.out; have s2 := (World.cell?_alloc_lt w5 (.cells #[.slice A5 D.length c5] 25) ⟨w.heap.size, 0, none⟩ (Nat.lt_of_lt_of_le hy0 hs5)).trans r2; have s0 := (World.cell?_alloc_lt w5 (.cells #[.slice A5 D.length c5] 25) ⟨w1.heap.size, 0, none⟩ (Nat.lt_of_lt_of_le hy1 hs5)).trans r0; have s1 := (World.cell?_alloc_lt w5 (.cells #[.slice A5 D.length c5] 25) ⟨w1.heap.size, 1, none⟩ (Nat.lt_of_lt_of_le hy1 hs5)).trans r1; have sf := ((World.frozen?_alloc_past (w := w5) (.cells #[.slice A5 D.length c5] 25) w1.heap.size 1 (Nat.lt_of_lt_of_le hy1 hs5)).trans rf : (w5.alloc (.cells #[.slice A5 D.length c5] 25)).frozen? ⟨w1.heap.size, 1, none⟩ = false); clear hb5 hb5' ho5 hI5)
          | (refine step_append_lies _ (by rfl) _ _ _ (by rfl) (w1.heap.size + 1) 25 i1 _ 1 24 Try.underlying26 hi hz0 hz1 hz2 rfl (by omega) (.slice Av k cv) k us (by rfl) (HR5.out.alloc _) ⟨w5.heap.size, 0, none⟩ 1 1 [.slice A5 D.length c5] (by rfl) (by rfl) (cell_one_new _ _ _) (by simp [Value.oneCell']) (by omega) (by unfold maxLen; omega) (by omega) (by simp; omega) (w5.heap.size + 1) (by simp) ?_; intro gg cap w6 hown' hgrow hat hlt6; have hpos := (HR5.out.alloc (.cells #[.slice A5 D.length c5] 25)).lt; have hb6 : Below (w1.heap.size + 1) (w5.alloc (.cells #[.slice A5 D.length c5] 25)) w6 := (Below.refl _ _).grown hgrow (by first | (simp; omega) | omega) (fun q hq => (hpos q hq).1); have t2 := (hb6.cell (p := ⟨w.heap.size, 0, none⟩) (by show w.heap.size < w1.heap.size + 1; omega)).trans s2; have t0 := (hb6.cell (p := ⟨w1.heap.size, 0, none⟩) (by show w1.heap.size < w1.heap.size + 1; omega)).trans s0; have t1 := (hb6.cell (p := ⟨w1.heap.size, 1, none⟩) (by show w1.heap.size < w1.heap.size + 1; omega)).trans s1; have tf := (hb6.frozen (p := ⟨w1.heap.size, 1, none⟩) (by show w1.heap.size < w1.heap.size + 1; omega)).trans sf))
      all_goals
        have HNEW : Hid (OwSS (w1.heap.size + 1) w6.heap.size (.slice (some ⟨gg, 0, none⟩) (k + 1) cap) (k + 1) (depTo gs M (k + 1)) w6) := by
          rw [HDS.out]
          have hd5 := HO5.out
          unfold OwnI at hd5
          exact OwSS.snoc HROW.out HSS.out HKL.out HB5.out hd5 rfl hown' hgrow hwr
        have HB6 : Hid (Below w1.heap.size w1 w6) := ((HB.out.trans (HB5.out.mono hwr1)).alloc (by omega) (.cells #[.slice A5 D.length c5] 25)).trans (hb6.mono (by omega))
        have hs6 : w1.heap.size + 1 ≤ w6.heap.size := by have := hgrow.size; simp at this; omega
        clear hown' hgrow hpos hb6 r2 r0 r1 s2 s0 s1 q2 p0 p1 rf sf
        go_wp2
        go_roundw
        case rel => exact ⟨k + 1, _, by omega, by go_num, Lib.hid ((World.cell?_setCell_other _ _ _ _ (by simp)).trans t0), Lib.hid (World.cell?_setCell_same _ _ _ t1), Lib.hid ((World.frozen?_setCell _ _ _ _).trans tf), Lib.hid (by simpa [World.setCell] using HNEW.out.setCell (a := ⟨w1.heap.size, 1, none⟩) (by simp) (.slice (some ⟨gg, 0, none⟩) (k + 1) cap)), Lib.hid (HB6.out.setCell (Nat.le_refl _) _), by simpa [World.setCell] using hs6⟩
        case measure => simp [intOf]; omega
    · obtain rfl : k = n := by omega
      have e1 := (HB.out.cell (p := ⟨w.heap.size + 1, 0, none⟩) (by show w.heap.size + 1 < w1.heap.size; omega)).trans k0
      have e2 := (HB.out.cell (p := ⟨w.heap.size + 1, 1, none⟩) (by show w.heap.size + 1 < w1.heap.size; omega)).trans k1
      have e3 := (HB.out.frozen (p := ⟨w.heap.size + 1, 0, none⟩) (by show w.heap.size + 1 < w1.heap.size; omega)).trans f0
      have e4 := (HB.out.frozen (p := ⟨w.heap.size + 1, 1, none⟩) (by show w.heap.size + 1 < w1.heap.size; omega)).trans f1
      obtain ⟨Av, cv, rfl⟩ := HO.out.form
      have p0 := P0.out
      have p1 := P1.out
      go_wp2
      refine bodyPost_ret (v := .agg #[.slice A1 k c1, .slice Av k cv]) (by simp [results, Try.results73, go_sem, e1, e2]) rfl ?_
      have hrow0 : OwR (w.heap.size + 1 + 1) w1.heap.size 3 1 (.slice A1 k c1) k (M.map (Value.int .i64)) w1 := OwR.of_own HO1.out HML.out.symm
      have hrow1 := hrow0.keep (w' := wr) fun q _ hq => HB.out.block q hq
      have hoe : OwE (w.heap.size + 1 + 1) wr.heap.size A1 k c1 Av k cv ⟨M, depTo gs M k⟩ wr := OwE.join hrow1 HML.out.symm (HO.out.mono (by omega) (Nat.le_refl _)) (by omega) (by omega)
      have o1 := hoe.setCell (a := ⟨w.heap.size + 1, 0, none⟩) (by simp) (.slice A1 k c1)
      have o2 := o1.setCell (a := ⟨w.heap.size + 1, 1, none⟩) (by simp) (.slice Av k cv)
      refine ⟨_, _, _, _, _, _, rfl, ?_, ((hB1.trans (HB.out.mono (by omega))).setCell (by simp) _).setCell (by simp) _⟩
      have o4 := o2.mono (lo' := w.heap.size) (hi' := wr.heap.size) (by omega) (Nat.le_refl _)
      simpa [World.setCell] using o4

set_option maxRecDepth 100000 in
set_option maxHeartbeats 3200000 in
theorem top_spec_StartEager (gs : List Nd) (xs : List Int) (hG : GB gs) (hL : xs.length ≤ 1048576) : ∀ (A : Option Addr) (n c : Nat) (A' : Option Addr) (m c' : Nat) (w : World), n = gs.length → n ≤ c → GS w w.heap.size A gs → m = xs.length → IS w w.heap.size A' xs →
    Calls Try.prog 22 #[.agg #[.slice A n c], .slice A' m c'] w fun e w' => RetE w (startF gs xs) e w' := by
  intro A n c A' m c' w hn _ h hm h'
  have H := Lib.hid h
  have HI := Lib.hid h'
  have HC := Lib.hid fun (w' : World) (hB : w.heap.size ≤ w'.heap.size) (h : GS w' w.heap.size A gs) => spec_validGraph A n c gs w' w.heap.size hB hn h hG
  have HD := Lib.hid fun (w' : World) (hB : w.heap.size ≤ w'.heap.size) (h : GS w' w.heap.size A gs) (h' : IS w' w.heap.size A' xs) => spec_validCells A A' n c m c' gs xs w' w.heap.size hB hn hm h h' (by have := hG.1; omega) (by omega)
  have HE := Lib.hid fun (w' : World) (hB : w.heap.size ≤ w'.heap.size) (h : GS w' w.heap.size A gs) (h' : IS w' w.heap.size A' xs) (hok : okC gs xs = true) => spec_startEager A A' n c m c' gs xs w' w.heap.size hB hn hm h h' hok
  have hf : startF gs xs = if okC gs xs then ⟨mean gs xs, depTo gs (mean gs xs) gs.length⟩ else ⟨[], []⟩ := rfl
  have hok : okC gs xs = (validG gs && validC gs xs) := rfl
  rw [hf]
  clear hf
  generalize okC gs xs = o at *
  generalize validG gs = r at *
  generalize validC gs xs = s at *
  generalize (⟨mean gs xs, depTo gs (mean gs xs) gs.length⟩ : Eg) = M at *
  subst hok
  clear h h' hn hm hG
  have HGA := Lib.hid ((H.out.alloc (Nat.le_refl _) (.cells #[.slice A n c] 34)).alloc (by simp) (.cells #[.slice none 0 0, .slice none 0 0] 36))
  have HIA := Lib.hid ((HI.out.alloc (Nat.le_refl _) (.cells #[.slice A n c] 34)).alloc (by simp) (.cells #[.slice none 0 0, .slice none 0 0] 36))
  cases r
  · go_enter Try.func22, Try.ntmps22
    go_wp2_with fail
    refine (HC.out _ (by simp; omega) HGA.out).mono ?_
    rintro e w1 ⟨rfl, hb⟩
    have k0 : w1.cell? ⟨w.heap.size + 1, 0, none⟩ = some (.slice none 0 0) := (hb.cell (p := ⟨w.heap.size + 1, 0, none⟩) (by simp)).trans (by go_simp)
    have k1 : w1.cell? ⟨w.heap.size + 1, 1, none⟩ = some (.slice none 0 0) := (hb.cell (p := ⟨w.heap.size + 1, 1, none⟩) (by simp)).trans (by go_simp)
    have f0 : w1.frozen? ⟨w.heap.size + 1, 0, none⟩ = false := (hb.frozen (p := ⟨w.heap.size + 1, 0, none⟩) (by simp)).trans (by go_simp)
    have f1 : w1.frozen? ⟨w.heap.size + 1, 1, none⟩ = false := (hb.frozen (p := ⟨w.heap.size + 1, 1, none⟩) (by simp)).trans (by go_simp)
    have hB1 : Below w.heap.size w w1 := (((Below.refl _ _).alloc (Nat.le_refl _) _).alloc (by simp) _).trans (hb.mono (by simp; omega))
    go_wp2
    refine bodyPost_ret (v := .agg #[.slice none 0 0, .slice none 0 0]) (by simp [results, Try.results22, go_sem, k0, k1]) rfl (RetE.nil ?_)
    exact (hB1.setCell (by simp) _).setCell (by simp) _
  · go_enter Try.func22, Try.ntmps22
    go_wp2_with fail
    refine (HC.out _ (by simp; omega) HGA.out).mono ?_
    rintro e w1 ⟨rfl, hb⟩
    have q0 : w1.cell? ⟨w.heap.size, 0, none⟩ = some (.slice A n c) := (hb.cell (p := ⟨w.heap.size, 0, none⟩) (by simp; omega)).trans (by go_simp)
    have k0 : w1.cell? ⟨w.heap.size + 1, 0, none⟩ = some (.slice none 0 0) := (hb.cell (p := ⟨w.heap.size + 1, 0, none⟩) (by simp)).trans (by go_simp)
    have k1 : w1.cell? ⟨w.heap.size + 1, 1, none⟩ = some (.slice none 0 0) := (hb.cell (p := ⟨w.heap.size + 1, 1, none⟩) (by simp)).trans (by go_simp)
    have f0 : w1.frozen? ⟨w.heap.size + 1, 0, none⟩ = false := (hb.frozen (p := ⟨w.heap.size + 1, 0, none⟩) (by simp)).trans (by go_simp)
    have f1 : w1.frozen? ⟨w.heap.size + 1, 1, none⟩ = false := (hb.frozen (p := ⟨w.heap.size + 1, 1, none⟩) (by simp)).trans (by go_simp)
    have hB1 : Below w.heap.size w w1 := (((Below.refl _ _).alloc (Nat.le_refl _) _).alloc (by simp) _).trans (hb.mono (by simp; omega))
    have hl1 : w.heap.size + 2 ≤ w1.heap.size := by have := hb.size; simp at this; omega
    have HG1 := Lib.hid (HGA.out.below hb (by simp; omega))
    have HI1 := Lib.hid (HIA.out.below hb (by simp; omega))
    clear hb
    go_wp2_with fail
    refine (HD.out _ (by omega) HG1.out HI1.out).mono ?_
    rintro e w2 ⟨rfl, hb2⟩
    have r0 := (hb2.cell (p := ⟨w.heap.size, 0, none⟩) (by show w.heap.size < w1.heap.size; omega)).trans q0
    have m0 := (hb2.cell (p := ⟨w.heap.size + 1, 0, none⟩) (by show w.heap.size + 1 < w1.heap.size; omega)).trans k0
    have m1 := (hb2.cell (p := ⟨w.heap.size + 1, 1, none⟩) (by show w.heap.size + 1 < w1.heap.size; omega)).trans k1
    have g0 := (hb2.frozen (p := ⟨w.heap.size + 1, 0, none⟩) (by show w.heap.size + 1 < w1.heap.size; omega)).trans f0
    have g1 := (hb2.frozen (p := ⟨w.heap.size + 1, 1, none⟩) (by show w.heap.size + 1 < w1.heap.size; omega)).trans f1
    have hB2 := hB1.trans (hb2.mono (by omega))
    have hl2 : w.heap.size + 2 ≤ w2.heap.size := Nat.le_trans hl1 hb2.size
    have HG2 := Lib.hid (HG1.out.below hb2 (by omega))
    have HI2 := Lib.hid (HI1.out.below hb2 (by omega))
    clear hb2 q0 k0 k1 f0 f1
    cases s
    · go_wp2
      refine bodyPost_ret (v := .agg #[.slice none 0 0, .slice none 0 0]) (by simp [results, Try.results22, go_sem, m0, m1]) rfl (RetE.nil ?_)
      exact (hB2.setCell (by simp) _).setCell (by simp) _
    · go_wp2_with fail
      refine (HE.out _ (by omega) HG2.out HI2.out rfl).mono ?_
      rintro e w3 ⟨A3, n3, c3, E3, en3, ec3, rfl, ho, hb3⟩
      have u0 := (hb3.cell (p := ⟨w.heap.size + 1, 0, none⟩) (by show w.heap.size + 1 < w2.heap.size; omega)).trans m0
      have u1 := (hb3.cell (p := ⟨w.heap.size + 1, 1, none⟩) (by show w.heap.size + 1 < w2.heap.size; omega)).trans m1
      have v0 := (hb3.frozen (p := ⟨w.heap.size + 1, 0, none⟩) (by show w.heap.size + 1 < w2.heap.size; omega)).trans g0
      have v1 := (hb3.frozen (p := ⟨w.heap.size + 1, 1, none⟩) (by show w.heap.size + 1 < w2.heap.size; omega)).trans g1
      have HO := Lib.hid ho
      have HB3 := Lib.hid (hB2.trans (hb3.mono (by omega)))
      clear ho hb3
      go_wp2
      refine bodyPost_ret (v := .agg #[.slice A3 n3 c3, .slice E3 en3 ec3]) (by simp [results, Try.results22, go_sem, u0, u1]) rfl ?_
      have o1 := HO.out.setCell (a := ⟨w.heap.size + 1, 0, none⟩) (by simp; omega) (.slice A3 n3 c3)
      have o2 := o1.setCell (a := ⟨w.heap.size + 1, 1, none⟩) (by simp; omega) (.slice E3 en3 ec3)
      refine ⟨_, _, _, _, _, _, rfl, ?_, (HB3.out.setCell (by simp) _).setCell (by simp) _⟩
      have o4 := o2.mono (lo' := w.heap.size) (hi' := w3.heap.size) (by omega) (Nat.le_refl _)
      simpa [World.setCell] using o4

set_option maxRecDepth 100000 in
set_option maxHeartbeats 3200000 in
theorem top_impl_StartEager (gs : List Nd) (xs : List Int) (hG : GB gs) (hL : xs.length ≤ 1048576) : ∀ (A : Option Addr) (n c : Nat) (A' : Option Addr) (m c' : Nat) (w : World), n = gs.length → n ≤ c → GS w w.heap.size A gs → m = xs.length → IS w w.heap.size A' xs →
    Calls Try.prog 24 #[.agg #[.slice A n c], .slice A' m c'] w fun e w' => RetE w (startF gs xs) e w' := by
  intro A n c A' m c' w hn hnc h hm h'
  have hf : startF gs xs = ⟨meanF gs xs, depsF gs xs⟩ := by unfold startF meanF depsF; cases okC gs xs <;> rfl
  rw [hf]
  have HM := Lib.hid fun (w' : World) (hB : w.heap.size ≤ w'.heap.size) (h : GS w' w.heap.size A gs) (h' : IS w' w.heap.size A' xs) => impl_MeaningOf A A' n c m c' gs xs w' w.heap.size hB hn hnc hm h h' hG (by omega)
  have HD := Lib.hid fun (w' : World) (h : GS w' w'.heap.size A gs) (h' : IS w' w'.heap.size A' xs) => top_impl_DepsOf gs xs hG hL A n c A' m c' w' hn hnc h hm h'
  have HG0 := Lib.hid ((h.alloc (Nat.le_refl _) (.cells #[.slice A n c] 34)).alloc (by simp) (.cells #[.slice none 0 0, .slice none 0 0] 36))
  have HI0 := Lib.hid ((h'.alloc (Nat.le_refl _) (.cells #[.slice A n c] 34)).alloc (by simp) (.cells #[.slice none 0 0, .slice none 0 0] 36))
  clear h h' hn hm hG hf
  generalize meanF gs xs = M at *
  generalize depsF gs xs = D at *
  go_enter Try.func24, Try.ntmps24
  go_wp2
  obtain ⟨W2, hW2⟩ : ∃ W2, W2 = ((w.alloc (.cells #[.slice A n c] 34)).alloc (.cells #[.slice none 0 0, .slice none 0 0] 36)) := ⟨_, rfl⟩
  have q0 : W2.cell? ⟨w.heap.size, 0, none⟩ = some (.slice A n c) := by rw [hW2]; go_simp
  have k0 : W2.cell? ⟨w.heap.size + 1, 0, none⟩ = some (.slice none 0 0) := by rw [hW2]; go_simp
  have k1 : W2.cell? ⟨w.heap.size + 1, 1, none⟩ = some (.slice none 0 0) := by rw [hW2]; go_simp
  have f0 : W2.frozen? ⟨w.heap.size + 1, 0, none⟩ = false := by rw [hW2]; go_simp
  have f1 : W2.frozen? ⟨w.heap.size + 1, 1, none⟩ = false := by rw [hW2]; go_simp
  have hs2 : W2.heap.size = w.heap.size + 2 := by rw [hW2]; simp
  have HB2 : Hid (Below w.heap.size w W2) := by rw [hW2]; exact ((Below.refl _ _).alloc (Nat.le_refl _) _).alloc (by simp) _
  rw [← hW2] at HG0 HI0
  rw [← hW2]
  clear hW2
  have hy0 : w.heap.size < W2.heap.size := by omega
  have hy1 : w.heap.size + 1 < W2.heap.size := by omega
  have hy2 : w.heap.size ≤ W2.heap.size := by omega
  go_region_held3 (fun w' => w'.cell? ⟨w.heap.size, 0, none⟩ = some (.slice A n c)) (first | exact q0 | exact r0 | exact s0 | exact (World.cell?_setCell_other _ _ _ _ (by simp)).trans ((World.cell?_setCell_other _ _ _ _ (by simp)).trans s0))
    (first
      | (go_at_call 74; refine (HM.out _ ?_ ?_ ?_).mono ?_; exact hy2; exact HG0.out; exact HI0.out; rintro e w3 ⟨v3, rfl, ho3, hb3'⟩; obtain ⟨A3, c3, rfl, hI3⟩ := OwnI.form ho3; have hb3 : Below W2.heap.size W2 w3 := (by first | exact hb3' | exact below_of_drew hb3'); have r0 := (hb3.cell (p := ⟨w.heap.size, 0, none⟩) hy0).trans q0; have HG3 := Lib.hid ((HG0.out.below hb3 hy2).more (B' := w3.heap.size) (Nat.le_trans hy2 hb3.size)); have HI3 := Lib.hid ((HI0.out.below hb3 hy2).more (B' := w3.heap.size) (Nat.le_trans hy2 hb3.size)))
      | (go_at_call 75; refine (HD.out _ ?_ ?_).mono ?_; exact HG3.out; exact HI3.out; rintro e w4 ⟨v4, rfl, ho4, hb4⟩; obtain ⟨A4, c4, rfl⟩ := ho4.form; have s0 := (hb4.cell (p := ⟨w.heap.size, 0, none⟩) (Nat.lt_of_lt_of_le hy0 hb3.size)).trans r0; have t0 := (hb4.cell (p := ⟨w.heap.size + 1, 0, none⟩) (Nat.lt_of_lt_of_le hy1 hb3.size)).trans ((hb3.cell (p := ⟨w.heap.size + 1, 0, none⟩) hy1).trans k0); have t1 := (hb4.cell (p := ⟨w.heap.size + 1, 1, none⟩) (Nat.lt_of_lt_of_le hy1 hb3.size)).trans ((hb3.cell (p := ⟨w.heap.size + 1, 1, none⟩) hy1).trans k1); have u0 := (hb4.frozen (p := ⟨w.heap.size + 1, 0, none⟩) (Nat.lt_of_lt_of_le hy1 hb3.size)).trans ((hb3.frozen (p := ⟨w.heap.size + 1, 0, none⟩) hy1).trans f0); have u1 := (hb4.frozen (p := ⟨w.heap.size + 1, 1, none⟩) (Nat.lt_of_lt_of_le hy1 hb3.size)).trans ((hb3.frozen (p := ⟨w.heap.size + 1, 1, none⟩) hy1).trans f1)))
  have HO3 := Lib.hid ho3
  have HO4 := Lib.hid ho4
  have HB4 := Lib.hid (HB2.out.trans ((hb3.mono hy2).trans (hb4.mono (Nat.le_trans hy2 hb3.size))))
  have hs3 := hb3.size
  have hs4 := hb4.size
  have hrow1 := (OwR.of_own HO3.out rfl).step hb4
  have hoe : OwE W2.heap.size w4.heap.size A3 M.length c3 A4 D.length c4 ⟨M, D⟩ w4 := OwE.join (mid := w3.heap.size) hrow1 rfl HO4.out hs3 hs4
  go_wp2
  refine bodyPost_ret (v := .agg #[.slice A3 M.length c3, .slice A4 D.length c4]) (by simp [results, Try.results24, go_sem, t0, t1]) rfl ?_
  have o1 := hoe.setCell (a := ⟨w.heap.size + 1, 0, none⟩) (by simp; omega) (.slice A3 M.length c3)
  have o2 := o1.setCell (a := ⟨w.heap.size + 1, 1, none⟩) (by simp; omega) (.slice A4 D.length c4)
  refine ⟨_, _, _, _, _, _, rfl, ?_, (HB4.out.setCell (by simp) _).setCell (by simp) _⟩
  have o4 := o2.mono (lo' := w.heap.size) (hi' := w4.heap.size) (by omega) (Nat.le_refl _)
  simpa [World.setCell] using o4
end Go.Proofs.Ythephbppeiealaa
