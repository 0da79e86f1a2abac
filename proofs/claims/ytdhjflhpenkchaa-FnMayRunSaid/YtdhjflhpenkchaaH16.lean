/- Words and contracts for memory that the texts behind use. -/
import Derived.Test.YtdhjflhpenkchaaH0a
import Derived.Test.YtdhjflhpenkchaaH0b
import Derived.Test.YtdhjflhpenkchaaH0
import Derived.Test.YtdhjflhpenkchaaH1
import Derived.Test.YtdhjflhpenkchaaH2
import Derived.Test.YtdhjflhpenkchaaH3
import Derived.Test.YtdhjflhpenkchaaH4
import Derived.Test.YtdhjflhpenkchaaH6
import Derived.Test.YtdhjflhpenkchaaH5
import Derived.Test.YtdhjflhpenkchaaH7
import Derived.Test.YtdhjflhpenkchaaH8
import Derived.Test.YtdhjflhpenkchaaH9
import Derived.Test.YtdhjflhpenkchaaH10
import Derived.Test.YtdhjflhpenkchaaH11
import Derived.Test.YtdhjflhpenkchaaH13
import Derived.Test.YtdhjflhpenkchaaH14
import Derived.Test.YtdhjflhpenkchaaH15
import Derived.WalkKit
import Derived.Laws.OwnMore
import Derived.Deep.Draws
import Derived.Test.YtdhjflhpenkchaaProg
import Derived.WalkSpells
import Derived.WalkLawsBesides
import Derived.Outline
import Derived.Lib.Hide
import Derived.BigQuiet
import Derived.Deep.QuietTactic
import Derived.StillTailTactics
import Derived.Deep.LoopGhost
import Derived.Laws.MakeOwn
import Derived.WalkSmall
import Derived.RegionTactic
import Derived.BigRegion
import Derived.Deep.RegionWith
import Derived.Deep.RegionHeld3
import Derived.Laws.Entries
import Derived.Laws.Bits64
import Derived.IntWalk
import Derived.Maps.AppendAt
import Derived.Deep.RegionLaw
import Derived.Deep.AppendLies
import Derived.Deep.Cut
import Derived.Deep.DeepCutAuto
import Derived.Maps.Own
import Derived.Maps.Views
import Derived.Laws.CopyOwn
import Derived.ChangeAlike

namespace Go.Proofs.Ytdhjflhpenkchaa
set_option linter.unusedSimpArgs false
set_option linter.unusedVariables false
open Go.RowKit
theorem diffTo_step (a b : List Int) (k : Nat) : diffTo a b (k + 1) = diffTo a b k ++ (if a.getD k 0 == b.getD k 0 then [] else [(k : Int)]) := by
  unfold diffTo
  rw [List.range_succ, List.filter_append, List.map_append]
  congr 1
  cases h : (a.getD k 0 == b.getD k 0) <;> simp [h, -List.getD_eq_getElem?_getD]
theorem diffTo_len (a b : List Int) (k : Nat) : (diffTo a b k).length ≤ k := by
  unfold diffTo
  rw [List.length_map]
  have := List.length_filter_le (fun i => !(a.getD i 0 == b.getD i 0)) (List.range k)
  simpa using this
end Go.Proofs.Ytdhjflhpenkchaa

namespace Go.Proofs.Ytdhjflhpenkchaa
set_option linter.unusedSimpArgs false
set_option linter.unusedVariables false
open Go.RowKit
theorem top_impl_ValidCells (gs : List Nd) (xs : List Int) (hG : GB gs) (hL : xs.length ≤ 1048576) : ∀ (A : Option Addr) (n c : Nat) (A' : Option Addr) (m c' : Nat) (w : World), n = gs.length → n ≤ c → GS w w.heap.size A gs → m = xs.length → IS w w.heap.size A' xs →
    Calls Try.prog 44 #[.agg #[.slice A n c], .slice A' m c'] w fun e w' => e = .returned (.bool (okC gs xs)) ∧ Below w.heap.size w w' :=
  fun A n c A' m c' w hn hc h hm h' => impl_ValidCells A A' n c m c' gs xs w w.heap.size (Nat.le_refl _) hn hc hm h h' hG (by omega)
end Go.Proofs.Ytdhjflhpenkchaa

namespace Go.Proofs.Ytdhjflhpenkchaa
set_option linter.unusedSimpArgs false
set_option linter.unusedVariables false
open Go.RowKit
theorem chgF_len (gs : List Nd) (xs ys : List Int) : (chgF gs xs ys).length ≤ 10 := by
  unfold chgF
  cases h : chgB gs xs ys
  · simp
  · simp only [if_true]
    unfold chgB at h
    simp only [Bool.and_eq_true] at h
    have := diffTo_len (mean gs xs) (mean gs ys) gs.length
    have := (validG_parts gs h.1.1).1
    omega
set_option maxRecDepth 100000 in
set_option maxHeartbeats 1600000 in
theorem spec_differing (A A' : Option Addr) (n c c' : Nat) (a b : List Int) (w : World) (B : Nat) (hB : B ≤ w.heap.size) (hn : n = a.length) (hm : n = b.length) (h : IS w B A a) (h' : IS w B A' b) (hs : n ≤ 2000000) :
    Calls Try.prog 85 #[.slice A n c, .slice A' n c'] w fun e w' => RetI w (diffTo a b n) e w' := by
  obtain ⟨i0, hi, hz0, hz1, hz2⟩ := info_parts info_int
  have H := Lib.hid h
  have H' := Lib.hid h'
  have HN := Lib.hid hn
  have HM := Lib.hid hm
  clear hn h hm h'
  go_enter Try.func85, Try.ntmps85
  go_wp2
  go_loopw [5, 6] (fun v i wr => ∃ k : Nat, k ≤ n ∧ i = .int .i64 k ∧ Hid (OwnI wr w.heap.size v (diffTo a b k)) ∧ Below w.heap.size w wr) (fun _ i _ => n - (intOf i).toNat)
  case atStart =>
    refine ⟨0, Nat.zero_le _, rfl, ?_, (Below.refl _ _).alloc (Nat.le_refl _) _⟩
    have := World.ownsRow_lit (e := 3) (size := 1) (base := w.heap.size) w #[] 0 (Nat.le_refl _) (by unfold maxLen; omega) rfl
    simpa [OwnI, Hid, diffTo] using this
  case round =>
    obtain ⟨k, hk, rfl, HO, hb⟩ := hrel
    by_cases hlt : k < n
    · obtain ⟨b1, off1, rfl, hb1, hc1⟩ := H.out (by have := HN.out; omega)
      obtain ⟨b2, off2, rfl, hb2, hc2⟩ := H'.out (by have := HM.out; omega)
      have c1 := (hb.cell (p := ⟨b1, off1 + k, none⟩) (by simp; omega)).trans (hc1 k (by have := HN.out; omega))
      have c2 := (hb.cell (p := ⟨b2, off2 + k, none⟩) (by simp; omega)).trans (hc2 k (by have := HM.out; omega))
      clear hc1 hc2
      have HST := Lib.hid (diffTo_step a b k)
      have hdl := diffTo_len a b k
      generalize a.getD k 0 = x at *
      generalize b.getD k 0 = y at *
      generalize diffTo a b k = D at *
      have hwr : w.heap.size ≤ wr.heap.size := hb.size
      cases hxy : (x == y)
      · have hne : (x != y) = true := by simp [bne, hxy]
        rw [hxy] at HST
        clear hxy
        go_wp2
        go_region
        go_wp2_with (at_builtin; refine wpList_append_own _ rfl _ _ 28 rfl w.heap.size 3 i0 (.int .i64 0) 1 8 Try.underlying28 hi hz0 hz1 hz2 rfl (by decide) _ _ _ rfl (HO.out.drew.alloc _) ⟨_, 0, none⟩ 1 1 [.int .i64 k] rfl rfl (cell_one_new _ _ _) ?c2 ?c3 ?c4 ?c5 ?_)
        case c2 => first | rfl | (intro u hu; simp at hu; subst hu; rfl)
        case c3 => unfold maxLen; omega
        case c4 => omega
        case c5 => first | omega | (simp; omega)
        intro v' w3 hown' hgrow _
        have hpos := (HO.out.drew.alloc (.cells #[.int .i64 k] 3)).lt
        have HO' : Hid (OwnI w3 w.heap.size v' (diffTo a b (k + 1))) := by
          rw [HST.out]
          simpa [OwnI, Hid] using hown'
        have HB' := Lib.hid ((hb.drew.alloc hwr (.cells #[.int .i64 k] 3)).grown hgrow (by first | (simp; omega) | omega) (fun q hq => (hpos q hq).1))
        clear hown' hgrow hpos
        go_wp2
        go_roundw
        case rel => exact ⟨k + 1, by omega, by go_num, HO'.out, HB'.out⟩
        case measure => simp [intOf]; omega
      · have hne : (x != y) = false := by simp [bne, hxy]
        rw [hxy] at HST
        clear hxy
        go_wp2
        go_region
        go_wp2
        go_roundw
        case rel => exact ⟨k + 1, by omega, by go_num, by rw [HST.out]; have := HO.out.drew; simpa [OwnI, Hid] using this, hb.drew⟩
        case measure => simp [intOf]; omega
    · obtain rfl : k = n := by omega
      go_wp2
      go_ret
      exact ⟨_, rfl, HO.out, hb⟩
theorem nwTo_diff (a b : List Int) (k : Nat) : nwTo (fun i => !(a.getD i 0 == b.getD i 0)) k = diffTo a b k := rfl
set_option maxRecDepth 100000 in
set_option maxHeartbeats 1600000 in
theorem impl_nodesWhere2 (K : FuncId) (cap cap2 : Value) (P : Nat → Bool) (I : World → Prop) (A : Option Addr) (n c : Nat) (hs : n ≤ 2000000)
    (hI : ∀ w w' : World, I w → Below w.heap.size w w' → I w') (hcf : ∀ (q : Nat) (w : World), (callFunc K #[.int .i64 q, cap, cap2]).run Try.prog w = .ok (.enter K #[.int .i64 q, cap, cap2]) w)
    (hP : ∀ (q : Nat) (w : World), q < n → I w → Calls Try.prog K #[.int .i64 q, cap, cap2] w fun e w' => e = .returned (.bool (P q)) ∧ Below w.heap.size w w') (w : World) (h : I w) :
    Calls Try.prog 68 #[.agg #[.slice A n c], .func (.func K) #[] #[cap, cap2]] w fun e w' => RetI w (nwTo P n) e w' := by
  obtain ⟨i0, hi, hz0, hz1, hz2⟩ := info_parts info_int
  have HI := Lib.hid hI
  have HP := Lib.hid hP
  have H := Lib.hid h
  have HCF := Lib.hid hcf
  clear hI hP h hcf
  go_enter Try.func68, Try.ntmps68
  go_wp2
  go_loopw [5, 10] (fun v i wr => ∃ k : Nat, k ≤ n ∧ i = .int .i64 k ∧ Hid (OwnI wr (w.heap.size + 1) v (nwTo P k)) ∧ Below (w.heap.size + 1) (w.alloc (.cells #[.slice A n c] 25)) wr) (fun _ i _ => n - (intOf i).toNat)
  case atStart => exact ⟨0, Nat.zero_le _, rfl, World.ownsRow_nil _ _ _ _, Below.refl _ _⟩
  case round =>
    obtain ⟨k, hk, rfl, HO, hbr⟩ := hrel
    have hwr : w.heap.size + 1 ≤ wr.heap.size := by have := hbr.size; simpa using this
    by_cases hlt : k < n
    · have HST := Lib.hid (nwTo_step P k)
      have hdl := nwTo_len P k
      have HIR := Lib.hid (HI.out _ _ H.out (((Below.refl _ _).alloc (Nat.le_refl _) _).trans (hbr.mono (by omega))))
      have HPK := Lib.hid fun (w' : World) (h : I w') => HP.out k w' hlt h
      have hcf := HCF.out k
      generalize nwTo P k = D at *
      generalize P k = p at *
      cases p
      · go_wp2_with fail
        refine (HPK.out _ HIR.out).mono ?_
        rintro e w2 ⟨rfl, hb2⟩
        go_wp2
        go_roundw
        case rel => exact ⟨k + 1, by omega, by go_num, by rw [HST.out]; simpa [OwnI, Hid] using own_below HO.out hb2, hbr.trans (hb2.mono hwr)⟩
        case measure => simp [intOf]; omega
      · go_wp2_with fail
        refine (HPK.out _ HIR.out).mono ?_
        rintro e w2 ⟨rfl, hb2⟩
        have HO2 := Lib.hid (own_below HO.out hb2)
        have hbr2 := hbr.trans (hb2.mono hwr)
        have hw2 : w.heap.size + 1 ≤ w2.heap.size := by have := hb2.size; omega
        clear hcf
        go_wp2_with (at_builtin; refine wpList_append_own _ rfl _ _ 28 rfl (w.heap.size + 1) 3 i0 (.int .i64 0) 1 8 Try.underlying28 hi hz0 hz1 hz2 rfl (by decide) _ _ _ rfl (HO2.out.alloc _) ⟨_, 0, none⟩ 1 1 [.int .i64 k] rfl rfl (cell_one_new _ _ _) ?c2 ?c3 ?c4 ?c5 ?_)
        case c2 => first | rfl | (intro u hu; simp at hu; subst hu; rfl)
        case c3 => unfold maxLen; omega
        case c4 => omega
        case c5 => first | omega | (simp; omega)
        intro v' w3 hown' hgrow _
        have hpos := (HO2.out.alloc (.cells #[.int .i64 k] 3)).lt
        have HO' : Hid (OwnI w3 (w.heap.size + 1) v' (nwTo P (k + 1))) := by
          rw [HST.out]
          simpa [OwnI, Hid] using hown'
        have HB' := Lib.hid ((hbr2.alloc hw2 (.cells #[.int .i64 k] 3)).grown hgrow (by first | (simp; omega) | omega) (fun q hq => (hpos q hq).1))
        clear hown' hgrow hpos
        go_wp2
        go_roundw
        case rel => exact ⟨k + 1, by omega, by go_num, HO'.out, HB'.out⟩
        case measure => simp [intOf]; omega
    · obtain rfl : k = n := by omega
      go_wp2
      go_ret
      exact ⟨_, rfl, own_mono HO.out (by omega), ((Below.refl _ _).alloc (Nat.le_refl _) _).trans (hbr.mono (by omega))⟩
set_option maxHeartbeats 800000 in
theorem differ_at (g1 g2 : Nat) (A A' : Option Addr) (n c c' q : Nat) (a b : List Int) (w : World) (hn : n = a.length) (hm : n = b.length) (hq : q < n) (h1 : w.cell? ⟨g1, 0, none⟩ = some (.slice A n c)) (h2 : w.cell? ⟨g2, 0, none⟩ = some (.slice A' n c')) (h : IS w w.heap.size A a) (h' : IS w w.heap.size A' b) :
    Calls Try.prog 84 #[.int .i64 q, .pointer (some ⟨g1, 0, none⟩), .pointer (some ⟨g2, 0, none⟩)] w fun e w' => e = .returned (.bool (!(a.getD q 0 == b.getD q 0))) ∧ Below w.heap.size w w' := by
  obtain ⟨b1, off1, rfl, hb1, hc1⟩ := h (by omega)
  obtain ⟨b2, off2, rfl, hb2, hc2⟩ := h' (by omega)
  have e1 := hc1 q (by omega)
  have e2 := hc2 q (by omega)
  generalize a.getD q 0 = x at *
  generalize b.getD q 0 = y at *
  clear hc1 hc2 hn hm h h'
  go_enter Try.func84, Try.ntmps84
  go_wp2
  go_region
  go_wp2
  go_ret
  exact ⟨ret_b (by simp [bne]), (Below.refl _ _).drew⟩
set_option maxRecDepth 100000 in
set_option maxHeartbeats 3200000 in
theorem top_spec_ChangedBy (gs : List Nd) (xs ys : List Int) (hG : GB gs) (hL : xs.length ≤ 1048576) (hL2 : ys.length ≤ 1048576) : ∀ (A : Option Addr) (n c : Nat) (A1 : Option Addr) (m1 c1 : Nat) (A2 : Option Addr) (m2 c2 : Nat) (w : World), n = gs.length → n ≤ c → GS w w.heap.size A gs → m1 = xs.length → IS w w.heap.size A1 xs → m2 = ys.length → IS w w.heap.size A2 ys →
    Calls Try.prog 43 #[.agg #[.slice A n c], .slice A1 m1 c1, .slice A2 m2 c2] w fun e w' => RetI w (chgF gs xs ys) e w' := by
  intro A n c A1 m1 c1 A2 m2 c2 w hn hnc h hx h1 hy h2
  have hm1 : m1 ≤ 2000000 := by omega
  have hm2 : m2 ≤ 2000000 := by omega
  have hn1 : n ≤ 1048576 := by rw [hn]; exact hG.1
  have H := Lib.hid h
  have HX := Lib.hid h1
  have HY := Lib.hid h2
  have HN := Lib.hid hn
  have HC := Lib.hid fun (w' : World) (hB : w.heap.size ≤ w'.heap.size) (h : GS w' w.heap.size A gs) => spec_validGraph A n c gs w' w.heap.size hB hn h hG
  have HDX := Lib.hid fun (w' : World) (hB : w.heap.size ≤ w'.heap.size) (h : GS w' w.heap.size A gs) (h' : IS w' w.heap.size A1 xs) => spec_validCells A A1 n c m1 c1 gs xs w' w.heap.size hB hn hx h h' (by omega) hm1
  have HDY := Lib.hid fun (w' : World) (hB : w.heap.size ≤ w'.heap.size) (h : GS w' w.heap.size A gs) (h' : IS w' w.heap.size A2 ys) => spec_validCells A A2 n c m2 c2 gs ys w' w.heap.size hB hn hy h h' (by omega) hm2
  have HMX := Lib.hid fun (w' : World) (hB : w.heap.size ≤ w'.heap.size) (h : GS w' w.heap.size A gs) (h' : IS w' w.heap.size A1 xs) (hok : validG gs = true ∧ validC gs xs = true) => spec_meaning A A1 n c m1 c1 gs xs w' w.heap.size hB hn hx h h' (by unfold okC; rw [hok.1, hok.2]; rfl)
  have HMY := Lib.hid fun (w' : World) (hB : w.heap.size ≤ w'.heap.size) (h : GS w' w.heap.size A gs) (h' : IS w' w.heap.size A2 ys) (hok : validG gs = true ∧ validC gs ys = true) => spec_meaning A A2 n c m2 c2 gs ys w' w.heap.size hB hn hy h h' (by unfold okC; rw [hok.1, hok.2]; rfl)
  have hml1 := mean_len gs xs
  have hml2 := mean_len gs ys
  have hf : chgF gs xs ys = if validG gs && validC gs xs && validC gs ys then diffTo (mean gs xs) (mean gs ys) gs.length else [] := rfl
  rw [hf, ← hn]
  rw [← hn] at hml1 hml2
  have HL1 := Lib.hid hml1
  have HL2 := Lib.hid hml2
  clear hf h h1 h2 hn hx hy hG hml1 hml2
  generalize validG gs = b0 at *
  generalize validC gs xs = b1 at *
  generalize validC gs ys = b2 at *
  generalize mean gs xs = MX at *
  generalize mean gs ys = MY at *
  cases b0
  · go_enter Try.func43, Try.ntmps43
    go_wp2_with fail
    refine (HC.out _ (by simp) (H.out.alloc (Nat.le_refl _) _)).mono ?_
    rintro e w1 ⟨rfl, hb⟩
    have q1 : w1.cell? ⟨w.heap.size, 0, none⟩ = some (.slice A n c) := (hb.cell (p := ⟨w.heap.size, 0, none⟩) (by simp)).trans (by go_simp)
    have HG1 := Lib.hid ((H.out.alloc (Nat.le_refl _) (.cells #[.slice A n c] 25)).below hb (by simp))
    have HX1 := Lib.hid ((HX.out.alloc (Nat.le_refl _) (.cells #[.slice A n c] 25)).below hb (by simp))
    have HY1 := Lib.hid ((HY.out.alloc (Nat.le_refl _) (.cells #[.slice A n c] 25)).below hb (by simp))
    have hB1 : Below w.heap.size w w1 := ((Below.refl _ _).alloc (Nat.le_refl _) _).trans (hb.mono (by simp))
    have hl1 : w.heap.size < w1.heap.size := by have := hb.size; simp at this; omega
    clear hb
    go_wp2
    go_ret
    exact RetI.nil (hB1)
  · cases b1
    · go_enter Try.func43, Try.ntmps43
      go_wp2_with fail
      refine (HC.out _ (by simp) (H.out.alloc (Nat.le_refl _) _)).mono ?_
      rintro e w1 ⟨rfl, hb⟩
      have q1 : w1.cell? ⟨w.heap.size, 0, none⟩ = some (.slice A n c) := (hb.cell (p := ⟨w.heap.size, 0, none⟩) (by simp)).trans (by go_simp)
      have HG1 := Lib.hid ((H.out.alloc (Nat.le_refl _) (.cells #[.slice A n c] 25)).below hb (by simp))
      have HX1 := Lib.hid ((HX.out.alloc (Nat.le_refl _) (.cells #[.slice A n c] 25)).below hb (by simp))
      have HY1 := Lib.hid ((HY.out.alloc (Nat.le_refl _) (.cells #[.slice A n c] 25)).below hb (by simp))
      have hB1 : Below w.heap.size w w1 := ((Below.refl _ _).alloc (Nat.le_refl _) _).trans (hb.mono (by simp))
      have hl1 : w.heap.size < w1.heap.size := by have := hb.size; simp at this; omega
      clear hb
      go_wp2_with fail
      refine (HDX.out _ hB1.size HG1.out HX1.out).mono ?_
      rintro e w2 ⟨rfl, hb⟩
      have q2 := (hb.cell (p := ⟨w.heap.size, 0, none⟩) hl1).trans q1
      have HG2 := Lib.hid (HG1.out.below hb hB1.size)
      have HX2 := Lib.hid (HX1.out.below hb hB1.size)
      have HY2 := Lib.hid (HY1.out.below hb hB1.size)
      have hB2 := hB1.trans (hb.mono hB1.size)
      have hl2 : w.heap.size < w2.heap.size := Nat.lt_of_lt_of_le hl1 hb.size
      go_wp2
      go_ret
      exact RetI.nil (hB2)
    · cases b2
      · go_enter Try.func43, Try.ntmps43
        go_wp2_with fail
        refine (HC.out _ (by simp) (H.out.alloc (Nat.le_refl _) _)).mono ?_
        rintro e w1 ⟨rfl, hb⟩
        have q1 : w1.cell? ⟨w.heap.size, 0, none⟩ = some (.slice A n c) := (hb.cell (p := ⟨w.heap.size, 0, none⟩) (by simp)).trans (by go_simp)
        have HG1 := Lib.hid ((H.out.alloc (Nat.le_refl _) (.cells #[.slice A n c] 25)).below hb (by simp))
        have HX1 := Lib.hid ((HX.out.alloc (Nat.le_refl _) (.cells #[.slice A n c] 25)).below hb (by simp))
        have HY1 := Lib.hid ((HY.out.alloc (Nat.le_refl _) (.cells #[.slice A n c] 25)).below hb (by simp))
        have hB1 : Below w.heap.size w w1 := ((Below.refl _ _).alloc (Nat.le_refl _) _).trans (hb.mono (by simp))
        have hl1 : w.heap.size < w1.heap.size := by have := hb.size; simp at this; omega
        clear hb
        go_wp2_with fail
        refine (HDX.out _ hB1.size HG1.out HX1.out).mono ?_
        rintro e w2 ⟨rfl, hb⟩
        have q2 := (hb.cell (p := ⟨w.heap.size, 0, none⟩) hl1).trans q1
        have HG2 := Lib.hid (HG1.out.below hb hB1.size)
        have HX2 := Lib.hid (HX1.out.below hb hB1.size)
        have HY2 := Lib.hid (HY1.out.below hb hB1.size)
        have hB2 := hB1.trans (hb.mono hB1.size)
        have hl2 : w.heap.size < w2.heap.size := Nat.lt_of_lt_of_le hl1 hb.size
        clear hb
        go_wp2_with fail
        refine (HDY.out _ hB2.size HG2.out HY2.out).mono ?_
        rintro e w3 ⟨rfl, hb⟩
        have q3 := (hb.cell (p := ⟨w.heap.size, 0, none⟩) hl2).trans q2
        have HG3 := Lib.hid (HG2.out.below hb hB2.size)
        have HX3 := Lib.hid (HX2.out.below hb hB2.size)
        have HY3 := Lib.hid (HY2.out.below hb hB2.size)
        have hB3 := hB2.trans (hb.mono hB2.size)
        have hl3 : w.heap.size < w3.heap.size := Nat.lt_of_lt_of_le hl2 hb.size
        go_wp2
        go_ret
        exact RetI.nil (hB3)
      · go_enter Try.func43, Try.ntmps43
        go_wp2_with fail
        refine (HC.out _ (by simp) (H.out.alloc (Nat.le_refl _) _)).mono ?_
        rintro e w1 ⟨rfl, hb⟩
        have q1 : w1.cell? ⟨w.heap.size, 0, none⟩ = some (.slice A n c) := (hb.cell (p := ⟨w.heap.size, 0, none⟩) (by simp)).trans (by go_simp)
        have HG1 := Lib.hid ((H.out.alloc (Nat.le_refl _) (.cells #[.slice A n c] 25)).below hb (by simp))
        have HX1 := Lib.hid ((HX.out.alloc (Nat.le_refl _) (.cells #[.slice A n c] 25)).below hb (by simp))
        have HY1 := Lib.hid ((HY.out.alloc (Nat.le_refl _) (.cells #[.slice A n c] 25)).below hb (by simp))
        have hB1 : Below w.heap.size w w1 := ((Below.refl _ _).alloc (Nat.le_refl _) _).trans (hb.mono (by simp))
        have hl1 : w.heap.size < w1.heap.size := by have := hb.size; simp at this; omega
        clear hb
        go_wp2_with fail
        refine (HDX.out _ hB1.size HG1.out HX1.out).mono ?_
        rintro e w2 ⟨rfl, hb⟩
        have q2 := (hb.cell (p := ⟨w.heap.size, 0, none⟩) hl1).trans q1
        have HG2 := Lib.hid (HG1.out.below hb hB1.size)
        have HX2 := Lib.hid (HX1.out.below hb hB1.size)
        have HY2 := Lib.hid (HY1.out.below hb hB1.size)
        have hB2 := hB1.trans (hb.mono hB1.size)
        have hl2 : w.heap.size < w2.heap.size := Nat.lt_of_lt_of_le hl1 hb.size
        clear hb
        go_wp2_with fail
        refine (HDY.out _ hB2.size HG2.out HY2.out).mono ?_
        rintro e w3 ⟨rfl, hb⟩
        have q3 := (hb.cell (p := ⟨w.heap.size, 0, none⟩) hl2).trans q2
        have HG3 := Lib.hid (HG2.out.below hb hB2.size)
        have HX3 := Lib.hid (HX2.out.below hb hB2.size)
        have HY3 := Lib.hid (HY2.out.below hb hB2.size)
        have hB3 := hB2.trans (hb.mono hB2.size)
        have hl3 : w.heap.size < w3.heap.size := Nat.lt_of_lt_of_le hl2 hb.size
        clear hb
        clear q1 q2 HG1 HG2 HX1 HX2 HY1 HY2 hB1 hB2 hl1 hl2 HC HDX HDY
        go_wp2_with fail
        go_region_held3 (fun w' => w'.cell? ⟨w.heap.size, 0, none⟩ = some (.slice A n c)) (first | exact q3 | exact q4 | exact q5)
          (first
            | (go_at_call_of 74 (Value.slice A1 m1 c1); refine (HMX.out _ ?_ ?_ ?_ ?_).mono ?_; exact hB3.size; exact HG3.out; exact HX3.out; trivial; rintro e w4 ⟨v4, rfl, ho, hb'⟩; have hb4 : Below w3.heap.size w3 w4 := below_of_drew hb'; obtain ⟨A4, c4, rfl, hI4⟩ := OwnI.at_ ho HL1.out; have HI4 := Lib.hid hI4; have q4 := (hb4.cell (p := ⟨w.heap.size, 0, none⟩) hl3).trans q3; have HG4 := Lib.hid (HG3.out.below hb4 hB3.size); have HY4 := Lib.hid (HY3.out.below hb4 hB3.size); have hB4 := hB3.trans (hb4.mono hB3.size); have hl4 : w.heap.size < w4.heap.size := Nat.lt_of_lt_of_le hl3 hb4.size; clear ho hb' hI4)
            | (go_at_call_of 74 (Value.slice A2 m2 c2); refine (HMY.out _ ?_ ?_ ?_ ?_).mono ?_; exact hB4.size; exact HG4.out; exact HY4.out; trivial; rintro e w5 ⟨v5, rfl, ho, hb5⟩; obtain ⟨A5, c5, rfl, hI5⟩ := OwnI.at_ ho HL2.out; have HI5 := Lib.hid hI5; have q5 := (hb5.cell (p := ⟨w.heap.size, 0, none⟩) hl4).trans q4; have HI6 := Lib.hid ((HI4.out.below hb5 (Nat.le_refl _)).more (B' := w5.heap.size) hb5.size); have hB5 := hB4.trans (hb5.mono hB4.size); clear ho hI5)
            | (go_at_call 85; refine (spec_differing A4 A5 n c4 c5 MX MY w5 w5.heap.size ?_ HL1.out.symm HL2.out.symm ?_ ?_ ?_).mono ?_; exact Nat.le_refl _; exact HI6.out; exact HI5.out; omega; rintro e w6 ⟨v, rfl, ho, hb⟩; have q5 := (hb.cell (p := ⟨w.heap.size, 0, none⟩) (Nat.lt_of_lt_of_le hl4 hb5.size)).trans q5))
        go_wp2
        go_ret
        exact ⟨v, by simp, own_mono ho hB5.size, hB5.trans (hb.mono hB5.size)⟩
set_option maxRecDepth 100000 in
set_option maxHeartbeats 3200000 in
theorem top_impl_ChangedBy (gs : List Nd) (xs ys : List Int) (hG : GB gs) (hL : xs.length ≤ 1048576) (hL2 : ys.length ≤ 1048576) : ∀ (A : Option Addr) (n c : Nat) (A1 : Option Addr) (m1 c1 : Nat) (A2 : Option Addr) (m2 c2 : Nat) (w : World), n = gs.length → n ≤ c → GS w w.heap.size A gs → m1 = xs.length → IS w w.heap.size A1 xs → m2 = ys.length → IS w w.heap.size A2 ys →
    Calls Try.prog 42 #[.agg #[.slice A n c], .slice A1 m1 c1, .slice A2 m2 c2] w fun e w' => RetI w (chgF gs xs ys) e w' := by
  intro A n c A1 m1 c1 A2 m2 c2 w hn hnc h hx h1 hy h2
  have hm1 : m1 ≤ 2000000 := by omega
  have hm2 : m2 ≤ 2000000 := by omega
  have hn1 : n ≤ 1048576 := by rw [hn]; exact hG.1
  have H := Lib.hid h
  have HX := Lib.hid h1
  have HY := Lib.hid h2
  have HN := Lib.hid hn
  have HDX := Lib.hid fun (w' : World) (hB : w.heap.size ≤ w'.heap.size) (h : GS w' w.heap.size A gs) (h' : IS w' w.heap.size A1 xs) => impl_ValidCells A A1 n c m1 c1 gs xs w' w.heap.size hB hn hnc hx h h' hG hm1
  have HDY := Lib.hid fun (w' : World) (hB : w.heap.size ≤ w'.heap.size) (h : GS w' w.heap.size A gs) (h' : IS w' w.heap.size A2 ys) => impl_ValidCells A A2 n c m2 c2 gs ys w' w.heap.size hB hn hnc hy h h' hG hm2
  have HMX := Lib.hid fun (w' : World) (hB : w.heap.size ≤ w'.heap.size) (h : GS w' w.heap.size A gs) (h' : IS w' w.heap.size A1 xs) => impl_MeaningOf A A1 n c m1 c1 gs xs w' w.heap.size hB hn hnc hx h h' hG hm1
  have HMY := Lib.hid fun (w' : World) (hB : w.heap.size ≤ w'.heap.size) (h : GS w' w.heap.size A gs) (h' : IS w' w.heap.size A2 ys) => impl_MeaningOf A A2 n c m2 c2 gs ys w' w.heap.size hB hn hnc hy h h' hG hm2
  have hml1 := mean_len gs xs
  have hml2 := mean_len gs ys
  have hb12 : chgB gs xs ys = (okC gs xs && okC gs ys) := by unfold chgB okC; cases validG gs <;> cases validC gs xs <;> simp
  have hf : chgF gs xs ys = if okC gs xs && okC gs ys then diffTo (mean gs xs) (mean gs ys) n else [] := by unfold chgF; rw [hb12, hn]
  rw [hf]
  rw [← hn] at hml1 hml2
  have HL1 := Lib.hid hml1
  have HL2 := Lib.hid hml2
  have hmx : meanF gs xs = if okC gs xs then mean gs xs else [] := rfl
  have hmy : meanF gs ys = if okC gs ys then mean gs ys else [] := rfl
  rw [hmx] at HMX
  rw [hmy] at HMY
  clear hf h h1 h2 hn hx hy hG hml1 hml2 hb12 hmx hmy
  generalize okC gs xs = b1 at *
  generalize okC gs ys = b2 at *
  generalize mean gs xs = MX at *
  generalize mean gs ys = MY at *
  cases b1
  · go_enter Try.func42, Try.ntmps42
    go_wp2_with fail
    refine (HDX.out _ (by simp) (H.out.alloc (Nat.le_refl _) _) (HX.out.alloc (Nat.le_refl _) _)).mono ?_
    rintro e w1 ⟨rfl, hb⟩
    have q1 : w1.cell? ⟨w.heap.size, 0, none⟩ = some (.slice A n c) := (hb.cell (p := ⟨w.heap.size, 0, none⟩) (by simp)).trans (by go_simp)
    have HG1 := Lib.hid ((H.out.alloc (Nat.le_refl _) (.cells #[.slice A n c] 25)).below hb (by simp))
    have HX1 := Lib.hid ((HX.out.alloc (Nat.le_refl _) (.cells #[.slice A n c] 25)).below hb (by simp))
    have HY1 := Lib.hid ((HY.out.alloc (Nat.le_refl _) (.cells #[.slice A n c] 25)).below hb (by simp))
    have hB1 : Below w.heap.size w w1 := ((Below.refl _ _).alloc (Nat.le_refl _) _).trans (hb.mono (by simp))
    have hl1 : w.heap.size < w1.heap.size := by have := hb.size; simp at this; omega
    clear hb
    go_wp2
    go_ret
    exact RetI.nil (hB1)
  · cases b2
    · go_enter Try.func42, Try.ntmps42
      go_wp2_with fail
      refine (HDX.out _ (by simp) (H.out.alloc (Nat.le_refl _) _) (HX.out.alloc (Nat.le_refl _) _)).mono ?_
      rintro e w1 ⟨rfl, hb⟩
      have q1 : w1.cell? ⟨w.heap.size, 0, none⟩ = some (.slice A n c) := (hb.cell (p := ⟨w.heap.size, 0, none⟩) (by simp)).trans (by go_simp)
      have HG1 := Lib.hid ((H.out.alloc (Nat.le_refl _) (.cells #[.slice A n c] 25)).below hb (by simp))
      have HX1 := Lib.hid ((HX.out.alloc (Nat.le_refl _) (.cells #[.slice A n c] 25)).below hb (by simp))
      have HY1 := Lib.hid ((HY.out.alloc (Nat.le_refl _) (.cells #[.slice A n c] 25)).below hb (by simp))
      have hB1 : Below w.heap.size w w1 := ((Below.refl _ _).alloc (Nat.le_refl _) _).trans (hb.mono (by simp))
      have hl1 : w.heap.size < w1.heap.size := by have := hb.size; simp at this; omega
      clear hb
      go_wp2_with fail
      refine (HDY.out _ hB1.size HG1.out HY1.out).mono ?_
      rintro e w2 ⟨rfl, hb⟩
      have q2 := (hb.cell (p := ⟨w.heap.size, 0, none⟩) hl1).trans q1
      have HG2 := Lib.hid (HG1.out.below hb hB1.size)
      have HX2 := Lib.hid (HX1.out.below hb hB1.size)
      have HY2 := Lib.hid (HY1.out.below hb hB1.size)
      have hB2 := hB1.trans (hb.mono hB1.size)
      have hl2 : w.heap.size < w2.heap.size := Nat.lt_of_lt_of_le hl1 hb.size
      clear hb q1 HG1 HX1 HY1
      go_wp2
      go_ret
      exact RetI.nil (hB2)
    · go_enter Try.func42, Try.ntmps42
      go_wp2_with fail
      refine (HDX.out _ (by simp) (H.out.alloc (Nat.le_refl _) _) (HX.out.alloc (Nat.le_refl _) _)).mono ?_
      rintro e w1 ⟨rfl, hb⟩
      have q1 : w1.cell? ⟨w.heap.size, 0, none⟩ = some (.slice A n c) := (hb.cell (p := ⟨w.heap.size, 0, none⟩) (by simp)).trans (by go_simp)
      have HG1 := Lib.hid ((H.out.alloc (Nat.le_refl _) (.cells #[.slice A n c] 25)).below hb (by simp))
      have HX1 := Lib.hid ((HX.out.alloc (Nat.le_refl _) (.cells #[.slice A n c] 25)).below hb (by simp))
      have HY1 := Lib.hid ((HY.out.alloc (Nat.le_refl _) (.cells #[.slice A n c] 25)).below hb (by simp))
      have hB1 : Below w.heap.size w w1 := ((Below.refl _ _).alloc (Nat.le_refl _) _).trans (hb.mono (by simp))
      have hl1 : w.heap.size < w1.heap.size := by have := hb.size; simp at this; omega
      clear hb
      go_wp2_with fail
      refine (HDY.out _ hB1.size HG1.out HY1.out).mono ?_
      rintro e w2 ⟨rfl, hb⟩
      have q2 := (hb.cell (p := ⟨w.heap.size, 0, none⟩) hl1).trans q1
      have HG2 := Lib.hid (HG1.out.below hb hB1.size)
      have HX2 := Lib.hid (HX1.out.below hb hB1.size)
      have HY2 := Lib.hid (HY1.out.below hb hB1.size)
      have hB2 := hB1.trans (hb.mono hB1.size)
      have hl2 : w.heap.size < w2.heap.size := Nat.lt_of_lt_of_le hl1 hb.size
      clear hb q1 HG1 HX1 HY1
      go_wp2_with fail
      refine (HMX.out _ hB2.size HG2.out HX2.out).mono ?_
      rintro e w3 ⟨v3, rfl, ho, hb⟩
      obtain ⟨A3, c3, rfl, hI3⟩ := OwnI.at_ ho HL1.out
      have q3 := (hb.cell (p := ⟨w.heap.size, 0, none⟩) hl2).trans q2
      have HI3 := Lib.hid ((hI3.alloc (Nat.le_refl _) (.cells #[.slice A3 n c3] 28)))
      have HG3 := Lib.hid ((HG2.out.below hb hB2.size).alloc (Nat.le_trans hB2.size hb.size) (.cells #[.slice A3 n c3] 28))
      have HY3 := Lib.hid ((HY2.out.below hb hB2.size).alloc (Nat.le_trans hB2.size hb.size) (.cells #[.slice A3 n c3] 28))
      have hB3 := (hB2.trans (hb.mono hB2.size))
      have hl3 : w.heap.size < w3.heap.size := Nat.lt_of_lt_of_le hl2 hb.size
      clear hb q2 HG2 HX2 HY2 ho hI3
      go_wp2_with fail
      refine (HMY.out _ (by simp; omega) HG3.out HY3.out).mono ?_
      rintro e w4 ⟨v4, rfl, ho, hb⟩
      obtain ⟨A4, c4, rfl, hI4⟩ := OwnI.at_ ho HL2.out
      have hl4 : w3.heap.size + 1 ≤ w4.heap.size := by have := hb.size; simpa using this
      have q4 := (hb.cell (p := ⟨w.heap.size, 0, none⟩) (by simp; omega)).trans ((World.cell?_alloc_lt _ _ ⟨w.heap.size, 0, none⟩ hl3).trans q3)
      have p4 : w4.cell? ⟨w3.heap.size, 0, none⟩ = some (.slice A3 n c3) := (hb.cell (p := ⟨w3.heap.size, 0, none⟩) (by simp)).trans (by go_simp)
      have HI4 := Lib.hid (((HI3.out.below hb (by simp)).more (B' := w4.heap.size) (by omega)).alloc (Nat.le_refl _) (.cells #[.slice A4 n c4] 28))
      have HJ4 := Lib.hid (hI4.alloc (Nat.le_refl _) (.cells #[.slice A4 n c4] 28))
      have hB4 := ((hB3.alloc hB3.size (.cells #[.slice A3 n c3] 28)).trans (hb.mono (by simp; omega)))
      have hB5 := Lib.hid (hB4.alloc hB4.size (.cells #[.slice A4 n c4] 28))
      clear hb ho hI4 q3 HG3 HY3 HI3
      have HNW := Lib.hid (impl_nodesWhere2 84 (.pointer (some ⟨w3.heap.size, 0, none⟩)) (.pointer (some ⟨w4.heap.size, 0, none⟩)) (fun i => !(MX.getD i 0 == MY.getD i 0))
        (fun w' => w4.heap.size < w'.heap.size ∧ w'.cell? ⟨w3.heap.size, 0, none⟩ = some (.slice A3 n c3) ∧ w'.cell? ⟨w4.heap.size, 0, none⟩ = some (.slice A4 n c4) ∧ IS w' w'.heap.size A3 MX ∧ IS w' w'.heap.size A4 MY) A n c (by omega)
        (fun wa wb h hb => ⟨Nat.lt_of_lt_of_le h.1 hb.size, (hb.cell (p := ⟨w3.heap.size, 0, none⟩) (by have := h.1; show w3.heap.size < wa.heap.size; omega)).trans h.2.1, (hb.cell (p := ⟨w4.heap.size, 0, none⟩) h.1).trans h.2.2.1, h.2.2.2.1.step hb, h.2.2.2.2.step hb⟩)
        (fun q w => by kernel_rfl)
        (fun q wa hq h => differ_at w3.heap.size w4.heap.size A3 A4 n c3 c4 q MX MY wa HL1.out.symm HL2.out.symm hq h.2.1 h.2.2.1 h.2.2.2.1 h.2.2.2.2)
        (w4.alloc (.cells #[.slice A4 n c4] 28)) ⟨by simp, (World.cell?_alloc_lt _ _ ⟨w3.heap.size, 0, none⟩ (by show w3.heap.size < w4.heap.size; omega)).trans p4, by go_simp, HI4.out.more (by simp), HJ4.out.more (by simp)⟩)
      rw [nwTo_diff] at HNW
      have hlt4 : w.heap.size < w4.heap.size := by omega
      go_wp2_with fail
      refine HNW.out.mono ?_
      rintro e w6 ⟨v, rfl, ho, hb⟩
      go_wp2
      go_ret
      exact ⟨v, by simp, own_mono ho hB5.out.size, hB5.out.trans (hb.mono hB5.out.size)⟩
end Go.Proofs.Ytdhjflhpenkchaa

namespace Go.Proofs.Ytdhjflhpenkchaa
set_option linter.unusedSimpArgs false
set_option linter.unusedVariables false
open Go.RowKit
structure Lz where
  vs : List Int
  rs : List (List Int)
  cs : List Int
deriving DecidableEq, Inhabited
end Go.Proofs.Ytdhjflhpenkchaa

namespace Go.Proofs.Ytdhjflhpenkchaa
set_option linter.unusedSimpArgs false
set_option linter.unusedVariables false
open Go.RowKit
section
variable {w w' : World} {B B' D lo hi n c en ec m d : Nat} {A E C : Option Addr} {e : Lz} {st : Lz}
theorem own_ncap {base e' size n c : Nat} {A : Option Addr} {xs : List Value} (h : w.ownsRow base e' size (.slice A n c) n xs) : n ≤ c := by
  rcases h.2 with ⟨hv, h0⟩ | ⟨g, cap, cur, hv, _, _, h1, _⟩
  · omega
  · simp only [Value.slice.injEq] at hv
    obtain ⟨_, _, rfl⟩ := hv
    exact h1
end
end Go.Proofs.Ytdhjflhpenkchaa

namespace Go.Proofs.Ytdhjflhpenkchaa
set_option linter.unusedSimpArgs false
set_option linter.unusedVariables false
open Go.RowKit
/-- A store into a block of another kind. -/
theorem OwSS.setT {lo hi n b : Nat} {t : TypeId} {v : Value} {xss : List (List Int)} {w : World} (h : OwSS lo hi v n xss w) (hb : Tg b t w) (h1 : (3 : TypeId) ≠ t) (h2 : (28 : TypeId) ≠ t) (j : Nat) (u : Value) : OwSS lo hi v n xss (w.setCell ⟨b, j, none⟩ u) := by
  obtain ⟨hn, vs, hr, hs⟩ := h
  exact ⟨hn, vs, ⟨own_setT hr.1 hb h2 j none u, hr.2⟩, ⟨fun i hi' => by obtain ⟨A, m, c, e1, e2, e3⟩ := hs.row i hi'; exact ⟨A, m, c, e1, e2, own_setT e3.1 hb h1 j none u, e3.2⟩, hs.apart⟩⟩
end Go.Proofs.Ytdhjflhpenkchaa

namespace Go.Proofs.Ytdhjflhpenkchaa
set_option linter.unusedSimpArgs false
set_option linter.unusedVariables false
open Go.RowKit
theorem Bx.keep {b : Nat} {vs : List Value} {w w' : World} (h : Bx b vs w) (e : w'.heap[b]? = w.heap[b]?) (hs : w.heap.size ≤ w'.heap.size) : Bx b vs w' :=
  ⟨Nat.lt_of_lt_of_le h.lt hs, fun j v hv => (World.cell?_of_block (a := ⟨b, j, none⟩) e).trans (h.c j v hv), fun j => (World.frozen?_of_block (a := ⟨b, j, none⟩) e).trans (h.f j)⟩
end Go.Proofs.Ytdhjflhpenkchaa

namespace Go.Proofs.Ytdhjflhpenkchaa
set_option linter.unusedSimpArgs false
set_option linter.unusedVariables false
open Go.RowKit
theorem OwSS.ncap {lo hi n c k : Nat} {A : Option Addr} {xss : List (List Int)} {w : World} (h : OwSS lo hi (.slice A n c) n xss w) : n ≤ c := by
  obtain ⟨_, vs, h1, _⟩ := h
  exact own_ncap h1.1
end Go.Proofs.Ytdhjflhpenkchaa

namespace Go.Proofs.Ytdhjflhpenkchaa
set_option linter.unusedSimpArgs false
set_option linter.unusedVariables false
open Go.RowKit
theorem diffTo_symm (a b : List Int) (k : Nat) : diffTo a b k = diffTo b a k := by
  unfold diffTo
  congr 1
  refine List.filter_congr fun i _ => ?_
  have : (a.getD i 0 == b.getD i 0) = (b.getD i 0 == a.getD i 0) := by
    rw [Bool.eq_iff_iff]; simp only [beq_iff_eq]; exact ⟨Eq.symm, Eq.symm⟩
  rw [this]
theorem chgF_symm (gs : List Nd) (xs ys : List Int) : chgF gs xs ys = chgF gs ys xs := by
  have h : chgB gs xs ys = chgB gs ys xs := by
    unfold chgB
    cases validG gs <;> cases validC gs xs <;> cases validC gs ys <;> rfl
  unfold chgF
  rw [h, diffTo_symm]
end Go.Proofs.Ytdhjflhpenkchaa
