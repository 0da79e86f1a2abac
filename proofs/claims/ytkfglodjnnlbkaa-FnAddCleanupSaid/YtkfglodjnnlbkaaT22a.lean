/- Words and contracts for memory that the texts behind use. -/
import Derived.Test.YtkfglodjnnlbkaaT0a
import Derived.Test.YtkfglodjnnlbkaaT1a
import Derived.Test.YtkfglodjnnlbkaaT2b
import Derived.Test.YtkfglodjnnlbkaaT3a
import Derived.Test.YtkfglodjnnlbkaaT4a
import Derived.Test.YtkfglodjnnlbkaaT5a
import Derived.Test.YtkfglodjnnlbkaaT6a
import Derived.Test.YtkfglodjnnlbkaaT7a
import Derived.Test.YtkfglodjnnlbkaaT8a
import Derived.Test.YtkfglodjnnlbkaaT9a
import Derived.Test.YtkfglodjnnlbkaaT10a
import Derived.Test.YtkfglodjnnlbkaaT11a
import Derived.Test.YtkfglodjnnlbkaaT13a
import Derived.Test.YtkfglodjnnlbkaaT14a
import Derived.Test.YtkfglodjnnlbkaaT15a
import Derived.Test.YtkfglodjnnlbkaaT16a
import Derived.Test.YtkfglodjnnlbkaaT17a
import Derived.Test.YtkfglodjnnlbkaaT18a
import Derived.Test.YtkfglodjnnlbkaaT19a
import Derived.Test.YtkfglodjnnlbkaaT20a
import Derived.Test.YtkfglodjnnlbkaaT21a
import Derived.WalkKit
import Derived.Laws.OwnMore
import Derived.Deep.Draws
import Derived.Test.YtkfglodjnnlbkaaProg
import Derived.WalkSpells
import Derived.WalkLawsBesides
import Derived.Outline
import Derived.Lib.Hide
import Derived.BigQuiet
import Derived.Deep.QuietTactic
import Derived.StillTailTactics
import Derived.Deep.LoopGhost
import Derived.Laws.MakeOwn
import Derived.WalkSmall
import Derived.RegionTactic
import Derived.BigRegion
import Derived.Deep.RegionWith
import Derived.Deep.RegionHeld3
import Derived.Maps.AppendAt
import Derived.Laws.CopyOwn
import Derived.Deep.Cut
import Derived.Laws.Entries
import Derived.Laws.Bits64
import Derived.IntWalk
import Derived.Deep.RegionLaw
import Derived.Deep.AppendLies
import Derived.Deep.DeepCutAuto
import Derived.ArgAppend
import Derived.Maps.Own
import Derived.Maps.Views
import Derived.RangeFuncNested
import Derived.RangeFuncBound
import Derived.RangeFuncCalls
import Derived.RangeFuncLeaves
import Derived.RangeFuncBox
import Derived.Shelf.Abstract
import Derived.Shelf.RegionOpen
import Derived.OwnWalkIn
import Derived.TacticsInMore
import Derived.LoopNIn
import Derived.LoopIn
import Derived.Sort.QuietIn
import Derived.Sort.QuietTacIn
import Derived.RegionIn
import Derived.Sort.CutIn
import Derived.ChangeAlike

namespace Go.Proofs.Ytkfglodjnnlbkaa
set_option linter.unusedSimpArgs false
set_option linter.unusedVariables false
open Go.RowKit
-- WANT nwTo nwTo_step nwTo_len nwTo_zero RetI nil mono cell_one_new info_parts info_int
set_option maxRecDepth 100000 in
set_option maxHeartbeats 1600000 in
theorem ownersWhere1 (K : FuncId) (cap : Value) (P : Nat → Bool) (I : World → Prop) (A : Option Addr) (n c : Nat) (ds : List On) (hn : n = ds.length) (hs : n ≤ 2000000)
    (hI : ∀ w w' : World, I w → Below w.heap.size w w' → I w') (hcf : ∀ (v : Value) (w : World), (callFunc K #[v, cap]).run Try.prog w = .ok (.enter K #[v, cap]) w)
    (hP : ∀ (q : Nat) (A1 A2 : Option Addr) (n1 d1 n2 d2 : Nat) (w : World), q < n → I w → Calls Try.prog K #[.agg #[.int .i64 (ds.getD q default).p, .bool (ds.getD q default).o, .slice A1 n1 d1, .slice A2 n2 d2], cap] w fun e w' => e = .returned (.bool (P q)) ∧ Below w.heap.size w w') (w : World) (hO : OS w w.heap.size A ds) (h : I w) :
    Calls Try.prog 61 #[.slice A n c, .func (.func K) #[] #[cap]] w fun e w' => RetI w (nwTo P n) e w' := by
  obtain ⟨i0, hi, hz0, hz1, hz2⟩ := info_parts info_int
  have HI := Lib.hid hI
  have HP := Lib.hid hP
  have H := Lib.hid h
  have HO0 := Lib.hid hO
  have HN := Lib.hid hn
  have HCF := Lib.hid hcf
  clear hI hP h hcf hO hn
  go_enter Try.func61, Try.ntmps61
  go_wp2
  go_loopw [5, 10] (fun v i wr => ∃ k : Nat, k ≤ n ∧ i = .int .i64 k ∧ Hid (OwnI wr w.heap.size v (nwTo P k)) ∧ Below w.heap.size w wr) (fun _ i _ => n - (intOf i).toNat)
  case atStart => exact ⟨0, Nat.zero_le _, rfl, World.ownsRow_nil _ _ _ _, Below.refl _ _⟩
  case round =>
    obtain ⟨k, hk, rfl, HO, hbr⟩ := hrel
    have hwr : w.heap.size ≤ wr.heap.size := hbr.size
    by_cases hlt : k < n
    · have HST := Lib.hid (nwTo_step P k)
      have hdl := nwTo_len P k
      obtain ⟨b, off, rfl, hbB, c0, c1, ⟨A1, n1, d1, c2, hn1', hp1⟩, A2, n2, d2, c3, hn2', hp2⟩ := HO0.out.at_ k (by have := HN.out; omega)
      have b0 := (hbr.cell (p := ⟨b, off + k * 4, none⟩) hbB).trans c0
      have b1 := (hbr.cell (p := ⟨b, off + k * 4 + 1, none⟩) hbB).trans c1
      have b2 := (hbr.cell (p := ⟨b, off + k * 4 + 2, none⟩) hbB).trans c2
      have b3 := (hbr.cell (p := ⟨b, off + k * 4 + 3, none⟩) hbB).trans c3
      have HPK := Lib.hid fun (w' : World) (h : I w') => HP.out k A1 A2 n1 d1 n2 d2 w' hlt h
      have HIR := Lib.hid fun (o : Obj) => HI.out _ _ H.out (hbr.alloc hwr o)
      have hcf := HCF.out
      generalize nwTo P k = D at *
      generalize P k = p at *
      generalize ds.getD k default = d at *
      obtain ⟨dp, dO, dcl, dcx⟩ := d
      dsimp only at *
      clear c0 c1 c2 c3 hn1' hp1 hn2' hp2 HO0
      cases p
      · go_wp2_with fail
        refine (HPK.out _ (HIR.out _)).mono ?_
        rintro e w2 ⟨rfl, hb2⟩
        have hb3 := ((Below.refl wr.heap.size wr).alloc (Nat.le_refl _) (.cells #[.int .i64 dp, .bool dO, .slice A1 n1 d1, .slice A2 n2 d2] 30)).trans (hb2.mono (by simp))
        go_wp2
        go_roundw
        case rel => exact ⟨k + 1, by omega, by go_num, by rw [HST.out]; simpa [OwnI, Hid] using own_below HO.out hb3, hbr.trans (hb3.mono hwr)⟩
        case measure => simp [intOf]; omega
      · go_wp2_with fail
        refine (HPK.out _ (HIR.out _)).mono ?_
        rintro e w2 ⟨rfl, hb2⟩
        have hb3 := ((Below.refl wr.heap.size wr).alloc (Nat.le_refl _) (.cells #[.int .i64 dp, .bool dO, .slice A1 n1 d1, .slice A2 n2 d2] 30)).trans (hb2.mono (by simp))
        have HO2 := Lib.hid (own_below HO.out hb3)
        have hbr2 := hbr.trans (hb3.mono hwr)
        have hw2 : w.heap.size ≤ w2.heap.size := hbr2.size
        clear hcf hb2 hb3 b0 b1 b2 b3
        go_wp2_with (at_builtin; refine wpList_append_own _ rfl _ _ 26 rfl w.heap.size 3 i0 (.int .i64 0) 1 8 Try.underlying26 hi hz0 hz1 hz2 rfl (by decide) _ _ _ rfl (HO2.out.alloc _) ⟨_, 0, none⟩ 1 1 [.int .i64 k] rfl rfl (cell_one_new _ _ _) ?c2 ?c3 ?c4 ?c5 ?_)
        case c2 => first | rfl | (intro u hu; simp at hu; subst hu; rfl)
        case c3 => unfold maxLen; omega
        case c4 => omega
        case c5 => first | omega | (simp; omega)
        intro v' w3 hown' hgrow _
        have hpos := (HO2.out.alloc (.cells #[.int .i64 k] 3)).lt
        have HO' : Hid (OwnI w3 w.heap.size v' (nwTo P (k + 1))) := by
          rw [HST.out]
          simpa [OwnI, Hid] using hown'
        have HB' := Lib.hid ((hbr2.alloc hw2 (.cells #[.int .i64 k] 3)).grown hgrow (by first | (simp; omega) | omega) (fun q hq => (hpos q hq).1))
        clear hown' hgrow hpos
        go_wp2
        go_roundw
        case rel => exact ⟨k + 1, by omega, by go_num, HO'.out, HB'.out⟩
        case measure => simp [intOf]; omega
    · obtain rfl : k = n := by omega
      go_wp2
      go_ret
      exact ⟨_, rfl, HO.out, hbr⟩
theorem top_impl_ValidOwners (ds : List On) (hO : OB ds) : ∀ (A : Option Addr) (n c : Nat) (w : World), n = ds.length → n ≤ c → OS w w.heap.size A ds →
    Calls Try.prog 13 #[.slice A n c] w fun e w' => e = .returned (.bool (validO ds)) ∧ Below w.heap.size w w' :=
  fun A n c w hn hc h => impl_ValidOwners A n c ds w w.heap.size (Nat.le_refl _) hn hc h hO
set_option maxHeartbeats 400000 in
theorem top_spec_ValidOwners (ds : List On) (hO : OB ds) : ∀ (A : Option Addr) (n c : Nat) (w : World), n = ds.length → n ≤ c → OS w w.heap.size A ds →
    Calls Try.prog 14 #[.slice A n c] w fun e w' => e = .returned (.bool (validO ds)) ∧ Below w.heap.size w w' := by
  intro A n c w hn _ h
  have HC := Lib.hid (spec_validOwners A n c ds w w.heap.size (Nat.le_refl _) hn h hO)
  generalize validO ds = r at *
  clear hn h hO
  go_enter Try.func14, Try.ntmps14
  go_wp2_with fail
  refine HC.out.mono ?_
  rintro e w1 ⟨rfl, hb⟩
  go_wp2
  go_ret
  exact ⟨rfl, hb⟩
end Go.Proofs.Ytkfglodjnnlbkaa

namespace Go.Proofs.Ytkfglodjnnlbkaa
set_option linter.unusedSimpArgs false
set_option linter.unusedVariables false
open Go.RowKit
set_option maxHeartbeats 400000 in
theorem kid_at (d : On) (o : Int) (g : Nat) (A1 A2 : Option Addr) (n1 d1 n2 d2 : Nat) (w : World) (hg : g < w.heap.size) (h1 : w.cell? ⟨g, 0, none⟩ = some (.int .i64 o)) :
    Calls Try.prog 62 #[.agg #[.int .i64 d.p, .bool d.o, .slice A1 n1 d1, .slice A2 n2 d2], .pointer (some ⟨g, 0, none⟩)] w fun e w' => e = .returned (.bool (d.o && d.p == o)) ∧ Below w.heap.size w w' := by
  obtain ⟨p, b, cl, cx⟩ := d
  dsimp only
  cases b
  all_goals
    go_enter Try.func62, Try.ntmps62
    go_wp2
    go_ret
    exact ⟨ret_b (by simp), (Below.refl _ _).alloc (Nat.le_refl _) _⟩
set_option maxRecDepth 100000 in
set_option maxHeartbeats 1600000 in
theorem top_impl_KidsOf (ds : List On) (o : Int) (hO : OB ds) : ∀ (A : Option Addr) (n c : Nat) (w : World), n = ds.length → n ≤ c → OS w w.heap.size A ds →
    Calls Try.prog 26 #[.slice A n c, .int .i64 o] w fun e w' => RetI w (kidsF ds o) e w' := by
  intro A n c w hn hnc h
  have hnb : n ≤ 1048576 := by rw [hn]; exact hO.1
  have HC := Lib.hid (impl_hasOwner A n c ds o (w.alloc (.cells #[.int .i64 o] 3)) w.heap.size (by simp) hn hnc (h.alloc (Nat.le_refl _) _) hO)
  have HS := Lib.hid (h.alloc (Nat.le_refl _) (.cells #[.int .i64 o] 3))
  have HW := Lib.hid fun (w1 : World) (h1 : OS w1 w1.heap.size A ds) (hg : w.heap.size < w1.heap.size) (hc : w1.cell? ⟨w.heap.size, 0, none⟩ = some (.int .i64 o)) =>
    ownersWhere1 62 (.pointer (some ⟨w.heap.size, 0, none⟩)) (kidB ds o) (fun w' => w.heap.size < w'.heap.size ∧ w'.cell? ⟨w.heap.size, 0, none⟩ = some (.int .i64 o)) A n c ds hn (by omega)
      (fun wa wb h hb => ⟨Nat.lt_of_lt_of_le h.1 hb.size, (hb.cell (p := ⟨w.heap.size, 0, none⟩) h.1).trans h.2⟩) (fun v w => by kernel_rfl)
      (fun q A1 A2 n1 d1 n2 d2 w' _ hw => kid_at (ds.getD q default) o w.heap.size A1 A2 n1 d1 n2 d2 w' hw.1 hw.2) w1 h1 ⟨hg, hc⟩
  have hce : kidsF ds o = if hasO ds o then nwTo (kidB ds o) ds.length else [] := rfl
  rw [← hn] at hce
  rw [hce]
  clear hce hn h hO
  cases hv : hasO ds o
  · rw [hv] at HC
    clear hv
    simp only [Bool.false_eq_true, if_false]
    go_enter Try.func26, Try.ntmps26
    go_wp2_with fail
    refine HC.out.mono ?_
    rintro e w1 ⟨rfl, hb⟩
    go_wp2
    go_ret
    exact RetI.nil (((Below.refl _ _).alloc (Nat.le_refl _) _).trans (hb.mono (by simp)))
  · rw [hv] at HC
    clear hv
    simp only [if_true]
    go_enter Try.func26, Try.ntmps26
    go_wp2_with fail
    refine HC.out.mono ?_
    rintro e w1 ⟨rfl, hb⟩
    have hw1 : w.heap.size < w1.heap.size := by have := hb.size; simp at this; omega
    have q1 : w1.cell? ⟨w.heap.size, 0, none⟩ = some (.int .i64 o) := (hb.cell (p := ⟨w.heap.size, 0, none⟩) (by simp)).trans (by go_simp)
    have HS1 := Lib.hid ((HS.out.below hb (by simp)).more (B' := w1.heap.size) (by omega))
    have HB1 := Lib.hid (((Below.refl w.heap.size w).alloc (Nat.le_refl _) (.cells #[.int .i64 o] 3)).trans (hb.mono (by simp)))
    clear hb
    go_wp2_with fail
    refine (HW.out w1 HS1.out hw1 q1).mono ?_
    rintro e w2 ⟨v, rfl, ho, hb2⟩
    go_wp2
    go_ret
    exact ⟨v, by simp, own_mono ho HB1.out.size, HB1.out.trans (hb2.mono HB1.out.size)⟩
theorem upF_len (ds : List On) (f : Nat) (o : Int) : (upF ds f o).length ≤ f := by
  induction f generalizing o with
  | zero => simp [upF]
  | succ f ih =>
    rw [upF]
    split
    · simp
    · have := ih (ds.getD o.toNat default).p; simp only [List.length_cons]; omega
theorem aboveF_len (ds : List On) (o : Int) : (aboveF ds o).length ≤ 12 := by
  unfold aboveF
  cases h : hasO ds o
  · simp
  · simp only [if_true]
    have := upF_len ds ds.length o
    obtain ⟨_, _, _, hv⟩ := hasO_at h
    have := (validO_ok hv).2.1
    omega
set_option maxRecDepth 100000 in
set_option maxHeartbeats 1600000 in
theorem top_impl_AboveOf (ds : List On) (o : Int) (hO : OB ds) : ∀ (A : Option Addr) (n c : Nat) (w : World), n = ds.length → n ≤ c → OS w w.heap.size A ds →
    Calls Try.prog 30 #[.slice A n c, .int .i64 o] w fun e w' => RetI w (aboveF ds o) e w' := by
  intro A n c w hn hnc h
  obtain ⟨i0, hi, hz0, hz1, hz2⟩ := info_parts info_int
  have hnb : n ≤ 1048576 := by rw [hn]; exact hO.1
  have HS := Lib.hid h
  unfold aboveF
  have HC := Lib.hid (impl_hasOwner A n c ds o w w.heap.size (Nat.le_refl _) hn hnc h hO)
  cases hf : hasO ds o
  · rw [hf] at HC
    clear hf hn h hO
    simp only [Bool.false_eq_true, if_false]
    go_enter Try.func30, Try.ntmps30
    go_wp2_with fail
    refine HC.out.mono ?_
    rintro e w1 ⟨rfl, hb⟩
    go_wp2
    go_ret
    exact RetI.nil hb
  rw [hf] at HC
  simp only [hf, if_true]
  obtain ⟨on, rfl, hon, hv⟩ := hasO_at hf
  have HPAR := Lib.hid fun i hi => okO_par hv i hi
  have hon2 : on < n := by omega
  have HN := Lib.hid hn
  obtain ⟨T, hT⟩ : ∃ T, T = upF ds ds.length on := ⟨_, rfl⟩
  rw [← hT]
  have HT := Lib.hid hT
  clear hf hn h hO hT hv hon
  go_enter Try.func30, Try.ntmps30
  go_wp2_with fail
  refine HC.out.mono ?_
  rintro e w1 ⟨rfl, hb⟩
  have HB1 := Lib.hid hb
  have HS1 := Lib.hid (HS.out.step hb)
  clear hb HC
  go_wp2
  go_loopw [5, 1] (fun v u wr => ∃ (p : Int) (f : Nat) (D : List Int), u = .int .i64 p ∧ -1 ≤ p ∧ p < f ∧ f ≤ n ∧ D.length + f ≤ 1048576 ∧ Hid (D ++ upF ds f p = T) ∧ Hid (OwnI wr w1.heap.size v D) ∧ Hid (Below w1.heap.size w1 wr) ∧ w1.heap.size ≤ wr.heap.size) (fun _ u _ => (intOf u + 1).toNat)
  case atStart =>
    exact ⟨on, n, [], rfl, by omega, by omega, Nat.le_refl _, by simpa using hnb, by rw [HN.out]; exact HT.out.symm, World.ownsRow_nil _ _ _ _, Below.refl _ _, Nat.le_refl _⟩
  case round =>
    obtain ⟨p, f, D, rfl, hp0, hp1, hf, hdl, HU, HO, HB, hwr⟩ := hrel
    by_cases hlt : 0 ≤ p
    · obtain ⟨k, rfl⟩ : ∃ k : Nat, p = k := ⟨p.toNat, by omega⟩
      obtain ⟨f, rfl⟩ : ∃ f' : Nat, f = f' + 1 := ⟨f - 1, by omega⟩
      have hkn : k < n := by omega
      obtain ⟨b, off, rfl, hbB, c0, -⟩ := HS1.out.at_ k (by have := HN.out; omega)
      have b0 := (HB.out.cell (p := ⟨b, off + k * 4, none⟩) hbB).trans c0
      have hpar := HPAR.out k (by have := HN.out; omega)
      have HU2 := Lib.hid (HU.out.symm.trans (by rw [upF_step]))
      generalize (ds.getD k default).p = q at *
      have hq1 : -1 ≤ q := by by_cases h0 : k = 0; (have := hpar.1 h0; omega); (have := hpar.2 (by omega); omega)
      have hq2 : q < k := by by_cases h0 : k = 0; (have := hpar.1 h0; omega); (have := hpar.2 (by omega); omega)
      have hne : ((k : Int) != -1) = true := by simp [bne]; try omega
      clear c0 HS1 hpar HPAR hp0
      go_wp2_with (at_builtin; refine wpList_append_own _ rfl _ _ 26 rfl w1.heap.size 3 i0 (.int .i64 0) 1 8 Try.underlying26 hi hz0 hz1 hz2 rfl (by decide) _ _ _ rfl (HO.out.alloc _) ⟨_, 0, none⟩ 1 1 [.int .i64 k] rfl rfl (cell_one_new _ _ _) ?c2 ?c3 ?c4 ?c5 ?_)
      case c2 => first | rfl | (intro u hu; simp at hu; subst hu; rfl)
      case c3 => unfold maxLen; omega
      case c4 => omega
      case c5 => first | omega | (simp; omega)
      intro v' w3 hown' hgrow _
      have hpos := (HO.out.alloc (.cells #[.int .i64 k] 3)).lt
      have HO' : Hid (OwnI w3 w1.heap.size v' (D ++ [(k : Int)])) := by simpa [OwnI, Hid] using hown'
      have HB' := Lib.hid ((HB.out.alloc hwr (.cells #[.int .i64 k] 3)).grown hgrow (by first | (simp; omega) | omega) (fun q hq => (hpos q hq).1))
      have hb2 : Below w1.heap.size wr w3 := ((Below.refl w1.heap.size wr).alloc hwr (.cells #[.int .i64 k] 3)).grown hgrow (by first | (simp; omega) | omega) (fun q hq => (hpos q hq).1)
      have b1 := (hb2.cell (p := ⟨b, off + k * 4, none⟩) hbB).trans b0
      clear hown' hgrow hpos b0 hb2
      go_wp2
      go_roundw
      case rel => exact ⟨q, f, D ++ [(k : Int)], rfl, hq1, by omega, by omega, by simp; omega, by rw [HU2.out]; simp [Hid], HO'.out, HB'.out, HB'.out.size⟩
      case measure => simp [intOf]; omega
    · obtain rfl : p = -1 := by omega
      have HD : Hid (D = T) := by rw [← HU.out, upF_neg _ _ _ (by omega)]; simp [Hid]
      go_wp2
      go_ret
      exact ⟨_, rfl, by rw [← HD.out]; exact own_mono HO.out HB1.out.size, HB1.out.trans (HB.out.mono HB1.out.size)⟩
end Go.Proofs.Ytkfglodjnnlbkaa

namespace Go.Proofs.Ytkfglodjnnlbkaa
set_option linter.unusedSimpArgs false
set_option linter.unusedVariables false
open Go.RowKit
set_option maxHeartbeats 800000 in
theorem laws_isIn (A : Option Addr) (n c : Nat) (xs : List Int) (x : Int) (w : World) (B : Nat) (hB : B ≤ w.heap.size) (hn : n = xs.length) (h : IS w B A xs) (hs : n ≤ 2000000) :
    Calls Try.prog 29 #[.slice A n c, .int .i64 x] w fun e w' => e = .returned (.bool (decide (x ∈ xs))) ∧ w = w' := by
  have H := Lib.hid h
  have HN := Lib.hid hn
  clear hn h
  go_enter Try.func29, Try.ntmps29
  go_wp2
  go_loop [5] (fun i => ∃ k : Nat, k ≤ n ∧ i = .int .i64 k ∧ Hid (∀ j, j < k → xs.getD j 0 ≠ x)) (fun i => n - (intOf i).toNat)
  case atStart => exact ⟨0, Nat.zero_le _, rfl, fun j hj => by omega⟩
  case round =>
    obtain ⟨k, hk, rfl, HA⟩ := hrel
    by_cases hlt : k < n
    · obtain ⟨b, off, rfl, hbB, hc⟩ := H.out (by have := HN.out; omega)
      have c0 := hc k (by have := HN.out; omega)
      clear hc H
      generalize hp : xs.getD k 0 = p at *
      have HP := Lib.hid hp
      clear hp
      cases hr : (p == x)
      · have HR := Lib.hid hr
        go_wp2
        go_round
        case rel => exact ⟨k + 1, by omega, by go_num, fun j hj => by
          rcases Nat.lt_or_ge j k with h1 | h1
          · exact HA.out j h1
          · obtain rfl : j = k := by omega
            rw [HP.out]; simpa using HR.out⟩
        case measure => simp [intOf]; omega
      · have HR := Lib.hid hr
        go_wp2
        go_ret
        refine ⟨ret_b ?_, rfl⟩
        symm
        apply decide_eq_true
        have h1 : k < xs.length := by have := HN.out; omega
        have h2 := HP.out
        have h3 : p = x := by simpa using HR.out
        rw [← h3, ← h2]
        simp [List.getD, h1]
    · go_wp2
      go_ret
      refine ⟨ret_b ?_, rfl⟩
      symm
      apply decide_eq_false
      intro hm
      obtain ⟨j, hj, he⟩ := List.mem_iff_getElem.1 hm
      exact HA.out j (by have := HN.out; omega) (by simp [List.getD, hj, he])
end Go.Proofs.Ytkfglodjnnlbkaa

namespace Go.Proofs.Ytkfglodjnnlbkaa
set_option linter.unusedSimpArgs false
set_option linter.unusedVariables false
open Go.RowKit
set_option maxHeartbeats 800000 in
theorem laws_equalInts (A A' : Option Addr) (n n' c c' : Nat) (a b : List Int) (w : World) (B : Nat) (hB : B ≤ w.heap.size) (hn : n = a.length) (hn' : n' = b.length) (h : IS w B A a) (h' : IS w B A' b) (hs : n ≤ 2000000) (hs' : n' ≤ 2000000) :
    Calls Try.prog 21 #[.slice A n c, .slice A' n' c'] w fun e w' => e = .returned (.bool (decide (a = b))) ∧ Below w.heap.size w w' := by
  by_cases hl : n = n'
  · have hne : ((n : Int) != (n' : Int)) = false := by simp [hl]
    have HL := Lib.hid hl
    have HN := Lib.hid hn
    have HN' := Lib.hid hn'
    have H := Lib.hid h
    have H' := Lib.hid h'
    clear hl hn hn' h h'
    go_enter Try.func21, Try.ntmps21
    go_wp2
    go_loopw [5] (fun i wr => ∃ k : Nat, k ≤ n ∧ i = .int .i64 k ∧ Hid (∀ j, j < k → a.getD j 0 = b.getD j 0) ∧ Below w.heap.size w wr) (fun i _ => n - (intOf i).toNat)
    case atStart => exact ⟨0, Nat.zero_le _, rfl, fun j hj => by omega, Below.refl _ _⟩
    case round =>
      obtain ⟨k, hk, rfl, HT, hb⟩ := hrel
      by_cases hlt : k < n
      · have hlt' : k < n' := by have := HL.out; omega
        obtain ⟨b1, off, rfl, hbB, hc⟩ := H.out (by have := HN.out; omega)
        obtain ⟨b2, off', rfl, hbB', hc'⟩ := H'.out (by have := HN'.out; omega)
        have d1 := hc k (by have := HN.out; omega)
        have d2 := hc' k (by have := HN'.out; omega)
        have e1 := (hb.cell (p := ⟨b1, off + k, none⟩) (by simp; omega)).trans d1
        have e2 := (hb.cell (p := ⟨b2, off' + k, none⟩) (by simp; omega)).trans d2
        clear hc hc' d1 d2 H H'
        have HNE : Hid (a.getD k 0 ≠ b.getD k 0 → decide (a = b) = false) := fun hh => by rw [decide_eq_false_iff_not]; rintro rfl; exact hh rfl
        have HEQ : Hid (a.getD k 0 = b.getD k 0 → ∀ j, j < k + 1 → a.getD j 0 = b.getD j 0) := fun hh j hj => by
          rcases Nat.lt_or_ge j k with h1 | h1
          · exact HT.out j h1
          · obtain rfl : j = k := by omega
            exact hh
        generalize a.getD k 0 = x at *
        generalize b.getD k 0 = y at *
        cases hxy : (x == y)
        · have hne2 : (x != y) = true := by simp [bne, hxy]
          have HF := Lib.hid (HNE.out (by simpa using hxy))
          clear hxy
          go_wp2
          go_region
          go_wp2
          go_ret
          exact ⟨ret_b HF.out.symm, hb.drew⟩
        · have hne2 : (x != y) = false := by simp [bne, hxy]
          have HF := Lib.hid (HEQ.out (by simpa using hxy))
          clear hxy
          go_wp2
          go_region
          go_wp2
          go_roundw
          case rel => exact ⟨k + 1, by omega, by go_num, HF.out, hb.drew⟩
          case measure => simp [intOf]; omega
      · obtain rfl : k = n := by omega
        go_wp2
        go_ret
        refine ⟨ret_b ?_, hb⟩
        symm
        apply decide_eq_true
        have h1 := HN.out
        have h2 := HN'.out
        have h3 := HL.out
        apply List.ext_getElem (by omega)
        intro j hj hj'
        have := HT.out j (by omega)
        simpa [List.getD, hj, hj'] using this
  · have hne : ((n : Int) != (n' : Int)) = true := by simp; omega
    have hf : decide (a = b) = false := by rw [decide_eq_false_iff_not]; rintro rfl; omega
    rw [hf]
    clear hl hn hn' h h' hf
    go_enter Try.func21, Try.ntmps21
    go_wp2
    go_ret
    exact ⟨rfl, Below.refl _ _⟩
end Go.Proofs.Ytkfglodjnnlbkaa

namespace Go.Proofs.Ytkfglodjnnlbkaa
set_option linter.unusedSimpArgs false
set_option linter.unusedVariables false
open Go.RowKit
set_option maxRecDepth 100000 in
set_option maxHeartbeats 3200000 in
theorem laws_equalOwners (A A' : Option Addr) (n c c' : Nat) (ds : List On) (w : World) (B : Nat) (hB : B ≤ w.heap.size) (hn : n = ds.length) (h : OS w B A ds) (h' : OS w B A' ds) (hb : OB ds) :
    Calls Try.prog 19 #[.slice A n c, .slice A' n c'] w fun e w' => e = .returned (.bool true) ∧ Below w.heap.size w w' := by
  have hnb : n ≤ 1048576 := by rw [hn]; exact hb.1
  have hne : ((n : Int) != (n : Int)) = false := by simp
  have H := Lib.hid h
  have H' := Lib.hid h'
  have HN := Lib.hid hn
  have HBD := Lib.hid hb
  clear hn h h' hb
  go_enter Try.func19, Try.ntmps19
  go_wp2
  go_loopw [5] (fun i wr => ∃ k : Nat, k ≤ n ∧ i = .int .i64 k ∧ Below w.heap.size w wr) (fun i _ => n - (intOf i).toNat)
  case atStart => exact ⟨0, Nat.zero_le _, rfl, Below.refl _ _⟩
  case round =>
    obtain ⟨k, hk, rfl, hb⟩ := hrel
    by_cases hlt : k < n
    · obtain ⟨b, off, rfl, hbB, c0, c1, ⟨A1, n1, d1, c2, hn1', hp1⟩, A2, n2, d2, c3, hn2', hp2⟩ := H.out.at_ k (by have := HN.out; omega)
      obtain ⟨b', off', rfl, hbB', e0, e1, ⟨A3, n3, d3, e2, hn3', hp3⟩, A4, n4, d4, e3, hn4', hp4⟩ := H'.out.at_ k (by have := HN.out; omega)
      have hx := HBD.out.2.2 k
      clear H H'
      have b0 := (hb.cell (p := ⟨b, off + k * 4, none⟩) (by simp; omega)).trans c0
      have b1 := (hb.cell (p := ⟨b, off + k * 4 + 1, none⟩) (by simp; omega)).trans c1
      have b2 := (hb.cell (p := ⟨b, off + k * 4 + 2, none⟩) (by simp; omega)).trans c2
      have b3 := (hb.cell (p := ⟨b, off + k * 4 + 3, none⟩) (by simp; omega)).trans c3
      have g0 := (hb.cell (p := ⟨b', off' + k * 4, none⟩) (by simp; omega)).trans e0
      have g1 := (hb.cell (p := ⟨b', off' + k * 4 + 1, none⟩) (by simp; omega)).trans e1
      have g2 := (hb.cell (p := ⟨b', off' + k * 4 + 2, none⟩) (by simp; omega)).trans e2
      have g3 := (hb.cell (p := ⟨b', off' + k * 4 + 3, none⟩) (by simp; omega)).trans e3
      have HP1 := Lib.hid (hp1.below hb hB)
      have HP2 := Lib.hid (hp2.below hb hB)
      have HP3 := Lib.hid (hp3.below hb hB)
      have HP4 := Lib.hid (hp4.below hb hB)
      generalize ds.getD k default = p at *
      obtain ⟨pp, po, pcl, pcx⟩ := p
      dsimp only at *
      have HE1 := Lib.hid fun (w' : World) (hB : B ≤ w'.heap.size) (a1 : IS w' B A1 pcl) (a3 : IS w' B A3 pcl) => laws_equalInts A1 A3 n1 n3 d1 d3 pcl pcl w' B hB hn1' hn3' a1 a3 (by omega) (by omega)
      have HE2 := Lib.hid fun (w' : World) (hB : B ≤ w'.heap.size) (a1 : IS w' B A2 pcx) (a3 : IS w' B A4 pcx) => laws_equalInts A2 A4 n2 n4 d2 d4 pcx pcx w' B hB hn2' hn4' a1 a3 (by omega) (by omega)
      have hd1 : decide (pcl = pcl) = true := by simp
      have hd2 : decide (pcx = pcx) = true := by simp
      rw [hd1] at HE1
      rw [hd2] at HE2
      have hbw : b < wr.heap.size := by have := hb.size; omega
      have hbw' : b' < wr.heap.size := by have := hb.size; omega
      have hBw : B ≤ wr.heap.size := by have := hb.size; omega
      have hpo : (po != po) = false := by simp
      have hpp : (pp != pp) = false := by simp
      clear c0 c1 c2 c3 e0 e1 e2 e3 hp1 hp2 hp3 hp4 hn1' hn2' hn3' hn4' hx hd1 hd2
      go_upto_region 6 with fail
      refine wp_region_held_drew (S := fun w' => w'.cell? ⟨b, off + k * 4, none⟩ = some (.int .i64 pp) ∧ w'.cell? ⟨b, off + k * 4 + 1, none⟩ = some (.bool po) ∧ w'.cell? ⟨b, off + k * 4 + 2, none⟩ = some (.slice A1 n1 d1) ∧ w'.cell? ⟨b, off + k * 4 + 3, none⟩ = some (.slice A2 n2 d2) ∧ w'.cell? ⟨b', off' + k * 4, none⟩ = some (.int .i64 pp) ∧ w'.cell? ⟨b', off' + k * 4 + 1, none⟩ = some (.bool po) ∧ w'.cell? ⟨b', off' + k * 4 + 2, none⟩ = some (.slice A3 n3 d3) ∧ w'.cell? ⟨b', off' + k * 4 + 3, none⟩ = some (.slice A4 n4 d4)) (by kernel_rfl) ⟨b0, b1, b2, b3, g0, g1, g2, g3⟩ (fun hHeld => ?_)
      refine wpAnyH_take (i := 0) (oi := ⟨some 17, _, _, _, _, _⟩) (v := ?_) rfl (by kernel_rfl) (by kernel_rfl) (by kernel_rfl) (fun _ _ _ h => h) (Or.inl ⟨by rfl, ?_⟩) (by assumption) ?_; rotate_left; (focus (intro w hSw; (try dsimp only at hSw); go_simp; (try with_reducible rfl))); (try simp only [Act.put, List.setIfInBounds_toArray, List.set_cons_zero, List.set_cons_succ])
      refine wpAnyH_take (i := 1) (oi := ⟨some 18, _, _, _, _, _⟩) (v := ?_) rfl (by kernel_rfl) (by kernel_rfl) (by kernel_rfl) (fun _ _ _ h => h) (Or.inl ⟨by rfl, ?_⟩) (by assumption) ?_; rotate_left; (focus (intro w hSw; (try dsimp only at hSw); go_simp; (try with_reducible rfl))); (try simp only [Act.put, List.setIfInBounds_toArray, List.set_cons_zero, List.set_cons_succ])
      refine wpAnyH_take (i := 2) (oi := ⟨some 19, _, _, _, _, _⟩) (v := ?_) rfl (by kernel_rfl) (by kernel_rfl) (by kernel_rfl) (fun _ _ _ h => h) (Or.inl ⟨by rfl, ?_⟩) (by assumption) ?_; rotate_left; (focus (intro w hSw; (try dsimp only at hSw); go_simp; (try with_reducible rfl))); (try simp only [Act.put, List.setIfInBounds_toArray, List.set_cons_zero, List.set_cons_succ])
      refine wpAnyH_take (i := 3) (oi := ⟨some 20, _, _, _, _, _⟩) (v := ?_) rfl (by kernel_rfl) (by kernel_rfl) (by kernel_rfl) (fun _ _ _ h => h) (Or.inl ⟨by rfl, ?_⟩) (by assumption) ?_; rotate_left; (focus (intro w hSw; (try dsimp only at hSw); go_simp; (try with_reducible rfl))); (try simp only [Act.put, List.setIfInBounds_toArray, List.set_cons_zero, List.set_cons_succ])
      refine wpAnyH_take (i := 4) (oi := ⟨some 21, _, _, _, _, _⟩) (v := ?_) rfl (by kernel_rfl) (by kernel_rfl) (by kernel_rfl) (fun _ _ _ h => h) (Or.inl ⟨by rfl, ?_⟩) (by assumption) ?_; rotate_left; (focus (intro w hSw; (try dsimp only at hSw); go_simp; (try with_reducible rfl))); (try simp only [Act.put, List.setIfInBounds_toArray, List.set_cons_zero, List.set_cons_succ])
      refine wpAnyH_take (i := 5) (oi := ⟨some 22, _, _, _, _, _⟩) (v := ?_) rfl (by kernel_rfl) (by kernel_rfl) (by kernel_rfl) (fun _ _ _ h => h) (Or.inl ⟨by rfl, ?_⟩) (by assumption) ?_; rotate_left; (focus (intro w hSw; (try dsimp only at hSw); go_simp; (try with_reducible rfl))); (try simp only [Act.put, List.setIfInBounds_toArray, List.set_cons_zero, List.set_cons_succ])
      refine wpAnyH_take (i := 6) (oi := ⟨some 23, _, _, _, _, _⟩) (v := ?_) rfl (by kernel_rfl) (by kernel_rfl) (by kernel_rfl) (fun _ _ _ h => h) (Or.inl ⟨by rfl, ?_⟩) (by assumption) ?_; rotate_left; (focus (intro w hSw; (try dsimp only at hSw); go_simp; (try with_reducible rfl))); (try simp only [Act.put, List.setIfInBounds_toArray, List.set_cons_zero, List.set_cons_succ])
      refine wpAnyH_take (i := 7) (oi := ⟨some 24, _, _, _, _, _⟩) (v := ?_) rfl (by kernel_rfl) (by kernel_rfl) (by kernel_rfl) (fun _ _ _ h => h) (Or.inl ⟨by rfl, ?_⟩) (by assumption) ?_; rotate_left; (focus (intro w hSw; (try dsimp only at hSw); go_simp; (try with_reducible rfl))); (try simp only [Act.put, List.setIfInBounds_toArray, List.set_cons_zero, List.set_cons_succ])
      refine wpAnyH_take (i := 8) (oi := ⟨some 25, _, _, _, _, _⟩) (v := ?_) rfl (by kernel_rfl) (by kernel_rfl) (by kernel_rfl) (fun _ _ _ h => h) (Or.inl ⟨by rfl, ?_⟩) (by assumption) ?_; rotate_left; (focus (intro w hSw; (try dsimp only at hSw); go_simp; (try with_reducible rfl))); (try simp only [Act.put, List.setIfInBounds_toArray, List.set_cons_zero, List.set_cons_succ])
      refine wpAnyH_take (i := 9) (oi := ⟨some 26, _, _, _, _, _⟩) (v := ?_) rfl (by kernel_rfl) (by kernel_rfl) (by kernel_rfl) (fun _ _ _ h => h) (Or.inl ⟨by rfl, ?_⟩) (by assumption) ?_; rotate_left; (focus (intro w hSw; (try dsimp only at hSw); go_simp; (try with_reducible rfl))); (try simp only [Act.put, List.setIfInBounds_toArray, List.set_cons_zero, List.set_cons_succ])
      refine wpAnyH_take (i := 10) (oi := ⟨some 27, _, _, _, _, _⟩) (v := ?_) rfl (by kernel_rfl) (by kernel_rfl) (by kernel_rfl) (fun _ _ _ h => h) (Or.inl ⟨by rfl, ?_⟩) (by assumption) ?_; rotate_left; (focus (intro w hSw; (try dsimp only at hSw); go_simp; (try with_reducible rfl))); (try simp only [Act.put, List.setIfInBounds_toArray, List.set_cons_zero, List.set_cons_succ])
      refine wpAnyH_take (i := 11) (oi := ⟨some 28, _, _, _, _, _⟩) (v := ?_) rfl (by kernel_rfl) (by kernel_rfl) (by kernel_rfl) (fun _ _ _ h => h) (Or.inl ⟨by rfl, ?_⟩) (by assumption) ?_; rotate_left; (focus (intro w hSw; (try dsimp only at hSw); go_simp; (try with_reducible rfl))); (try simp only [Act.put, List.setIfInBounds_toArray, List.set_cons_zero, List.set_cons_succ])
      refine wpAnyH_take (i := 12) (oi := ⟨some 29, _, _, _, _, _⟩) (v := ?_) rfl (by kernel_rfl) (by kernel_rfl) (by kernel_rfl) (fun _ _ _ h => h) (Or.inl ⟨by rfl, ?_⟩) (by assumption) ?_; rotate_left; (focus (intro w hSw; (try dsimp only at hSw); go_simp; (try with_reducible rfl))); (try simp only [Act.put, List.setIfInBounds_toArray, List.set_cons_zero, List.set_cons_succ])
      refine wpAnyH_take (i := 13) (oi := ⟨some 30, _, _, _, _, _⟩) (v := ?_) rfl (by kernel_rfl) (by kernel_rfl) (by kernel_rfl) (fun _ _ _ h => h) (Or.inl ⟨by rfl, ?_⟩) (by assumption) ?_; rotate_left; (focus (intro w hSw; (try dsimp only at hSw); go_simp; (try with_reducible rfl))); (try simp only [Act.put, List.setIfInBounds_toArray, List.set_cons_zero, List.set_cons_succ])
      refine wpAnyH_take (i := 14) (oi := ⟨some 31, _, _, _, _, _⟩) (v := ?_) rfl (by kernel_rfl) (by kernel_rfl) (by kernel_rfl) (fun _ _ _ h => h) (Or.inl ⟨by rfl, ?_⟩) (by assumption) ?_; rotate_left; (focus (intro w hSw; (try dsimp only at hSw); go_simp; (try with_reducible rfl))); (try simp only [Act.put, List.setIfInBounds_toArray, List.set_cons_zero, List.set_cons_succ])
      refine wpAnyH_take (i := 15) (oi := ⟨some 32, _, _, _, _, _⟩) (v := ?_) rfl (by kernel_rfl) (by kernel_rfl) (by kernel_rfl) (fun _ _ _ h => h) (Or.inl ⟨by rfl, ?_⟩) (by assumption) ?_; rotate_left; (focus (intro w hSw; (try dsimp only at hSw); go_simp; (try with_reducible rfl))); (try simp only [Act.put, List.setIfInBounds_toArray, List.set_cons_zero, List.set_cons_succ])
      refine wpAnyH_take (i := 16) (oi := ⟨some 33, _, _, _, _, _⟩) (v := ?_) rfl (by kernel_rfl) (by kernel_rfl) (by kernel_rfl) (fun _ _ _ h => h) (Or.inl ⟨by rfl, ?_⟩) (by assumption) ?_; rotate_left; (focus (intro w hSw; (try dsimp only at hSw); go_simp; (try with_reducible rfl))); (try simp only [Act.put, List.setIfInBounds_toArray, List.set_cons_zero, List.set_cons_succ])
      refine wpAnyH_take (i := 17) (oi := ⟨some 34, _, _, _, _, _⟩) (v := ?_) rfl (by kernel_rfl) (by kernel_rfl) (by kernel_rfl) (fun _ _ _ h => h) (Or.inl ⟨by rfl, ?_⟩) (by assumption) ?_; rotate_left; (focus (intro w hSw; (try dsimp only at hSw); go_simp; (try with_reducible rfl))); (try simp only [Act.put, List.setIfInBounds_toArray, List.set_cons_zero, List.set_cons_succ])
      refine wpAnyH_take (i := 18) (oi := ⟨some 35, _, _, _, _, _⟩) (v := ?_) rfl (by kernel_rfl) (by kernel_rfl) (by kernel_rfl) (fun _ _ _ h => h) (Or.inl ⟨by rfl, ?_⟩) (by assumption) ?_; rotate_left; (focus (intro w hSw; (try dsimp only at hSw); go_simp; (try with_reducible rfl))); (try simp only [Act.put, List.setIfInBounds_toArray, List.set_cons_zero, List.set_cons_succ])
      refine wpAnyH_take (i := 19) (oi := ⟨some 36, _, _, _, _, _⟩) (v := ?_) rfl (by kernel_rfl) (by kernel_rfl) (by kernel_rfl) (fun _ _ _ h => h) (Or.inl ⟨by rfl, ?_⟩) (by assumption) ?_; rotate_left; (focus (intro w hSw; (try dsimp only at hSw); go_simp; (try with_reducible rfl))); (try simp only [Act.put, List.setIfInBounds_toArray, List.set_cons_zero, List.set_cons_succ])
      refine wpAnyH_take (i := 20) (oi := ⟨some 37, _, _, _, _, _⟩) (v := ?_) rfl (by kernel_rfl) (by kernel_rfl) (by kernel_rfl) (fun _ _ _ h => h) (Or.inl ⟨by rfl, ?_⟩) (by assumption) ?_; rotate_left; (focus (intro w hSw; (try dsimp only at hSw); go_simp; (try with_reducible rfl))); (try simp only [Act.put, List.setIfInBounds_toArray, List.set_cons_zero, List.set_cons_succ])
      refine wpAnyH_take (i := 21) (oi := ⟨some 38, _, _, _, _, _⟩) (v := ?_) rfl (by kernel_rfl) (by kernel_rfl) (by kernel_rfl) (fun _ _ _ h => h) (Or.inl ⟨by rfl, ?_⟩) (by assumption) ?_; rotate_left; (focus (intro w hSw; (try dsimp only at hSw); go_simp; (try with_reducible rfl))); (try simp only [Act.put, List.setIfInBounds_toArray, List.set_cons_zero, List.set_cons_succ])
      refine wpAnyH_take (i := 22) (oi := ⟨some 39, _, _, _, _, _⟩) (v := ?_) rfl (by kernel_rfl) (by kernel_rfl) (by kernel_rfl) (fun _ _ _ h => h) (Or.inl ⟨by rfl, ?_⟩) (by assumption) ?_; rotate_left; (focus (intro w hSw; (try dsimp only at hSw); go_simp; (try with_reducible rfl))); (try simp only [Act.put, List.setIfInBounds_toArray, List.set_cons_zero, List.set_cons_succ])
      refine wpAnyH_take (i := 23) (oi := ⟨some 40, _, _, _, _, _⟩) (v := ?_) rfl (by kernel_rfl) (by kernel_rfl) (by kernel_rfl) (fun _ _ _ h => h) (Or.inl ⟨by rfl, ?_⟩) (by assumption) ?_; rotate_left; (focus (intro w hSw; (try dsimp only at hSw); go_simp; (try with_reducible rfl))); (try simp only [Act.put, List.setIfInBounds_toArray, List.set_cons_zero, List.set_cons_succ])
      refine wpAnyH_take (i := 24) (oi := ⟨some 41, _, _, _, _, _⟩) (v := ?_) rfl (by kernel_rfl) (by kernel_rfl) (by kernel_rfl) (fun _ _ _ h => h) (Or.inl ⟨by rfl, ?_⟩) (by assumption) ?_; rotate_left; (focus (intro w hSw; (try dsimp only at hSw); go_simp; (try with_reducible rfl))); (try simp only [Act.put, List.setIfInBounds_toArray, List.set_cons_zero, List.set_cons_succ])
      refine wpAnyH_take (i := 25) (oi := ⟨some 42, _, _, _, _, _⟩) (v := ?_) rfl (by kernel_rfl) (by kernel_rfl) (by kernel_rfl) (fun _ _ _ h => h) (Or.inl ⟨by rfl, ?_⟩) (by assumption) ?_; rotate_left; (focus (intro w hSw; (try dsimp only at hSw); go_simp; (try with_reducible rfl))); (try simp only [Act.put, List.setIfInBounds_toArray, List.set_cons_zero, List.set_cons_succ])
      refine wpAnyH_take (i := 26) (oi := ⟨some 43, _, _, _, _, _⟩) (v := ?_) rfl (by kernel_rfl) (by kernel_rfl) (by kernel_rfl) (fun _ _ _ h => h) (Or.inl ⟨by rfl, ?_⟩) (by assumption) ?_; rotate_left; (focus (intro w hSw; (try dsimp only at hSw); go_simp; (try with_reducible rfl))); (try simp only [Act.put, List.setIfInBounds_toArray, List.set_cons_zero, List.set_cons_succ])
      refine wpAnyH_take (i := 27) (oi := ⟨some 44, _, _, _, _, _⟩) (v := ?_) rfl (by kernel_rfl) (by kernel_rfl) (by kernel_rfl) (fun _ _ _ h => h) (Or.inl ⟨by rfl, ?_⟩) (by assumption) ?_; rotate_left; (focus (intro w hSw; (try dsimp only at hSw); go_simp; (try with_reducible rfl))); (try simp only [Act.put, List.setIfInBounds_toArray, List.set_cons_zero, List.set_cons_succ])
      refine wpAnyH_take (i := 28) (oi := ⟨some 45, _, _, _, _, _⟩) (v := ?_) rfl (by kernel_rfl) (by kernel_rfl) (by kernel_rfl) (fun _ _ _ h => h) (Or.inl ⟨by rfl, ?_⟩) (by assumption) ?_; rotate_left; (focus (intro w hSw; (try dsimp only at hSw); go_simp; (try with_reducible rfl))); (try simp only [Act.put, List.setIfInBounds_toArray, List.set_cons_zero, List.set_cons_succ])
      refine wpAnyH_take (i := 29) (oi := ⟨some 46, _, _, _, _, _⟩) (v := ?_) rfl (by kernel_rfl) (by kernel_rfl) (by kernel_rfl) (fun _ _ _ h => h) (Or.inl ⟨by rfl, ?_⟩) (by assumption) ?_; rotate_left; (focus (intro w hSw; (try dsimp only at hSw); go_simp; (try with_reducible rfl))); (try simp only [Act.put, List.setIfInBounds_toArray, List.set_cons_zero, List.set_cons_succ])
      refine wpAnyH_take (i := 30) (oi := ⟨some 47, _, _, _, _, _⟩) (v := ?_) rfl (by kernel_rfl) (by kernel_rfl) (by kernel_rfl) (fun _ _ _ h => h) (Or.inl ⟨by rfl, ?_⟩) (by assumption) ?_; rotate_left; (focus (intro w hSw; (try dsimp only at hSw); go_simp; (try with_reducible rfl))); (try simp only [Act.put, List.setIfInBounds_toArray, List.set_cons_zero, List.set_cons_succ])
      refine wpAnyH_take (i := 31) (oi := ⟨some 48, _, _, _, _, _⟩) (v := ?_) rfl (by kernel_rfl) (by kernel_rfl) (by kernel_rfl) (fun _ _ _ h => h) (Or.inl ⟨by rfl, ?_⟩) (by assumption) ?_; rotate_left; (focus (intro w hSw; (try dsimp only at hSw); go_simp; (try with_reducible rfl))); (try simp only [Act.put, List.setIfInBounds_toArray, List.set_cons_zero, List.set_cons_succ])
      refine wpAnyH_take (i := 32) (oi := ⟨some 49, _, _, _, _, _⟩) (v := ?_) rfl (by kernel_rfl) (by kernel_rfl) (by kernel_rfl) (fun _ _ _ h => h) (Or.inl ⟨by rfl, ?_⟩) (by assumption) ?_; rotate_left; (focus (intro w hSw; (try dsimp only at hSw); go_simp; (try with_reducible rfl))); (try simp only [Act.put, List.setIfInBounds_toArray, List.set_cons_zero, List.set_cons_succ])
      refine wpAnyH_take (i := 33) (oi := ⟨some 50, _, _, _, _, _⟩) (v := ?_) rfl (by kernel_rfl) (by kernel_rfl) (by kernel_rfl) (fun _ _ _ h => h) (Or.inl ⟨by rfl, ?_⟩) (by assumption) ?_; rotate_left; (focus (intro w hSw; (try dsimp only at hSw); go_simp; (try with_reducible rfl))); (try simp only [Act.put, List.setIfInBounds_toArray, List.set_cons_zero, List.set_cons_succ])
      refine wpAnyH_take (i := 34) (oi := ⟨some 51, _, _, _, _, _⟩) (v := ?_) rfl (by kernel_rfl) (by kernel_rfl) (by kernel_rfl) (fun _ _ _ h => h) (Or.inl ⟨by rfl, ?_⟩) (by assumption) ?_; rotate_left; (focus (intro w hSw; (try dsimp only at hSw); go_simp; (try with_reducible rfl))); (try simp only [Act.put, List.setIfInBounds_toArray, List.set_cons_zero, List.set_cons_succ])
      refine wpAnyH_ready (rs := [35]) (by kernel_rfl) (by simp) ?_; refine AllReadyH.cons (o := ⟨some 52, _, _, _, _, _⟩) rfl (fun K hK => ?_) AllReadyH.nil; go_simp
      go_at_call 21
      refine (HE1.out wr.drew hBw HP1.out HP3.out).mono ?_
      rintro e w2 ⟨rfl, hb2'⟩
      have hb2 : Below wr.heap.size wr w2 := below_of_drew hb2'
      have b0 := (hb2.cell (p := ⟨b, off + k * 4, none⟩) hbw).trans b0
      have b1 := (hb2.cell (p := ⟨b, off + k * 4 + 1, none⟩) hbw).trans b1
      have b2 := (hb2.cell (p := ⟨b, off + k * 4 + 2, none⟩) hbw).trans b2
      have b3 := (hb2.cell (p := ⟨b, off + k * 4 + 3, none⟩) hbw).trans b3
      have g0 := (hb2.cell (p := ⟨b', off' + k * 4, none⟩) hbw').trans g0
      have g1 := (hb2.cell (p := ⟨b', off' + k * 4 + 1, none⟩) hbw').trans g1
      have g2 := (hb2.cell (p := ⟨b', off' + k * 4 + 2, none⟩) hbw').trans g2
      have g3 := (hb2.cell (p := ⟨b', off' + k * 4 + 3, none⟩) hbw').trans g3
      have hs2 := hb2.size
      have HQ2 := Lib.hid (HP2.out.below hb2 hBw)
      have HQ4 := Lib.hid (HP4.out.below hb2 hBw)
      have HB2 := Lib.hid (hb.trans (hb2.mono hb.size))
      clear hb2 hb2' HP1 HP2 HP3 HP4 HE1
      refine hK.out _ _ ⟨b0, b1, b2, b3, g0, g1, g2, g3⟩ (fun hHeld => ?_); clear hK K; (try simp only [Act.put, List.setIfInBounds_toArray, List.set_cons_zero, List.set_cons_succ])
      refine wpAnyH_take (i := 36) (oi := ⟨some 53, _, _, _, _, _⟩) (v := ?_) rfl (by kernel_rfl) (by kernel_rfl) (by kernel_rfl) (fun _ _ _ h => h) (Or.inl ⟨by rfl, ?_⟩) (by assumption) ?_; rotate_left; (focus (intro w hSw; (try dsimp only at hSw); go_simp; (try with_reducible rfl))); (try simp only [Act.put, List.setIfInBounds_toArray, List.set_cons_zero, List.set_cons_succ])
      refine wpAnyH_take (i := 37) (oi := ⟨some 54, _, _, _, _, _⟩) (v := ?_) rfl (by kernel_rfl) (by kernel_rfl) (by kernel_rfl) (fun _ _ _ h => h) (Or.inl ⟨by rfl, ?_⟩) (by assumption) ?_; rotate_left; (focus (intro w hSw; (try dsimp only at hSw); go_simp; (try with_reducible rfl))); (try simp only [Act.put, List.setIfInBounds_toArray, List.set_cons_zero, List.set_cons_succ])
      refine wpAnyH_take (i := 38) (oi := ⟨some 55, _, _, _, _, _⟩) (v := ?_) rfl (by kernel_rfl) (by kernel_rfl) (by kernel_rfl) (fun _ _ _ h => h) (Or.inl ⟨by rfl, ?_⟩) (by assumption) ?_; rotate_left; (focus (intro w hSw; (try dsimp only at hSw); go_simp; (try with_reducible rfl))); (try simp only [Act.put, List.setIfInBounds_toArray, List.set_cons_zero, List.set_cons_succ])
      refine wpAnyH_take (i := 39) (oi := ⟨some 56, _, _, _, _, _⟩) (v := ?_) rfl (by kernel_rfl) (by kernel_rfl) (by kernel_rfl) (fun _ _ _ h => h) (Or.inl ⟨by rfl, ?_⟩) (by assumption) ?_; rotate_left; (focus (intro w hSw; (try dsimp only at hSw); go_simp; (try with_reducible rfl))); (try simp only [Act.put, List.setIfInBounds_toArray, List.set_cons_zero, List.set_cons_succ])
      refine wpAnyH_take (i := 40) (oi := ⟨some 57, _, _, _, _, _⟩) (v := ?_) rfl (by kernel_rfl) (by kernel_rfl) (by kernel_rfl) (fun _ _ _ h => h) (Or.inl ⟨by rfl, ?_⟩) (by assumption) ?_; rotate_left; (focus (intro w hSw; (try dsimp only at hSw); go_simp; (try with_reducible rfl))); (try simp only [Act.put, List.setIfInBounds_toArray, List.set_cons_zero, List.set_cons_succ])
      refine wpAnyH_take (i := 41) (oi := ⟨some 58, _, _, _, _, _⟩) (v := ?_) rfl (by kernel_rfl) (by kernel_rfl) (by kernel_rfl) (fun _ _ _ h => h) (Or.inl ⟨by rfl, ?_⟩) (by assumption) ?_; rotate_left; (focus (intro w hSw; (try dsimp only at hSw); go_simp; (try with_reducible rfl))); (try simp only [Act.put, List.setIfInBounds_toArray, List.set_cons_zero, List.set_cons_succ])
      refine wpAnyH_take (i := 42) (oi := ⟨some 59, _, _, _, _, _⟩) (v := ?_) rfl (by kernel_rfl) (by kernel_rfl) (by kernel_rfl) (fun _ _ _ h => h) (Or.inl ⟨by rfl, ?_⟩) (by assumption) ?_; rotate_left; (focus (intro w hSw; (try dsimp only at hSw); go_simp; (try with_reducible rfl))); (try simp only [Act.put, List.setIfInBounds_toArray, List.set_cons_zero, List.set_cons_succ])
      refine wpAnyH_take (i := 43) (oi := ⟨some 60, _, _, _, _, _⟩) (v := ?_) rfl (by kernel_rfl) (by kernel_rfl) (by kernel_rfl) (fun _ _ _ h => h) (Or.inl ⟨by rfl, ?_⟩) (by assumption) ?_; rotate_left; (focus (intro w hSw; (try dsimp only at hSw); go_simp; (try with_reducible rfl))); (try simp only [Act.put, List.setIfInBounds_toArray, List.set_cons_zero, List.set_cons_succ])
      refine wpAnyH_take (i := 44) (oi := ⟨some 61, _, _, _, _, _⟩) (v := ?_) rfl (by kernel_rfl) (by kernel_rfl) (by kernel_rfl) (fun _ _ _ h => h) (Or.inl ⟨by rfl, ?_⟩) (by assumption) ?_; rotate_left; (focus (intro w hSw; (try dsimp only at hSw); go_simp; (try with_reducible rfl))); (try simp only [Act.put, List.setIfInBounds_toArray, List.set_cons_zero, List.set_cons_succ])
      refine wpAnyH_take (i := 45) (oi := ⟨some 62, _, _, _, _, _⟩) (v := ?_) rfl (by kernel_rfl) (by kernel_rfl) (by kernel_rfl) (fun _ _ _ h => h) (Or.inl ⟨by rfl, ?_⟩) (by assumption) ?_; rotate_left; (focus (intro w hSw; (try dsimp only at hSw); go_simp; (try with_reducible rfl))); (try simp only [Act.put, List.setIfInBounds_toArray, List.set_cons_zero, List.set_cons_succ])
      refine wpAnyH_take (i := 46) (oi := ⟨some 63, _, _, _, _, _⟩) (v := ?_) rfl (by kernel_rfl) (by kernel_rfl) (by kernel_rfl) (fun _ _ _ h => h) (Or.inl ⟨by rfl, ?_⟩) (by assumption) ?_; rotate_left; (focus (intro w hSw; (try dsimp only at hSw); go_simp; (try with_reducible rfl))); (try simp only [Act.put, List.setIfInBounds_toArray, List.set_cons_zero, List.set_cons_succ])
      refine wpAnyH_take (i := 47) (oi := ⟨some 64, _, _, _, _, _⟩) (v := ?_) rfl (by kernel_rfl) (by kernel_rfl) (by kernel_rfl) (fun _ _ _ h => h) (Or.inl ⟨by rfl, ?_⟩) (by assumption) ?_; rotate_left; (focus (intro w hSw; (try dsimp only at hSw); go_simp; (try with_reducible rfl))); (try simp only [Act.put, List.setIfInBounds_toArray, List.set_cons_zero, List.set_cons_succ])
      refine wpAnyH_take (i := 48) (oi := ⟨some 65, _, _, _, _, _⟩) (v := ?_) rfl (by kernel_rfl) (by kernel_rfl) (by kernel_rfl) (fun _ _ _ h => h) (Or.inl ⟨by rfl, ?_⟩) (by assumption) ?_; rotate_left; (focus (intro w hSw; (try dsimp only at hSw); go_simp; (try with_reducible rfl))); (try simp only [Act.put, List.setIfInBounds_toArray, List.set_cons_zero, List.set_cons_succ])
      refine wpAnyH_ready (rs := [49]) (by kernel_rfl) (by simp) ?_; refine AllReadyH.cons (o := ⟨some 66, _, _, _, _, _⟩) rfl (fun K hK => ?_) AllReadyH.nil; go_simp
      go_at_call 21
      refine (HE2.out w2 (by omega) HQ2.out HQ4.out).mono ?_
      rintro e w3 ⟨rfl, hb3⟩
      have hbw2 : b < w2.heap.size := by omega
      have hbw2' : b' < w2.heap.size := by omega
      have b0 := (hb3.cell (p := ⟨b, off + k * 4, none⟩) hbw2).trans b0
      have b1 := (hb3.cell (p := ⟨b, off + k * 4 + 1, none⟩) hbw2).trans b1
      have b2 := (hb3.cell (p := ⟨b, off + k * 4 + 2, none⟩) hbw2).trans b2
      have b3 := (hb3.cell (p := ⟨b, off + k * 4 + 3, none⟩) hbw2).trans b3
      have g0 := (hb3.cell (p := ⟨b', off' + k * 4, none⟩) hbw2').trans g0
      have g1 := (hb3.cell (p := ⟨b', off' + k * 4 + 1, none⟩) hbw2').trans g1
      have g2 := (hb3.cell (p := ⟨b', off' + k * 4 + 2, none⟩) hbw2').trans g2
      have g3 := (hb3.cell (p := ⟨b', off' + k * 4 + 3, none⟩) hbw2').trans g3
      have HB3 := Lib.hid (HB2.out.trans (hb3.mono HB2.out.size))
      clear hb3 HQ2 HQ4 HE2
      refine hK.out _ _ ⟨b0, b1, b2, b3, g0, g1, g2, g3⟩ (fun hHeld => ?_); clear hK K; (try simp only [Act.put, List.setIfInBounds_toArray, List.set_cons_zero, List.set_cons_succ])
      refine wpAnyH_take (i := 50) (oi := ⟨some 67, _, _, _, _, _⟩) (v := ?_) rfl (by kernel_rfl) (by kernel_rfl) (by kernel_rfl) (fun _ _ _ h => h) (Or.inl ⟨by rfl, ?_⟩) (by assumption) ?_; rotate_left; (focus (intro w hSw; (try dsimp only at hSw); go_simp; (try with_reducible rfl))); (try simp only [Act.put, List.setIfInBounds_toArray, List.set_cons_zero, List.set_cons_succ])
      refine wpAnyH_take (i := 51) (oi := ⟨some 68, _, _, _, _, _⟩) (v := ?_) rfl (by kernel_rfl) (by kernel_rfl) (by kernel_rfl) (fun _ _ _ h => h) (Or.inl ⟨by rfl, ?_⟩) (by assumption) ?_; rotate_left; (focus (intro w hSw; (try dsimp only at hSw); go_simp; (try with_reducible rfl))); (try simp only [Act.put, List.setIfInBounds_toArray, List.set_cons_zero, List.set_cons_succ])
      refine wpAnyH_done (by kernel_rfl) ?_ _
      go_wp2
      go_roundw
      case rel => exact ⟨k + 1, by omega, by go_num, HB3.out⟩
      case measure => simp [intOf]; omega
    · go_wp2
      go_ret
      exact ⟨rfl, hb⟩
end Go.Proofs.Ytkfglodjnnlbkaa

namespace Go.Proofs.Ytkfglodjnnlbkaa
set_option linter.unusedSimpArgs false
set_option linter.unusedVariables false
open Go.RowKit
/-- A cell that lies in memory. -/
def C1 (b o : Nat) (v : Value) (w : World) : Prop := b < w.heap.size ∧ w.cell? ⟨b, o, none⟩ = some v
theorem C1.step {b o : Nat} {v : Value} {w w' : World} (h : C1 b o v w) (hb : Below w.heap.size w w') : C1 b o v w' := ⟨Nat.lt_of_lt_of_le h.1 hb.size, (hb.cell (p := ⟨b, o, none⟩) h.1).trans h.2⟩
theorem isIn_g (A : Option Addr) (n c : Nat) (xs : List Int) (x : Int) (w : World) (hn : n = xs.length) (h : IS w w.heap.size A xs) (hs : n ≤ 2000000) :
    Calls Try.prog 29 #[.slice A n c, .int .i64 x] w fun e w' => e = .returned (.bool (decide (x ∈ xs))) ∧ Below w.heap.size w w' := by
  refine (laws_isIn A n c xs x w w.heap.size (Nat.le_refl _) hn h hs).mono ?_
  rintro e w' ⟨rfl, rfl⟩
  exact ⟨rfl, Below.refl _ _⟩
end Go.Proofs.Ytkfglodjnnlbkaa

namespace Go.Proofs.Ytkfglodjnnlbkaa
set_option linter.unusedSimpArgs false
set_option linter.unusedVariables false
open Go.RowKit
theorem eq_g (A A' : Option Addr) (n c c' : Nat) (a : List Int) (w : World) (hn : n = a.length) (h : IS w w.heap.size A a) (h' : IS w w.heap.size A' a) (hs : n ≤ 2000000) :
    Calls Try.prog 21 #[.slice A n c, .slice A' n c'] w fun e w' => e = .returned (.bool true) ∧ Below w.heap.size w w' := by
  have := laws_equalInts A A' n n c c' a a w w.heap.size (Nat.le_refl _) hn hn h h' hs hs
  rw [show decide (a = a) = true from decide_eq_true rfl] at this
  exact this
end Go.Proofs.Ytkfglodjnnlbkaa

namespace Go.Proofs.Ytkfglodjnnlbkaa
set_option linter.unusedSimpArgs false
set_option linter.unusedVariables false
open Go.RowKit
theorem IS.drop {w : World} {B b off : Nat} {xs : List Int} (h : IS w B (some ⟨b, off, none⟩) xs) (j : Nat) : IS w B (some ⟨b, off + j, none⟩) (xs.drop j) := by
  intro hn
  simp only [List.length_drop] at hn
  obtain ⟨b', o', e, hb, hc⟩ := h (by omega)
  cases e
  refine ⟨b, off + j, rfl, hb, fun i hi => ?_⟩
  simp only [List.length_drop] at hi
  have := hc (j + i) (by omega)
  rw [Nat.add_assoc, this]
  simp [List.getD]
end Go.Proofs.Ytkfglodjnnlbkaa
