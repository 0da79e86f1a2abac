/- Words and contracts for memory that the texts behind use. -/
import Derived.Test.YtgakgmkonmgblaaA0
import Derived.Test.YtgakgmkonmgblaaA1
import Derived.Test.YtgakgmkonmgblaaA2
import Derived.Test.YtgakgmkonmgblaaA3
import Derived.Test.YtgakgmkonmgblaaA4
import Derived.Test.YtgakgmkonmgblaaA5
import Derived.Test.YtgakgmkonmgblaaA6
import Derived.Test.YtgakgmkonmgblaaA7
import Derived.Test.YtgakgmkonmgblaaA8
import Derived.Test.YtgakgmkonmgblaaA9a
import Derived.Test.YtgakgmkonmgblaaA9b
import Derived.Test.YtgakgmkonmgblaaA9c
import Derived.Test.YtgakgmkonmgblaaA9
import Derived.Test.YtgakgmkonmgblaaAa
import Derived.Test.YtgakgmkonmgblaaAb
import Derived.Test.YtgakgmkonmgblaaAc
import Derived.Test.YtgakgmkonmgblaaAd
import Derived.WalkKit
import Derived.Laws.OwnMore
import Derived.Deep.Draws
import Derived.Test.YtgakgmkonmgblaaProg
import Derived.WalkSpells
import Derived.WalkLawsBesides
import Derived.Outline
import Derived.Lib.Hide
import Derived.BigQuiet
import Derived.Deep.QuietTactic
import Derived.StillTailTactics
import Derived.Deep.LoopGhost
import Derived.Laws.MakeOwn
import Derived.WalkSmall
import Derived.RegionTactic
import Derived.BigRegion
import Derived.Deep.RegionWith
import Derived.Deep.RegionHeld3
import Derived.Laws.Entries
import Derived.Laws.Bits64
import Derived.IntWalk
import Derived.Maps.AppendAt
import Derived.Deep.RegionLaw
import Derived.Deep.AppendLies
import Derived.Deep.Cut
import Derived.Deep.DeepCutAuto
import Derived.Laws.CopyOwn
import Derived.Maps.Own
import Derived.Maps.Views
import Derived.ChangeAlike

namespace Go.Proofs.Ytgakgmkonmgblaa
set_option linter.unusedSimpArgs false
set_option linter.unusedVariables false
open Go.RowKit
theorem validC_range (gs : List Nd) (cs : List Int) (h : allR cs 0 999 = false) : validC gs cs = false := by
  cases hv : validC gs cs
  · rfl
  · rw [validC_allR gs cs hv] at h; cases h
def meanF (gs : List Nd) (cs : List Int) : List Int := if okC gs cs then mean gs cs else []
end Go.Proofs.Ytgakgmkonmgblaa

namespace Go.Proofs.Ytgakgmkonmgblaa
set_option linter.unusedSimpArgs false
set_option linter.unusedVariables false
open Go.RowKit
set_option maxRecDepth 100000 in
set_option maxHeartbeats 1600000 in
theorem impl_ValidCells (A A' : Option Addr) (n c m c' : Nat) (gs : List Nd) (xs : List Int) (w : World) (B : Nat) (hB : B ≤ w.heap.size) (hn : n = gs.length) (hnc : n ≤ c) (hm : m = xs.length) (h : GS w B A gs) (h' : IS w B A' xs) (hs : GB gs) (hs' : m ≤ 2000000) :
    Calls Try.prog 55 #[.agg #[.slice A n c], .slice A' m c'] w fun e w' => e = .returned (.bool (okC gs xs)) ∧ Below w.heap.size w w' := by
  have hn1 : n ≤ 1048576 := by rw [hn]; exact hs.1
  have HVG := Lib.hid fun (w' : World) (hB : B ≤ w'.heap.size) (h : GS w' B A gs) => impl_ValidGraph A n c gs w' B hB hn h hs hnc
  have hok : okC gs xs = (validG gs && validC gs xs) := rfl
  cases hv : validG gs
  · have : okC gs xs = false := by rw [hok, hv]; rfl
    rw [this]
    rw [hv] at HVG
    have H := Lib.hid h
    clear this h h' hn hm hok hv
    go_enter Try.func55, Try.ntmps55
    go_wp2_with fail
    refine (HVG.out _ (by simp; omega) (H.out.alloc hB _)).mono ?_
    rintro e w1 ⟨rfl, hb⟩
    go_wp2
    go_ret
    exact ⟨rfl, ((Below.refl _ _).alloc (Nat.le_refl _) _).trans (hb.mono (by simp))⟩
  have : okC gs xs = validC gs xs := by rw [hok, hv]; rfl
  rw [this]
  rw [hv] at HVG
  have h10 := (validG_parts gs hv).1
  have hn10 : n ≤ 10 := by omega
  clear this hok hv h10
  by_cases hl : m = n
  · have hne : ((m : Int) != (n : Int)) = false := by simp [hl]
    have hlx : xs.length ≤ 10 := by omega
    have hdx : decide (xs.length ≤ 10) = true := by simpa using hlx
    have HAR := Lib.hid fun (w' : World) (hB : B ≤ w'.heap.size) (h : IS w' B A' xs) => impl_allInRange A' m c' xs 999 w' B hB hm h hs'
    rw [hdx] at HAR
    have H := Lib.hid h
    have HI := Lib.hid h'
    have HN := Lib.hid hn
    have HM := Lib.hid hm
    have HE := Lib.hid hl
    clear h h' hn hm hl hlx hdx
    cases ha : allR xs 0 999
    · rw [validC_range gs xs ha]
      rw [ha] at HAR
      clear ha
      go_enter Try.func55, Try.ntmps55
      go_wp2_with fail
      refine (HVG.out _ (by simp; omega) (H.out.alloc hB _)).mono ?_
      rintro e w1 ⟨rfl, hb⟩
      have q : w1.cell? ⟨w.heap.size, 0, none⟩ = some (.slice A n c) := (hb.cell (p := ⟨w.heap.size, 0, none⟩) (by simp)).trans (by go_simp)
      have HI1 := Lib.hid ((HI.out.alloc hB (.cells #[.slice A n c] 25)).below hb (by simp; omega))
      have hz : B ≤ w1.heap.size := by have := hb.size; simp at this; omega
      go_wp2_with fail
      refine (HAR.out _ hz HI1.out).mono ?_
      rintro e w2 ⟨rfl, rfl⟩
      go_wp2
      go_ret
      exact ⟨rfl, ((Below.refl _ _).alloc (Nat.le_refl _) _).trans (hb.mono (by simp))⟩
    · have HALL := Lib.hid ha
      rw [ha] at HAR
      clear ha
      go_enter Try.func55, Try.ntmps55
      go_wp2_with fail
      refine (HVG.out _ (by simp; omega) (H.out.alloc hB _)).mono ?_
      rintro e w1 ⟨rfl, hb⟩
      have q : w1.cell? ⟨w.heap.size, 0, none⟩ = some (.slice A n c) := (hb.cell (p := ⟨w.heap.size, 0, none⟩) (by simp)).trans (by go_simp)
      have HI1 := Lib.hid ((HI.out.alloc hB (.cells #[.slice A n c] 25)).below hb (by simp; omega))
      have HG1 := Lib.hid ((H.out.alloc hB (.cells #[.slice A n c] 25)).below hb (by simp; omega))
      have hz : B ≤ w1.heap.size := by have := hb.size; simp at this; omega
      have hB1 : Below w.heap.size w w1 := ((Below.refl _ _).alloc (Nat.le_refl _) _).trans (hb.mono (by simp))
      clear hb H HI
      go_wp2_with fail
      refine (HAR.out _ hz HI1.out).mono ?_
      rintro e w2 ⟨rfl, rfl⟩
      go_wp2
      go_loopw [26] (fun u wr => ∃ k : Nat, k ≤ n ∧ u = .int .i64 k ∧ Hid (∀ j, j < k → cellOK gs xs j = true) ∧ Below w1.heap.size w1 wr) (fun u _ => n - (intOf u).toNat)
      case atStart => exact ⟨0, by omega, rfl, by intro j hj; omega, Below.refl _ _⟩
      case round =>
        obtain ⟨k, hk, rfl, HK, hbr⟩ := hrel
        by_cases hlt : k < n
        · have hkm : k < m := by have := HE.out; omega
          obtain ⟨b, off, rfl, hbB, c0, A1, n1, c1, c2, _⟩ := HG1.out.at_ k (by have := HN.out; omega)
          obtain ⟨b', off', rfl, hb', hc⟩ := HI1.out (by have := HM.out; omega)
          have hx := hc k (by have := HM.out; omega)
          clear hc
          have e0 := (hbr.cell (p := ⟨b, off + k * 2, none⟩) (by simp; omega)).trans c0
          have e1 := (hbr.cell (p := ⟨b, off + k * 2 + 1, none⟩) (by simp; omega)).trans c2
          have e2 := (hbr.cell (p := ⟨b', off' + k, none⟩) (by simp; omega)).trans hx
          have hbw : b < wr.heap.size := by have := hbr.size; omega
          have hbw' : b' < wr.heap.size := by have := hbr.size; omega
          have hco : cellOK gs xs k = (rng (xs.getD k 0) 0 999 && ((gs.getD k default).k == 0 || xs.getD k 0 == 0)) := rfl
          have hrg : rng (xs.getD k 0) 0 999 = true := by
            have := HALL.out
            unfold allR at this
            rw [List.all_eq_true] at this
            exact this _ (by have := HM.out; have h2 : k < xs.length := by omega
                             simp [List.getD, h2])
          have HNK := Lib.hid fun (h : cellOK gs xs k = false) => validC_bad gs xs k (by have := HN.out; omega) h
          have HNT : Hid (cellOK gs xs k = true → ∀ j, j < k + 1 → cellOK gs xs j = true) := fun h j hj => by
            rcases Nat.lt_or_ge j k with h1 | h1
            · exact HK.out j h1
            · obtain rfl : j = k := by omega
              exact h
          generalize cellOK gs xs k = r at *
          generalize gs.getD k default = d at *
          generalize xs.getD k 0 = x at *
          subst hco
          have HR := Lib.hid hrg
          clear c0 c2 hx hrg
          cases hd : (d.k == 0)
          · have hd' : (d.k != 0) = true := by simp [bne, hd]
            have HD := Lib.hid hd
            cases hz' : (x == 0)
            · have hz2 : (x != 0) = true := by simp [bne, hz']
              have HZ := Lib.hid hz'
              go_wp2
              go_ret
              exact ⟨ret_b (HNK.out (by rw [HR.out, HD.out, HZ.out]; rfl)).symm, hB1.trans ((hbr.alloc (by have := hbr.size; omega) _).mono hB1.size)⟩
            · have hz2 : (x != 0) = false := by simp [bne, hz']
              have HZ := Lib.hid hz'
              go_wp2
              go_roundw
              case rel => exact ⟨k + 1, by omega, by go_num, HNT.out (by rw [HR.out, HD.out, HZ.out]; rfl), hbr.alloc (by have := hbr.size; omega) _⟩
              case measure => simp [intOf]; omega
          · have hd' : (d.k != 0) = false := by simp [bne, hd]
            have HD := Lib.hid hd
            go_wp2
            go_roundw
            case rel => exact ⟨k + 1, by omega, by go_num, HNT.out (by rw [HR.out, HD.out]; rfl), hbr.alloc (by have := hbr.size; omega) _⟩
            case measure => simp [intOf]; omega
        · go_wp2
          go_ret
          refine ⟨ret_b ?_, hB1.trans (hbr.mono hB1.size)⟩
          exact (validC_fin gs xs (by have := HN.out; have := HM.out; have := HE.out; omega) fun j hj => HK.out j (by have := HN.out; omega)).symm
  · have hne : ((m : Int) != (n : Int)) = true := by simp; omega
    rw [validC_len gs xs (by omega)]
    have H := Lib.hid h
    clear hl hn hm h h'
    go_enter Try.func55, Try.ntmps55
    go_wp2_with fail
    refine (HVG.out _ (by simp; omega) (H.out.alloc hB _)).mono ?_
    rintro e w1 ⟨rfl, hb⟩
    have q : w1.cell? ⟨w.heap.size, 0, none⟩ = some (.slice A n c) := (hb.cell (p := ⟨w.heap.size, 0, none⟩) (by simp)).trans (by go_simp)
    go_wp2
    go_ret
    exact ⟨rfl, ((Below.refl _ _).alloc (Nat.le_refl _) _).trans (hb.mono (by simp))⟩
end Go.Proofs.Ytgakgmkonmgblaa

namespace Go.Proofs.Ytgakgmkonmgblaa
set_option linter.unusedSimpArgs false
set_option linter.unusedVariables false
open Go.RowKit
/-- The values of the first nodes, and the cells of the others. -/
def mixTo (gs : List Nd) (xs : List Int) (k : Nat) : List Int := meanTo gs xs k ++ xs.drop k
theorem mixTo_zero (gs : List Nd) (xs : List Int) : mixTo gs xs 0 = xs := by simp [mixTo, meanTo]
theorem mixTo_len (gs : List Nd) (xs : List Int) (k : Nat) (h : k ≤ xs.length) : (mixTo gs xs k).length = xs.length := by
  unfold mixTo; rw [List.length_append, meanTo_len, List.length_drop]; omega
theorem mixTo_all (gs : List Nd) (xs : List Int) (k : Nat) (h : k = xs.length) : mixTo gs xs k = meanTo gs xs k := by
  unfold mixTo; rw [h, List.drop_length]; simp
theorem mixTo_take (gs : List Nd) (xs : List Int) (k : Nat) : (mixTo gs xs k).take k = meanTo gs xs k := by
  unfold mixTo
  have := meanTo_len gs xs k
  rw [List.take_append_of_le_length (by omega), List.take_of_length_le (by omega)]
theorem mixTo_step (gs : List Nd) (xs : List Int) (k : Nat) (h : k < xs.length) : mixTo gs xs (k + 1) = if (gs.getD k default).k == 0 then mixTo gs xs k else (mixTo gs xs k).set k ((whole (gs.getD k default).ps).ev (meanTo gs xs k)) := by
  have hl := meanTo_len gs xs k
  have hd : xs.drop k = xs.getD k 0 :: xs.drop (k + 1) := by rw [List.drop_eq_getElem_cons h]; simp [List.getD, h]
  unfold mixTo
  rw [mean_step, hd]
  cases hk : ((gs.getD k default).k == 0)
  · simp only [Bool.false_eq_true, if_false]
    rw [List.set_append_right _ _ (by omega), hl, Nat.sub_self, List.set_cons_zero, List.append_assoc]
    rfl
  · simp only [if_true]
    rw [List.append_assoc]; rfl
set_option maxRecDepth 100000 in
set_option maxHeartbeats 3200000 in
theorem impl_MeaningOf (A A' : Option Addr) (n c m c' : Nat) (gs : List Nd) (xs : List Int) (w : World) (B : Nat) (hB : B ≤ w.heap.size) (hn : n = gs.length) (hnc : n ≤ c) (hm : m = xs.length) (h : GS w B A gs) (h' : IS w B A' xs) (hs : GB gs) (hs' : m ≤ 2000000) :
    Calls Try.prog 32 #[.agg #[.slice A n c], .slice A' m c'] w fun e w' => RetI w (meanF gs xs) e w' := by
  have HVC := Lib.hid fun (w' : World) (hB : B ≤ w'.heap.size) (h : GS w' B A gs) (h' : IS w' B A' xs) => impl_ValidCells A A' n c m c' gs xs w' B hB hn hnc hm h h' hs hs'
  have H := Lib.hid h
  have HI := Lib.hid h'
  have HN := Lib.hid hn
  have HM := Lib.hid hm
  clear h h' hn hm
  cases hok : okC gs xs
  · have hf : meanF gs xs = [] := by unfold meanF; rw [hok]; rfl
    rw [hf]
    rw [hok] at HVC
    clear hf hok hs
    go_enter Try.func32, Try.ntmps32
    go_wp2_with fail
    refine (HVC.out _ (by simp; omega) (H.out.alloc hB _) (HI.out.alloc hB _)).mono ?_
    rintro e w1 ⟨rfl, hb⟩
    go_wp2
    go_ret
    exact ⟨_, rfl, World.ownsRow_nil _ _ _ _, ((Below.refl _ _).alloc (Nat.le_refl _) _).trans (hb.mono (by simp))⟩
  have hf : meanF gs xs = mean gs xs := by unfold meanF; rw [hok]; rfl
  rw [hf]
  rw [hok] at HVC
  obtain ⟨hvg, hvc⟩ := okC_parts gs xs hok
  have hmn : m = n := by have := (validC_parts gs xs hvc).1; have := HN.out; have := HM.out; omega
  have hn10 : n ≤ 10 := by have := (validG_parts gs hvg).1; have := HN.out; omega
  have HOK := Lib.hid hok
  have HMN := Lib.hid hmn
  have hm10 : m ≤ 10 := by omega
  clear hf hok hvg hvc hmn hs
  go_enter Try.func32, Try.ntmps32
  go_wp2_with fail
  refine (HVC.out _ (by simp; omega) (H.out.alloc hB _) (HI.out.alloc hB _)).mono ?_
  rintro e w1 ⟨rfl, hb⟩
  have q : w1.cell? ⟨w.heap.size, 0, none⟩ = some (.slice A n c) := (hb.cell (p := ⟨w.heap.size, 0, none⟩) (by simp)).trans (by go_simp)
  have HI1 := Lib.hid ((HI.out.alloc hB (.cells #[.slice A n c] 25)).below hb (by simp; omega))
  have HG1 := Lib.hid ((H.out.alloc hB (.cells #[.slice A n c] 25)).below hb (by simp; omega))
  have hz : w.heap.size < w1.heap.size := by have := hb.size; simp at this; omega
  have hB1 : Below w.heap.size w w1 := ((Below.refl _ _).alloc (Nat.le_refl _) _).trans (hb.mono (by simp))
  clear hb H HI
  go_wp2_with fail
  refine (impl_copyOf A' m c' xs w1 B (by omega) HM.out HI1.out (by omega)).mono ?_
  rintro e w2 ⟨rfl, hown2, hb2⟩
  have q2 := (hb2.cell (p := ⟨w.heap.size, 0, none⟩) hz).trans q
  have HG2 := Lib.hid (HG1.out.below hb2 (by omega))
  have HO2 := Lib.hid hown2
  have hgl := (hown2.lt _ rfl).2
  have hB2 := hB1.trans (hb2.mono (by omega))
  clear hown2 hb2 q HG1 HI1 hB1
  go_wp2
  go_loopw [17] (fun u wr => ∃ k : Nat, k ≤ n ∧ u = .int .i64 k ∧ Hid (wr.ownsRow w1.heap.size 3 1 (.slice (some ⟨w1.heap.size, 0, none⟩) m m) m ((mixTo gs xs k).map (Value.int .i64))) ∧ Hid (Below w1.heap.size w2 wr) ∧ w2.heap.size ≤ wr.heap.size) (fun u _ => n - (intOf u).toNat)
  case atStart => exact ⟨0, Nat.zero_le _, rfl, by rw [mixTo_zero]; exact HO2.out, Below.refl _ _, Nat.le_refl _⟩
  case round =>
    obtain ⟨k, hk, rfl, HO, HBR, hwr⟩ := hrel
    by_cases hlt : k < n
    · have hkm : k < m := by have := HMN.out; omega
      have hkg : k < gs.length := by have := HN.out; omega
      have hkx : k < xs.length := by have := HM.out; omega
      obtain ⟨b, off, rfl, hbB, c0, A1, n1, c1, c2, hn1', hps⟩ := HG2.out.at_ k hkg
      have e0 := (HBR.out.cell (p := ⟨b, off + k * 2, none⟩) (by simp; omega)).trans c0
      have e1 := (HBR.out.cell (p := ⟨b, off + k * 2 + 1, none⟩) (by simp; omega)).trans c2
      have HPS := Lib.hid (hps.below HBR.out (by omega))
      have HST := Lib.hid (mixTo_step gs xs k hkx)
      have HIR := Lib.hid ((IS.of_own HO.out).take k)
      rw [mixTo_take] at HIR
      have hml := meanTo_len gs xs k
      have hcE : ((gs.getD k default).k == 0) = false → canEv (gs.getD k default).ps (meanTo gs xs k) = true := mean_canEv gs xs HOK.out k hkg
      clear c0 c2 hps
      generalize gs.getD k default = d at *
      generalize meanTo gs xs k = M at *
      cases hd : (d.k == 0)
      · have hd' : (d.k != 0) = true := by simp [bne, hd]
        have hce := hcE hd
        obtain ⟨hv1, hvo, hl10, hea⟩ := canEv_parts d.ps M hce
        obtain ⟨hg, h1, h12⟩ := validF_good d.ps hv1
        have hvf : valF d.ps M = (whole d.ps).ev M := by unfold valF; rw [hce]; rfl
        have HVAL := Lib.hid fun (w' : World) (B : Nat) (hB : B ≤ w'.heap.size) (h : PS w' B A1 d.ps) (h' : IS w' B (some ⟨w1.heap.size, 0, none⟩) M) => impl_ValueOf A1 (some ⟨w1.heap.size, 0, none⟩) n1 c1 k m d.ps M B hn1' hml.symm (by omega) (by omega) w' hB h h'
        rw [hvf, hce] at HVAL
        rw [hd] at HST
        generalize (whole d.ps).ev M = E at *
        have HD := Lib.hid hd
        clear hcE hce hv1 hvo hl10 hea hg h1 h12 hvf hd hn1' hml
        go_wp2
        obtain ⟨W2, hW2⟩ : ∃ W2, W2 = wr.alloc (.cells #[.int .i64 d.k, .slice A1 n1 c1] 67) := ⟨_, rfl⟩
        have q1 : W2.cell? ⟨wr.heap.size, 0, none⟩ = some (.int .i64 d.k) := by rw [hW2]; go_simp
        have q3 : W2.cell? ⟨wr.heap.size, 1, none⟩ = some (.slice A1 n1 c1) := by rw [hW2]; go_simp
        have HP2 : Hid (PS W2 W2.heap.size A1 d.ps) := by rw [hW2]; exact (HPS.out.alloc (by omega) _).more (by simp; omega)
        have HIR2 : Hid (IS W2 W2.heap.size (some ⟨w1.heap.size, 0, none⟩) M) := by rw [hW2]; exact (HIR.out.alloc (Nat.le_refl _) _).more (by simp)
        have HB2' : Hid (Below w1.heap.size w2 W2) := by rw [hW2]; exact HBR.out.alloc (by omega) _
        have HO2' : Hid (W2.ownsRow w1.heap.size 3 1 (.slice (some ⟨w1.heap.size, 0, none⟩) m m) m ((mixTo gs xs k).map (Value.int .i64))) := by rw [hW2]; exact HO.out.alloc _
        have hz2 : w2.heap.size ≤ W2.heap.size := by rw [hW2]; simp; omega
        rw [← hW2]
        clear hW2 HPS HIR e0 e1
        have hkm2 : k ≤ m := by omega
        have hmx : (mixTo gs xs k).length = m := by rw [mixTo_len gs xs k (by omega)]; have := HM.out; omega
        obtain ⟨y, hy⟩ : ∃ y : Int, (mixTo gs xs k)[k]? = some y := ⟨_, List.getElem?_eq_getElem (by omega)⟩
        have HY := Lib.hid hy
        clear hy hmx
        go_region_with (first | (go_at_call 53; refine (HVAL.out W2.drew W2.heap.size (Nat.le_refl _) HP2.out HIR2.out).mono ?_; rintro e w3 ⟨rfl, hb3⟩; have hgg : w1.heap.size < w3.heap.size := Nat.lt_of_lt_of_le (show w1.heap.size < W2.heap.size by omega) hb3.size; have HO3 := Lib.hid (own_below (w := W2.drew) HO2'.out hb3); have u3 : w3.cell? ⟨w1.heap.size, k, none⟩ = some (.int .i64 y) := (HO3.out.cellAt k (by omega)).trans (by simp [HY.out]); have f3 : w3.frozen? ⟨w1.heap.size, k, none⟩ = false := HO3.out.frozenAt k))
        have HO4 := HO3.out.stored k (.int .i64 E)
        rw [← List.map_set] at HO4
        rw [show (mixTo gs xs k).set k E = mixTo gs xs (k + 1) from HST.out.symm] at HO4
        have HO5 := Lib.hid HO4.1
        have HB5 := Lib.hid (((HB2'.out.drew.trans (hb3.mono (show w1.heap.size ≤ W2.heap.size by omega))).setCell (p := ⟨w1.heap.size, k, none⟩) (Nat.le_refl _) (.int .i64 E)))
        have hz3 : w2.heap.size ≤ w3.heap.size := Nat.le_trans hz2 hb3.size
        clear HO4
        go_wp2
        go_roundw
        case rel => exact ⟨k + 1, by omega, by go_num, HO5.out, HB5.out, by simp [World.setCell]; omega⟩
        case measure => simp [intOf]; omega
      · have hd' : (d.k != 0) = false := by simp [bne, hd]
        rw [hd] at HST
        clear hcE hd hn1' hml
        go_wp2
        go_roundw
        case rel => exact ⟨k + 1, by omega, by go_num, by rw [HST.out]; exact HO.out.alloc _, HBR.out.alloc (by omega) _, by simp; omega⟩
        case measure => simp [intOf]; omega
    · obtain rfl : k = n := by omega
      go_wp2
      go_ret
      have hkx : k = xs.length := by have := HMN.out; have := HM.out; omega
      have hkm : k = m := by have := HMN.out; omega
      have hml : (mean gs xs).length = m := by unfold mean; rw [meanTo_len]; have := HN.out; omega
      refine ⟨_, rfl, ?_, hB2.trans (HBR.out.mono (by omega))⟩
      have := HO.out
      rw [mixTo_all gs xs k hkx, HN.out] at this
      unfold OwnI
      rw [hml]
      exact own_mono this (by omega)
end Go.Proofs.Ytgakgmkonmgblaa

namespace Go.Proofs.Ytgakgmkonmgblaa
set_option linter.unusedSimpArgs false
set_option linter.unusedVariables false
open Go.RowKit
def depsF (gs : List Nd) (xs : List Int) : List (List Int) := if okC gs xs then depTo gs (mean gs xs) gs.length else []
/-- What the first nodes read, and nothing for the others. -/
def dmix (gs : List Nd) (vs : List Int) (n k : Nat) : List (List Int) := depTo gs vs k ++ List.replicate (n - k) []
theorem dmix_all (gs : List Nd) (vs : List Int) (n : Nat) : dmix gs vs n n = depTo gs vs n := by unfold dmix; simp
theorem dmix_at (gs : List Nd) (vs : List Int) (n k : Nat) (h : k < n) : (dmix gs vs n (k + 1)).getD k [] = depF gs vs k := by
  have := depTo_len gs vs k
  unfold dmix
  rw [depTo_succ]
  simp [List.getD, List.getElem?_append, this]
theorem dmix_other (gs : List Nd) (vs : List Int) (n k j : Nat) (h : k < n) (hj : j ≠ k) : (dmix gs vs n (k + 1)).getD j [] = (dmix gs vs n k).getD j [] := by
  have h1 := depTo_len gs vs k
  unfold dmix
  rw [depTo_succ]
  rcases Nat.lt_or_ge j k with h2 | h2
  · simp [List.getD, List.getElem?_append, h1, h2, show j < k + 1 by omega]
  · have e1 : ¬ j < k := by omega
    have e2 : ¬ j < k + 1 := by omega
    simp only [List.getD, List.getElem?_append, List.length_append, h1, List.length_cons, List.length_nil, if_neg e1, if_neg e2, List.getElem?_replicate]
    split <;> split <;> rfl
theorem dmix_cell (gs : List Nd) (vs : List Int) (n k : Nat) (h : k < n) (hd : depF gs vs k = []) : dmix gs vs n (k + 1) = dmix gs vs n k := by
  unfold dmix
  rw [depTo_succ, hd, List.append_assoc, show n - k = (n - (k + 1)) + 1 by omega, List.replicate_succ]
  rfl
set_option maxRecDepth 100000 in
set_option maxHeartbeats 3200000 in
theorem top_impl_DepsOf (gs : List Nd) (xs : List Int) (hG : GB gs) (hL : xs.length ≤ 1048576) : ∀ (A : Option Addr) (n c : Nat) (A' : Option Addr) (m c' : Nat) (w : World), n = gs.length → n ≤ c → GS w w.heap.size A gs → m = xs.length → IS w w.heap.size A' xs →
    Calls Try.prog 33 #[.agg #[.slice A n c], .slice A' m c'] w fun e w' => RetSS w (depsF gs xs) e w' := by
  intro A n c A' m c' w hn hnc h hm h'
  obtain ⟨i1, hi, hz0, hz1, hz2⟩ := info_parts info_ints1
  have hm1 : m ≤ 2000000 := by omega
  have H := Lib.hid h
  have HX := Lib.hid h'
  have HN := Lib.hid hn
  have HC := Lib.hid fun (w' : World) (hB : w.heap.size ≤ w'.heap.size) (h : GS w' w.heap.size A gs) (h' : IS w' w.heap.size A' xs) => impl_ValidCells A A' n c m c' gs xs w' w.heap.size hB hn hnc hm h h' hG hm1
  have HM := Lib.hid fun (w' : World) (hB : w.heap.size ≤ w'.heap.size) (h : GS w' w.heap.size A gs) (h' : IS w' w.heap.size A' xs) => impl_MeaningOf A A' n c m c' gs xs w' w.heap.size hB hn hnc hm h h' hG hm1
  cases hok : okC gs xs
  · have hf : depsF gs xs = [] := by unfold depsF; rw [hok]; rfl
    rw [hf]
    rw [hok] at HC
    clear hf hok h h' hn hm hG
    go_enter Try.func33, Try.ntmps33
    go_wp2_with fail
    refine (HC.out _ (by simp) (H.out.alloc (Nat.le_refl _) _) (HX.out.alloc (Nat.le_refl _) _)).mono ?_
    rintro e w1 ⟨rfl, hb⟩
    have q1 : w1.cell? ⟨w.heap.size, 0, none⟩ = some (.slice A n c) := (hb.cell (p := ⟨w.heap.size, 0, none⟩) (by simp)).trans (by go_simp)
    have HG1 := Lib.hid ((H.out.alloc (Nat.le_refl _) (.cells #[.slice A n c] 25)).below hb (by simp))
    have HX1 := Lib.hid ((HX.out.alloc (Nat.le_refl _) (.cells #[.slice A n c] 25)).below hb (by simp))
    have hB1 : Below w.heap.size w w1 := ((Below.refl _ _).alloc (Nat.le_refl _) _).trans (hb.mono (by simp))
    have hl1 : w.heap.size < w1.heap.size := by have := hb.size; simp at this; omega
    clear hb
    go_wp2
    go_ret
    exact RetSS.nil (hB1)
  have hvg := (okC_parts gs xs hok).1
  have hf : depsF gs xs = depTo gs (mean gs xs) gs.length := by unfold depsF; rw [hok]; rfl
  have hmf : meanF gs xs = mean gs xs := by unfold meanF; rw [hok]; rfl
  have hn10 : n ≤ 10 := by have := (validG_parts gs hvg).1; omega
  have hml := mean_len gs xs
  rw [← hn] at hml
  have hvo : VOK (mean gs xs) := meanTo_VOK gs xs hok gs.length (Nat.le_refl _)
  have HCE := Lib.hid fun (k : Nat) (hk : k < gs.length) (h0 : ((gs.getD k default).k == 0) = false) => canEv_of (gs.getD k default).ps (mean gs xs) (nodeOK_formula gs k ((validG_parts gs hvg).2 k hk) h0).1 (by omega) hvo (by rw [hml]; exact each_ahead gs k n hvg hk h0 (by omega))
  rw [hf]
  rw [hok] at HC
  rw [hmf] at HM
  have HML := Lib.hid hml
  have HDL := Lib.hid (depTo_len gs (mean gs xs))
  rw [← hn]
  clear hf hvg hok hml hvo h h' hn hm hG hmf
  generalize mean gs xs = M at *
  have HMK := Lib.hid fun (w1 : World) => run_make_full (P := Try.prog) w1 w1.heap.size 27 26 i1 _ 1 Try.underlying27 hi hz0 hz1 .i64 .i64 n (by rw [hz2]; omega) (by unfold maxLen; omega) (Nat.le_refl _)
  go_enter Try.func33, Try.ntmps33
  go_wp2_with fail
  refine (HC.out _ (by simp) (H.out.alloc (Nat.le_refl _) _) (HX.out.alloc (Nat.le_refl _) _)).mono ?_
  rintro e w1 ⟨rfl, hb⟩
  have q1 : w1.cell? ⟨w.heap.size, 0, none⟩ = some (.slice A n c) := (hb.cell (p := ⟨w.heap.size, 0, none⟩) (by simp)).trans (by go_simp)
  have HG1 := Lib.hid ((H.out.alloc (Nat.le_refl _) (.cells #[.slice A n c] 25)).below hb (by simp))
  have HX1 := Lib.hid ((HX.out.alloc (Nat.le_refl _) (.cells #[.slice A n c] 25)).below hb (by simp))
  have hB1 : Below w.heap.size w w1 := ((Below.refl _ _).alloc (Nat.le_refl _) _).trans (hb.mono (by simp))
  have hl1 : w.heap.size < w1.heap.size := by have := hb.size; simp at this; omega
  clear hb
  go_wp2_with fail
  refine (HM.out _ hB1.size HG1.out HX1.out).mono ?_
  rintro e w2 ⟨v2, rfl, ho, hb⟩
  obtain ⟨A3, c3, rfl, hI3⟩ := OwnI.at_ ho HML.out
  have q2 := (hb.cell (p := ⟨w.heap.size, 0, none⟩) hl1).trans q1
  have hB2 := Lib.hid (hB1.trans (hb.mono hB1.size))
  have hl2 : w.heap.size < w2.heap.size := Nat.lt_of_lt_of_le hl1 hb.size
  obtain ⟨w3, hmk, hown3, hgr3⟩ := HMK.out w2
  have hb3 : Below w2.heap.size w2 w3 := ⟨hgr3.os, hgr3.tape, hgr3.output, hgr3.size, fun k hk => hgr3.block k hk (by simp)⟩
  have q3 := (hb3.cell (p := ⟨w.heap.size, 0, none⟩) hl2).trans q2
  have HG3 := Lib.hid (((HG1.out.below hb hB1.size).more (B' := w2.heap.size) (Nat.le_trans hB1.size hb.size)).below hb3 (Nat.le_refl _))
  have HI3 := Lib.hid (hI3.below hb3 (Nat.le_refl _))
  have hgl : w2.heap.size < w3.heap.size := (hown3.lt _ rfl).2
  have HO3 : Hid (∃ vs, OwR w2.heap.size w3.heap.size 26 1 (.slice (some ⟨w2.heap.size, 0, none⟩) n n) n vs w3 ∧ SSk w2.heap.size w3.heap.size vs (lenOf (dmix gs M n 0)) (rowOf (dmix gs M n 0)) w3) := by
    have e : (madeCells (Value.slice none 0 0).cells (n * 1)).toList = List.replicate n (.slice none 0 0) := by simp [Value.cells, toList_madeCells_one]
    rw [e] at hown3
    refine ⟨_, OwR.start hown3, ⟨fun j hj => ?_, fun i j v u k _ h1 h2 hv => ?_⟩⟩
    · have hj' : j < n := by simpa using hj
      refine ⟨none, 0, 0, by simp [hj'], by simp [lenOf, dmix, depTo, List.getD, hj'], ?_⟩
      have : rowOf (dmix gs M n 0) j = [] := by simp [rowOf, dmix, depTo, List.getD, hj']
      rw [this]
      exact OwR.nil _ _ _ _ _
    · have : v = .slice none 0 0 := by
        rw [List.getElem?_replicate] at h1
        split at h1
        · cases h1; rfl
        · cases h1
      subst this
      simp [Value.ownBlock] at hv
  have HB3 := Lib.hid hb3
  clear hb hb3 hown3 hgr3 q1 HG1 HX1 hB1 ho hI3 HC HM HX H hl1 HMK
  go_wp2
  clear hmk
  go_loopw [23] (fun i wr => ∃ k : Nat, k ≤ n ∧ i = .int .i64 k ∧ Hid (∃ vs, OwR w2.heap.size wr.heap.size 26 1 (.slice (some ⟨w2.heap.size, 0, none⟩) n n) n vs wr ∧ SSk w2.heap.size wr.heap.size vs (lenOf (dmix gs M n k)) (rowOf (dmix gs M n k)) wr) ∧ Hid (Below w2.heap.size w3 wr) ∧ w3.heap.size ≤ wr.heap.size) (fun i _ => n - (intOf i).toNat)
  case atStart => exact ⟨0, Nat.zero_le _, rfl, HO3.out, Below.refl _ _, Nat.le_refl _⟩
  case round =>
    obtain ⟨k, hk, rfl, HO, HB, hwr⟩ := hrel
    by_cases hlt : k < n
    · obtain ⟨vs, hrow, hss⟩ := HO.out
      have hvl : vs.length = n := by have := hrow.1.1; omega
      have hkg : k < gs.length := by have := HN.out; omega
      obtain ⟨b, off, rfl, hbB, c0, A1, n1, c1, c2, hn1', hps⟩ := HG3.out.at_ k hkg
      have e0 := (HB.out.cell (p := ⟨b, off + k * 2, none⟩) hbB).trans c0
      have e1 := (HB.out.cell (p := ⟨b, off + k * 2 + 1, none⟩) hbB).trans c2
      have HPS := Lib.hid (((hps.below HB.out (Nat.le_refl _)).alloc (by omega) (.cells #[.int .i64 (gs.getD k default).k, .slice A1 n1 c1] 67)).more (B' := wr.heap.size + 1) (by omega))
      have HIR := Lib.hid (((HI3.out.below HB.out (Nat.le_refl _)).alloc (by omega) (.cells #[.int .i64 (gs.getD k default).k, .slice A1 n1 c1] 67)).more (B' := wr.heap.size + 1) (by omega))
      have hce := HCE.out k hkg
      have hde : depF gs M k = if (gs.getD k default).k == 0 then [] else firsts ((whole (gs.getD k default).ps).rds M) := rfl
      have HAT := Lib.hid (dmix_at gs M n k hlt)
      have HOT := Lib.hid fun (j : Nat) (hj : j ≠ k) => dmix_other gs M n k j hlt hj
      have HCELL := Lib.hid (dmix_cell gs M n k hlt)
      have HROW := Lib.hid (hrow.1.alloc (.cells #[.int .i64 (gs.getD k default).k, .slice A1 n1 c1] 67))
      have HSS := Lib.hid (hss.keep (w' := wr.alloc (.cells #[.int .i64 (gs.getD k default).k, .slice A1 n1 c1] 67)) fun q _ hq => Below.heap_alloc _ _ _ hq)
      have HVL := Lib.hid hvl
      generalize gs.getD k default = d at *
      clear c0 c2 hps hrow hss hvl
      cases hd : (d.k == 0)
      · have hd' : (d.k != 0) = true := by simp [bne, hd]
        have hrf : readF d.ps M = firsts ((whole d.ps).rds M) := by unfold readF; rw [hce hd]; rfl
        have hvf := (canEv_parts d.ps M (hce hd)).1
        have h12 := (validF_good d.ps hvf).2.2
        rw [hd] at hde
        have hde2 : depF gs M k = readF d.ps M := by rw [hrf]; exact hde
        have HRD := Lib.hid fun (w' : World) (B : Nat) (hB : B ≤ w'.heap.size) (h : PS w' B A1 d.ps) (h' : IS w' B A3 M) => impl_ReadsOf A1 A3 n1 c1 n c3 d.ps M B hn1' HML.out.symm (by omega) (by omega) w' hB h h'
        rw [← hde2] at HRD
        clear hce hrf hvf h12 hde hde2 hn1' hd
        generalize depF gs M k = D at *
        go_wp2_with fail
        refine (HRD.out _ (wr.heap.size + 1) (by simp) HPS.out HIR.out).mono ?_
        rintro e w5 ⟨v5, rfl, ho5, hb5⟩
        obtain ⟨A5, c5, rfl, hI5⟩ := OwnI.form ho5
        unfold OwnI at ho5
        simp only [World.size_alloc] at ho5
        have hR5 := own_below HROW.out hb5
        have u5 := hR5.cellAt k (by omega)
        rw [List.getElem?_eq_getElem (by have := HVL.out; omega)] at u5
        have f5 := hR5.frozenAt k
        have hst := hR5.stored k (.slice A5 D.length c5)
        have hw5 : wr.heap.size + 1 ≤ w5.heap.size := by have := hb5.size; simpa using this
        have HNEW : Hid (∃ vs, OwR w2.heap.size w5.heap.size 26 1 (.slice (some ⟨w2.heap.size, 0, none⟩) n n) n vs (w5.setCell ⟨w2.heap.size, k, none⟩ (.slice A5 D.length c5)) ∧ SSk w2.heap.size w5.heap.size vs (lenOf (dmix gs M n (k + 1))) (rowOf (dmix gs M n (k + 1))) (w5.setCell ⟨w2.heap.size, k, none⟩ (.slice A5 D.length c5))) := by
          have hss5 := HSS.out.keep (w' := w5) fun q _ hq => hb5.block q (by simp only [World.size_alloc]; exact Nat.lt_succ_of_lt hq)
          have hss6 := hss5.grown hst.2 (hss5.ne hR5 ints_ne_int)
          have hd6 := ho5.kept hst.2 (blocks_ne ho5 hR5 ints_ne_int)
          have hrk : rowOf (dmix gs M n (k + 1)) k = D.map (Value.int .i64) := by unfold rowOf; rw [HAT.out]
          rw [← hrk] at hd6
          refine ⟨_, ⟨hst.1, fun q hq => by cases hq; exact Nat.lt_of_lt_of_le hgl (by omega)⟩, hss6.put (hi' := w5.heap.size) (A := A5) (m := D.length) (c := c5) k ?_ ?_ ?_ ?_ ?_ ⟨own_mono hd6 (by omega), fun q hq => by have := (ho5.lt q hq).2; omega⟩ (by omega) (by omega)⟩
          · rw [List.getElem?_set, if_pos rfl, if_pos (by have := HVL.out; omega)]
          · intro j hj; rw [List.getElem?_set, if_neg (by omega)]
          · intro j hj _; simpa using hj
          · unfold lenOf; rw [HAT.out]
          · intro j hj; unfold lenOf rowOf; rw [HOT.out j hj]; exact ⟨rfl, rfl⟩
        have HB6 : Hid (Below w2.heap.size w3 (w5.setCell ⟨w2.heap.size, k, none⟩ (.slice A5 D.length c5))) := ((HB.out.alloc (by omega) _).trans (hb5.mono (by simp; omega))).setCell (Nat.le_refl _) _
        have HSZ : Hid ((w5.setCell ⟨w2.heap.size, k, none⟩ (.slice A5 D.length c5)).heap.size = w5.heap.size) := by simp [World.setCell, Hid]
        generalize vs[k]'_ = vv at u5
        clear hst hR5 ho5 hI5 hb5
        go_wp2
        go_roundw
        case rel => exact ⟨k + 1, by omega, by go_num, by rw [HSZ.out]; exact HNEW.out, HB6.out, by simp [World.setCell]; omega⟩
        case measure => simp [intOf]; omega
      · have hd' : (d.k != 0) = false := by simp [bne, hd]
        rw [hd] at hde
        have HCE2 := Lib.hid (HCELL.out hde)
        clear hce hde hd hn1'
        go_wp2
        go_roundw
        case rel => exact ⟨k + 1, by omega, by go_num, by rw [HCE2.out]; exact ⟨vs, ⟨HROW.out, fun q hq => by cases hq; simp; omega⟩, HSS.out.mono (Nat.le_refl _) (by simp)⟩, HB.out.alloc (by omega) _, by simp; omega⟩
        case measure => simp [intOf]; omega
    · obtain rfl : k = n := by omega
      go_wp2
      go_ret
      refine ⟨_, rfl, ?_, hB2.out.trans ((HB3.out.trans HB.out).mono (by omega))⟩
      rw [HDL.out]
      obtain ⟨vs, hrow, hss⟩ := HO.out
      rw [dmix_all] at hss
      exact ⟨(HDL.out k).symm, vs, hrow.mono (by omega) (Nat.le_refl _), hss.mono (by omega) (Nat.le_refl _)⟩
end Go.Proofs.Ytgakgmkonmgblaa

namespace Go.Proofs.Ytgakgmkonmgblaa
set_option linter.unusedSimpArgs false
set_option linter.unusedVariables false
open Go.RowKit
set_option maxRecDepth 100000 in
set_option maxHeartbeats 3200000 in
theorem top_impl_StartEager (gs : List Nd) (xs : List Int) (hG : GB gs) (hL : xs.length ≤ 1048576) : ∀ (A : Option Addr) (n c : Nat) (A' : Option Addr) (m c' : Nat) (w : World), n = gs.length → n ≤ c → GS w w.heap.size A gs → m = xs.length → IS w w.heap.size A' xs →
    Calls Try.prog 11 #[.agg #[.slice A n c], .slice A' m c'] w fun e w' => RetE w (startF gs xs) e w' := by
  intro A n c A' m c' w hn hnc h hm h'
  have hf : startF gs xs = ⟨meanF gs xs, depsF gs xs⟩ := by unfold startF meanF depsF; cases okC gs xs <;> rfl
  rw [hf]
  have HM := Lib.hid fun (w' : World) (hB : w.heap.size ≤ w'.heap.size) (h : GS w' w.heap.size A gs) (h' : IS w' w.heap.size A' xs) => impl_MeaningOf A A' n c m c' gs xs w' w.heap.size hB hn hnc hm h h' hG (by omega)
  have HD := Lib.hid fun (w' : World) (h : GS w' w'.heap.size A gs) (h' : IS w' w'.heap.size A' xs) => top_impl_DepsOf gs xs hG hL A n c A' m c' w' hn hnc h hm h'
  have HG0 := Lib.hid ((h.alloc (Nat.le_refl _) (.cells #[.slice A n c] 25)).alloc (by simp) (.cells #[.slice none 0 0, .slice none 0 0] 29))
  have HI0 := Lib.hid ((h'.alloc (Nat.le_refl _) (.cells #[.slice A n c] 25)).alloc (by simp) (.cells #[.slice none 0 0, .slice none 0 0] 29))
  clear h h' hn hm hG hf
  generalize meanF gs xs = M at *
  generalize depsF gs xs = D at *
  go_enter Try.func11, Try.ntmps11
  go_wp2
  obtain ⟨W2, hW2⟩ : ∃ W2, W2 = ((w.alloc (.cells #[.slice A n c] 25)).alloc (.cells #[.slice none 0 0, .slice none 0 0] 29)) := ⟨_, rfl⟩
  have q0 : W2.cell? ⟨w.heap.size, 0, none⟩ = some (.slice A n c) := by rw [hW2]; go_simp
  have k0 : W2.cell? ⟨w.heap.size + 1, 0, none⟩ = some (.slice none 0 0) := by rw [hW2]; go_simp
  have k1 : W2.cell? ⟨w.heap.size + 1, 1, none⟩ = some (.slice none 0 0) := by rw [hW2]; go_simp
  have f0 : W2.frozen? ⟨w.heap.size + 1, 0, none⟩ = false := by rw [hW2]; go_simp
  have f1 : W2.frozen? ⟨w.heap.size + 1, 1, none⟩ = false := by rw [hW2]; go_simp
  have hs2 : W2.heap.size = w.heap.size + 2 := by rw [hW2]; simp
  have HB2 : Hid (Below w.heap.size w W2) := by rw [hW2]; exact ((Below.refl _ _).alloc (Nat.le_refl _) _).alloc (by simp) _
  rw [← hW2] at HG0 HI0
  rw [← hW2]
  clear hW2
  have hy0 : w.heap.size < W2.heap.size := by omega
  have hy1 : w.heap.size + 1 < W2.heap.size := by omega
  have hy2 : w.heap.size ≤ W2.heap.size := by omega
  go_region_held3 (fun w' => w'.cell? ⟨w.heap.size, 0, none⟩ = some (.slice A n c)) (first | exact q0 | exact r0 | exact s0 | exact (World.cell?_setCell_other _ _ _ _ (by simp)).trans ((World.cell?_setCell_other _ _ _ _ (by simp)).trans s0))
    (first
      | (go_at_call 32; refine (HM.out _ ?_ ?_ ?_).mono ?_; exact hy2; exact HG0.out; exact HI0.out; rintro e w3 ⟨v3, rfl, ho3, hb3'⟩; obtain ⟨A3, c3, rfl, hI3⟩ := OwnI.form ho3; have hb3 : Below W2.heap.size W2 w3 := (by first | exact hb3' | exact below_of_drew hb3'); have r0 := (hb3.cell (p := ⟨w.heap.size, 0, none⟩) hy0).trans q0; have HG3 := Lib.hid ((HG0.out.below hb3 hy2).more (B' := w3.heap.size) (Nat.le_trans hy2 hb3.size)); have HI3 := Lib.hid ((HI0.out.below hb3 hy2).more (B' := w3.heap.size) (Nat.le_trans hy2 hb3.size)))
      | (go_at_call 33; refine (HD.out _ ?_ ?_).mono ?_; exact HG3.out; exact HI3.out; rintro e w4 ⟨v4, rfl, ho4, hb4⟩; obtain ⟨A4, c4, rfl⟩ := ho4.form; have s0 := (hb4.cell (p := ⟨w.heap.size, 0, none⟩) (Nat.lt_of_lt_of_le hy0 hb3.size)).trans r0; have t0 := (hb4.cell (p := ⟨w.heap.size + 1, 0, none⟩) (Nat.lt_of_lt_of_le hy1 hb3.size)).trans ((hb3.cell (p := ⟨w.heap.size + 1, 0, none⟩) hy1).trans k0); have t1 := (hb4.cell (p := ⟨w.heap.size + 1, 1, none⟩) (Nat.lt_of_lt_of_le hy1 hb3.size)).trans ((hb3.cell (p := ⟨w.heap.size + 1, 1, none⟩) hy1).trans k1); have u0 := (hb4.frozen (p := ⟨w.heap.size + 1, 0, none⟩) (Nat.lt_of_lt_of_le hy1 hb3.size)).trans ((hb3.frozen (p := ⟨w.heap.size + 1, 0, none⟩) hy1).trans f0); have u1 := (hb4.frozen (p := ⟨w.heap.size + 1, 1, none⟩) (Nat.lt_of_lt_of_le hy1 hb3.size)).trans ((hb3.frozen (p := ⟨w.heap.size + 1, 1, none⟩) hy1).trans f1)))
  have HO3 := Lib.hid ho3
  have HO4 := Lib.hid ho4
  have HB4 := Lib.hid (HB2.out.trans ((hb3.mono hy2).trans (hb4.mono (Nat.le_trans hy2 hb3.size))))
  have hs3 := hb3.size
  have hs4 := hb4.size
  have hrow1 := (OwR.of_own HO3.out rfl).step hb4
  have hoe : OwE W2.heap.size w4.heap.size A3 M.length c3 A4 D.length c4 ⟨M, D⟩ w4 := OwE.join (mid := w3.heap.size) hrow1 rfl HO4.out hs3 hs4
  go_wp2
  refine bodyPost_ret (v := .agg #[.slice A3 M.length c3, .slice A4 D.length c4]) (by simp [results, Try.results11, go_sem, t0, t1]) rfl ?_
  have o1 := hoe.setCell (a := ⟨w.heap.size + 1, 0, none⟩) (by simp; omega) (.slice A3 M.length c3)
  have o2 := o1.setCell (a := ⟨w.heap.size + 1, 1, none⟩) (by simp; omega) (.slice A4 D.length c4)
  refine ⟨_, _, _, _, _, _, rfl, ?_, (HB4.out.setCell (by simp) _).setCell (by simp) _⟩
  have o4 := o2.mono (lo' := w.heap.size) (hi' := w4.heap.size) (by omega) (Nat.le_refl _)
  simpa [World.setCell] using o4
end Go.Proofs.Ytgakgmkonmgblaa

namespace Go.Proofs.Ytgakgmkonmgblaa
set_option linter.unusedSimpArgs false
set_option linter.unusedVariables false
open Go.RowKit
set_option maxRecDepth 100000 in
set_option maxHeartbeats 1600000 in
theorem top_impl_CellsOf (gs : List Nd) (st : Eg) (hG : GB gs) (hE : EB st) : ∀ (A : Option Addr) (n c : Nat) (A' : Option Addr) (m c' : Nat) (E : Option Addr) (p ec : Nat) (w : World), n = gs.length → n ≤ c → GS w w.heap.size A gs → m = st.vs.length → p = st.rs.length → ES w w.heap.size A' E st →
    Calls Try.prog 13 #[.agg #[.slice A n c], .agg #[.slice A' m c', .slice E p ec]] w fun e w' => RetI w (cellsF gs st) e w' := by
  intro A n c A' m c' E p ec w hn hnc h hm hp h'
  have HC := Lib.hid fun (w' : World) (hB : w.heap.size ≤ w'.heap.size) (h : GS w' w.heap.size A gs) (h' : ES w' w.heap.size A' E st) => impl_ValidEager A A' E n c m c' p ec gs st w' w.heap.size hB hn hnc hm hp h h' hG hE
  have HG0 := Lib.hid ((h.alloc (Nat.le_refl _) (.cells #[.slice A n c] 25)).alloc (by simp) (.cells #[.slice A' m c', .slice E p ec] 29))
  have HE0 := Lib.hid ((h'.alloc (Nat.le_refl _) (.cells #[.slice A n c] 25)).alloc (by simp) (.cells #[.slice A' m c', .slice E p ec] 29))
  have hce : cellsF gs st = if validE gs st then celTo gs st.vs gs.length else [] := rfl
  rw [← hn] at hce
  rw [hce]
  cases hv : validE gs st
  · rw [hv] at HC
    clear hce hv h h' hn hm hp hG hE
    simp only [Bool.false_eq_true, if_false]
    go_enter Try.func13, Try.ntmps13
    go_wp2_with fail
    refine (HC.out _ (by simp; omega) HG0.out HE0.out).mono ?_
    rintro e w1 ⟨rfl, hb⟩
    go_wp2
    go_ret
    exact RetI.nil ((((Below.refl _ _).alloc (Nat.le_refl _) _).alloc (by simp) _).trans (hb.mono (by simp; omega)))
  rw [hv] at HC
  have hmn : m = n := by have := (validE_parts gs st hv).2.1; omega
  have hn10 : n ≤ 10 := by rw [hn]; exact (validG_parts gs (validE_parts gs st hv).1).1
  have hm1 : m ≤ 2000000 := by omega
  have HN := Lib.hid hn
  have HM := Lib.hid hm
  have HMN := Lib.hid hmn
  have HCP := Lib.hid fun (w' : World) (B : Nat) (hB : B ≤ w'.heap.size) (h : IS w' B A' st.vs) => impl_copyOf A' m c' st.vs w' B hB hm h hm1
  clear hce hv h h' hn hm hp hG hE hmn
  simp only [if_true]
  go_enter Try.func13, Try.ntmps13
  go_wp2_with fail
  refine (HC.out _ (by simp; omega) HG0.out HE0.out).mono ?_
  rintro e w1 ⟨rfl, hb⟩
  have q0 : w1.cell? ⟨w.heap.size, 0, none⟩ = some (.slice A n c) := (hb.cell (p := ⟨w.heap.size, 0, none⟩) (by simp; omega)).trans (by go_simp)
  have q1 : w1.cell? ⟨w.heap.size + 1, 0, none⟩ = some (.slice A' m c') := (hb.cell (p := ⟨w.heap.size + 1, 0, none⟩) (by simp)).trans (by go_simp)
  have hB1 : Below w.heap.size w w1 := (((Below.refl _ _).alloc (Nat.le_refl _) _).alloc (by simp) _).trans (hb.mono (by simp; omega))
  have hl1 : w.heap.size + 2 ≤ w1.heap.size := by have := hb.size; simp at this; omega
  have HG1 := Lib.hid (HG0.out.below hb (by simp; omega))
  have HE1 := Lib.hid (HE0.out.below hb (by simp; omega))
  clear hb HC HG0 HE0
  go_wp2_with fail
  refine (HCP.out _ w.heap.size (by omega) HE1.out.1).mono ?_
  rintro e w2 ⟨rfl, hown2, hb2⟩
  have q2 := (hb2.cell (p := ⟨w.heap.size, 0, none⟩) (by show w.heap.size < w1.heap.size; omega)).trans q0
  have HG2 := Lib.hid (HG1.out.below hb2 hB1.size)
  have HO2 := Lib.hid hown2
  have hgl := (hown2.lt _ rfl).2
  have hB2 := hB1.trans (hb2.mono hB1.size)
  clear hown2 hb2 q0 q1 HG1 HE1 hB1
  go_wp2
  go_loopw [18] (fun u wr => ∃ k : Nat, k ≤ n ∧ u = .int .i64 k ∧ Hid (wr.ownsRow w1.heap.size 3 1 (.slice (some ⟨w1.heap.size, 0, none⟩) m m) m ((celTo gs st.vs k).map (Value.int .i64))) ∧ Hid (Below w1.heap.size w2 wr) ∧ w2.heap.size ≤ wr.heap.size) (fun u _ => n - (intOf u).toNat)
  case atStart => exact ⟨0, Nat.zero_le _, rfl, HO2.out, Below.refl _ _, Nat.le_refl _⟩
  case round =>
    obtain ⟨k, hk, rfl, HO, HB, hwr⟩ := hrel
    by_cases hlt : k < n
    · have hkm : k < m := by have := HMN.out; omega
      obtain ⟨b, off, hA, hbB, c0, A1, n1, c1, c2, hzz⟩ := HG2.out.at_ k (by have := HN.out; omega)
      have e0 := (HB.out.cell (p := ⟨b, off + k * 2, none⟩) (by show b < w1.heap.size; omega)).trans c0
      have e1 := (HB.out.cell (p := ⟨b, off + k * 2 + 1, none⟩) (by show b < w1.heap.size; omega)).trans c2
      have HST := Lib.hid (celTo_succ gs st.vs k)
      have HO' := Lib.hid (HO.out.alloc (.cells #[.int .i64 (gs.getD k default).k, .slice A1 n1 c1] 67))
      have u0 := HO'.out.cellAt k (by omega)
      rw [List.getElem?_eq_getElem (by rw [List.length_map, celTo_len]; have := HM.out; omega)] at u0
      have f0 := HO'.out.frozenAt k
      have hst := HO'.out.stored k (.int .i64 0)
      have ho := hst.1
      rw [← List.map_set] at ho
      have HOS := Lib.hid ho
      generalize ((celTo gs st.vs k).map (Value.int .i64))[k]'_ = vv at u0
      generalize gs.getD k default = d at *
      clear c0 c2 hst ho hzz
      subst hA
      cases hd : (d.k == 0)
      · have hd' : (d.k != 0) = true := by simp [bne, hd]
        rw [hd] at HST
        clear hd
        go_wp2
        go_roundw
        case rel => exact ⟨k + 1, by omega, by go_num, by rw [HST.out]; exact HOS.out, (HB.out.alloc (by omega) _).setCell (Nat.le_refl _) _, by simp [World.setCell]; omega⟩
        case measure => simp [intOf]; omega
      · have hd' : (d.k != 0) = false := by simp [bne, hd]
        rw [hd] at HST
        clear hd
        go_wp2
        go_roundw
        case rel => exact ⟨k + 1, by omega, by go_num, by rw [HST.out]; exact HO'.out, HB.out.alloc (by omega) _, by simp; omega⟩
        case measure => simp [intOf]; omega
    · obtain rfl : k = n := by omega
      go_wp2
      go_ret
      refine ⟨_, rfl, ?_, hB2.trans (HB.out.mono (by omega))⟩
      have := HO.out
      unfold OwnI
      rw [celTo_len, ← HM.out]
      exact own_mono this (by omega)
end Go.Proofs.Ytgakgmkonmgblaa
