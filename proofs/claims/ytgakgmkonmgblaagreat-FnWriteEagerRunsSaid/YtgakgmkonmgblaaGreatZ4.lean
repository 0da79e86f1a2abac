/- Words and contracts for memory that the texts behind use. -/
import Derived.Test.YtgakgmkonmgblaaGreatA0
import Derived.Test.YtgakgmkonmgblaaGreatA1
import Derived.Test.YtgakgmkonmgblaaGreatA2
import Derived.Test.YtgakgmkonmgblaaGreatA3
import Derived.Test.YtgakgmkonmgblaaGreatA4
import Derived.Test.YtgakgmkonmgblaaGreatA5
import Derived.Test.YtgakgmkonmgblaaGreatA6
import Derived.Test.YtgakgmkonmgblaaGreatA7
import Derived.Test.YtgakgmkonmgblaaGreatA8
import Derived.Test.YtgakgmkonmgblaaGreatZ0
import Derived.Test.YtgakgmkonmgblaaGreatZ1
import Derived.Test.YtgakgmkonmgblaaGreatZ2
import Derived.Test.YtgakgmkonmgblaaGreatA9a
import Derived.Test.YtgakgmkonmgblaaGreatA9b
import Derived.Test.YtgakgmkonmgblaaGreatA9c
import Derived.Test.YtgakgmkonmgblaaGreatA9
import Derived.Test.YtgakgmkonmgblaaGreatAa
import Derived.Test.YtgakgmkonmgblaaGreatAb
import Derived.WalkKit
import Derived.Laws.OwnMore
import Derived.Deep.Draws
import Derived.Test.YtgakgmkonmgblaaGreatProg
import Derived.WalkSpells
import Derived.WalkLawsBesides
import Derived.Outline
import Derived.Lib.Hide
import Derived.BigQuiet
import Derived.Deep.QuietTactic
import Derived.StillTailTactics
import Derived.Deep.LoopGhost
import Derived.Laws.MakeOwn
import Derived.WalkSmall
import Derived.RegionTactic
import Derived.BigRegion
import Derived.Deep.RegionWith
import Derived.Deep.RegionHeld3
import Derived.Laws.Entries
import Derived.Laws.Bits64
import Derived.IntWalk
import Derived.Maps.AppendAt
import Derived.Deep.RegionLaw
import Derived.Deep.AppendLies
import Derived.Deep.Cut
import Derived.Deep.DeepCutAuto
import Derived.Laws.CopyOwn
import Derived.Maps.Own
import Derived.Maps.Views
import Derived.ChangeAlike
import Derived.Lib.SliceRun
import Derived.BigFrame

namespace Go.Proofs.YtgakgmkonmgblaaGreat
set_option linter.unusedSimpArgs false
set_option linter.unusedVariables false
open Go.RowKit
theorem take_step {α : Type} [Inhabited α] (l m : List α) (k : Nat) (h : k < l.length) (h' : k < m.length) (ht : l.take k = m.take k) (he : l.getD k default = m.getD k default) : l.take (k + 1) = m.take (k + 1) := by
  rw [take_succ_getD l k h, take_succ_getD m k h', ht, he]
theorem take_all_eq {α : Type} (l m : List α) (n : Nat) (h : n = l.length) (h' : n = m.length) (ht : l.take n = m.take n) : l = m := by
  rw [List.take_of_length_le (by omega), List.take_of_length_le (by omega)] at ht
  exact ht
theorem getD_ne {α : Type} [Inhabited α] [DecidableEq α] (l m : List α) (k : Nat) (h : l.getD k default ≠ m.getD k default) : decide (l = m) = false := by
  rw [decide_eq_false_iff_not]; rintro rfl; exact h rfl
end Go.Proofs.YtgakgmkonmgblaaGreat

namespace Go.Proofs.YtgakgmkonmgblaaGreat
set_option linter.unusedSimpArgs false
set_option linter.unusedVariables false
/-- A part with the indices of the first parts below it. -/
def Pt.sub (p : Pt) (at_ : List Int) : Pt := ⟨p.k, at_.getD 0 p.a, at_.getD 1 p.b, at_.getD 2 p.c, p.n⟩
end Go.Proofs.YtgakgmkonmgblaaGreat

namespace Go.Proofs.YtgakgmkonmgblaaGreat
set_option linter.unusedSimpArgs false
set_option linter.unusedVariables false
open Go.RowKit
theorem validC_range (gs : List Nd) (cs : List Int) (h : allR cs 0 999 = false) : validC gs cs = false := by
  cases hv : validC gs cs
  · rfl
  · rw [validC_allR gs cs hv] at h; cases h
def meanF (gs : List Nd) (cs : List Int) : List Int := if okC gs cs then mean gs cs else []
end Go.Proofs.YtgakgmkonmgblaaGreat

namespace Go.Proofs.YtgakgmkonmgblaaGreat
set_option linter.unusedSimpArgs false
set_option linter.unusedVariables false
open Go.RowKit
set_option maxRecDepth 100000 in
set_option maxHeartbeats 1600000 in
theorem impl_ValidCells (A A' : Option Addr) (n c m c' : Nat) (gs : List Nd) (xs : List Int) (w : World) (B : Nat) (hB : B ≤ w.heap.size) (hn : n = gs.length) (hnc : n ≤ c) (hm : m = xs.length) (h : GS w B A gs) (h' : IS w B A' xs) (hs : GB gs) (hs' : m ≤ 2000000) :
    Calls Tryz.prog 49 #[.agg #[.slice A n c], .slice A' m c'] w fun e w' => e = .returned (.bool (okC gs xs)) ∧ Below w.heap.size w w' := by
  have hn1 : n ≤ 1048576 := by rw [hn]; exact hs.1
  have HVG := Lib.hid fun (w' : World) (hB : B ≤ w'.heap.size) (h : GS w' B A gs) => impl_ValidGraph A n c gs w' B hB hn h hs hnc
  have hok : okC gs xs = (validG gs && validC gs xs) := rfl
  cases hv : validG gs
  · have : okC gs xs = false := by rw [hok, hv]; rfl
    rw [this]
    rw [hv] at HVG
    have H := Lib.hid h
    clear this h h' hn hm hok hv
    go_enter Tryz.func49, Tryz.ntmps49
    go_wp2_with fail
    refine (HVG.out _ (by simp; omega) (H.out.alloc hB _)).mono ?_
    rintro e w1 ⟨rfl, hb⟩
    go_wp2
    go_ret
    exact ⟨rfl, ((Below.refl _ _).alloc (Nat.le_refl _) _).trans (hb.mono (by simp))⟩
  have : okC gs xs = validC gs xs := by rw [hok, hv]; rfl
  rw [this]
  rw [hv] at HVG
  have h10 := (validG_parts gs hv).1
  have hn10 : n ≤ 10 := by omega
  clear this hok hv h10
  by_cases hl : m = n
  · have hne : ((m : Int) != (n : Int)) = false := by simp [hl]
    have hlx : xs.length ≤ 10 := by omega
    have hdx : decide (xs.length ≤ 10) = true := by simpa using hlx
    have HAR := Lib.hid fun (w' : World) (hB : B ≤ w'.heap.size) (h : IS w' B A' xs) => impl_allInRange A' m c' xs 999 w' B hB hm h hs'
    rw [hdx] at HAR
    have H := Lib.hid h
    have HI := Lib.hid h'
    have HN := Lib.hid hn
    have HM := Lib.hid hm
    have HE := Lib.hid hl
    clear h h' hn hm hl hlx hdx
    cases ha : allR xs 0 999
    · rw [validC_range gs xs ha]
      rw [ha] at HAR
      clear ha
      go_enter Tryz.func49, Tryz.ntmps49
      go_wp2_with fail
      refine (HVG.out _ (by simp; omega) (H.out.alloc hB _)).mono ?_
      rintro e w1 ⟨rfl, hb⟩
      have q : w1.cell? ⟨w.heap.size, 0, none⟩ = some (.slice A n c) := (hb.cell (p := ⟨w.heap.size, 0, none⟩) (by simp)).trans (by go_simp)
      have HI1 := Lib.hid ((HI.out.alloc hB (.cells #[.slice A n c] 25)).below hb (by simp; omega))
      have hz : B ≤ w1.heap.size := by have := hb.size; simp at this; omega
      go_wp2_with fail
      refine (HAR.out _ hz HI1.out).mono ?_
      rintro e w2 ⟨rfl, rfl⟩
      go_wp2
      go_ret
      exact ⟨rfl, ((Below.refl _ _).alloc (Nat.le_refl _) _).trans (hb.mono (by simp))⟩
    · have HALL := Lib.hid ha
      rw [ha] at HAR
      clear ha
      go_enter Tryz.func49, Tryz.ntmps49
      go_wp2_with fail
      refine (HVG.out _ (by simp; omega) (H.out.alloc hB _)).mono ?_
      rintro e w1 ⟨rfl, hb⟩
      have q : w1.cell? ⟨w.heap.size, 0, none⟩ = some (.slice A n c) := (hb.cell (p := ⟨w.heap.size, 0, none⟩) (by simp)).trans (by go_simp)
      have HI1 := Lib.hid ((HI.out.alloc hB (.cells #[.slice A n c] 25)).below hb (by simp; omega))
      have HG1 := Lib.hid ((H.out.alloc hB (.cells #[.slice A n c] 25)).below hb (by simp; omega))
      have hz : B ≤ w1.heap.size := by have := hb.size; simp at this; omega
      have hB1 : Below w.heap.size w w1 := ((Below.refl _ _).alloc (Nat.le_refl _) _).trans (hb.mono (by simp))
      clear hb H HI
      go_wp2_with fail
      refine (HAR.out _ hz HI1.out).mono ?_
      rintro e w2 ⟨rfl, rfl⟩
      go_wp2
      go_loopw [26] (fun u wr => ∃ k : Nat, k ≤ n ∧ u = .int .i64 k ∧ Hid (∀ j, j < k → cellOK gs xs j = true) ∧ Below w1.heap.size w1 wr) (fun u _ => n - (intOf u).toNat)
      case atStart => exact ⟨0, by omega, rfl, by intro j hj; omega, Below.refl _ _⟩
      case round =>
        obtain ⟨k, hk, rfl, HK, hbr⟩ := hrel
        by_cases hlt : k < n
        · have hkm : k < m := by have := HE.out; omega
          obtain ⟨b, off, rfl, hbB, c0, A1, n1, c1, c2, _⟩ := HG1.out.at_ k (by have := HN.out; omega)
          obtain ⟨b', off', rfl, hb', hc⟩ := HI1.out (by have := HM.out; omega)
          have hx := hc k (by have := HM.out; omega)
          clear hc
          have e0 := (hbr.cell (p := ⟨b, off + k * 2, none⟩) (by simp; omega)).trans c0
          have e1 := (hbr.cell (p := ⟨b, off + k * 2 + 1, none⟩) (by simp; omega)).trans c2
          have e2 := (hbr.cell (p := ⟨b', off' + k, none⟩) (by simp; omega)).trans hx
          have hbw : b < wr.heap.size := by have := hbr.size; omega
          have hbw' : b' < wr.heap.size := by have := hbr.size; omega
          have hco : cellOK gs xs k = (rng (xs.getD k 0) 0 999 && ((gs.getD k default).k == 0 || xs.getD k 0 == 0)) := rfl
          have hrg : rng (xs.getD k 0) 0 999 = true := by
            have := HALL.out
            unfold allR at this
            rw [List.all_eq_true] at this
            exact this _ (by have := HM.out; have h2 : k < xs.length := by omega
                             simp [List.getD, h2])
          have HNK := Lib.hid fun (h : cellOK gs xs k = false) => validC_bad gs xs k (by have := HN.out; omega) h
          have HNT : Hid (cellOK gs xs k = true → ∀ j, j < k + 1 → cellOK gs xs j = true) := fun h j hj => by
            rcases Nat.lt_or_ge j k with h1 | h1
            · exact HK.out j h1
            · obtain rfl : j = k := by omega
              exact h
          generalize cellOK gs xs k = r at *
          generalize gs.getD k default = d at *
          generalize xs.getD k 0 = x at *
          subst hco
          have HR := Lib.hid hrg
          clear c0 c2 hx hrg
          cases hd : (d.k == 0)
          · have hd' : (d.k != 0) = true := by simp [bne, hd]
            have HD := Lib.hid hd
            cases hz' : (x == 0)
            · have hz2 : (x != 0) = true := by simp [bne, hz']
              have HZ := Lib.hid hz'
              go_wp2
              go_ret
              exact ⟨ret_b (HNK.out (by rw [HR.out, HD.out, HZ.out]; rfl)).symm, hB1.trans ((hbr.alloc (by have := hbr.size; omega) _).mono hB1.size)⟩
            · have hz2 : (x != 0) = false := by simp [bne, hz']
              have HZ := Lib.hid hz'
              go_wp2
              go_roundw
              case rel => exact ⟨k + 1, by omega, by go_num, HNT.out (by rw [HR.out, HD.out, HZ.out]; rfl), hbr.alloc (by have := hbr.size; omega) _⟩
              case measure => simp [intOf]; omega
          · have hd' : (d.k != 0) = false := by simp [bne, hd]
            have HD := Lib.hid hd
            go_wp2
            go_roundw
            case rel => exact ⟨k + 1, by omega, by go_num, HNT.out (by rw [HR.out, HD.out]; rfl), hbr.alloc (by have := hbr.size; omega) _⟩
            case measure => simp [intOf]; omega
        · go_wp2
          go_ret
          refine ⟨ret_b ?_, hB1.trans (hbr.mono hB1.size)⟩
          exact (validC_fin gs xs (by have := HN.out; have := HM.out; have := HE.out; omega) fun j hj => HK.out j (by have := HN.out; omega)).symm
  · have hne : ((m : Int) != (n : Int)) = true := by simp; omega
    rw [validC_len gs xs (by omega)]
    have H := Lib.hid h
    clear hl hn hm h h'
    go_enter Tryz.func49, Tryz.ntmps49
    go_wp2_with fail
    refine (HVG.out _ (by simp; omega) (H.out.alloc hB _)).mono ?_
    rintro e w1 ⟨rfl, hb⟩
    have q : w1.cell? ⟨w.heap.size, 0, none⟩ = some (.slice A n c) := (hb.cell (p := ⟨w.heap.size, 0, none⟩) (by simp)).trans (by go_simp)
    go_wp2
    go_ret
    exact ⟨rfl, ((Below.refl _ _).alloc (Nat.le_refl _) _).trans (hb.mono (by simp))⟩
end Go.Proofs.YtgakgmkonmgblaaGreat

namespace Go.Proofs.YtgakgmkonmgblaaGreat
set_option linter.unusedSimpArgs false
set_option linter.unusedVariables false
open Go.RowKit
/-- The values of the first nodes, and the cells of the others. -/
def mixTo (gs : List Nd) (xs : List Int) (k : Nat) : List Int := meanTo gs xs k ++ xs.drop k
theorem mixTo_zero (gs : List Nd) (xs : List Int) : mixTo gs xs 0 = xs := by simp [mixTo, meanTo]
theorem mixTo_len (gs : List Nd) (xs : List Int) (k : Nat) (h : k ≤ xs.length) : (mixTo gs xs k).length = xs.length := by
  unfold mixTo; rw [List.length_append, meanTo_len, List.length_drop]; omega
theorem mixTo_all (gs : List Nd) (xs : List Int) (k : Nat) (h : k = xs.length) : mixTo gs xs k = meanTo gs xs k := by
  unfold mixTo; rw [h, List.drop_length]; simp
theorem mixTo_take (gs : List Nd) (xs : List Int) (k : Nat) : (mixTo gs xs k).take k = meanTo gs xs k := by
  unfold mixTo
  have := meanTo_len gs xs k
  rw [List.take_append_of_le_length (by omega), List.take_of_length_le (by omega)]
theorem mixTo_step (gs : List Nd) (xs : List Int) (k : Nat) (h : k < xs.length) : mixTo gs xs (k + 1) = if (gs.getD k default).k == 0 then mixTo gs xs k else (mixTo gs xs k).set k ((whole (gs.getD k default).ps).ev (meanTo gs xs k)) := by
  have hl := meanTo_len gs xs k
  have hd : xs.drop k = xs.getD k 0 :: xs.drop (k + 1) := by rw [List.drop_eq_getElem_cons h]; simp [List.getD, h]
  unfold mixTo
  rw [mean_step, hd]
  cases hk : ((gs.getD k default).k == 0)
  · simp only [Bool.false_eq_true, if_false]
    rw [List.set_append_right _ _ (by omega), hl, Nat.sub_self, List.set_cons_zero, List.append_assoc]
    rfl
  · simp only [if_true]
    rw [List.append_assoc]; rfl
set_option maxRecDepth 100000 in
set_option maxHeartbeats 3200000 in
theorem impl_MeaningOf (A A' : Option Addr) (n c m c' : Nat) (gs : List Nd) (xs : List Int) (w : World) (B : Nat) (hB : B ≤ w.heap.size) (hn : n = gs.length) (hnc : n ≤ c) (hm : m = xs.length) (h : GS w B A gs) (h' : IS w B A' xs) (hs : GB gs) (hs' : m ≤ 2000000) :
    Calls Tryz.prog 91 #[.agg #[.slice A n c], .slice A' m c'] w fun e w' => RetI w (meanF gs xs) e w' := by
  have HVC := Lib.hid fun (w' : World) (hB : B ≤ w'.heap.size) (h : GS w' B A gs) (h' : IS w' B A' xs) => impl_ValidCells A A' n c m c' gs xs w' B hB hn hnc hm h h' hs hs'
  have H := Lib.hid h
  have HI := Lib.hid h'
  have HN := Lib.hid hn
  have HM := Lib.hid hm
  clear h h' hn hm
  cases hok : okC gs xs
  · have hf : meanF gs xs = [] := by unfold meanF; rw [hok]; rfl
    rw [hf]
    rw [hok] at HVC
    clear hf hok hs
    go_enter Tryz.func91, Tryz.ntmps91
    go_wp2_with fail
    refine (HVC.out _ (by simp; omega) (H.out.alloc hB _) (HI.out.alloc hB _)).mono ?_
    rintro e w1 ⟨rfl, hb⟩
    go_wp2
    go_ret
    exact ⟨_, rfl, World.ownsRow_nil _ _ _ _, ((Below.refl _ _).alloc (Nat.le_refl _) _).trans (hb.mono (by simp))⟩
  have hf : meanF gs xs = mean gs xs := by unfold meanF; rw [hok]; rfl
  rw [hf]
  rw [hok] at HVC
  obtain ⟨hvg, hvc⟩ := okC_parts gs xs hok
  have hmn : m = n := by have := (validC_parts gs xs hvc).1; have := HN.out; have := HM.out; omega
  have hn10 : n ≤ 10 := by have := (validG_parts gs hvg).1; have := HN.out; omega
  have HOK := Lib.hid hok
  have HMN := Lib.hid hmn
  have hm10 : m ≤ 10 := by omega
  clear hf hok hvg hvc hmn hs
  go_enter Tryz.func91, Tryz.ntmps91
  go_wp2_with fail
  refine (HVC.out _ (by simp; omega) (H.out.alloc hB _) (HI.out.alloc hB _)).mono ?_
  rintro e w1 ⟨rfl, hb⟩
  have q : w1.cell? ⟨w.heap.size, 0, none⟩ = some (.slice A n c) := (hb.cell (p := ⟨w.heap.size, 0, none⟩) (by simp)).trans (by go_simp)
  have HI1 := Lib.hid ((HI.out.alloc hB (.cells #[.slice A n c] 25)).below hb (by simp; omega))
  have HG1 := Lib.hid ((H.out.alloc hB (.cells #[.slice A n c] 25)).below hb (by simp; omega))
  have hz : w.heap.size < w1.heap.size := by have := hb.size; simp at this; omega
  have hB1 : Below w.heap.size w w1 := ((Below.refl _ _).alloc (Nat.le_refl _) _).trans (hb.mono (by simp))
  clear hb H HI
  go_wp2_with fail
  refine (impl_copyOf A' m c' xs w1 B (by omega) HM.out HI1.out (by omega)).mono ?_
  rintro e w2 ⟨rfl, hown2, hb2⟩
  have q2 := (hb2.cell (p := ⟨w.heap.size, 0, none⟩) hz).trans q
  have HG2 := Lib.hid (HG1.out.below hb2 (by omega))
  have HO2 := Lib.hid hown2
  have hgl := (hown2.lt _ rfl).2
  have hB2 := hB1.trans (hb2.mono (by omega))
  clear hown2 hb2 q HG1 HI1 hB1
  go_wp2
  go_loopw [17] (fun u wr => ∃ k : Nat, k ≤ n ∧ u = .int .i64 k ∧ Hid (wr.ownsRow w1.heap.size 3 1 (.slice (some ⟨w1.heap.size, 0, none⟩) m m) m ((mixTo gs xs k).map (Value.int .i64))) ∧ Hid (Below w1.heap.size w2 wr) ∧ w2.heap.size ≤ wr.heap.size) (fun u _ => n - (intOf u).toNat)
  case atStart => exact ⟨0, Nat.zero_le _, rfl, by rw [mixTo_zero]; exact HO2.out, Below.refl _ _, Nat.le_refl _⟩
  case round =>
    obtain ⟨k, hk, rfl, HO, HBR, hwr⟩ := hrel
    by_cases hlt : k < n
    · have hkm : k < m := by have := HMN.out; omega
      have hkg : k < gs.length := by have := HN.out; omega
      have hkx : k < xs.length := by have := HM.out; omega
      obtain ⟨b, off, rfl, hbB, c0, A1, n1, c1, c2, hn1', hps⟩ := HG2.out.at_ k hkg
      have e0 := (HBR.out.cell (p := ⟨b, off + k * 2, none⟩) (by simp; omega)).trans c0
      have e1 := (HBR.out.cell (p := ⟨b, off + k * 2 + 1, none⟩) (by simp; omega)).trans c2
      have HPS := Lib.hid (hps.below HBR.out (by omega))
      have HST := Lib.hid (mixTo_step gs xs k hkx)
      have HIR := Lib.hid ((IS.of_own HO.out).take k)
      rw [mixTo_take] at HIR
      have hml := meanTo_len gs xs k
      have hcE : ((gs.getD k default).k == 0) = false → canEv (gs.getD k default).ps (meanTo gs xs k) = true := mean_canEv gs xs HOK.out k hkg
      clear c0 c2 hps
      generalize gs.getD k default = d at *
      generalize meanTo gs xs k = M at *
      cases hd : (d.k == 0)
      · have hd' : (d.k != 0) = true := by simp [bne, hd]
        have hce := hcE hd
        obtain ⟨hv1, hvo, hl10, hea⟩ := canEv_parts d.ps M hce
        obtain ⟨hg, h1, h12⟩ := validF_good d.ps hv1
        have hvf : valF d.ps M = (whole d.ps).ev M := by unfold valF; rw [hce]; rfl
        have HVAL := Lib.hid fun (w' : World) (B : Nat) (hB : B ≤ w'.heap.size) (h : PS w' B A1 d.ps) (h' : IS w' B (some ⟨w1.heap.size, 0, none⟩) M) => impl_ValueOf A1 (some ⟨w1.heap.size, 0, none⟩) n1 c1 k m d.ps M B hn1' hml.symm (by omega) (by omega) w' hB h h'
        rw [hvf, hce] at HVAL
        rw [hd] at HST
        generalize (whole d.ps).ev M = E at *
        have HD := Lib.hid hd
        clear hcE hce hv1 hvo hl10 hea hg h1 h12 hvf hd hn1' hml
        go_wp2
        obtain ⟨W2, hW2⟩ : ∃ W2, W2 = wr.alloc (.cells #[.int .i64 d.k, .slice A1 n1 c1] 80) := ⟨_, rfl⟩
        have q1 : W2.cell? ⟨wr.heap.size, 0, none⟩ = some (.int .i64 d.k) := by rw [hW2]; go_simp
        have q3 : W2.cell? ⟨wr.heap.size, 1, none⟩ = some (.slice A1 n1 c1) := by rw [hW2]; go_simp
        have HP2 : Hid (PS W2 W2.heap.size A1 d.ps) := by rw [hW2]; exact (HPS.out.alloc (by omega) _).more (by simp; omega)
        have HIR2 : Hid (IS W2 W2.heap.size (some ⟨w1.heap.size, 0, none⟩) M) := by rw [hW2]; exact (HIR.out.alloc (Nat.le_refl _) _).more (by simp)
        have HB2' : Hid (Below w1.heap.size w2 W2) := by rw [hW2]; exact HBR.out.alloc (by omega) _
        have HO2' : Hid (W2.ownsRow w1.heap.size 3 1 (.slice (some ⟨w1.heap.size, 0, none⟩) m m) m ((mixTo gs xs k).map (Value.int .i64))) := by rw [hW2]; exact HO.out.alloc _
        have hz2 : w2.heap.size ≤ W2.heap.size := by rw [hW2]; simp; omega
        rw [← hW2]
        clear hW2 HPS HIR e0 e1
        have hkm2 : k ≤ m := by omega
        have hmx : (mixTo gs xs k).length = m := by rw [mixTo_len gs xs k (by omega)]; have := HM.out; omega
        obtain ⟨y, hy⟩ : ∃ y : Int, (mixTo gs xs k)[k]? = some y := ⟨_, List.getElem?_eq_getElem (by omega)⟩
        have HY := Lib.hid hy
        clear hy hmx
        go_region_with (first | (go_at_call 89; refine (HVAL.out W2.drew W2.heap.size (Nat.le_refl _) HP2.out HIR2.out).mono ?_; rintro e w3 ⟨rfl, hb3⟩; have hgg : w1.heap.size < w3.heap.size := Nat.lt_of_lt_of_le (show w1.heap.size < W2.heap.size by omega) hb3.size; have HO3 := Lib.hid (own_below (w := W2.drew) HO2'.out hb3); have u3 : w3.cell? ⟨w1.heap.size, k, none⟩ = some (.int .i64 y) := (HO3.out.cellAt k (by omega)).trans (by simp [HY.out]); have f3 : w3.frozen? ⟨w1.heap.size, k, none⟩ = false := HO3.out.frozenAt k))
        have HO4 := HO3.out.stored k (.int .i64 E)
        rw [← List.map_set] at HO4
        rw [show (mixTo gs xs k).set k E = mixTo gs xs (k + 1) from HST.out.symm] at HO4
        have HO5 := Lib.hid HO4.1
        have HB5 := Lib.hid (((HB2'.out.drew.trans (hb3.mono (show w1.heap.size ≤ W2.heap.size by omega))).setCell (p := ⟨w1.heap.size, k, none⟩) (Nat.le_refl _) (.int .i64 E)))
        have hz3 : w2.heap.size ≤ w3.heap.size := Nat.le_trans hz2 hb3.size
        clear HO4
        go_wp2
        go_roundw
        case rel => exact ⟨k + 1, by omega, by go_num, HO5.out, HB5.out, by simp [World.setCell]; omega⟩
        case measure => simp [intOf]; omega
      · have hd' : (d.k != 0) = false := by simp [bne, hd]
        rw [hd] at HST
        clear hcE hd hn1' hml
        go_wp2
        go_roundw
        case rel => exact ⟨k + 1, by omega, by go_num, by rw [HST.out]; exact HO.out.alloc _, HBR.out.alloc (by omega) _, by simp; omega⟩
        case measure => simp [intOf]; omega
    · obtain rfl : k = n := by omega
      go_wp2
      go_ret
      have hkx : k = xs.length := by have := HMN.out; have := HM.out; omega
      have hkm : k = m := by have := HMN.out; omega
      have hml : (mean gs xs).length = m := by unfold mean; rw [meanTo_len]; have := HN.out; omega
      refine ⟨_, rfl, ?_, hB2.trans (HBR.out.mono (by omega))⟩
      have := HO.out
      rw [mixTo_all gs xs k hkx, HN.out] at this
      unfold OwnI
      rw [hml]
      exact own_mono this (by omega)
end Go.Proofs.YtgakgmkonmgblaaGreat

namespace Go.Proofs.YtgakgmkonmgblaaGreat
set_option linter.unusedSimpArgs false
set_option linter.unusedVariables false
open Go.RowKit
def depsF (gs : List Nd) (xs : List Int) : List (List Int) := if okC gs xs then depTo gs (mean gs xs) gs.length else []
theorem depTo_at (gs : List Nd) (vs : List Int) (k j : Nat) (h : j < k) : (depTo gs vs k).getD j [] = depF gs vs j := by simp [depTo, List.getD, h]
theorem depF_bd (gs : List Nd) (xs : List Int) (h : okC gs xs = true) (i : Nat) (hi : i < gs.length) : (depF gs (mean gs xs) i).length ≤ 10 := by
  obtain ⟨hg, hc⟩ := okC_parts gs xs h
  unfold depF
  cases hk : ((gs.getD i default).k == 0)
  · simp only [Bool.false_eq_true, if_false]
    have hv := (nodeOK_formula gs i ((validG_parts gs hg).2 i hi) hk).1
    have hok := whole_ok _ (mean gs xs).length hv (by rw [mean_len]; exact each_ahead gs i gs.length hg hi hk (by omega))
    have h10 := (validG_parts gs hg).1
    refine Nat.le_trans (firsts_bd _ (mean gs xs).length ?_) (by rw [mean_len]; exact h10)
    intro x hx
    exact rds_lt _ _ _ hok x hx
  · simp
theorem depsF_len (gs : List Nd) (xs : List Int) : SB (depsF gs xs) ∧ ((depsF gs xs).map List.length).sum ≤ 1048576 := by
  unfold depsF
  cases h : okC gs xs
  · exact ⟨⟨by simp, fun j => by simp [List.getD]⟩, by simp⟩
  · simp only [if_true]
    have h10 := (validG_parts gs (okC_parts gs xs h).1).1
    have hb : ∀ j, j < gs.length → (depF gs (mean gs xs) j).length ≤ 10 := fun j hj => depF_bd gs xs h j hj
    refine ⟨⟨by rw [depTo_len]; omega, fun j => ?_⟩, ?_⟩
    · by_cases hj : j < gs.length
      · rw [depTo_at _ _ _ _ hj]; have := hb j hj; omega
      · rw [show (depTo gs (mean gs xs) gs.length).getD j [] = [] by
          have : (depTo gs (mean gs xs) gs.length).length ≤ j := by rw [depTo_len]; omega
          simp [List.getD, List.getElem?_eq_none this]]
        simp
    · have : ∀ k, k ≤ gs.length → ((depTo gs (mean gs xs) k).map List.length).sum ≤ k * 10 := by
        intro k
        induction k with
        | zero => intro _; simp [depTo]
        | succ k ih =>
          intro hk
          rw [depTo_succ, List.map_append, List.sum_append]
          have h1 := ih (by omega)
          have h2 := hb k (by omega)
          simp
          omega
      have := this gs.length (Nat.le_refl _)
      omega
/-- What the first nodes read, and nothing for the others. -/
def dmix (gs : List Nd) (vs : List Int) (n k : Nat) : List (List Int) := depTo gs vs k ++ List.replicate (n - k) []
theorem dmix_all (gs : List Nd) (vs : List Int) (n : Nat) : dmix gs vs n n = depTo gs vs n := by unfold dmix; simp
theorem dmix_at (gs : List Nd) (vs : List Int) (n k : Nat) (h : k < n) : (dmix gs vs n (k + 1)).getD k [] = depF gs vs k := by
  have := depTo_len gs vs k
  unfold dmix
  rw [depTo_succ]
  simp [List.getD, List.getElem?_append, this]
theorem dmix_other (gs : List Nd) (vs : List Int) (n k j : Nat) (h : k < n) (hj : j ≠ k) : (dmix gs vs n (k + 1)).getD j [] = (dmix gs vs n k).getD j [] := by
  have h1 := depTo_len gs vs k
  unfold dmix
  rw [depTo_succ]
  rcases Nat.lt_or_ge j k with h2 | h2
  · simp [List.getD, List.getElem?_append, h1, h2, show j < k + 1 by omega]
  · have e1 : ¬ j < k := by omega
    have e2 : ¬ j < k + 1 := by omega
    simp only [List.getD, List.getElem?_append, List.length_append, h1, List.length_cons, List.length_nil, if_neg e1, if_neg e2, List.getElem?_replicate]
    split <;> split <;> rfl
theorem dmix_cell (gs : List Nd) (vs : List Int) (n k : Nat) (h : k < n) (hd : depF gs vs k = []) : dmix gs vs n (k + 1) = dmix gs vs n k := by
  unfold dmix
  rw [depTo_succ, hd, List.append_assoc, show n - k = (n - (k + 1)) + 1 by omega, List.replicate_succ]
  rfl
set_option maxRecDepth 100000 in
set_option maxHeartbeats 3200000 in
theorem top_impl_DepsOf (gs : List Nd) (xs : List Int) (hG : GB gs) (hL : xs.length ≤ 1048576) : ∀ (A : Option Addr) (n c : Nat) (A' : Option Addr) (m c' : Nat) (w : World), n = gs.length → n ≤ c → GS w w.heap.size A gs → m = xs.length → IS w w.heap.size A' xs →
    Calls Tryz.prog 51 #[.agg #[.slice A n c], .slice A' m c'] w fun e w' => RetSS w (depsF gs xs) e w' := by
  intro A n c A' m c' w hn hnc h hm h'
  obtain ⟨i1, hi, hz0, hz1, hz2⟩ := info_parts info_ints1
  have hm1 : m ≤ 2000000 := by omega
  have H := Lib.hid h
  have HX := Lib.hid h'
  have HN := Lib.hid hn
  have HC := Lib.hid fun (w' : World) (hB : w.heap.size ≤ w'.heap.size) (h : GS w' w.heap.size A gs) (h' : IS w' w.heap.size A' xs) => impl_ValidCells A A' n c m c' gs xs w' w.heap.size hB hn hnc hm h h' hG hm1
  have HM := Lib.hid fun (w' : World) (hB : w.heap.size ≤ w'.heap.size) (h : GS w' w.heap.size A gs) (h' : IS w' w.heap.size A' xs) => impl_MeaningOf A A' n c m c' gs xs w' w.heap.size hB hn hnc hm h h' hG hm1
  cases hok : okC gs xs
  · have hf : depsF gs xs = [] := by unfold depsF; rw [hok]; rfl
    rw [hf]
    rw [hok] at HC
    clear hf hok h h' hn hm hG
    go_enter Tryz.func51, Tryz.ntmps51
    go_wp2_with fail
    refine (HC.out _ (by simp) (H.out.alloc (Nat.le_refl _) _) (HX.out.alloc (Nat.le_refl _) _)).mono ?_
    rintro e w1 ⟨rfl, hb⟩
    have q1 : w1.cell? ⟨w.heap.size, 0, none⟩ = some (.slice A n c) := (hb.cell (p := ⟨w.heap.size, 0, none⟩) (by simp)).trans (by go_simp)
    have HG1 := Lib.hid ((H.out.alloc (Nat.le_refl _) (.cells #[.slice A n c] 25)).below hb (by simp))
    have HX1 := Lib.hid ((HX.out.alloc (Nat.le_refl _) (.cells #[.slice A n c] 25)).below hb (by simp))
    have hB1 : Below w.heap.size w w1 := ((Below.refl _ _).alloc (Nat.le_refl _) _).trans (hb.mono (by simp))
    have hl1 : w.heap.size < w1.heap.size := by have := hb.size; simp at this; omega
    clear hb
    go_wp2
    go_ret
    exact RetSS.nil (hB1)
  have hvg := (okC_parts gs xs hok).1
  have hf : depsF gs xs = depTo gs (mean gs xs) gs.length := by unfold depsF; rw [hok]; rfl
  have hmf : meanF gs xs = mean gs xs := by unfold meanF; rw [hok]; rfl
  have hn10 : n ≤ 10 := by have := (validG_parts gs hvg).1; omega
  have hml := mean_len gs xs
  rw [← hn] at hml
  have hvo : VOK (mean gs xs) := meanTo_VOK gs xs hok gs.length (Nat.le_refl _)
  have HCE := Lib.hid fun (k : Nat) (hk : k < gs.length) (h0 : ((gs.getD k default).k == 0) = false) => canEv_of (gs.getD k default).ps (mean gs xs) (nodeOK_formula gs k ((validG_parts gs hvg).2 k hk) h0).1 (by omega) hvo (by rw [hml]; exact each_ahead gs k n hvg hk h0 (by omega))
  rw [hf]
  rw [hok] at HC
  rw [hmf] at HM
  have HML := Lib.hid hml
  have HDL := Lib.hid (depTo_len gs (mean gs xs))
  rw [← hn]
  clear hf hvg hok hml hvo h h' hn hm hG hmf
  generalize mean gs xs = M at *
  have HMK := Lib.hid fun (w1 : World) => run_make_full (P := Tryz.prog) w1 w1.heap.size 27 26 i1 _ 1 Tryz.underlying27 hi hz0 hz1 .i64 .i64 n (by rw [hz2]; omega) (by unfold maxLen; omega) (Nat.le_refl _)
  go_enter Tryz.func51, Tryz.ntmps51
  go_wp2_with fail
  refine (HC.out _ (by simp) (H.out.alloc (Nat.le_refl _) _) (HX.out.alloc (Nat.le_refl _) _)).mono ?_
  rintro e w1 ⟨rfl, hb⟩
  have q1 : w1.cell? ⟨w.heap.size, 0, none⟩ = some (.slice A n c) := (hb.cell (p := ⟨w.heap.size, 0, none⟩) (by simp)).trans (by go_simp)
  have HG1 := Lib.hid ((H.out.alloc (Nat.le_refl _) (.cells #[.slice A n c] 25)).below hb (by simp))
  have HX1 := Lib.hid ((HX.out.alloc (Nat.le_refl _) (.cells #[.slice A n c] 25)).below hb (by simp))
  have hB1 : Below w.heap.size w w1 := ((Below.refl _ _).alloc (Nat.le_refl _) _).trans (hb.mono (by simp))
  have hl1 : w.heap.size < w1.heap.size := by have := hb.size; simp at this; omega
  clear hb
  go_wp2_with fail
  refine (HM.out _ hB1.size HG1.out HX1.out).mono ?_
  rintro e w2 ⟨v2, rfl, ho, hb⟩
  obtain ⟨A3, c3, rfl, hI3⟩ := OwnI.at_ ho HML.out
  have q2 := (hb.cell (p := ⟨w.heap.size, 0, none⟩) hl1).trans q1
  have hB2 := Lib.hid (hB1.trans (hb.mono hB1.size))
  have hl2 : w.heap.size < w2.heap.size := Nat.lt_of_lt_of_le hl1 hb.size
  obtain ⟨w3, hmk, hown3, hgr3⟩ := HMK.out w2
  have hb3 : Below w2.heap.size w2 w3 := ⟨hgr3.os, hgr3.tape, hgr3.output, hgr3.size, fun k hk => hgr3.block k hk (by simp)⟩
  have q3 := (hb3.cell (p := ⟨w.heap.size, 0, none⟩) hl2).trans q2
  have HG3 := Lib.hid (((HG1.out.below hb hB1.size).more (B' := w2.heap.size) (Nat.le_trans hB1.size hb.size)).below hb3 (Nat.le_refl _))
  have HI3 := Lib.hid (hI3.below hb3 (Nat.le_refl _))
  have hgl : w2.heap.size < w3.heap.size := (hown3.lt _ rfl).2
  have HO3 : Hid (∃ vs, OwR w2.heap.size w3.heap.size 26 1 (.slice (some ⟨w2.heap.size, 0, none⟩) n n) n vs w3 ∧ SSk w2.heap.size w3.heap.size vs (lenOf (dmix gs M n 0)) (rowOf (dmix gs M n 0)) w3) := by
    have e : (madeCells (Value.slice none 0 0).cells (n * 1)).toList = List.replicate n (.slice none 0 0) := by simp [Value.cells, toList_madeCells_one]
    rw [e] at hown3
    refine ⟨_, OwR.start hown3, ⟨fun j hj => ?_, fun i j v u k _ h1 h2 hv => ?_⟩⟩
    · have hj' : j < n := by simpa using hj
      refine ⟨none, 0, 0, by simp [hj'], by simp [lenOf, dmix, depTo, List.getD, hj'], ?_⟩
      have : rowOf (dmix gs M n 0) j = [] := by simp [rowOf, dmix, depTo, List.getD, hj']
      rw [this]
      exact OwR.nil _ _ _ _ _
    · have : v = .slice none 0 0 := by
        rw [List.getElem?_replicate] at h1
        split at h1
        · cases h1; rfl
        · cases h1
      subst this
      simp [Value.ownBlock] at hv
  have HB3 := Lib.hid hb3
  clear hb hb3 hown3 hgr3 q1 HG1 HX1 hB1 ho hI3 HC HM HX H hl1 HMK
  go_wp2
  clear hmk
  go_loopw [23] (fun i wr => ∃ k : Nat, k ≤ n ∧ i = .int .i64 k ∧ Hid (∃ vs, OwR w2.heap.size wr.heap.size 26 1 (.slice (some ⟨w2.heap.size, 0, none⟩) n n) n vs wr ∧ SSk w2.heap.size wr.heap.size vs (lenOf (dmix gs M n k)) (rowOf (dmix gs M n k)) wr) ∧ Hid (Below w2.heap.size w3 wr) ∧ w3.heap.size ≤ wr.heap.size) (fun i _ => n - (intOf i).toNat)
  case atStart => exact ⟨0, Nat.zero_le _, rfl, HO3.out, Below.refl _ _, Nat.le_refl _⟩
  case round =>
    obtain ⟨k, hk, rfl, HO, HB, hwr⟩ := hrel
    by_cases hlt : k < n
    · obtain ⟨vs, hrow, hss⟩ := HO.out
      have hvl : vs.length = n := by have := hrow.1.1; omega
      have hkg : k < gs.length := by have := HN.out; omega
      obtain ⟨b, off, rfl, hbB, c0, A1, n1, c1, c2, hn1', hps⟩ := HG3.out.at_ k hkg
      have e0 := (HB.out.cell (p := ⟨b, off + k * 2, none⟩) hbB).trans c0
      have e1 := (HB.out.cell (p := ⟨b, off + k * 2 + 1, none⟩) hbB).trans c2
      have HPS := Lib.hid (((hps.below HB.out (Nat.le_refl _)).alloc (by omega) (.cells #[.int .i64 (gs.getD k default).k, .slice A1 n1 c1] 80)).more (B' := wr.heap.size + 1) (by omega))
      have HIR := Lib.hid (((HI3.out.below HB.out (Nat.le_refl _)).alloc (by omega) (.cells #[.int .i64 (gs.getD k default).k, .slice A1 n1 c1] 80)).more (B' := wr.heap.size + 1) (by omega))
      have hce := HCE.out k hkg
      have hde : depF gs M k = if (gs.getD k default).k == 0 then [] else firsts ((whole (gs.getD k default).ps).rds M) := rfl
      have HAT := Lib.hid (dmix_at gs M n k hlt)
      have HOT := Lib.hid fun (j : Nat) (hj : j ≠ k) => dmix_other gs M n k j hlt hj
      have HCELL := Lib.hid (dmix_cell gs M n k hlt)
      have HROW := Lib.hid (hrow.1.alloc (.cells #[.int .i64 (gs.getD k default).k, .slice A1 n1 c1] 80))
      have HSS := Lib.hid (hss.keep (w' := wr.alloc (.cells #[.int .i64 (gs.getD k default).k, .slice A1 n1 c1] 80)) fun q _ hq => Below.heap_alloc _ _ _ hq)
      have HVL := Lib.hid hvl
      generalize gs.getD k default = d at *
      clear c0 c2 hps hrow hss hvl
      cases hd : (d.k == 0)
      · have hd' : (d.k != 0) = true := by simp [bne, hd]
        have hrf : readF d.ps M = firsts ((whole d.ps).rds M) := by unfold readF; rw [hce hd]; rfl
        have hvf := (canEv_parts d.ps M (hce hd)).1
        have h12 := (validF_good d.ps hvf).2.2
        rw [hd] at hde
        have hde2 : depF gs M k = readF d.ps M := by rw [hrf]; exact hde
        have HRD := Lib.hid fun (w' : World) (B : Nat) (hB : B ≤ w'.heap.size) (h : PS w' B A1 d.ps) (h' : IS w' B A3 M) => impl_ReadsOf A1 A3 n1 c1 n c3 d.ps M B hn1' HML.out.symm (by omega) (by omega) w' hB h h'
        rw [← hde2] at HRD
        clear hce hrf hvf h12 hde hde2 hn1' hd
        generalize depF gs M k = D at *
        go_wp2_with fail
        refine (HRD.out _ (wr.heap.size + 1) (by simp) HPS.out HIR.out).mono ?_
        rintro e w5 ⟨v5, rfl, ho5, hb5⟩
        obtain ⟨A5, c5, rfl, hI5⟩ := OwnI.form ho5
        unfold OwnI at ho5
        simp only [World.size_alloc] at ho5
        have hR5 := own_below HROW.out hb5
        have u5 := hR5.cellAt k (by omega)
        rw [List.getElem?_eq_getElem (by have := HVL.out; omega)] at u5
        have f5 := hR5.frozenAt k
        have hst := hR5.stored k (.slice A5 D.length c5)
        have hw5 : wr.heap.size + 1 ≤ w5.heap.size := by have := hb5.size; simpa using this
        have HNEW : Hid (∃ vs, OwR w2.heap.size w5.heap.size 26 1 (.slice (some ⟨w2.heap.size, 0, none⟩) n n) n vs (w5.setCell ⟨w2.heap.size, k, none⟩ (.slice A5 D.length c5)) ∧ SSk w2.heap.size w5.heap.size vs (lenOf (dmix gs M n (k + 1))) (rowOf (dmix gs M n (k + 1))) (w5.setCell ⟨w2.heap.size, k, none⟩ (.slice A5 D.length c5))) := by
          have hss5 := HSS.out.keep (w' := w5) fun q _ hq => hb5.block q (by simp only [World.size_alloc]; exact Nat.lt_succ_of_lt hq)
          have hss6 := hss5.grown hst.2 (hss5.ne hR5 ints_ne_int)
          have hd6 := ho5.kept hst.2 (blocks_ne ho5 hR5 ints_ne_int)
          have hrk : rowOf (dmix gs M n (k + 1)) k = D.map (Value.int .i64) := by unfold rowOf; rw [HAT.out]
          rw [← hrk] at hd6
          refine ⟨_, ⟨hst.1, fun q hq => by cases hq; exact Nat.lt_of_lt_of_le hgl (by omega)⟩, hss6.put (hi' := w5.heap.size) (A := A5) (m := D.length) (c := c5) k ?_ ?_ ?_ ?_ ?_ ⟨own_mono hd6 (by omega), fun q hq => by have := (ho5.lt q hq).2; omega⟩ (by omega) (by omega)⟩
          · rw [List.getElem?_set, if_pos rfl, if_pos (by have := HVL.out; omega)]
          · intro j hj; rw [List.getElem?_set, if_neg (by omega)]
          · intro j hj _; simpa using hj
          · unfold lenOf; rw [HAT.out]
          · intro j hj; unfold lenOf rowOf; rw [HOT.out j hj]; exact ⟨rfl, rfl⟩
        have HB6 : Hid (Below w2.heap.size w3 (w5.setCell ⟨w2.heap.size, k, none⟩ (.slice A5 D.length c5))) := ((HB.out.alloc (by omega) _).trans (hb5.mono (by simp; omega))).setCell (Nat.le_refl _) _
        have HSZ : Hid ((w5.setCell ⟨w2.heap.size, k, none⟩ (.slice A5 D.length c5)).heap.size = w5.heap.size) := by simp [World.setCell, Hid]
        generalize vs[k]'_ = vv at u5
        clear hst hR5 ho5 hI5 hb5
        go_wp2
        go_roundw
        case rel => exact ⟨k + 1, by omega, by go_num, by rw [HSZ.out]; exact HNEW.out, HB6.out, by simp [World.setCell]; omega⟩
        case measure => simp [intOf]; omega
      · have hd' : (d.k != 0) = false := by simp [bne, hd]
        rw [hd] at hde
        have HCE2 := Lib.hid (HCELL.out hde)
        clear hce hde hd hn1'
        go_wp2
        go_roundw
        case rel => exact ⟨k + 1, by omega, by go_num, by rw [HCE2.out]; exact ⟨vs, ⟨HROW.out, fun q hq => by cases hq; simp; omega⟩, HSS.out.mono (Nat.le_refl _) (by simp)⟩, HB.out.alloc (by omega) _, by simp; omega⟩
        case measure => simp [intOf]; omega
    · obtain rfl : k = n := by omega
      go_wp2
      go_ret
      refine ⟨_, rfl, ?_, hB2.out.trans ((HB3.out.trans HB.out).mono (by omega))⟩
      rw [HDL.out]
      obtain ⟨vs, hrow, hss⟩ := HO.out
      rw [dmix_all] at hss
      exact ⟨(HDL.out k).symm, vs, hrow.mono (by omega) (Nat.le_refl _), hss.mono (by omega) (Nat.le_refl _)⟩
end Go.Proofs.YtgakgmkonmgblaaGreat

namespace Go.Proofs.YtgakgmkonmgblaaGreat
set_option linter.unusedSimpArgs false
set_option linter.unusedVariables false
open Go.RowKit
theorem sum_small (xss : List (List Int)) (h : ∀ j, (xss.getD j []).length ≤ 10) : (xss.map List.length).sum ≤ xss.length * 10 := by
  induction xss with
  | nil => simp
  | cons x l ih =>
    have h0 := h 0
    have h1 := ih fun j => by have := h (j + 1); simpa using this
    simp at h0 ⊢
    omega
theorem EM.eb {st : Eg} (h : EM st) : EB st := by
  obtain ⟨h1, h2, h3⟩ := h
  have h4 := sum_small st.rs h3
  exact EB.of_small _ (by omega) ⟨by omega, fun j => by have := h3 j; omega⟩ (by omega)
end Go.Proofs.YtgakgmkonmgblaaGreat

namespace Go.Proofs.YtgakgmkonmgblaaGreat
set_option linter.unusedSimpArgs false
set_option linter.unusedVariables false
open Go.RowKit
set_option maxHeartbeats 800000 in
theorem laws_isIn (A : Option Addr) (n c : Nat) (xs : List Int) (x : Int) (w : World) (B : Nat) (hB : B ≤ w.heap.size) (hn : n = xs.length) (h : IS w B A xs) (hs : n ≤ 2000000) :
    Calls Tryz.prog 56 #[.slice A n c, .int .i64 x] w fun e w' => e = .returned (.bool (decide (x ∈ xs))) ∧ w = w' := by
  have H := Lib.hid h
  have HN := Lib.hid hn
  clear hn h
  go_enter Tryz.func56, Tryz.ntmps56
  go_wp2
  go_loop [5] (fun i => ∃ k : Nat, k ≤ n ∧ i = .int .i64 k ∧ Hid (∀ j, j < k → xs.getD j 0 ≠ x)) (fun i => n - (intOf i).toNat)
  case atStart => exact ⟨0, Nat.zero_le _, rfl, fun j hj => by omega⟩
  case round =>
    obtain ⟨k, hk, rfl, HA⟩ := hrel
    by_cases hlt : k < n
    · obtain ⟨b, off, rfl, hbB, hc⟩ := H.out (by have := HN.out; omega)
      have c0 := hc k (by have := HN.out; omega)
      clear hc H
      generalize hp : xs.getD k 0 = p at *
      have HP := Lib.hid hp
      clear hp
      cases hr : (p == x)
      · have HR := Lib.hid hr
        go_wp2
        go_round
        case rel => exact ⟨k + 1, by omega, by go_num, fun j hj => by
          rcases Nat.lt_or_ge j k with h1 | h1
          · exact HA.out j h1
          · obtain rfl : j = k := by omega
            rw [HP.out]; simpa using HR.out⟩
        case measure => simp [intOf]; omega
      · have HR := Lib.hid hr
        go_wp2
        go_ret
        refine ⟨ret_b ?_, rfl⟩
        symm
        apply decide_eq_true
        have h1 : k < xs.length := by have := HN.out; omega
        have h2 := HP.out
        have h3 : p = x := by simpa using HR.out
        rw [← h3, ← h2]
        simp [List.getD, h1]
    · go_wp2
      go_ret
      refine ⟨ret_b ?_, rfl⟩
      symm
      apply decide_eq_false
      intro hm
      obtain ⟨j, hj, he⟩ := List.mem_iff_getElem.1 hm
      exact HA.out j (by have := HN.out; omega) (by simp [List.getD, hj, he])
end Go.Proofs.YtgakgmkonmgblaaGreat

namespace Go.Proofs.YtgakgmkonmgblaaGreat
set_option linter.unusedSimpArgs false
set_option linter.unusedVariables false
open Go.RowKit
set_option maxHeartbeats 800000 in
theorem laws_equalInts (A A' : Option Addr) (n n' c c' : Nat) (a b : List Int) (w : World) (B : Nat) (hB : B ≤ w.heap.size) (hn : n = a.length) (hn' : n' = b.length) (h : IS w B A a) (h' : IS w B A' b) (hs : n ≤ 2000000) (hs' : n' ≤ 2000000) :
    Calls Tryz.prog 9 #[.slice A n c, .slice A' n' c'] w fun e w' => e = .returned (.bool (decide (a = b))) ∧ Below w.heap.size w w' := by
  by_cases hl : n = n'
  · have hne : ((n : Int) != (n' : Int)) = false := by simp [hl]
    have HL := Lib.hid hl
    have HN := Lib.hid hn
    have HN' := Lib.hid hn'
    have H := Lib.hid h
    have H' := Lib.hid h'
    clear hl hn hn' h h'
    go_enter Tryz.func9, Tryz.ntmps9
    go_wp2
    go_loopw [5] (fun i wr => ∃ k : Nat, k ≤ n ∧ i = .int .i64 k ∧ Hid (∀ j, j < k → a.getD j 0 = b.getD j 0) ∧ Below w.heap.size w wr) (fun i _ => n - (intOf i).toNat)
    case atStart => exact ⟨0, Nat.zero_le _, rfl, fun j hj => by omega, Below.refl _ _⟩
    case round =>
      obtain ⟨k, hk, rfl, HT, hb⟩ := hrel
      by_cases hlt : k < n
      · have hlt' : k < n' := by have := HL.out; omega
        obtain ⟨b1, off, rfl, hbB, hc⟩ := H.out (by have := HN.out; omega)
        obtain ⟨b2, off', rfl, hbB', hc'⟩ := H'.out (by have := HN'.out; omega)
        have d1 := hc k (by have := HN.out; omega)
        have d2 := hc' k (by have := HN'.out; omega)
        have e1 := (hb.cell (p := ⟨b1, off + k, none⟩) (by simp; omega)).trans d1
        have e2 := (hb.cell (p := ⟨b2, off' + k, none⟩) (by simp; omega)).trans d2
        clear hc hc' d1 d2 H H'
        have HNE : Hid (a.getD k 0 ≠ b.getD k 0 → decide (a = b) = false) := fun hh => by rw [decide_eq_false_iff_not]; rintro rfl; exact hh rfl
        have HEQ : Hid (a.getD k 0 = b.getD k 0 → ∀ j, j < k + 1 → a.getD j 0 = b.getD j 0) := fun hh j hj => by
          rcases Nat.lt_or_ge j k with h1 | h1
          · exact HT.out j h1
          · obtain rfl : j = k := by omega
            exact hh
        generalize a.getD k 0 = x at *
        generalize b.getD k 0 = y at *
        cases hxy : (x == y)
        · have hne2 : (x != y) = true := by simp [bne, hxy]
          have HF := Lib.hid (HNE.out (by simpa using hxy))
          clear hxy
          go_wp2
          go_region
          go_wp2
          go_ret
          exact ⟨ret_b HF.out.symm, hb.drew⟩
        · have hne2 : (x != y) = false := by simp [bne, hxy]
          have HF := Lib.hid (HEQ.out (by simpa using hxy))
          clear hxy
          go_wp2
          go_region
          go_wp2
          go_roundw
          case rel => exact ⟨k + 1, by omega, by go_num, HF.out, hb.drew⟩
          case measure => simp [intOf]; omega
      · obtain rfl : k = n := by omega
        go_wp2
        go_ret
        refine ⟨ret_b ?_, hb⟩
        symm
        apply decide_eq_true
        have h1 := HN.out
        have h2 := HN'.out
        have h3 := HL.out
        apply List.ext_getElem (by omega)
        intro j hj hj'
        have := HT.out j (by omega)
        simpa [List.getD, hj, hj'] using this
  · have hne : ((n : Int) != (n' : Int)) = true := by simp; omega
    have hf : decide (a = b) = false := by rw [decide_eq_false_iff_not]; rintro rfl; omega
    rw [hf]
    clear hl hn hn' h h' hf
    go_enter Tryz.func9, Tryz.ntmps9
    go_wp2
    go_ret
    exact ⟨rfl, Below.refl _ _⟩
set_option maxHeartbeats 800000 in
theorem laws_within (A A' : Option Addr) (n c m c' : Nat) (xs ys : List Int) (w : World) (B : Nat) (hB : B ≤ w.heap.size) (hn : n = xs.length) (h : IS w B A xs) (hs : n ≤ 2000000) (hm : m = ys.length) (h' : IS w B A' ys) (hs' : m ≤ 2000000) (hd : ∀ x ∈ xs, x ∈ ys) :
    Calls Tryz.prog 15 #[.slice A n c, .slice A' m c'] w fun e w' => e = .returned (.bool true) ∧ w = w' := by
  have H := Lib.hid h
  have HN := Lib.hid hn
  have HIN := Lib.hid fun (y : Int) => laws_isIn A' m c' ys y w B hB hm h' hs'
  have HD := Lib.hid hd
  clear hn h hd hm h'
  go_enter Tryz.func15, Tryz.ntmps15
  go_wp2
  go_loop [5] (fun i => ∃ k : Nat, k ≤ n ∧ i = .int .i64 k) (fun i => n - (intOf i).toNat)
  case atStart => exact ⟨0, Nat.zero_le _, rfl⟩
  case round =>
    obtain ⟨k, hk, rfl⟩ := hrel
    by_cases hlt : k < n
    · have hkx : k < xs.length := by have := HN.out; omega
      obtain ⟨b, off, rfl, hbB, hc⟩ := H.out (by have := HN.out; omega)
      have c0 := hc k hkx
      have HC := Lib.hid (HIN.out (xs.getD k 0))
      rw [decide_eq_true (HD.out (xs.getD k 0) (by simp [List.getD, hkx]))] at HC
      clear hc
      generalize xs.getD k 0 = x at *
      go_wp2_with fail
      refine HC.out.mono ?_
      rintro e w' ⟨rfl, rfl⟩
      go_wp2
      go_round
      case rel => exact ⟨k + 1, by omega, by go_num⟩
      case measure => simp [intOf]; omega
    · go_wp2
      go_ret
      exact ⟨rfl, rfl⟩
end Go.Proofs.YtgakgmkonmgblaaGreat

namespace Go.Proofs.YtgakgmkonmgblaaGreat
set_option linter.unusedSimpArgs false
set_option linter.unusedVariables false
open Go.RowKit
theorem ES.step {A E : Option Addr} {st : Eg} {wk wl : World} (h : ES wk wk.heap.size A E st) (hb : Below wk.heap.size wk wl) : ES wl wl.heap.size A E st := ⟨h.1.step hb, h.2.step hb⟩
set_option maxRecDepth 100000 in
set_option maxHeartbeats 1600000 in
theorem laws_equalLists (A A' : Option Addr) (n n' c c' : Nat) (xss yss : List (List Int)) (w : World) (B : Nat) (hB : B ≤ w.heap.size) (hn : n = xss.length) (hn' : n' = yss.length) (h : SS w B A xss) (h' : SS w B A' yss) (hb1 : SB xss) (hb2 : SB yss) :
    Calls Tryz.prog 43 #[.slice A n c, .slice A' n' c'] w fun e w' => e = .returned (.bool (decide (xss = yss))) ∧ Below w.heap.size w w' := by
  have hm1 : n ≤ 1048576 := by rw [hn]; exact hb1.1
  have hm2 : n' ≤ 1048576 := by rw [hn']; exact hb2.1
  by_cases hl : n = n'
  · have hne : ((n : Int) != (n' : Int)) = false := by simp [hl]
    have HL := Lib.hid hl
    have HN := Lib.hid hn
    have HN' := Lib.hid hn'
    have H := Lib.hid h
    have H' := Lib.hid h'
    have HB1 := Lib.hid hb1
    have HB2 := Lib.hid hb2
    clear hl hn hn' h h' hb1 hb2
    go_enter Tryz.func43, Tryz.ntmps43
    go_wp2
    go_loopw [5] (fun i wr => ∃ k : Nat, k ≤ n ∧ i = .int .i64 k ∧ Hid (xss.take k = yss.take k) ∧ Below w.heap.size w wr) (fun i _ => n - (intOf i).toNat)
    case atStart => exact ⟨0, Nat.zero_le _, rfl, by simp [Hid], Below.refl _ _⟩
    case round =>
      obtain ⟨k, hk, rfl, HT, hb⟩ := hrel
      by_cases hlt : k < n
      · obtain ⟨b, off, rfl, hbB, hc⟩ := H.out (by have := HN.out; omega)
        obtain ⟨b', off', rfl, hbB', hc'⟩ := H'.out (by have := HN'.out; have := HL.out; omega)
        obtain ⟨A1, n1, c1, c2, hn1', hps⟩ := hc k (by have := HN.out; omega)
        obtain ⟨A2, n2, d1, d2, hn2', hqs⟩ := hc' k (by have := HN'.out; have := HL.out; omega)
        have hx1 := HB1.out.2 k
        have hx2 := HB2.out.2 k
        clear hc hc' H H'
        have hlt' : k < n' := by have := HL.out; omega
        have b1 := (hb.cell (p := ⟨b, off + k, none⟩) (by simp; omega)).trans c2
        have e1 := (hb.cell (p := ⟨b', off' + k, none⟩) (by simp; omega)).trans d2
        have HPS := Lib.hid (hps.below hb hB)
        have HQS := Lib.hid (hqs.below hb hB)
        clear c2 d2 hps hqs
        have hpd : xss.getD k [] = xss.getD k default := rfl
        have hqd : yss.getD k [] = yss.getD k default := rfl
        rw [hpd] at *
        rw [hqd] at *
        clear hpd hqd
        generalize hp : xss.getD k default = p at *
        generalize hq : yss.getD k default = q at *
        have HP := Lib.hid hp
        have HQ := Lib.hid hq
        have HN1 := Lib.hid hn1'
        have HN2 := Lib.hid hn2'
        have hy1 : n1 ≤ 2000000 := by omega
        have hy2 : n2 ≤ 2000000 := by omega
        have HEQ := Lib.hid fun (w' : World) (hB : B ≤ w'.heap.size) (h : IS w' B A1 p) (h' : IS w' B A2 q) => laws_equalInts A1 A2 n1 n2 c1 d1 p q w' B hB HN1.out HN2.out h h' hy1 hy2
        obtain ⟨r, hr⟩ : ∃ r : Bool, r = decide (p = q) := ⟨_, rfl⟩
        rw [← hr] at HEQ
        have HR := Lib.hid hr
        clear hp hq hn1' hn2' hx1 hx2 hr
        go_wp2
        go_still_tail 8, (by kernel_rfl)
        go_wp2_with fail
        refine (HEQ.out wr.drew (Nat.le_trans hB hb.size) HPS.out HQS.out).mono ?_
        rintro e w1 ⟨rfl, hb1⟩
        cases r
        · go_wp2
          go_ret
          refine ⟨ret_b ?_, hb.drew.trans (hb1.mono hb.size)⟩
          have hne : xss.getD k default ≠ yss.getD k default := by
            rw [HP.out, HQ.out]; exact of_decide_eq_false HR.out.symm
          simp [getD_ne xss yss k hne]
        · have he : xss.getD k default = yss.getD k default := by
            rw [HP.out, HQ.out]; exact of_decide_eq_true HR.out.symm
          have hts := take_step xss yss k (by have := HN.out; omega) (by have := HN'.out; omega) HT.out he
          have HTS := Lib.hid hts
          clear he hts
          go_wp2
          go_roundw
          case rel => exact ⟨k + 1, by omega, by go_num, HTS.out, hb.drew.trans (hb1.mono hb.size)⟩
          case measure => simp [intOf]; omega
      · go_wp2
        go_ret
        refine ⟨ret_b ?_, hb⟩
        have hkn : k = n := by omega
        have := take_all_eq xss yss n HN.out (HL.out.trans HN'.out) (by rw [← hkn]; exact HT.out)
        simp [this]
  · have hne : ((n : Int) != (n' : Int)) = true := by simp; omega
    have hf : decide (xss = yss) = false := by
      rw [decide_eq_false_iff_not]; rintro rfl; omega
    rw [hf]
    clear hl hn hn' h h' hf hb1 hb2
    go_enter Tryz.func43, Tryz.ntmps43
    go_wp2
    go_ret
    exact ⟨rfl, Below.refl _ _⟩
set_option maxHeartbeats 1600000 in
theorem laws_equalEager (A E A' E' : Option Addr) (n c en ec c' ec' : Nat) (st : Eg) (w : World) (hn : n = st.vs.length) (he : en = st.rs.length) (h : ES w w.heap.size A E st) (h' : ES w w.heap.size A' E' st) (hb : EB st) :
    Calls Tryz.prog 8 #[.agg #[.slice A n c, .slice E en ec], .agg #[.slice A' n c', .slice E' en ec']] w fun e w' => e = .returned (.bool true) ∧ Below w.heap.size w w' := by
  have H := Lib.hid h
  have H' := Lib.hid h'
  have HI := Lib.hid fun (w' : World) (B : Nat) (hB : B ≤ w'.heap.size) (h : IS w' B A st.vs) (h' : IS w' B A' st.vs) => laws_equalInts A A' n n c c' st.vs st.vs w' B hB hn hn h h' (by have := hb.1; omega) (by have := hb.1; omega)
  have HL := Lib.hid fun (w' : World) (B : Nat) (hB : B ≤ w'.heap.size) (h : SS w' B E st.rs) (h' : SS w' B E' st.rs) => laws_equalLists E E' en en ec ec' st.rs st.rs w' B hB he he h h' hb.2.1 hb.2.1
  rw [show decide (st.vs = st.vs) = true from decide_eq_true rfl] at HI
  rw [show decide (st.rs = st.rs) = true from decide_eq_true rfl] at HL
  clear h h' hn he hb
  go_enter Tryz.func8, Tryz.ntmps8
  go_wp2_with fail
  refine (HI.out _ w.heap.size (by simp; omega) ((H.out.1.alloc (Nat.le_refl _) _).alloc (by simp) _) ((H'.out.1.alloc (Nat.le_refl _) _).alloc (by simp) _)).mono ?_
  rintro e w1 ⟨rfl, hb⟩
  have q1 : w1.cell? ⟨w.heap.size, 1, none⟩ = some (.slice E en ec) := (hb.cell (p := ⟨w.heap.size, 1, none⟩) (by simp; omega)).trans (by go_simp)
  have q2 : w1.cell? ⟨w.heap.size + 1, 1, none⟩ = some (.slice E' en ec') := (hb.cell (p := ⟨w.heap.size + 1, 1, none⟩) (by simp)).trans (by go_simp)
  have HS := Lib.hid (((H.out.2.alloc (Nat.le_refl _) (.cells #[.slice A n c, .slice E en ec] 29)).alloc (by simp) (.cells #[.slice A' n c', .slice E' en ec'] 29)).below hb (by simp; omega))
  have HS' := Lib.hid (((H'.out.2.alloc (Nat.le_refl _) (.cells #[.slice A n c, .slice E en ec] 29)).alloc (by simp) (.cells #[.slice A' n c', .slice E' en ec'] 29)).below hb (by simp; omega))
  have HB1 := Lib.hid ((((Below.refl w.heap.size w).alloc (Nat.le_refl _) (.cells #[.slice A n c, .slice E en ec] 29)).alloc (by simp) (.cells #[.slice A' n c', .slice E' en ec'] 29)).trans (hb.mono (by simp; omega)))
  have hs1 : w.heap.size ≤ w1.heap.size := HB1.out.size
  clear hb
  go_wp2_with fail
  refine (HL.out _ w.heap.size hs1 HS.out HS'.out).mono ?_
  rintro e w2 ⟨rfl, hb⟩
  go_wp2
  go_ret
  exact ⟨rfl, HB1.out.trans (hb.mono hs1)⟩
end Go.Proofs.YtgakgmkonmgblaaGreat

namespace Go.Proofs.YtgakgmkonmgblaaGreat
set_option linter.unusedSimpArgs false
set_option linter.unusedVariables false
open Go.RowKit
def chgF (gs : List Nd) (xs ys : List Int) : List Int := if chgB gs xs ys then diffTo (mean gs xs) (mean gs ys) gs.length else []
theorem nwTo_len (P : Nat → Bool) (k : Nat) : (nwTo P k).length ≤ k := by
  unfold nwTo
  rw [List.length_map]
  have := List.length_filter_le P (List.range k)
  simpa using this
theorem nwTo_diff (a b : List Int) (k : Nat) : nwTo (fun i => !(a.getD i 0 == b.getD i 0)) k = diffTo a b k := rfl
set_option maxRecDepth 100000 in
set_option maxHeartbeats 1600000 in
theorem impl_nodesWhere2 (K : FuncId) (cap cap2 : Value) (P : Nat → Bool) (I : World → Prop) (A : Option Addr) (n c : Nat) (hs : n ≤ 2000000)
    (hI : ∀ w w' : World, I w → Below w.heap.size w w' → I w') (hcf : ∀ (q : Nat) (w : World), (callFunc K #[.int .i64 q, cap, cap2]).run Tryz.prog w = .ok (.enter K #[.int .i64 q, cap, cap2]) w)
    (hP : ∀ (q : Nat) (w : World), q < n → I w → Calls Tryz.prog K #[.int .i64 q, cap, cap2] w fun e w' => e = .returned (.bool (P q)) ∧ Below w.heap.size w w') (w : World) (h : I w) :
    Calls Tryz.prog 54 #[.agg #[.slice A n c], .func (.func K) #[] #[cap, cap2]] w fun e w' => RetI w (nwTo P n) e w' := by
  obtain ⟨i0, hi, hz0, hz1, hz2⟩ := info_parts info_int
  have HI := Lib.hid hI
  have HP := Lib.hid hP
  have H := Lib.hid h
  have HCF := Lib.hid hcf
  clear hI hP h hcf
  go_enter Tryz.func54, Tryz.ntmps54
  go_wp2
  go_loopw [5, 10] (fun v i wr => ∃ k : Nat, k ≤ n ∧ i = .int .i64 k ∧ Hid (OwnI wr (w.heap.size + 1) v (nwTo P k)) ∧ Below (w.heap.size + 1) (w.alloc (.cells #[.slice A n c] 25)) wr) (fun _ i _ => n - (intOf i).toNat)
  case atStart => exact ⟨0, Nat.zero_le _, rfl, World.ownsRow_nil _ _ _ _, Below.refl _ _⟩
  case round =>
    obtain ⟨k, hk, rfl, HO, hbr⟩ := hrel
    have hwr : w.heap.size + 1 ≤ wr.heap.size := by have := hbr.size; simpa using this
    by_cases hlt : k < n
    · have HST := Lib.hid (nwTo_step P k)
      have hdl := nwTo_len P k
      have HIR := Lib.hid (HI.out _ _ H.out (((Below.refl _ _).alloc (Nat.le_refl _) _).trans (hbr.mono (by omega))))
      have HPK := Lib.hid fun (w' : World) (h : I w') => HP.out k w' hlt h
      have hcf := HCF.out k
      generalize nwTo P k = D at *
      generalize P k = p at *
      cases p
      · go_wp2_with fail
        refine (HPK.out _ HIR.out).mono ?_
        rintro e w2 ⟨rfl, hb2⟩
        go_wp2
        go_roundw
        case rel => exact ⟨k + 1, by omega, by go_num, by rw [HST.out]; simpa [OwnI, Hid] using own_below HO.out hb2, hbr.trans (hb2.mono hwr)⟩
        case measure => simp [intOf]; omega
      · go_wp2_with fail
        refine (HPK.out _ HIR.out).mono ?_
        rintro e w2 ⟨rfl, hb2⟩
        have HO2 := Lib.hid (own_below HO.out hb2)
        have hbr2 := hbr.trans (hb2.mono hwr)
        have hw2 : w.heap.size + 1 ≤ w2.heap.size := by have := hb2.size; omega
        clear hcf
        go_wp2_with (at_builtin; refine wpList_append_own _ rfl _ _ 26 rfl (w.heap.size + 1) 3 i0 (.int .i64 0) 1 8 Tryz.underlying26 hi hz0 hz1 hz2 rfl (by decide) _ _ _ rfl (HO2.out.alloc _) ⟨_, 0, none⟩ 1 1 [.int .i64 k] rfl rfl (cell_one_new _ _ _) ?c2 ?c3 ?c4 ?c5 ?_)
        case c2 => first | rfl | (intro u hu; simp at hu; subst hu; rfl)
        case c3 => unfold maxLen; omega
        case c4 => omega
        case c5 => first | omega | (simp; omega)
        intro v' w3 hown' hgrow _
        have hpos := (HO2.out.alloc (.cells #[.int .i64 k] 3)).lt
        have HO' : Hid (OwnI w3 (w.heap.size + 1) v' (nwTo P (k + 1))) := by
          rw [HST.out]
          simpa [OwnI, Hid] using hown'
        have HB' := Lib.hid ((hbr2.alloc hw2 (.cells #[.int .i64 k] 3)).grown hgrow (by first | (simp; omega) | omega) (fun q hq => (hpos q hq).1))
        clear hown' hgrow hpos
        go_wp2
        go_roundw
        case rel => exact ⟨k + 1, by omega, by go_num, HO'.out, HB'.out⟩
        case measure => simp [intOf]; omega
    · obtain rfl : k = n := by omega
      go_wp2
      go_ret
      exact ⟨_, rfl, own_mono HO.out (by omega), ((Below.refl _ _).alloc (Nat.le_refl _) _).trans (hbr.mono (by omega))⟩
set_option maxHeartbeats 800000 in
theorem differ_at (g1 g2 : Nat) (A A' : Option Addr) (n c c' q : Nat) (a b : List Int) (w : World) (hn : n = a.length) (hm : n = b.length) (hq : q < n) (h1 : w.cell? ⟨g1, 0, none⟩ = some (.slice A n c)) (h2 : w.cell? ⟨g2, 0, none⟩ = some (.slice A' n c')) (h : IS w w.heap.size A a) (h' : IS w w.heap.size A' b) :
    Calls Tryz.prog 92 #[.int .i64 q, .pointer (some ⟨g1, 0, none⟩), .pointer (some ⟨g2, 0, none⟩)] w fun e w' => e = .returned (.bool (!(a.getD q 0 == b.getD q 0))) ∧ Below w.heap.size w w' := by
  obtain ⟨b1, off1, rfl, hb1, hc1⟩ := h (by omega)
  obtain ⟨b2, off2, rfl, hb2, hc2⟩ := h' (by omega)
  have e1 := hc1 q (by omega)
  have e2 := hc2 q (by omega)
  generalize a.getD q 0 = x at *
  generalize b.getD q 0 = y at *
  clear hc1 hc2 hn hm h h'
  go_enter Tryz.func92, Tryz.ntmps92
  go_wp2
  go_region
  go_wp2
  go_ret
  exact ⟨ret_b (by simp [bne]), (Below.refl _ _).drew⟩
set_option maxRecDepth 100000 in
set_option maxHeartbeats 3200000 in
theorem top_impl_ChangedBy (gs : List Nd) (xs ys : List Int) (hG : GB gs) (hL : xs.length ≤ 1048576) (hL2 : ys.length ≤ 1048576) : ∀ (A : Option Addr) (n c : Nat) (A1 : Option Addr) (m1 c1 : Nat) (A2 : Option Addr) (m2 c2 : Nat) (w : World), n = gs.length → n ≤ c → GS w w.heap.size A gs → m1 = xs.length → IS w w.heap.size A1 xs → m2 = ys.length → IS w w.heap.size A2 ys →
    Calls Tryz.prog 50 #[.agg #[.slice A n c], .slice A1 m1 c1, .slice A2 m2 c2] w fun e w' => RetI w (chgF gs xs ys) e w' := by
  intro A n c A1 m1 c1 A2 m2 c2 w hn hnc h hx h1 hy h2
  have hm1 : m1 ≤ 2000000 := by omega
  have hm2 : m2 ≤ 2000000 := by omega
  have hn1 : n ≤ 1048576 := by rw [hn]; exact hG.1
  have H := Lib.hid h
  have HX := Lib.hid h1
  have HY := Lib.hid h2
  have HN := Lib.hid hn
  have HDX := Lib.hid fun (w' : World) (hB : w.heap.size ≤ w'.heap.size) (h : GS w' w.heap.size A gs) (h' : IS w' w.heap.size A1 xs) => impl_ValidCells A A1 n c m1 c1 gs xs w' w.heap.size hB hn hnc hx h h' hG hm1
  have HDY := Lib.hid fun (w' : World) (hB : w.heap.size ≤ w'.heap.size) (h : GS w' w.heap.size A gs) (h' : IS w' w.heap.size A2 ys) => impl_ValidCells A A2 n c m2 c2 gs ys w' w.heap.size hB hn hnc hy h h' hG hm2
  have HMX := Lib.hid fun (w' : World) (hB : w.heap.size ≤ w'.heap.size) (h : GS w' w.heap.size A gs) (h' : IS w' w.heap.size A1 xs) => impl_MeaningOf A A1 n c m1 c1 gs xs w' w.heap.size hB hn hnc hx h h' hG hm1
  have HMY := Lib.hid fun (w' : World) (hB : w.heap.size ≤ w'.heap.size) (h : GS w' w.heap.size A gs) (h' : IS w' w.heap.size A2 ys) => impl_MeaningOf A A2 n c m2 c2 gs ys w' w.heap.size hB hn hnc hy h h' hG hm2
  have hml1 := mean_len gs xs
  have hml2 := mean_len gs ys
  have hb12 : chgB gs xs ys = (okC gs xs && okC gs ys) := by unfold chgB okC; cases validG gs <;> cases validC gs xs <;> simp
  have hf : chgF gs xs ys = if okC gs xs && okC gs ys then diffTo (mean gs xs) (mean gs ys) n else [] := by unfold chgF; rw [hb12, hn]
  rw [hf]
  rw [← hn] at hml1 hml2
  have HL1 := Lib.hid hml1
  have HL2 := Lib.hid hml2
  have hmx : meanF gs xs = if okC gs xs then mean gs xs else [] := rfl
  have hmy : meanF gs ys = if okC gs ys then mean gs ys else [] := rfl
  rw [hmx] at HMX
  rw [hmy] at HMY
  clear hf h h1 h2 hn hx hy hG hml1 hml2 hb12 hmx hmy
  generalize okC gs xs = b1 at *
  generalize okC gs ys = b2 at *
  generalize mean gs xs = MX at *
  generalize mean gs ys = MY at *
  cases b1
  · go_enter Tryz.func50, Tryz.ntmps50
    go_wp2_with fail
    refine (HDX.out _ (by simp) (H.out.alloc (Nat.le_refl _) _) (HX.out.alloc (Nat.le_refl _) _)).mono ?_
    rintro e w1 ⟨rfl, hb⟩
    have q1 : w1.cell? ⟨w.heap.size, 0, none⟩ = some (.slice A n c) := (hb.cell (p := ⟨w.heap.size, 0, none⟩) (by simp)).trans (by go_simp)
    have HG1 := Lib.hid ((H.out.alloc (Nat.le_refl _) (.cells #[.slice A n c] 25)).below hb (by simp))
    have HX1 := Lib.hid ((HX.out.alloc (Nat.le_refl _) (.cells #[.slice A n c] 25)).below hb (by simp))
    have HY1 := Lib.hid ((HY.out.alloc (Nat.le_refl _) (.cells #[.slice A n c] 25)).below hb (by simp))
    have hB1 : Below w.heap.size w w1 := ((Below.refl _ _).alloc (Nat.le_refl _) _).trans (hb.mono (by simp))
    have hl1 : w.heap.size < w1.heap.size := by have := hb.size; simp at this; omega
    clear hb
    go_wp2
    go_ret
    exact RetI.nil (hB1)
  · cases b2
    · go_enter Tryz.func50, Tryz.ntmps50
      go_wp2_with fail
      refine (HDX.out _ (by simp) (H.out.alloc (Nat.le_refl _) _) (HX.out.alloc (Nat.le_refl _) _)).mono ?_
      rintro e w1 ⟨rfl, hb⟩
      have q1 : w1.cell? ⟨w.heap.size, 0, none⟩ = some (.slice A n c) := (hb.cell (p := ⟨w.heap.size, 0, none⟩) (by simp)).trans (by go_simp)
      have HG1 := Lib.hid ((H.out.alloc (Nat.le_refl _) (.cells #[.slice A n c] 25)).below hb (by simp))
      have HX1 := Lib.hid ((HX.out.alloc (Nat.le_refl _) (.cells #[.slice A n c] 25)).below hb (by simp))
      have HY1 := Lib.hid ((HY.out.alloc (Nat.le_refl _) (.cells #[.slice A n c] 25)).below hb (by simp))
      have hB1 : Below w.heap.size w w1 := ((Below.refl _ _).alloc (Nat.le_refl _) _).trans (hb.mono (by simp))
      have hl1 : w.heap.size < w1.heap.size := by have := hb.size; simp at this; omega
      clear hb
      go_wp2_with fail
      refine (HDY.out _ hB1.size HG1.out HY1.out).mono ?_
      rintro e w2 ⟨rfl, hb⟩
      have q2 := (hb.cell (p := ⟨w.heap.size, 0, none⟩) hl1).trans q1
      have HG2 := Lib.hid (HG1.out.below hb hB1.size)
      have HX2 := Lib.hid (HX1.out.below hb hB1.size)
      have HY2 := Lib.hid (HY1.out.below hb hB1.size)
      have hB2 := hB1.trans (hb.mono hB1.size)
      have hl2 : w.heap.size < w2.heap.size := Nat.lt_of_lt_of_le hl1 hb.size
      clear hb q1 HG1 HX1 HY1
      go_wp2
      go_ret
      exact RetI.nil (hB2)
    · go_enter Tryz.func50, Tryz.ntmps50
      go_wp2_with fail
      refine (HDX.out _ (by simp) (H.out.alloc (Nat.le_refl _) _) (HX.out.alloc (Nat.le_refl _) _)).mono ?_
      rintro e w1 ⟨rfl, hb⟩
      have q1 : w1.cell? ⟨w.heap.size, 0, none⟩ = some (.slice A n c) := (hb.cell (p := ⟨w.heap.size, 0, none⟩) (by simp)).trans (by go_simp)
      have HG1 := Lib.hid ((H.out.alloc (Nat.le_refl _) (.cells #[.slice A n c] 25)).below hb (by simp))
      have HX1 := Lib.hid ((HX.out.alloc (Nat.le_refl _) (.cells #[.slice A n c] 25)).below hb (by simp))
      have HY1 := Lib.hid ((HY.out.alloc (Nat.le_refl _) (.cells #[.slice A n c] 25)).below hb (by simp))
      have hB1 : Below w.heap.size w w1 := ((Below.refl _ _).alloc (Nat.le_refl _) _).trans (hb.mono (by simp))
      have hl1 : w.heap.size < w1.heap.size := by have := hb.size; simp at this; omega
      clear hb
      go_wp2_with fail
      refine (HDY.out _ hB1.size HG1.out HY1.out).mono ?_
      rintro e w2 ⟨rfl, hb⟩
      have q2 := (hb.cell (p := ⟨w.heap.size, 0, none⟩) hl1).trans q1
      have HG2 := Lib.hid (HG1.out.below hb hB1.size)
      have HX2 := Lib.hid (HX1.out.below hb hB1.size)
      have HY2 := Lib.hid (HY1.out.below hb hB1.size)
      have hB2 := hB1.trans (hb.mono hB1.size)
      have hl2 : w.heap.size < w2.heap.size := Nat.lt_of_lt_of_le hl1 hb.size
      clear hb q1 HG1 HX1 HY1
      go_wp2_with fail
      refine (HMX.out _ hB2.size HG2.out HX2.out).mono ?_
      rintro e w3 ⟨v3, rfl, ho, hb⟩
      obtain ⟨A3, c3, rfl, hI3⟩ := OwnI.at_ ho HL1.out
      have q3 := (hb.cell (p := ⟨w.heap.size, 0, none⟩) hl2).trans q2
      have HI3 := Lib.hid ((hI3.alloc (Nat.le_refl _) (.cells #[.slice A3 n c3] 26)))
      have HG3 := Lib.hid ((HG2.out.below hb hB2.size).alloc (Nat.le_trans hB2.size hb.size) (.cells #[.slice A3 n c3] 26))
      have HY3 := Lib.hid ((HY2.out.below hb hB2.size).alloc (Nat.le_trans hB2.size hb.size) (.cells #[.slice A3 n c3] 26))
      have hB3 := (hB2.trans (hb.mono hB2.size))
      have hl3 : w.heap.size < w3.heap.size := Nat.lt_of_lt_of_le hl2 hb.size
      clear hb q2 HG2 HX2 HY2 ho hI3
      go_wp2_with fail
      refine (HMY.out _ (by simp; omega) HG3.out HY3.out).mono ?_
      rintro e w4 ⟨v4, rfl, ho, hb⟩
      obtain ⟨A4, c4, rfl, hI4⟩ := OwnI.at_ ho HL2.out
      have hl4 : w3.heap.size + 1 ≤ w4.heap.size := by have := hb.size; simpa using this
      have q4 := (hb.cell (p := ⟨w.heap.size, 0, none⟩) (by simp; omega)).trans ((World.cell?_alloc_lt _ _ ⟨w.heap.size, 0, none⟩ hl3).trans q3)
      have p4 : w4.cell? ⟨w3.heap.size, 0, none⟩ = some (.slice A3 n c3) := (hb.cell (p := ⟨w3.heap.size, 0, none⟩) (by simp)).trans (by go_simp)
      have HI4 := Lib.hid (((HI3.out.below hb (by simp)).more (B' := w4.heap.size) (by omega)).alloc (Nat.le_refl _) (.cells #[.slice A4 n c4] 26))
      have HJ4 := Lib.hid (hI4.alloc (Nat.le_refl _) (.cells #[.slice A4 n c4] 26))
      have hB4 := ((hB3.alloc hB3.size (.cells #[.slice A3 n c3] 26)).trans (hb.mono (by simp; omega)))
      have hB5 := Lib.hid (hB4.alloc hB4.size (.cells #[.slice A4 n c4] 26))
      clear hb ho hI4 q3 HG3 HY3 HI3
      have HNW := Lib.hid (impl_nodesWhere2 92 (.pointer (some ⟨w3.heap.size, 0, none⟩)) (.pointer (some ⟨w4.heap.size, 0, none⟩)) (fun i => !(MX.getD i 0 == MY.getD i 0))
        (fun w' => w4.heap.size < w'.heap.size ∧ w'.cell? ⟨w3.heap.size, 0, none⟩ = some (.slice A3 n c3) ∧ w'.cell? ⟨w4.heap.size, 0, none⟩ = some (.slice A4 n c4) ∧ IS w' w'.heap.size A3 MX ∧ IS w' w'.heap.size A4 MY) A n c (by omega)
        (fun wa wb h hb => ⟨Nat.lt_of_lt_of_le h.1 hb.size, (hb.cell (p := ⟨w3.heap.size, 0, none⟩) (by have := h.1; show w3.heap.size < wa.heap.size; omega)).trans h.2.1, (hb.cell (p := ⟨w4.heap.size, 0, none⟩) h.1).trans h.2.2.1, h.2.2.2.1.step hb, h.2.2.2.2.step hb⟩)
        (fun q w => by kernel_rfl)
        (fun q wa hq h => differ_at w3.heap.size w4.heap.size A3 A4 n c3 c4 q MX MY wa HL1.out.symm HL2.out.symm hq h.2.1 h.2.2.1 h.2.2.2.1 h.2.2.2.2)
        (w4.alloc (.cells #[.slice A4 n c4] 26)) ⟨by simp, (World.cell?_alloc_lt _ _ ⟨w3.heap.size, 0, none⟩ (by show w3.heap.size < w4.heap.size; omega)).trans p4, by go_simp, HI4.out.more (by simp), HJ4.out.more (by simp)⟩)
      rw [nwTo_diff] at HNW
      have hlt4 : w.heap.size < w4.heap.size := by omega
      go_wp2_with fail
      refine HNW.out.mono ?_
      rintro e w6 ⟨v, rfl, ho, hb⟩
      go_wp2
      go_ret
      exact ⟨v, by simp, own_mono ho hB5.out.size, hB5.out.trans (hb.mono hB5.out.size)⟩
end Go.Proofs.YtgakgmkonmgblaaGreat

namespace Go.Proofs.YtgakgmkonmgblaaGreat
set_option linter.unusedSimpArgs false
set_option linter.unusedVariables false
open Go.RowKit
set_option maxRecDepth 100000 in
set_option maxHeartbeats 1600000 in
theorem top_impl_CellsOf (gs : List Nd) (st : Eg) (hG : GB gs) (hE : EB st) : ∀ (A : Option Addr) (n c : Nat) (A' : Option Addr) (m c' : Nat) (E : Option Addr) (p ec : Nat) (w : World), n = gs.length → n ≤ c → GS w w.heap.size A gs → m = st.vs.length → p = st.rs.length → ES w w.heap.size A' E st →
    Calls Tryz.prog 11 #[.agg #[.slice A n c], .agg #[.slice A' m c', .slice E p ec]] w fun e w' => RetI w (cellsF gs st) e w' := by
  intro A n c A' m c' E p ec w hn hnc h hm hp h'
  have HC := Lib.hid fun (w' : World) (hB : w.heap.size ≤ w'.heap.size) (h : GS w' w.heap.size A gs) (h' : ES w' w.heap.size A' E st) => impl_ValidEager A A' E n c m c' p ec gs st w' w.heap.size hB hn hnc hm hp h h' hG hE
  have HG0 := Lib.hid ((h.alloc (Nat.le_refl _) (.cells #[.slice A n c] 25)).alloc (by simp) (.cells #[.slice A' m c', .slice E p ec] 29))
  have HE0 := Lib.hid ((h'.alloc (Nat.le_refl _) (.cells #[.slice A n c] 25)).alloc (by simp) (.cells #[.slice A' m c', .slice E p ec] 29))
  have hce : cellsF gs st = if validE gs st then celTo gs st.vs gs.length else [] := rfl
  rw [← hn] at hce
  rw [hce]
  cases hv : validE gs st
  · rw [hv] at HC
    clear hce hv h h' hn hm hp hG hE
    simp only [Bool.false_eq_true, if_false]
    go_enter Tryz.func11, Tryz.ntmps11
    go_wp2_with fail
    refine (HC.out _ (by simp; omega) HG0.out HE0.out).mono ?_
    rintro e w1 ⟨rfl, hb⟩
    go_wp2
    go_ret
    exact RetI.nil ((((Below.refl _ _).alloc (Nat.le_refl _) _).alloc (by simp) _).trans (hb.mono (by simp; omega)))
  rw [hv] at HC
  have hmn : m = n := by have := (validE_parts gs st hv).2.1; omega
  have hn10 : n ≤ 10 := by rw [hn]; exact (validG_parts gs (validE_parts gs st hv).1).1
  have hm1 : m ≤ 2000000 := by omega
  have HN := Lib.hid hn
  have HM := Lib.hid hm
  have HMN := Lib.hid hmn
  have HCP := Lib.hid fun (w' : World) (B : Nat) (hB : B ≤ w'.heap.size) (h : IS w' B A' st.vs) => impl_copyOf A' m c' st.vs w' B hB hm h hm1
  clear hce hv h h' hn hm hp hG hE hmn
  simp only [if_true]
  go_enter Tryz.func11, Tryz.ntmps11
  go_wp2_with fail
  refine (HC.out _ (by simp; omega) HG0.out HE0.out).mono ?_
  rintro e w1 ⟨rfl, hb⟩
  have q0 : w1.cell? ⟨w.heap.size, 0, none⟩ = some (.slice A n c) := (hb.cell (p := ⟨w.heap.size, 0, none⟩) (by simp; omega)).trans (by go_simp)
  have q1 : w1.cell? ⟨w.heap.size + 1, 0, none⟩ = some (.slice A' m c') := (hb.cell (p := ⟨w.heap.size + 1, 0, none⟩) (by simp)).trans (by go_simp)
  have hB1 : Below w.heap.size w w1 := (((Below.refl _ _).alloc (Nat.le_refl _) _).alloc (by simp) _).trans (hb.mono (by simp; omega))
  have hl1 : w.heap.size + 2 ≤ w1.heap.size := by have := hb.size; simp at this; omega
  have HG1 := Lib.hid (HG0.out.below hb (by simp; omega))
  have HE1 := Lib.hid (HE0.out.below hb (by simp; omega))
  clear hb HC HG0 HE0
  go_wp2_with fail
  refine (HCP.out _ w.heap.size (by omega) HE1.out.1).mono ?_
  rintro e w2 ⟨rfl, hown2, hb2⟩
  have q2 := (hb2.cell (p := ⟨w.heap.size, 0, none⟩) (by show w.heap.size < w1.heap.size; omega)).trans q0
  have HG2 := Lib.hid (HG1.out.below hb2 hB1.size)
  have HO2 := Lib.hid hown2
  have hgl := (hown2.lt _ rfl).2
  have hB2 := hB1.trans (hb2.mono hB1.size)
  clear hown2 hb2 q0 q1 HG1 HE1 hB1
  go_wp2
  go_loopw [18] (fun u wr => ∃ k : Nat, k ≤ n ∧ u = .int .i64 k ∧ Hid (wr.ownsRow w1.heap.size 3 1 (.slice (some ⟨w1.heap.size, 0, none⟩) m m) m ((celTo gs st.vs k).map (Value.int .i64))) ∧ Hid (Below w1.heap.size w2 wr) ∧ w2.heap.size ≤ wr.heap.size) (fun u _ => n - (intOf u).toNat)
  case atStart => exact ⟨0, Nat.zero_le _, rfl, HO2.out, Below.refl _ _, Nat.le_refl _⟩
  case round =>
    obtain ⟨k, hk, rfl, HO, HB, hwr⟩ := hrel
    by_cases hlt : k < n
    · have hkm : k < m := by have := HMN.out; omega
      obtain ⟨b, off, hA, hbB, c0, A1, n1, c1, c2, hzz⟩ := HG2.out.at_ k (by have := HN.out; omega)
      have e0 := (HB.out.cell (p := ⟨b, off + k * 2, none⟩) (by show b < w1.heap.size; omega)).trans c0
      have e1 := (HB.out.cell (p := ⟨b, off + k * 2 + 1, none⟩) (by show b < w1.heap.size; omega)).trans c2
      have HST := Lib.hid (celTo_succ gs st.vs k)
      have HO' := Lib.hid (HO.out.alloc (.cells #[.int .i64 (gs.getD k default).k, .slice A1 n1 c1] 80))
      have u0 := HO'.out.cellAt k (by omega)
      rw [List.getElem?_eq_getElem (by rw [List.length_map, celTo_len]; have := HM.out; omega)] at u0
      have f0 := HO'.out.frozenAt k
      have hst := HO'.out.stored k (.int .i64 0)
      have ho := hst.1
      rw [← List.map_set] at ho
      have HOS := Lib.hid ho
      generalize ((celTo gs st.vs k).map (Value.int .i64))[k]'_ = vv at u0
      generalize gs.getD k default = d at *
      clear c0 c2 hst ho hzz
      subst hA
      cases hd : (d.k == 0)
      · have hd' : (d.k != 0) = true := by simp [bne, hd]
        rw [hd] at HST
        clear hd
        go_wp2
        go_roundw
        case rel => exact ⟨k + 1, by omega, by go_num, by rw [HST.out]; exact HOS.out, (HB.out.alloc (by omega) _).setCell (Nat.le_refl _) _, by simp [World.setCell]; omega⟩
        case measure => simp [intOf]; omega
      · have hd' : (d.k != 0) = false := by simp [bne, hd]
        rw [hd] at HST
        clear hd
        go_wp2
        go_roundw
        case rel => exact ⟨k + 1, by omega, by go_num, by rw [HST.out]; exact HO'.out, HB.out.alloc (by omega) _, by simp; omega⟩
        case measure => simp [intOf]; omega
    · obtain rfl : k = n := by omega
      go_wp2
      go_ret
      refine ⟨_, rfl, ?_, hB2.trans (HB.out.mono (by omega))⟩
      have := HO.out
      unfold OwnI
      rw [celTo_len, ← HM.out]
      exact own_mono this (by omega)
end Go.Proofs.YtgakgmkonmgblaaGreat

namespace Go.Proofs.YtgakgmkonmgblaaGreat
set_option linter.unusedSimpArgs false
set_option linter.unusedVariables false
open Go.RowKit
set_option maxRecDepth 100000 in
set_option maxHeartbeats 1600000 in
theorem impl_nodesWhere1 (K : FuncId) (cap : Value) (P : Nat → Bool) (I : World → Prop) (A : Option Addr) (n c : Nat) (hs : n ≤ 2000000)
    (hI : ∀ w w' : World, I w → Below w.heap.size w w' → I w') (hcf : ∀ (q : Nat) (w : World), (callFunc K #[.int .i64 q, cap]).run Tryz.prog w = .ok (.enter K #[.int .i64 q, cap]) w)
    (hP : ∀ (q : Nat) (w : World), q < n → I w → Calls Tryz.prog K #[.int .i64 q, cap] w fun e w' => e = .returned (.bool (P q)) ∧ Below w.heap.size w w') (w : World) (h : I w) :
    Calls Tryz.prog 54 #[.agg #[.slice A n c], .func (.func K) #[] #[cap]] w fun e w' => RetI w (nwTo P n) e w' := by
  obtain ⟨i0, hi, hz0, hz1, hz2⟩ := info_parts info_int
  have HI := Lib.hid hI
  have HP := Lib.hid hP
  have H := Lib.hid h
  have HCF := Lib.hid hcf
  clear hI hP h hcf
  go_enter Tryz.func54, Tryz.ntmps54
  go_wp2
  go_loopw [5, 10] (fun v i wr => ∃ k : Nat, k ≤ n ∧ i = .int .i64 k ∧ Hid (OwnI wr (w.heap.size + 1) v (nwTo P k)) ∧ Below (w.heap.size + 1) (w.alloc (.cells #[.slice A n c] 25)) wr) (fun _ i _ => n - (intOf i).toNat)
  case atStart => exact ⟨0, Nat.zero_le _, rfl, World.ownsRow_nil _ _ _ _, Below.refl _ _⟩
  case round =>
    obtain ⟨k, hk, rfl, HO, hbr⟩ := hrel
    have hwr : w.heap.size + 1 ≤ wr.heap.size := by have := hbr.size; simpa using this
    by_cases hlt : k < n
    · have HST := Lib.hid (nwTo_step P k)
      have hdl := nwTo_len P k
      have HIR := Lib.hid (HI.out _ _ H.out (((Below.refl _ _).alloc (Nat.le_refl _) _).trans (hbr.mono (by omega))))
      have HPK := Lib.hid fun (w' : World) (h : I w') => HP.out k w' hlt h
      have hcf := HCF.out k
      generalize nwTo P k = D at *
      generalize P k = p at *
      cases p
      · go_wp2_with fail
        refine (HPK.out _ HIR.out).mono ?_
        rintro e w2 ⟨rfl, hb2⟩
        go_wp2
        go_roundw
        case rel => exact ⟨k + 1, by omega, by go_num, by rw [HST.out]; simpa [OwnI, Hid] using own_below HO.out hb2, hbr.trans (hb2.mono hwr)⟩
        case measure => simp [intOf]; omega
      · go_wp2_with fail
        refine (HPK.out _ HIR.out).mono ?_
        rintro e w2 ⟨rfl, hb2⟩
        have HO2 := Lib.hid (own_below HO.out hb2)
        have hbr2 := hbr.trans (hb2.mono hwr)
        have hw2 : w.heap.size + 1 ≤ w2.heap.size := by have := hb2.size; omega
        clear hcf
        go_wp2_with (at_builtin; refine wpList_append_own _ rfl _ _ 26 rfl (w.heap.size + 1) 3 i0 (.int .i64 0) 1 8 Tryz.underlying26 hi hz0 hz1 hz2 rfl (by decide) _ _ _ rfl (HO2.out.alloc _) ⟨_, 0, none⟩ 1 1 [.int .i64 k] rfl rfl (cell_one_new _ _ _) ?c2 ?c3 ?c4 ?c5 ?_)
        case c2 => first | rfl | (intro u hu; simp at hu; subst hu; rfl)
        case c3 => unfold maxLen; omega
        case c4 => omega
        case c5 => first | omega | (simp; omega)
        intro v' w3 hown' hgrow _
        have hpos := (HO2.out.alloc (.cells #[.int .i64 k] 3)).lt
        have HO' : Hid (OwnI w3 (w.heap.size + 1) v' (nwTo P (k + 1))) := by
          rw [HST.out]
          simpa [OwnI, Hid] using hown'
        have HB' := Lib.hid ((hbr2.alloc hw2 (.cells #[.int .i64 k] 3)).grown hgrow (by first | (simp; omega) | omega) (fun q hq => (hpos q hq).1))
        clear hown' hgrow hpos
        go_wp2
        go_roundw
        case rel => exact ⟨k + 1, by omega, by go_num, HO'.out, HB'.out⟩
        case measure => simp [intOf]; omega
    · obtain rfl : k = n := by omega
      go_wp2
      go_ret
      exact ⟨_, rfl, own_mono HO.out (by omega), ((Below.refl _ _).alloc (Nat.le_refl _) _).trans (hbr.mono (by omega))⟩
end Go.Proofs.YtgakgmkonmgblaaGreat

namespace Go.Proofs.YtgakgmkonmgblaaGreat
set_option linter.unusedSimpArgs false
set_option linter.unusedVariables false
/-- A node that is another one reads one that is. -/
theorem must_changed (gs : List Nd) (xs ys : List Int) (hx : okC gs xs = true) (hy : okC gs ys = true) (i : Nat) (hi : i < gs.length) (hk : ((gs.getD i default).k == 0) = false)
    (hm : (i : Int) ∈ diffTo (mean gs xs) (mean gs ys) gs.length) : meetB (depF gs (mean gs xs) i) (diffTo (mean gs xs) (mean gs ys) gs.length) = true := by
  have hne := diffTo_iff _ _ _ _ hm
  apply Classical.byContradiction
  intro hc
  apply hne
  rw [mean_at gs xs i hi, mean_at gs ys i hi, hk]
  simp only [Bool.false_eq_true, if_false]
  have hg := (okC_parts gs xs hx).1
  have hv := (nodeOK_formula gs i ((validG_parts gs hg).2 i hi) hk).1
  have hok := whole_ok _ i hv (each_ahead gs i i hg hi hk (Nat.le_refl _))
  have hall := rds_lt (whole (gs.getD i default).ps) (meanTo gs xs i) i hok
  have e1 := ev_agree (whole (gs.getD i default).ps) (meanTo gs xs i) (mean gs xs) i hok fun x hx => by
    obtain ⟨q, hq, rfl⟩ := hall x hx
    exact meanTo_getD gs xs i gs.length q (by omega) hq
  refine (ev_agree (whole (gs.getD i default).ps) (meanTo gs xs i) (meanTo gs ys i) i hok fun x hx => ?_).1.symm
  obtain ⟨q, hq, rfl⟩ := hall x hx
  have hdx : (q : Int) ∈ depF gs (mean gs xs) i := by
    unfold depF
    rw [hk]
    simp only [Bool.false_eq_true, if_false]
    rw [firsts_mem, e1.2]
    exact hx
  have hnc : (q : Int) ∉ diffTo (mean gs xs) (mean gs ys) gs.length := fun hin => hc (List.any_eq_true.2 ⟨_, hdx, decide_eq_true hin⟩)
  have := diffTo_mem _ _ _ q (by omega) hnc
  rw [Int.toNat_natCast]
  rw [← meanTo_getD gs xs i gs.length q (by omega) hq, ← meanTo_getD gs ys i gs.length q (by omega) hq]
  exact this.symm
/-- The same, as the program asks it. -/
theorem must_same (gs : List Nd) (xs ys : List Int) (hx : okC gs xs = true) (hy : okC gs ys = true) (i : Nat) (hi : i < gs.length) :
    (!((gs.getD i default).k == 0) && (decide ((i : Int) ∈ diffTo (mean gs xs) (mean gs ys) gs.length) || meetB (depF gs (mean gs xs) i) (diffTo (mean gs xs) (mean gs ys) gs.length))) = mustP gs (mean gs xs) (diffTo (mean gs xs) (mean gs ys) gs.length) i := by
  unfold mustP
  cases hk : ((gs.getD i default).k == 0)
  · cases hd : decide ((i : Int) ∈ diffTo (mean gs xs) (mean gs ys) gs.length)
    · simp
    · rw [must_changed gs xs ys hx hy i hi hk (of_decide_eq_true hd)]; rfl
  · rfl
end Go.Proofs.YtgakgmkonmgblaaGreat

namespace Go.Proofs.YtgakgmkonmgblaaGreat
set_option linter.unusedSimpArgs false
set_option linter.unusedVariables false
open Go.RowKit Go.Maps
/-- A pointer to a whole block, or nil. -/
def ptrV : Option Nat → Value
  | none => .pointer none
  | some g => .pointer (some ⟨g, 0, none⟩)
/-- What a pointer to a whole block reads as. -/
def ptrR (v : Value) : Option (DataW Unit × List MemPlace) :=
  match v with
  | .pointer none => some (.lit (.int .i64 (-1)), [])
  | .pointer (some ⟨b, 0, none⟩) => some (.lit (.int .i64 b), [])
  | _ => none
def ptrD : Option Nat → DataW Unit
  | none => .lit (.int .i64 (-1))
  | some g => .lit (.int .i64 (g : Int))
theorem ptrR_of (o : Option Nat) : ptrR (ptrV o) = some (ptrD o, []) := by cases o <;> rfl
theorem ptrR_inv {v : Value} {o : Option Nat} {ps : List MemPlace} (h : ptrR v = some (ptrD o, ps)) : v = ptrV o := by
  unfold ptrR at h
  split at h
  · cases o with
    | none => rfl
    | some g => simp [ptrD] at h
  · rename_i b
    cases o with
    | none => simp [ptrD] at h
    | some g =>
      simp [ptrD] at h
      have : b = g := by omega
      subst this; rfl
  · cases h
/-- Block b is a map from numbers to pointers: number k leads to block f k. -/
def MpI (w : World) (b n : Nat) (f : Nat → Option Nat) : Prop := ∃ D : DataW Unit, w.ownsMap Tryz.prog 3 ptrR b n D ∧ IsMap D ∧ ∀ k : Nat, k ≤ 1000 → D.atKey (.int .i64 k) (ptrD none) = ptrD (f k)
theorem int_law : Keyed Tryz.prog 3 := int_keyed Tryz.underlying3
theorem MpI.made (w : World) : MpI (w.alloc (.map #[] 0)) w.heap.size 0 (fun _ => none) :=
  ⟨.map [], World.ownsMap_made _ _ _ _, ⟨[], rfl⟩, fun k _ => rfl⟩
theorem MpI.lt {w : World} {b n : Nat} {f : Nat → Option Nat} (h : MpI w b n f) : b < w.heap.size := by obtain ⟨D, h, _⟩ := h; exact h.lt
theorem MpI.keep {w w' : World} {b n : Nat} {f : Nat → Option Nat} (h : MpI w b n f) (e : w'.heap[b]? = w.heap[b]?) : MpI w' b n f := by
  obtain ⟨D, ⟨es, cl, h1, h2⟩, h3⟩ := h
  exact ⟨D, ⟨es, cl, e.trans h1, h2⟩, h3⟩
theorem MpI.step {w w' : World} {b n : Nat} {f : Nat → Option Nat} (h : MpI w b n f) (hb : Below w.heap.size w w') : MpI w' b n f := h.keep (hb.block b h.lt)
theorem MpI.alloc {w : World} {b n : Nat} {f : Nat → Option Nat} (h : MpI w b n f) (o : Obj) : MpI (w.alloc o) b n f := h.keep (Below.heap_alloc _ _ _ h.lt)
theorem MpI.grown {w w' : World} {b n : Nat} {f : Nat → Option Nat} {row : Option Nat} (h : MpI w b n f) (hg : w.grownBy w' row) (hne : some b ≠ row) : MpI w' b n f := h.keep (hg.block b h.lt hne)
theorem MpI.setCell {w : World} {b n : Nat} {f : Nat → Option Nat} (h : MpI w b n f) (a : Addr) (ha : b ≠ a.block) (u : Value) : MpI (w.setCell a u) b n f := h.keep (Below.heap_setCell _ _ _ _ ha)
theorem zero_link (w : World) : (zeroValue 112).run Tryz.prog w = .ok (.pointer none) w := by kernel_rfl
theorem key_nat (k : Nat) (hk : k ≤ 1000) : keyOf Tryz.prog 3 (.int .i64 k) = some (.int .i64 k) := keyOf_int_mk Tryz.underlying3 (WalkArith.wf_i64 (by omega))
/-- The look-up of a number. -/
theorem MpI.look {w : World} {b n : Nat} {f : Nat → Option Nat} (h : MpI w b n f) (k : Nat) (hk : k ≤ 1000) : (Instr.lookup 109 (.map (some b)) (.int .i64 k) false).run Tryz.prog w = .ok (ptrV (f k)) w := by
  obtain ⟨D, hD, hm, hat⟩ := h
  obtain ⟨v, ps, hrun, hv⟩ := hD.lookup int_law Tryz.underlying109 (zero_link w) (ptrR_of none) (key_nat k hk)
  rw [hat k hk] at hv
  rw [hrun, ptrR_inv hv]
/-- A store, at the operation. -/
theorem wpList_store_ptr (w : World) {ops : Array Oper} {rest : List Oper} {o : Oper} {a : Act} {Q : Exit → Act → World → Prop}
    (hg : o.guard = none) (m x v : Operand) (hop : o.op = Op.mapUpdate 109 m x v)
    (b n : Nat) (f : Nat → Option Nat) (hm : a.eval m = .map (some b)) (hown : MpI w b n f) (hn : n < maxLen) (k g : Nat) (hk : k ≤ 1000) (hx : a.eval x = .int .i64 k) (hv : a.eval v = .pointer (some ⟨g, 0, none⟩))
    (hK : ∀ w', MpI w' b (n + 1) (fun j => if j = k then some g else f j) → w.grownBy w' (some b) → wpList Tryz.prog ops Q rest (a.put o.dst undef) w') :
    wpList Tryz.prog ops Q (o :: rest) a w := by
  obtain ⟨D, hD, hi, hat⟩ := hown
  refine wpList_mapUpdate_own w hg m x v _ hop 3 112 int_law Tryz.underlying109 ptrR b n D hm hD hn _ _ _ hx hv (key_nat k hk) (ptrD (some g)) [] (ptrR_of (some g)) fun w' h1 h2 => ?_
  refine hK w' ⟨_, h1, hi.put _ _, fun j hj => ?_⟩ h2
  dsimp only
  by_cases e : j = k
  · subst e
    rw [if_pos rfl]
    exact atKey_put_same hi (int_law.key (key_nat j hj)) _ _
  · rw [if_neg e, atKey_put_other (by simp; omega)]
    exact hat j hj
theorem link_ne_ptr : (112 : TypeId) ≠ 115 := by decide
theorem info_link : (Tryz.prog.info? 112).map (fun i => (i.zero, i.size, i.bytes)) = some (some (.pointer none), 1, 8) := by kernel_rfl
/-- The rows vs lie in blocks of their own and have contents cont. -/
structure SSp (lo hi : Nat) (vs : List Value) (lens : Nat → Nat) (cont : Nat → List Value) (w : World) : Prop where
  row : ∀ j, j < vs.length → ∃ A m c, vs[j]? = some (.slice A m c) ∧ m = lens j ∧ OwR lo hi 112 1 (.slice A m c) m (cont j) w
  apart : ∀ (i j : Nat) (v u : Value) (k : Nat), i ≠ j → vs[i]? = some v → vs[j]? = some u → v.ownBlock = some k → u.ownBlock ≠ some k
theorem SSp.keep {lo hi : Nat} {vs : List Value} {lens : Nat → Nat} {cont : Nat → List Value} {w w' : World} (h : SSp lo hi vs lens cont w) (hk : ∀ k, lo ≤ k → k < hi → w'.heap[k]? = w.heap[k]?) : SSp lo hi vs lens cont w' :=
  ⟨fun j hj => by obtain ⟨A, m, c, h1, h2, h3⟩ := h.row j hj; exact ⟨A, m, c, h1, h2, h3.keep hk⟩, h.apart⟩
theorem SSp.mono {lo hi lo' hi' : Nat} {vs : List Value} {lens : Nat → Nat} {cont : Nat → List Value} {w : World} (h : SSp lo hi vs lens cont w) (h1 : lo' ≤ lo) (h2 : hi ≤ hi') : SSp lo' hi' vs lens cont w :=
  ⟨fun j hj => by obtain ⟨A, m, c, e1, e2, e3⟩ := h.row j hj; exact ⟨A, m, c, e1, e2, e3.mono h1 h2⟩, h.apart⟩
/-- A row of another kind was written to. -/
theorem SSp.grown {lo hi : Nat} {vs : List Value} {lens : Nat → Nat} {cont : Nat → List Value} {w w' : World} {row : Option Nat} (h : SSp lo hi vs lens cont w) (hg : w.grownBy w' row) (hr : ∀ (j : Nat) (v : Value), vs[j]? = some v → v.ownBlock = none ∨ v.ownBlock ≠ row) : SSp lo hi vs lens cont w' :=
  ⟨fun j hj => by obtain ⟨A, m, c, h1, h2, h3⟩ := h.row j hj; exact ⟨A, m, c, h1, h2, h3.1.kept hg (hr j _ h1), h3.2⟩, h.apart⟩
theorem SSp.ne {lo hi lo' : Nat} {vs : List Value} {lens : Nat → Nat} {cont : Nat → List Value} {w : World} {e : TypeId} {size n : Nat} {u : Value} {xs : List Value} (h : SSp lo hi vs lens cont w) (hu : w.ownsRow lo' e size u n xs) (he : (112 : TypeId) ≠ e) : ∀ (j : Nat) (v : Value), vs[j]? = some v → v.ownBlock = none ∨ v.ownBlock ≠ u.ownBlock := by
  intro j v hv
  have hj : j < vs.length := by
    rcases Nat.lt_or_ge j vs.length with h1 | h1
    · exact h1
    · rw [List.getElem?_eq_none h1] at hv; cases hv
  obtain ⟨A, m, c, h1, h2, h3⟩ := h.row j hj
  rw [h1] at hv
  cases hv
  exact blocks_ne h3.1 hu he
theorem SSp.lt {lo hi : Nat} {vs : List Value} {lens : Nat → Nat} {cont : Nat → List Value} {w : World} (h : SSp lo hi vs lens cont w) : ∀ (j : Nat) (v : Value) (k : Nat), vs[j]? = some v → v.ownBlock = some k → lo ≤ k ∧ k < hi := by
  intro j v k hv hk
  have hj : j < vs.length := by
    rcases Nat.lt_or_ge j vs.length with h1 | h1
    · exact h1
    · rw [List.getElem?_eq_none h1] at hv; cases hv
  obtain ⟨A, m, c, h1, h2, h3⟩ := h.row j hj
  rw [h1] at hv
  cases hv
  exact ⟨(h3.1.lt k hk).1, h3.2 k hk⟩
/-- One row more, or another one in its place: it lies in new blocks. -/
theorem SSp.put {lo hi hi' : Nat} {vs vs' : List Value} {lens lens' : Nat → Nat} {cont cont' : Nat → List Value} {w : World} {A : Option Addr} {m c : Nat} (h : SSp lo hi vs lens cont w) (k : Nat) (hk : vs'[k]? = some (.slice A m c)) (hl : ∀ j, j ≠ k → vs'[j]? = vs[j]?)
    (hlen : ∀ j, j < vs'.length → j ≠ k → j < vs.length) (hm : m = lens' k) (hc : ∀ j, j ≠ k → lens' j = lens j ∧ cont' j = cont j) (hr : OwR hi hi' 112 1 (.slice A m c) m (cont' k) w) (h1 : lo ≤ hi) (h2 : hi ≤ hi') : SSp lo hi' vs' lens' cont' w := by
  refine ⟨fun j hj => ?_, fun i j v u q hij hi' hj' hv hu => ?_⟩
  · by_cases e : j = k
    · subst e
      exact ⟨A, m, c, hk, hm, hr.mono h1 (Nat.le_refl _)⟩
    · obtain ⟨A', m', c', e1, e2, e3⟩ := h.row j (hlen j hj e)
      obtain ⟨e4, e5⟩ := hc j e
      exact ⟨A', m', c', by rw [hl j e]; exact e1, by rw [e4]; exact e2, by rw [e5]; exact e3.mono (Nat.le_refl _) h2⟩
  · by_cases e : i = k
    · subst e
      rw [hk] at hi'
      cases hi'
      have a1 := (hr.1.lt q hv).1
      rw [hl j (fun e => hij e.symm)] at hj'
      have a2 := (h.lt j u q hj' hu).2
      omega
    · by_cases e' : j = k
      · subst e'
        rw [hk] at hj'
        cases hj'
        have a1 := (hr.1.lt q hu).1
        rw [hl i e] at hi'
        have a2 := (h.lt i v q hi' hv).2
        omega
      · rw [hl i e] at hi'
        rw [hl j e'] at hj'
        exact h.apart i j v u q hij hi' hj' hv hu
theorem SSp.grow {lo hi J m' c' : Nat} {vs : List Value} {lens lens' : Nat → Nat} {cont cont' : Nat → List Value} {w w' : World} {X : Value} {A' : Option Addr} {ys : List Value} (h : SSp lo hi vs lens cont w) (hle : hi ≤ w.heap.size) (hJ : vs[J]? = some X) (hg : w.grownBy w' X.ownBlock)
    (hv : w'.ownsRow lo 112 1 (.slice A' m' c') m' ys) (hb : (Value.slice A' m' c').ownBlock = X.ownBlock ∨ (Value.slice A' m' c').ownBlock = some w.heap.size) (hl : lens' J = m') (hc : cont' J = ys) (ho : ∀ j, j ≠ J → lens' j = lens j ∧ cont' j = cont j) : SSp lo w'.heap.size (vs.set J (.slice A' m' c')) lens' cont' w' := by
  have hJl : J < vs.length := by
    rcases Nat.lt_or_ge J vs.length with h1 | h1
    · exact h1
    · rw [List.getElem?_eq_none h1] at hJ; cases hJ
  have hw := hg.size
  have hother (j : Nat) (hj : j ≠ J) (u : Value) (hu : vs[j]? = some u) (q : Nat) (hq : u.ownBlock = some q) : q < w.heap.size ∧ X.ownBlock ≠ some q := by
    refine ⟨by have := (h.lt j u q hu hq).2; omega, fun hx => ?_⟩
    exact h.apart j J u X q hj hu hJ hq hx
  refine ⟨fun j hj => ?_, fun i j v u q hij hi hj hvq huq => ?_⟩
  · by_cases e : j = J
    · subst e
      exact ⟨A', m', c', by rw [List.getElem?_set, if_pos rfl, if_pos hJl], hl.symm, by rw [hc]; exact OwR.start hv⟩
    · obtain ⟨A, m, c, e1, e2, e3⟩ := h.row j (by simpa using hj)
      obtain ⟨o1, o2⟩ := ho j e
      refine ⟨A, m, c, by rw [List.getElem?_set, if_neg (fun h => e h.symm)]; exact e1, by rw [o1]; exact e2, ?_⟩
      rw [o2]
      refine ⟨e3.1.kept hg ?_, fun q hq => by have := e3.2 q hq; omega⟩
      cases hb2 : (Value.slice A m c).ownBlock with
      | none => exact .inl rfl
      | some q => exact .inr fun hx => (hother j e _ e1 q hb2).2 hx.symm
  · by_cases ei : i = J
    · subst ei
      rw [List.getElem?_set, if_pos rfl, if_pos hJl] at hi
      cases hi
      rw [List.getElem?_set, if_neg hij] at hj
      have := hother j (fun h => hij h.symm) u hj q huq
      rcases hb with hb | hb
      · rw [hb] at hvq; exact this.2 hvq
      · rw [hb] at hvq; simp only [Option.some.injEq] at hvq; omega
    · rw [List.getElem?_set, if_neg (fun h => ei h.symm)] at hi
      by_cases ej : j = J
      · subst ej
        rw [List.getElem?_set, if_pos rfl, if_pos hJl] at hj
        cases hj
        have := hother i ei v hi q hvq
        rcases hb with hb | hb
        · rw [hb] at huq; exact this.2 huq
        · rw [hb] at huq; simp only [Option.some.injEq] at huq; omega
      · rw [List.getElem?_set, if_neg (fun h => ej h.symm)] at hj
        exact h.apart i j v u q hij hi hj hvq huq
/-- What a row of numbers of links is in memory. -/
def ptrs (lb : List Nat) (l : List Nat) : List Value := l.map fun q => ptrV lb[q]?
theorem ptrs_more (lb l : List Nat) (g : Nat) (h : ∀ q ∈ l, q < lb.length) : ptrs (lb ++ [g]) l = ptrs lb l := by
  unfold ptrs
  refine List.map_congr_left fun q hq => ?_
  rw [List.getElem?_append_left (h q hq)]
/-- Links under way: their blocks, their rows (needs and users by turns), in blocks from lo on. -/
structure LkW (lo : Nat) (lb : List Nat) (R : Nat → List Nat) (V : List Value) (w : World) : Prop where
  vl : V.length = 2 * lb.length
  bx : ∀ (j g : Nat), lb[j]? = some g → Bx g [.int .i64 j, V.getD (2 * j) undef, V.getD (2 * j + 1) undef] w ∧ Tg g 115 w ∧ lo ≤ g
  up : lb.Pairwise (· < ·)
  rows : SSp lo w.heap.size V (fun k => (R k).length) (fun k => ptrs lb (R k)) w
  small : ∀ (k q : Nat), q ∈ R k → q < lb.length
section
variable {lo : Nat} {lb : List Nat} {R : Nat → List Nat} {V : List Value} {w w' : World}
theorem Bx.keepE {b : Nat} {vs : List Value} {w w' : World} (h : Bx b vs w) (e : w'.heap[b]? = w.heap[b]?) (hs : w.heap.size ≤ w'.heap.size) : Bx b vs w' :=
  ⟨Nat.lt_of_lt_of_le h.lt hs, fun j v hv => (World.cell?_of_block (w := w) (a := ⟨b, j, none⟩) e).trans (h.c j v hv), fun j => (World.frozen?_of_block (w := w) (a := ⟨b, j, none⟩) e).trans (h.f j)⟩
theorem LkW.step (h : LkW lo lb R V w) (hb : Below w.heap.size w w') : LkW lo lb R V w' :=
  ⟨h.vl, fun j g hj => by obtain ⟨h1, h2, h3⟩ := h.bx j g hj; exact ⟨h1.step hb, h2.below hb h1.lt, h3⟩, h.up, (h.rows.keep fun k _ hk => hb.block k hk).mono (Nat.le_refl _) hb.size, h.small⟩
theorem LkW.lt (h : LkW lo lb R V w) {j g : Nat} (hj : lb[j]? = some g) : g < w.heap.size := (h.bx j g hj).1.lt
theorem LkW.ne (h : LkW lo lb R V w) {i j g g' : Nat} (hi : lb[i]? = some g) (hj : lb[j]? = some g') (hij : i ≠ j) : g ≠ g' := by
  have hp := List.pairwise_iff_getElem.1 h.up
  have hi2 : i < lb.length := (List.getElem?_eq_some_iff.1 hi).1
  have hj2 : j < lb.length := (List.getElem?_eq_some_iff.1 hj).1
  rw [List.getElem?_eq_getElem hi2] at hi
  rw [List.getElem?_eq_getElem hj2] at hj
  simp only [Option.some.injEq] at hi hj
  rcases Nat.lt_or_ge i j with h1 | h1
  · have := hp i j hi2 hj2 h1; omega
  · have := hp j i hj2 hi2 (by omega); omega
theorem SSp.setT {lo hi b : Nat} {t : TypeId} {vs : List Value} {lens : Nat → Nat} {cont : Nat → List Value} {w : World} (h : SSp lo hi vs lens cont w) (hb : Tg b t w) (ht : (112 : TypeId) ≠ t) (j : Nat) (u : Value) : SSp lo hi vs lens cont (w.setCell ⟨b, j, none⟩ u) :=
  ⟨fun i hi => by obtain ⟨A, m, c, h1, h2, h3⟩ := h.row i hi; exact ⟨A, m, c, h1, h2, own_setT h3.1 hb ht j none u, h3.2⟩, h.apart⟩
/-- One link more, without rows. -/
theorem LkW.new (h : LkW lo lb R V w) (hlo : lo ≤ w.heap.size) (h0 : R (2 * lb.length) = []) (h1 : R (2 * lb.length + 1) = []) :
    LkW lo (lb ++ [w.heap.size]) R (V ++ [.slice none 0 0, .slice none 0 0]) (w.alloc (.cells #[.int .i64 lb.length, .slice none 0 0, .slice none 0 0] 115)) := by
  have hvl := h.vl
  have hs := h.step ((Below.refl _ _).alloc (Nat.le_refl _) (.cells #[.int .i64 lb.length, .slice none 0 0, .slice none 0 0] 115))
  refine ⟨by simp; omega, fun j g hj => ?_, ?_, ?_, fun k q hq => by have := h.small k q hq; simp; omega⟩
  · rcases Nat.lt_or_ge j lb.length with hl | hl
    · rw [List.getElem?_append_left hl] at hj
      have := hs.bx j g hj
      have e (k : Nat) (hk : k < V.length) : (V ++ [Value.slice none 0 0, .slice none 0 0]).getD k undef = V.getD k undef := by simp [List.getD, List.getElem?_append_left hk]
      rw [e _ (by omega), e _ (by omega)]
      exact this
    · have hj2 : j = lb.length := by
        have := (List.getElem?_eq_some_iff.1 hj).1
        simp at this; omega
      subst hj2
      rw [List.getElem?_append_right (Nat.le_refl _), Nat.sub_self] at hj
      simp only [List.getElem?_cons_zero, Option.some.injEq] at hj
      subst hj
      have e0 : (V ++ [Value.slice none 0 0, .slice none 0 0]).getD (2 * lb.length) undef = .slice none 0 0 := by rw [← hvl]; simp [List.getD]
      have e1 : (V ++ [Value.slice none 0 0, .slice none 0 0]).getD (2 * lb.length + 1) undef = .slice none 0 0 := by rw [← hvl]; simp [List.getD]
      rw [e0, e1]
      exact ⟨Bx.start w _ _, Tg.new w _ _ _, hlo⟩
  · refine List.pairwise_append.2 ⟨h.up, by simp, fun a ha b hb => ?_⟩
    simp only [List.mem_singleton] at hb
    subst hb
    obtain ⟨i, hi, rfl⟩ := List.mem_iff_getElem.1 ha
    exact h.lt (List.getElem?_eq_getElem hi)
  · have hr := hs.rows
    refine ⟨fun j hj => ?_, fun i j v u k hij hi hj hv hu => ?_⟩
    · rcases Nat.lt_or_ge j V.length with hl | hl
      · obtain ⟨A, m, c, e1, e2, e3⟩ := hr.row j hl
        exact ⟨A, m, c, by rw [List.getElem?_append_left hl]; exact e1, e2, by rw [ptrs_more _ _ _ (fun q hq => h.small j q hq)]; exact e3⟩
      · have hj2 : j = 2 * lb.length ∨ j = 2 * lb.length + 1 := by simp at hj; omega
        have e : R j = [] := by rcases hj2 with rfl | rfl <;> assumption
        refine ⟨none, 0, 0, ?_, by simp [e], ?_⟩
        · rw [List.getElem?_append_right hl]
          rcases hj2 with rfl | rfl
          · rw [show 2 * lb.length - V.length = 0 by omega]; rfl
          · rw [show 2 * lb.length + 1 - V.length = 1 by omega]; rfl
        · rw [e]
          exact OwR.nil _ _ _ _ _
    · have hnil (k : Nat) (x : Value) (hk : V.length ≤ k) (hx : (V ++ [Value.slice none 0 0, .slice none 0 0])[k]? = some x) : x = .slice none 0 0 := by
        rw [List.getElem?_append_right hk] at hx
        have : k - V.length = 0 ∨ k - V.length = 1 := by
          have := (List.getElem?_eq_some_iff.1 hx).1; simp at this; omega
        rcases this with e | e <;> rw [e] at hx <;> simp at hx <;> exact hx.symm
      rcases Nat.lt_or_ge i V.length with a1 | a1
      · rcases Nat.lt_or_ge j V.length with a2 | a2
        · rw [List.getElem?_append_left a1] at hi
          rw [List.getElem?_append_left a2] at hj
          exact hr.apart i j v u k hij hi hj hv hu
        · rw [hnil j u a2 hj] at hu
          simp [Value.ownBlock] at hu
      · rw [hnil i v a1 hi] at hv
        simp [Value.ownBlock] at hv
/-- A row has one pointer more, and its field tells where it lies. -/
theorem LkW.app (h : LkW lo lb R V w) {j fld K g q gq m' c' : Nat} {A' : Option Addr} {X : Value} {o : Obj} (hj : lb[j]? = some g) (hf : fld < 2) (hK : K = 2 * j + fld) (hq : lb[q]? = some gq) (hX : V[K]? = some X)
    (hown : w'.ownsRow lo 112 1 (.slice A' m' c') m' (ptrs lb (R K) ++ [ptrV (some gq)])) (hm : m' = (R K).length + 1) (hg : (w.alloc o).grownBy w' X.ownBlock) (hb : (Value.slice A' m' c').ownBlock = X.ownBlock ∨ (Value.slice A' m' c').ownBlock = some (w.alloc o).heap.size) :
    LkW lo lb (fun k => if k = K then R K ++ [q] else R k) (V.set K (.slice A' m' c')) (w'.setCell ⟨g, 1 + fld, none⟩ (.slice A' m' c')) := by
  have hs := h.step ((Below.refl _ _).alloc (Nat.le_refl _) o)
  have hvl := h.vl
  have hjl : j < lb.length := (List.getElem?_eq_some_iff.1 hj).1
  have hKl : K < V.length := by omega
  have hXr : ∀ (i g' : Nat), lb[i]? = some g' → X.ownBlock ≠ some g' := fun i g' hi => by
    obtain ⟨A, m, c, e1, e2, e3⟩ := hs.rows.row K hKl
    rw [hX] at e1
    cases e1
    exact own_tag e3.1 (hs.bx i g' hi).2.1 link_ne_ptr
  have hbx : ∀ (i g' : Nat), lb[i]? = some g' → Bx g' [.int .i64 i, V.getD (2 * i) undef, V.getD (2 * i + 1) undef] w' ∧ Tg g' 115 w' := fun i g' hi => by
    have h1 := hs.bx i g' hi
    have e := hg.block g' h1.1.lt (fun e => hXr i g' hi e.symm)
    exact ⟨h1.1.keepE e hg.size, h1.2.1.keep e⟩
  have hTg := (hbx j g hj).2
  refine ⟨by simpa using hvl, fun i g' hi => ?_, h.up, ?_, fun k x hx => ?_⟩
  · refine ⟨?_, (hbx i g' hi).2.set _ _, (h.bx i g' hi).2.2⟩
    by_cases e : i = j
    · subst e
      rw [hj] at hi
      cases hi
      have h2 := (hbx i g hj).1.set (1 + fld) (by simp; omega) (.slice A' m' c')
      have hfl : fld = 0 ∨ fld = 1 := by omega
      rcases hfl with rfl | rfl
      · have e1 : (V.set K (.slice A' m' c')).getD (2 * i) undef = .slice A' m' c' := by simp [List.getD, hK, show 2 * i < V.length by omega]
        have e2 : (V.set K (.slice A' m' c')).getD (2 * i + 1) undef = V.getD (2 * i + 1) undef := by simp [List.getD, List.getElem?_set, hK]
        rw [e1, e2]; exact h2
      · have e1 : (V.set K (.slice A' m' c')).getD (2 * i + 1) undef = .slice A' m' c' := by simp [List.getD, hK, show 2 * i + 1 < V.length by omega]
        have e2 : (V.set K (.slice A' m' c')).getD (2 * i) undef = V.getD (2 * i) undef := by simp [List.getD, List.getElem?_set, hK]
        rw [e1, e2]; exact h2
    · have e1 : (V.set K (.slice A' m' c')).getD (2 * i) undef = V.getD (2 * i) undef := by simp [List.getD, List.getElem?_set, show ¬ K = 2 * i by omega]
      have e2 : (V.set K (.slice A' m' c')).getD (2 * i + 1) undef = V.getD (2 * i + 1) undef := by simp [List.getD, List.getElem?_set, show ¬ K = 2 * i + 1 by omega]
      rw [e1, e2]
      exact (hbx i g' hi).1.other _ (h.ne hi hj e) _
  · have h3 := hs.rows.grow (lens' := fun k => ((fun k => if k = K then R K ++ [q] else R k) k).length) (cont' := fun k => ptrs lb ((fun k => if k = K then R K ++ [q] else R k) k)) (Nat.le_refl _) hX hg hown hb (by dsimp only; rw [if_pos rfl, List.length_append, hm]; rfl) (by dsimp only; rw [if_pos rfl]; simp [ptrs, hq]) (fun k hk => by dsimp only; rw [if_neg hk]; exact ⟨rfl, rfl⟩)
    have h4 := h3.setT hTg link_ne_ptr (1 + fld) (.slice A' m' c')
    have e : (w'.setCell ⟨g, 1 + fld, none⟩ (.slice A' m' c')).heap.size = w'.heap.size := by simp [World.setCell]
    rw [e]; exact h4
  · by_cases e : k = K
    · rw [if_pos e] at hx
      rcases List.mem_append.1 hx with h5 | h5
      · exact h.small K x h5
      · simp at h5; subst h5; exact (List.getElem?_eq_some_iff.1 hq).1
    · rw [if_neg e] at hx; exact h.small k x hx
end
/-- The slice at A reads as pointers to the links l. -/
def PtS (w : World) (B : Nat) (A : Option Addr) (lb l : List Nat) : Prop :=
  0 < l.length → ∃ b off, A = some ⟨b, off, none⟩ ∧ b < B ∧ ∀ (k q : Nat), l[k]? = some q → w.cell? ⟨b, off + k, none⟩ = some (ptrV lb[q]?)
/-- Links as they read: their numbers, and both rows. -/
structure LkS (B : Nat) (lb : List Nat) (R : Nat → List Nat) (w : World) : Prop where
  it : ∀ (j g : Nat), lb[j]? = some g → g < B ∧ w.cell? ⟨g, 0, none⟩ = some (.int .i64 j) ∧ (∃ A m c, w.cell? ⟨g, 1, none⟩ = some (.slice A m c) ∧ m = (R (2 * j)).length ∧ PtS w B A lb (R (2 * j))) ∧ (∃ A m c, w.cell? ⟨g, 2, none⟩ = some (.slice A m c) ∧ m = (R (2 * j + 1)).length ∧ PtS w B A lb (R (2 * j + 1)))
  small : ∀ (k q : Nat), q ∈ R k → q < lb.length
theorem PtS.keep {w w' : World} {B : Nat} {A : Option Addr} {lb l : List Nat} (h : PtS w B A lb l) (hk : ∀ p : Addr, p.block < B → w'.cell? p = w.cell? p) : PtS w' B A lb l := by
  intro hl
  obtain ⟨b, off, e, hb, hc⟩ := h hl
  exact ⟨b, off, e, hb, fun k q hq => (hk _ hb).trans (hc k q hq)⟩
theorem LkS.keep {w w' : World} {B : Nat} {lb : List Nat} {R : Nat → List Nat} (h : LkS B lb R w) (hk : ∀ p : Addr, p.block < B → w'.cell? p = w.cell? p) : LkS B lb R w' := by
  refine ⟨fun j g hj => ?_, h.small⟩
  obtain ⟨h1, h2, ⟨A, m, c, a1, a2, a3⟩, ⟨A', m', c', b1, b2, b3⟩⟩ := h.it j g hj
  exact ⟨h1, (hk _ h1).trans h2, ⟨A, m, c, (hk _ h1).trans a1, a2, a3.keep hk⟩, ⟨A', m', c', (hk _ h1).trans b1, b2, b3.keep hk⟩⟩
theorem LkW.read {lo : Nat} {lb : List Nat} {R : Nat → List Nat} {V : List Value} {w : World} (h : LkW lo lb R V w) : LkS w.heap.size lb R w := by
  have hvl := h.vl
  have hrow : ∀ k, k < V.length → ∃ A m c, V.getD k undef = .slice A m c ∧ m = (R k).length ∧ PtS w w.heap.size A lb (R k) := fun k hk => by
    obtain ⟨A, m, c, e1, e2, e3⟩ := h.rows.row k hk
    refine ⟨A, m, c, by simp [List.getD, e1], e2, fun hl => ?_⟩
    rcases e3.1.2 with ⟨_, h0⟩ | ⟨g, cap, cur, hv, _⟩
    · omega
    · have hv2 := hv
      simp only [Value.slice.injEq] at hv
      obtain ⟨rfl, _, rfl⟩ := hv
      refine ⟨g, 0, rfl, e3.2 g rfl, fun i q hq => ?_⟩
      have hi : i < (R k).length := (List.getElem?_eq_some_iff.1 hq).1
      rw [Nat.zero_add, e3.1.cellAt i (by omega)]
      simp [ptrs, hq]
  refine ⟨fun j g hj => ?_, h.small⟩
  have hjl : j < lb.length := (List.getElem?_eq_some_iff.1 hj).1
  obtain ⟨h1, h2, h3⟩ := h.bx j g hj
  obtain ⟨A, m, c, a1, a2, a3⟩ := hrow (2 * j) (by omega)
  obtain ⟨A', m', c', b1, b2, b3⟩ := hrow (2 * j + 1) (by omega)
  rw [a1, b1] at h1
  exact ⟨h1.lt, h1.c 0 _ rfl, ⟨A, m, c, h1.c 1 _ rfl, a2, a3⟩, ⟨A', m', c', h1.c 2 _ rfl, b2, b3⟩⟩
end Go.Proofs.YtgakgmkonmgblaaGreat

namespace Go.Proofs.YtgakgmkonmgblaaGreat
set_option linter.unusedSimpArgs false
set_option linter.unusedVariables false
open Go.RowKit
/-- What gather adds to a set. -/
def gth (steps : Nat → List Nat) : Nat → (Nat → Bool) → Nat → (Nat → Bool)
  | 0, S, x => S
  | f + 1, S, x => if S x then S else (steps x).foldl (gth steps f) (fun y => if y = x then true else S y)
/-- What gathering is good for, from a set S and starts l to a set S'. -/
structure GtS (steps : Nat → List Nat) (S S' : Nat → Bool) (l : List Nat) : Prop where
  sub : ∀ y, S y = true → S' y = true
  has : ∀ x ∈ l, S' x = true
  least : ∀ T, ClS steps T → (∀ y, S y = true → T y = true) → (∀ x ∈ l, T x = true) → ∀ y, S' y = true → T y = true
  cl : ∀ y, S' y = true → S y = true ∨ ∀ z ∈ steps y, S' z = true
theorem GtS.nil (steps : Nat → List Nat) (S : Nat → Bool) : GtS steps S S [] := ⟨fun _ h => h, fun x h => by simp at h, fun T _ h _ y hy => h y hy, fun y h => .inl h⟩
theorem GtS.cons {steps : Nat → List Nat} {S S1 S2 : Nat → Bool} {x : Nat} {l : List Nat} (h1 : GtS steps S S1 [x]) (h2 : GtS steps S1 S2 l) : GtS steps S S2 (x :: l) := by
  refine ⟨fun y h => h2.sub y (h1.sub y h), fun y hy => ?_, fun T hT hS hl y hy => ?_, fun y hy => ?_⟩
  · rcases List.mem_cons.1 hy with rfl | hy
    · exact h2.sub _ (h1.has _ (by simp))
    · exact h2.has y hy
  · exact h2.least T hT (fun z hz => h1.least T hT hS (fun w hw => by simp at hw; subst hw; exact hl w (by simp)) z hz) (fun z hz => hl z (by simp [hz])) y hy
  · rcases h2.cl y hy with h | h
    · rcases h1.cl y h with h | h
      · exact .inl h
      · exact .inr fun z hz => h2.sub z (h z hz)
    · exact .inr h
theorem gth_good (steps : Nat → List Nat) (rank : Nat → Nat) : ∀ (f : Nat), (∀ x, rank x < f → ∀ y ∈ steps x, rank y < rank x) → ∀ (S : Nat → Bool) (x : Nat), rank x < f → GtS steps S (gth steps f S x) [x] := by
  intro f
  induction f with
  | zero => intro _ S x h; omega
  | succ f ih =>
    intro hst S x hx
    unfold gth
    by_cases hS : S x = true
    · rw [if_pos hS]
      exact ⟨fun _ h => h, fun y hy => by simp at hy; subst hy; exact hS, fun T _ h _ y hy => h y hy, fun y h => .inl h⟩
    · rw [if_neg hS]
      have hfold : ∀ (l : List Nat) (S : Nat → Bool), (∀ y ∈ l, rank y < f) → GtS steps S (l.foldl (gth steps f) S) l := by
        intro l
        induction l with
        | nil => intro S _; exact GtS.nil _ _
        | cons y l ihl =>
          intro S hl
          rw [List.foldl_cons]
          exact GtS.cons (ih (fun z hz => hst z (by omega)) S y (hl y (by simp))) (ihl _ fun z hz => hl z (by simp [hz]))
      have h := hfold (steps x) (fun y => if y = x then true else S y) (fun y hy => by have := hst x hx y hy; omega)
      refine ⟨fun y hy => h.sub y (by by_cases e : y = x <;> simp [e, hy]), fun y hy => ?_, fun T hT hS2 hl y hy => ?_, fun y hy => ?_⟩
      · simp at hy; subst hy; exact h.sub _ (by simp)
      · have hTx := hl x (by simp)
        refine h.least T hT (fun z hz => ?_) (fun z hz => hT x hTx z hz) y hy
        by_cases e : z = x
        · subst e; exact hTx
        · simp [e] at hz; exact hS2 z hz
      · rcases h.cl y hy with h3 | h3
        · by_cases e : y = x
          · subst e; exact .inr fun z hz => h.has z hz
          · simp [e] at h3; exact .inl h3
        · exact .inr h3
theorem fold_good (steps : Nat → List Nat) (rank : Nat → Nat) (f : Nat) (hst : ∀ x, rank x < f → ∀ y ∈ steps x, rank y < rank x) : ∀ (l : List Nat) (S : Nat → Bool), (∀ y ∈ l, rank y < f) → GtS steps S (l.foldl (gth steps f) S) l := by
  intro l
  induction l with
  | nil => intro S _; exact GtS.nil _ _
  | cons y l ihl =>
    intro S hl
    rw [List.foldl_cons]
    exact GtS.cons (gth_good steps rank f hst S y (hl y (by simp))) (ihl _ fun z hz => hl z (by simp [hz]))
/-- What is gathered from nothing: the least closed set with the starts. -/
theorem fold_is (steps : Nat → List Nat) (rank : Nat → Nat) (f : Nat) (hst : ∀ x, rank x < f → ∀ y ∈ steps x, rank y < rank x) (l : List Nat) (hl : ∀ y ∈ l, rank y < f) (T : Nat → Bool) (hT : ClS steps T) (hlT : ∀ x ∈ l, T x = true)
    (hmin : ∀ S, ClS steps S → (∀ x ∈ l, S x = true) → ∀ y, T y = true → S y = true) : ∀ y, (l.foldl (gth steps f) (fun _ => false)) y = T y := by
  have h := fold_good steps rank f hst l (fun _ => false) hl
  intro y
  have h1 : (l.foldl (gth steps f) (fun _ => false)) y = true → T y = true := h.least T hT (fun y hy => by simp at hy) hlT y
  have h2 : T y = true → (l.foldl (gth steps f) (fun _ => false)) y = true := hmin _ (fun x hx z hz => by
    rcases h.cl x hx with h3 | h3
    · simp at h3
    · exact h3 z hz) h.has y
  cases hA : (l.foldl (gth steps f) (fun _ => false)) y
  · cases hB : T y
    · rfl
    · rw [h2 hB] at hA; cases hA
  · exact (h1 hA).symm
/-- The rows of the links, needs and users by turns. -/
def linkR (gs : List Nd) (n k : Nat) : List Nat := if k % 2 = 0 then (if k / 2 < n then rdsN gs (k / 2) else []) else usN gs n (k / 2)
theorem rdsN_lt (gs : List Nd) (h : validG gs = true) (j q : Nat) (hj : j < gs.length) (hq : q ∈ rdsN gs j) : q < j := by
  have := mayR_ahead gs j h hj _ ((mem_rdsN gs h j q hj).1 hq)
  omega
theorem reachTo_len (gs : List Nd) (st : List Int) (k : Nat) : (reachTo gs st k).length ≤ k := by
  induction k with
  | zero => simp [reachTo]
  | succ k ih => simp only [reachTo, List.length_append]; split <;> simp <;> omega
theorem reachTo_nwTo (gs : List Nd) (st : List Int) (n k : Nat) (hk : k ≤ n) : reachTo gs st k = nwTo (fun i => decide ((i : Int) ∈ reachTo gs st n)) k := by
  induction k with
  | zero => rfl
  | succ k ih =>
    rw [nwTo_step, ← ih (by omega)]
    simp only [reachTo]
    congr 1
    have := reachTo_iff gs st n k (by omega)
    have e : (decide ((k : Int) ∈ st) || (mayR (gs.getD k default).ps).any fun r => decide (r ∈ reachTo gs st k)) = decide ((k : Int) ∈ reachTo gs st n) := by
      rw [Bool.eq_iff_iff]
      simp only [Bool.or_eq_true, decide_eq_true_eq, List.any_eq_true]
      exact this.symm
    rw [e]
theorem reach_min (gs : List Nd) (h : validG gs = true) (st : List Int) (S : Nat → Bool) (hS : ClS (usN gs gs.length) S) (hst : ∀ x : Nat, (x : Int) ∈ st → x < gs.length → S x = true) : ∀ y : Nat, (y : Int) ∈ reachTo gs st gs.length → S y = true := by
  intro y
  induction y using Nat.strongRecOn with
  | ind y ih =>
    intro hy
    obtain ⟨q, hq, e⟩ := reachTo_mem _ _ _ _ hy
    have : q = y := by omega
    subst this
    rcases (reachTo_iff gs st _ q hq).1 hy with h1 | ⟨r, hr, h1⟩
    · exact hst q h1 hq
    · obtain ⟨p, hp, rfl⟩ := reachTo_mem _ _ _ _ h1
      have h2 := ih p hp ((reachTo_more gs st q gs.length p hp (by omega)).2 h1)
      exact hS p h2 q ((mem_usN _ _ _ _).2 ⟨hq, hr⟩)
end Go.Proofs.YtgakgmkonmgblaaGreat

namespace Go.Proofs.YtgakgmkonmgblaaGreat
set_option linter.unusedSimpArgs false
set_option linter.unusedVariables false
open Go.RowKit Go.Maps
/-- The rows while the reads of node k are linked: q of them are done. -/
def lkR (gs : List Nd) (k q : Nat) (K : Nat) : List Nat :=
  if K % 2 = 0 then (if K / 2 < k then rdsN gs (K / 2) else if K / 2 = k then (rdsN gs k).take q else [])
  else usN gs k (K / 2) ++ (if K / 2 ∈ (rdsN gs k).take q then [k] else [])
theorem lkR_even (gs : List Nd) (k q j : Nat) : lkR gs k q (2 * j) = if j < k then rdsN gs j else if j = k then (rdsN gs k).take q else [] := by
  unfold lkR; rw [if_pos (by omega), show 2 * j / 2 = j by omega]
theorem lkR_odd (gs : List Nd) (k q j : Nat) : lkR gs k q (2 * j + 1) = usN gs k j ++ (if j ∈ (rdsN gs k).take q then [k] else []) := by
  unfold lkR; rw [if_neg (by omega), show (2 * j + 1) / 2 = j by omega]
theorem lkR_zero (gs : List Nd) (k : Nat) : lkR gs k 0 = linkR gs k := by
  funext K
  unfold lkR linkR
  simp only [List.take_zero, List.not_mem_nil, if_false, List.append_nil]
  by_cases h : K % 2 = 0
  · rw [if_pos h, if_pos h]
    by_cases h2 : K / 2 < k
    · rw [if_pos h2, if_pos h2]
    · rw [if_neg h2, if_neg h2]; split <;> rfl
  · rw [if_neg h, if_neg h]
theorem usN_succ (gs : List Nd) (k j : Nat) : usN gs (k + 1) j = usN gs k j ++ (if (j : Int) ∈ mayR (gs.getD k default).ps then [k] else []) := by
  unfold usN
  rw [List.range_succ, List.filter_append]
  congr 1
  by_cases h : (j : Int) ∈ mayR (gs.getD k default).ps
  · rw [if_pos h]; simp only [List.filter_cons, decide_eq_true h, if_true, List.filter_nil]
  · rw [if_neg h]; simp only [List.filter_cons, decide_eq_false h, Bool.false_eq_true, if_false, List.filter_nil]
theorem lkR_all (gs : List Nd) (hv : validG gs = true) (k : Nat) (hk : k < gs.length) (l : Nat) (hl : (rdsN gs k).length = l) : lkR gs k l = linkR gs (k + 1) := by
  funext K
  unfold lkR linkR
  rw [List.take_of_length_le (by omega)]
  by_cases h : K % 2 = 0
  · rw [if_pos h, if_pos h]
    by_cases h2 : K / 2 < k
    · rw [if_pos h2, if_pos (by omega)]
    · rw [if_neg h2]
      by_cases h3 : K / 2 = k
      · rw [if_pos h3, if_pos (by omega), h3]
      · rw [if_neg h3, if_neg (by omega)]
  · rw [if_neg h, if_neg h, usN_succ]
    congr 1
    have := mem_rdsN gs hv k (K / 2) hk
    by_cases h2 : K / 2 ∈ rdsN gs k
    · rw [if_pos h2, if_pos (this.1 h2)]
    · rw [if_neg h2, if_neg (fun h => h2 (this.2 h))]
theorem linkR_new (gs : List Nd) (hv : validG gs = true) (k : Nat) (hk : k ≤ gs.length) : linkR gs k (2 * k) = [] ∧ linkR gs k (2 * k + 1) = [] := by
  unfold linkR
  refine ⟨?_, ?_⟩
  · rw [if_pos (by omega), if_neg (by omega)]
  · rw [if_neg (by omega), show (2 * k + 1) / 2 = k by omega]
    unfold usN
    rw [List.filter_eq_nil_iff]
    intro u hu hc
    have h1 : u ∈ usN gs k k := List.mem_filter.2 ⟨hu, hc⟩
    have := usN_gt gs hv k k u hk h1
    have := List.mem_range.1 hu
    omega
theorem rdsN_nodup (gs : List Nd) (hv : validG gs = true) (k : Nat) (hk : k < gs.length) : (rdsN gs k).Nodup := by
  have h1 : (mayR (gs.getD k default).ps).Nodup := by
    have : (mayR (gs.getD k default).ps).Pairwise (· < ·) := by
      unfold mayR
      rw [List.pairwise_map]
      exact ((List.pairwise_lt_range (n := 10)).filter _).imp fun h => by omega
    exact this.imp fun h => by omega
  unfold rdsN
  have hah := mayR_ahead gs k hv hk
  generalize mayR (gs.getD k default).ps = l at *
  clear hk
  induction l with
  | nil => simp
  | cons x l ih =>
    obtain ⟨a, b⟩ := List.nodup_cons.1 h1
    rw [List.map_cons, List.nodup_cons]
    refine ⟨fun hm => ?_, ih b fun y hy => hah y (by simp [hy])⟩
    obtain ⟨y, hy, e⟩ := List.mem_map.1 hm
    have := hah x (by simp)
    have := hah y (by simp [hy])
    have : y = x := by omega
    subst this
    exact a hy
theorem lkR_step (gs : List Nd) (hv : validG gs = true) (k : Nat) (hk : k < gs.length) (q t : Nat) (hq : (rdsN gs k)[q]? = some t) :
    lkR gs k (q + 1) = fun K => if K = 2 * t + 1 then ((fun K => if K = 2 * k then lkR gs k q (2 * k) ++ [t] else lkR gs k q K) (2 * t + 1)) ++ [k] else ((fun K => if K = 2 * k then lkR gs k q (2 * k) ++ [t] else lkR gs k q K) K) := by
  have hql := (List.getElem?_eq_some_iff.1 hq).1
  have htk : (rdsN gs k).take (q + 1) = (rdsN gs k).take q ++ [t] := by
    rw [List.take_add_one, hq]; rfl
  have hnd := rdsN_nodup gs hv k hk
  have hnt : t ∉ (rdsN gs k).take q := by
    intro hm
    obtain ⟨i, hi, e⟩ := List.mem_iff_getElem.1 hm
    rw [List.length_take] at hi
    rw [List.getElem_take] at e
    have h2 : (rdsN gs k)[q] = t := by rw [List.getElem?_eq_getElem hql] at hq; simpa using hq
    have := (List.getElem_inj hnd).1 (e.trans h2.symm)
    omega
  have htl : t < k := rdsN_lt gs hv k t hk (List.mem_of_getElem? hq)
  funext K
  dsimp only
  by_cases h1 : K = 2 * t + 1
  · subst h1
    have h0 : ¬ 2 * t + 1 = 2 * k := by omega
    rw [if_pos rfl, if_neg h0, lkR_odd, lkR_odd, htk, if_pos (by simp), if_neg hnt]
    simp
  · rw [if_neg h1]
    by_cases h2 : K = 2 * k
    · subst h2
      rw [if_pos rfl, lkR_even, lkR_even, if_neg (by omega), if_pos rfl, if_neg (by omega), if_pos rfl, htk]
    · rw [if_neg h2]
      obtain ⟨j, e⟩ : ∃ j, K = 2 * j ∨ K = 2 * j + 1 := ⟨K / 2, by omega⟩
      rcases e with e | e
      · subst e
        rw [lkR_even, lkR_even]
        have h3 : ¬ j = k := by omega
        rw [if_neg h3, if_neg h3]
      · subst e
        have h5 : ¬ j = t := by omega
        rw [lkR_odd, lkR_odd, htk]
        congr 1
        by_cases h6 : j ∈ (rdsN gs k).take q
        · rw [if_pos h6, if_pos (by simp [h6])]
        · rw [if_neg h6, if_neg (by simp [h6, h5])]
theorem LkW.mid {lo : Nat} {lb : List Nat} {R : Nat → List Nat} {V : List Value} {w w' : World} (h : LkW lo lb R V w) {K : Nat} {X : Value} {o : Obj} (hX : V[K]? = some X) (hg : (w.alloc o).grownBy w' X.ownBlock) :
    ∀ (i g' : Nat), lb[i]? = some g' → Bx g' [.int .i64 i, V.getD (2 * i) undef, V.getD (2 * i + 1) undef] w' ∧ Tg g' 115 w' := by
  have hs := h.step ((Below.refl _ _).alloc (Nat.le_refl _) o)
  have hKl : K < V.length := (List.getElem?_eq_some_iff.1 hX).1
  intro i g' hi
  have h1 := hs.bx i g' hi
  have e := hg.block g' h1.1.lt (fun e => by
    obtain ⟨A, m, c, e1, e2, e3⟩ := hs.rows.row K hKl
    rw [hX] at e1
    cases e1
    exact own_tag e3.1 h1.2.1 link_ne_ptr e.symm)
  exact ⟨h1.1.keepE e hg.size, h1.2.1.keep e⟩
theorem LkW.row {lo : Nat} {lb : List Nat} {R : Nat → List Nat} {V : List Value} {w : World} (h : LkW lo lb R V w) {K : Nat} (hK : K < 2 * lb.length) :
    ∃ A c, V[K]? = some (.slice A (R K).length c) ∧ V.getD K undef = .slice A (R K).length c ∧ w.ownsRow lo 112 1 (.slice A (R K).length c) (R K).length (ptrs lb (R K)) := by
  obtain ⟨A, m, c, e1, e2, e3⟩ := h.rows.row K (by have := h.vl; omega)
  subst e2
  exact ⟨A, c, e1, by simp [List.getD, e1], e3.1⟩
end Go.Proofs.YtgakgmkonmgblaaGreat

namespace Go.Proofs.YtgakgmkonmgblaaGreat
set_option linter.unusedSimpArgs false
set_option linter.unusedVariables false
open Go.RowKit Go.Maps
theorem row_head2 {w : World} {base n size : Nat} {e : TypeId} {v : Value} {xs : List Value} (h : w.ownsRow base e size v n xs) (hn : 0 < n) : ∃ g cap, v = .slice (some ⟨g, 0, none⟩) n cap := by
  rcases h.2 with ⟨hv, h0⟩ | ⟨g, cap, cur, hv, _⟩
  · omega
  · exact ⟨g, cap, hv⟩
theorem int_ne_ptr : (3 : TypeId) ≠ 112 := by decide
theorem int_ne_link : (3 : TypeId) ≠ 115 := by decide
theorem LkW.map {lo b : Nat} {lb : List Nat} {R : Nat → List Nat} {V : List Value} {w w' : World} (h : LkW lo lb R V w) (hg : w.grownBy w' (some b)) (hb : b < lo) : LkW lo lb R V w' := by
  have hk : ∀ q, lo ≤ q → q < w.heap.size → w'.heap[q]? = w.heap[q]? := fun q h1 h2 => hg.block q h2 (by simp; omega)
  refine ⟨h.vl, fun j g hj => ?_, h.up, (h.rows.keep fun q h1 h2 => hk q h1 h2).mono (Nat.le_refl _) hg.size, h.small⟩
  obtain ⟨h1, h2, h3⟩ := h.bx j g hj
  have e := hk g h3 h1.lt
  exact ⟨h1.keepE e hg.size, h2.keep e, h3⟩
set_option maxRecDepth 100000 in
set_option maxHeartbeats 3200000 in
theorem impl_linksOf (A : Option Addr) (n c : Nat) (gs : List Nd) (w : World) (B : Nat) (hB : B ≤ w.heap.size) (hn : n = gs.length) (h : GS w B A gs) (hv : validG gs = true) (hG : GB gs) :
    Calls Tryz.prog 94 #[.agg #[.slice A n c]] w fun e w' => ∃ lb, e = .returned (.map (some (w.heap.size + 1))) ∧ lb.length = n ∧ LkS w'.heap.size lb (linkR gs n) w' ∧ MpI w' (w.heap.size + 1) n (fun j => lb[j]?) ∧ Below w.heap.size w w' := by
  obtain ⟨i1, hi, hz0, hz1, hz2⟩ := info_parts info_link
  have hmm := @run_makeMap Tryz.prog
  have hn10 : n ≤ 10 := by have := (validG_parts gs hv).1; omega
  have H := Lib.hid h
  have HN := Lib.hid hn
  have HV := Lib.hid hv
  have HS := Lib.hid hG
  clear h hn hv hG
  go_enter Tryz.func94, Tryz.ntmps94
  go_wp2
  obtain ⟨w1, hw1⟩ : ∃ w1, w1 = (w.alloc (.cells #[.slice A n c] 25)).alloc (.map #[] 0) := ⟨_, rfl⟩
  have hz1w : w1.heap.size = w.heap.size + 2 := by rw [hw1]; simp
  have hMP1 : MpI w1 (w.heap.size + 1) 0 (fun _ => none) := by
    rw [hw1]
    have := MpI.made (w.alloc (.cells #[.slice A n c] 25))
    simpa using this
  have hb1 : Below w.heap.size w w1 := by rw [hw1]; exact ((Below.refl _ _).alloc (Nat.le_refl _) _).alloc (by simp) _
  have MP1 := Lib.hid hMP1
  have HB1 := Lib.hid hb1
  rw [← hw1]
  clear hw1 hMP1 hb1 hmm
  have HZ1 := Lib.hid hz1w
  have hz1g : w.heap.size + 2 ≤ w1.heap.size := by omega
  have HL0 : Hid (LkW (w.heap.size + 2) [] (linkR gs 0) [] w1) := by
    refine ⟨rfl, fun j g hj => by simp at hj, List.Pairwise.nil, ⟨fun j hj => by simp at hj, fun i j v u k _ hi => by simp at hi⟩, fun k q hq => ?_⟩
    unfold linkR at hq
    split at hq
    · rw [if_neg (by omega)] at hq; simp at hq
    · simp [usN] at hq
  clear hz1w
  go_loopw [14] (fun u wr => ∃ (k : Nat) (lb : List Nat) (V : List Value), k ≤ n ∧ u = .int .i64 k ∧ lb.length = k ∧ Hid (LkW (w.heap.size + 2) lb (linkR gs k) V wr) ∧ Hid (MpI wr (w.heap.size + 1) k (fun j => lb[j]?)) ∧ Hid (Below w.heap.size w wr) ∧ w.heap.size + 2 ≤ wr.heap.size) (fun u _ => n - (intOf u).toNat)
  case atStart => exact ⟨0, [], [], Nat.zero_le _, rfl, rfl, HL0.out, MP1.out, HB1.out, hz1g⟩
  case round =>
    obtain ⟨wo, rfl⟩ : ∃ wo : World, wo = wr := ⟨_, rfl⟩
    obtain ⟨k, lb, V, hk, rfl, hlb, HL, MP, HB, hwr⟩ := hrel
    by_cases hlt : k < n
    · have hkg : k < gs.length := by have := HN.out; omega
      have HGR := Lib.hid (H.out.below HB.out hB)
      obtain ⟨b, off, rfl, hbB, e0, A1, n1, c1, e1, hn1', hps⟩ := HGR.out.at_ k hkg
      have hbw : b < wo.heap.size := by omega
      have hx := HS.out.2 k
      have hmf := mayF_valid gs k HV.out hkg
      have hlm := mayR_len (gs.getD k default).ps 10
      rw [mayR_below] at hlm
      have HPS := Lib.hid (hps.more (B' := wo.heap.size) (by omega))
      have hrd : rdsN gs k = (mayR (gs.getD k default).ps).map Int.toNat := rfl
      have HRD := Lib.hid hrd
      have HAH := Lib.hid (mayR_ahead gs k HV.out hkg)
      have HLB := Lib.hid hlb
      have hnew := linkR_new gs HV.out k (by omega)
      clear hrd hps
      generalize gs.getD k default = d at *
      have HMR := Lib.hid fun (w' : World) (hB : wo.heap.size ≤ w'.heap.size) (h : PS w' wo.heap.size A1 d.ps) => impl_MayRead A1 n1 c1 d.ps w' wo.heap.size hB hn1' h (by omega)
      rw [hmf] at HMR
      generalize mayR d.ps = L at *
      generalize hl : L.length = l at *
      have HLn := Lib.hid hl
      obtain ⟨W, hW⟩ : ∃ W, W = wo.alloc (.cells #[.int .i64 d.k, .slice A1 n1 c1] 80) := ⟨_, rfl⟩
      have hWb : Below wo.heap.size wo W := by rw [hW]; exact (Below.refl _ _).alloc (Nat.le_refl _) _
      have hWz : W.heap.size = wo.heap.size + 1 := by rw [hW]; simp
      have HLW := Lib.hid (HL.out.step hWb)
      have HLN : Hid (LkW (w.heap.size + 2) (lb ++ [wo.heap.size + 1]) (linkR gs k) (V ++ [.slice none 0 0, .slice none 0 0]) (W.alloc (.cells #[.int .i64 k, .slice none 0 0, .slice none 0 0] 115))) := by
        have := HLW.out.new (by omega) (by rw [hlb]; exact hnew.1) (by rw [hlb]; exact hnew.2)
        rw [hlb, hWz] at this
        exact this
      have MPW := Lib.hid ((MP.out.step hWb).alloc (.cells #[.int .i64 k, .slice none 0 0, .slice none 0 0] 115))
      have HBW := Lib.hid ((HB.out.trans (hWb.mono (by omega))).alloc (by omega) (.cells #[.int .i64 k, .slice none 0 0, .slice none 0 0] 115))
      have HPW := Lib.hid ((HPS.out.below hWb (Nat.le_refl _)).alloc (by omega) (.cells #[.int .i64 k, .slice none 0 0, .slice none 0 0] 115))
      rw [hW] at HLN MPW HBW HPW
      clear hmf hl hn1' hx hW hWb hWz HLW HPS HGR hnew
      go_wp2_with fail
      refine (HMR.out _ (by simp; omega) HPW.out).mono ?_
      rintro e w3 ⟨v3, rfl, ho3, hb3⟩
      obtain ⟨A3, c3, rfl, hI3⟩ := OwnI.at_ ho3 HLn.out
      unfold OwnI at ho3
      rw [HLn.out] at ho3
      have hz3 : wo.heap.size + 1 + 1 ≤ w3.heap.size := by have := hb3.size; simpa using this
      have HL3 := Lib.hid (HLN.out.step hb3)
      have MP3 := Lib.hid (MPW.out.step hb3)
      have HB3 := Lib.hid (HBW.out.trans (hb3.mono (by simp; omega)))
      have HO3 := Lib.hid (own_mono (base' := w.heap.size) ho3 (by simp; omega))
      clear ho3 hb3 hI3 HLN MPW HBW HPW e0 e1
      have HLI : Hid (LkW (w.heap.size + 2) (lb ++ [wo.heap.size + 1]) (lkR gs k 0) (V ++ [.slice none 0 0, .slice none 0 0]) w3) := by rw [lkR_zero]; exact HL3.out
      clear HL3
      go_wp2
      go_loopw [26] (fun u wi => ∃ (j : Nat) (V : List Value), j ≤ l ∧ u = .int .i64 j ∧ Hid (LkW (w.heap.size + 2) (lb ++ [wo.heap.size + 1]) (lkR gs k j) V wi) ∧ Hid (MpI wi (w.heap.size + 1) k (fun j => lb[j]?)) ∧ Hid (wi.ownsRow w.heap.size 3 1 (.slice A3 l c3) l (L.map (Value.int .i64))) ∧ Hid (Below w.heap.size w wi) ∧ w3.heap.size ≤ wi.heap.size) (fun u _ => l - (intOf u).toNat)
      case atStart => exact ⟨0, _, Nat.zero_le _, rfl, HLI.out, MP3.out, HO3.out, HB3.out, Nat.le_refl _⟩
      case round =>
        obtain ⟨j, V, hj, rfl, HLJ, MPJ, HOJ, HBJ, hwi⟩ := hrel
        by_cases hjl : j < l
        · have hjL : j < L.length := by have := HLn.out; omega
          obtain ⟨g3, c3', hA3⟩ := row_head2 HOJ.out (by omega)
          simp only [Value.slice.injEq] at hA3
          obtain ⟨rfl, -, rfl⟩ := hA3
          have hx := HOJ.out.cellAt j (by omega)
          rw [List.getElem?_map, List.getElem?_eq_getElem hjL, Option.map_some] at hx
          have hmem : L[j] ∈ L := List.getElem_mem hjL
          obtain ⟨ht0, htk⟩ := HAH.out _ hmem
          obtain ⟨t, htx⟩ : ∃ t : Nat, L[j] = (t : Int) := ⟨L[j].toNat, by omega⟩
          have hqt : (rdsN gs k)[j]? = some t := by
            rw [HRD.out, List.getElem?_map, List.getElem?_eq_getElem hjL, htx]; rfl
          rw [htx] at hx ht0 htk
          have HST := Lib.hid (lkR_step gs HV.out k hkg j t hqt)
          have htl : t < k := by omega
          have hbl : t < lb.length := by have := HLB.out; omega
          obtain ⟨gt, hgt⟩ : ∃ gt, lb[t]? = some gt := ⟨_, List.getElem?_eq_getElem hbl⟩
          have hlook : (Instr.lookup 109 (.map (some (w.heap.size + 1))) (.int .i64 t) false).run Tryz.prog wr = .ok (.pointer (some ⟨gt, 0, none⟩)) wr := by
            have h := MPJ.out.look t (by omega)
            rw [hgt] at h
            exact h
          have hgt2 : (lb ++ [wo.heap.size + 1])[t]? = some gt := by rw [List.getElem?_append_left hbl]; exact hgt
          have hgk2 : (lb ++ [wo.heap.size + 1])[k]? = some (wo.heap.size + 1) := by rw [List.getElem?_append_right (by have := HLB.out; omega), HLB.out, Nat.sub_self]; rfl
          have hll : (lb ++ [wo.heap.size + 1]).length = k + 1 := by rw [List.length_append, HLB.out]; rfl
          have HLL := Lib.hid hll
          have HGT2 := Lib.hid hgt2
          have HGK2 := Lib.hid hgk2
          obtain ⟨A5, c5, hX5, hX5', hr5⟩ := HLJ.out.row (K := 2 * k) (by rw [hll]; omega)
          have hbk := (HLJ.out.bx k _ hgk2).1
          rw [hX5'] at hbk
          have k1 := hbk.c 1 _ rfl
          have HX5 := Lib.hid hX5
          have HR5 := Lib.hid hr5
          have hrl : (lkR gs k j (2 * k)).length ≤ 10 := by
            rw [lkR_even, if_neg (by omega), if_pos rfl, HRD.out, List.length_take, List.length_map]
            have := HLn.out; omega
          clear hX5 hX5' hr5 hbk hgt hgt2 hgk2 hll hmem htx hqt
          generalize hml : (lkR gs k j (2 * k)).length = m5 at *
          have HML := Lib.hid hml
          have hgbig : w.heap.size + 2 ≤ gt := by have := (HLJ.out.bx t gt HGT2.out).2.2; omega
          clear hml
          go_wp2_with (at_builtin; refine wpList_append_own_at _ rfl _ _ 113 rfl (w.heap.size + 2) 112 i1 (.pointer none) 1 8 Tryz.underlying113 hi hz0 hz1 hz2 rfl (by decide) _ _ _ rfl (HR5.out.alloc _) ⟨_, 0, none⟩ 1 1 [.pointer (some ⟨gt, 0, none⟩)] rfl rfl (cell_one_new _ _ _) ?c2 ?c3 ?c4 ?c5 ?_)
          case c2 => first | rfl | (intro u hu; simp at hu; subst hu; rfl)
          case c3 => unfold maxLen; omega
          case c4 => omega
          case c5 => first | omega | (simp; omega)
          intro v' w5 hown' hgrow _ hat
          obtain ⟨g5, c5', rfl⟩ := row_head2 hown' (by omega)
          have hsz : (wr.alloc (.cells #[.pointer (some ⟨gt, 0, none⟩)] 112)).heap.size = wr.heap.size + 1 := by simp
          have hmid := HLJ.out.mid HX5.out hgrow
          have m1 := (hmid k _ HGK2.out).1
          have n1' := m1.c 1 _ (show _ = some _ from rfl)
          have f1' := m1.f 1
          have HAPP := Lib.hid (HLJ.out.app (fld := 0) (K := 2 * k) (q := t) HGK2.out (by omega) (by omega) HGT2.out HX5.out hown' (by have := HML.out; omega) hgrow (by rcases hat with h | h; exact .inl h; exact .inr (by rw [hsz]; exact h)))
          have hpos := hown'.lt g5 rfl
          have hrow5 := (HR5.out.alloc (.cells #[.pointer (some ⟨gt, 0, none⟩)] 112)).lt
          have MP5 := Lib.hid (((MPJ.out.alloc (.cells #[.pointer (some ⟨gt, 0, none⟩)] 112)).grown hgrow (fun e => by have := (hrow5 _ e.symm).1; omega)).setCell ⟨wo.heap.size + 1, 1 + 0, none⟩ (by show w.heap.size + 1 ≠ wo.heap.size + 1; omega) (.slice (some ⟨g5, 0, none⟩) (m5 + 1) c5'))
          have HB5 : Hid (Below w.heap.size w (w5.setCell ⟨wo.heap.size + 1, 1 + 0, none⟩ (.slice (some ⟨g5, 0, none⟩) (m5 + 1) c5'))) := ((HBJ.out.alloc HBJ.out.size (.cells #[.pointer (some ⟨gt, 0, none⟩)] 112)).grown hgrow (by omega) (fun q hq => by have := (hrow5 q hq).1; omega)).setCell (by show w.heap.size ≤ wo.heap.size + 1; omega) _
          have HO5 := Lib.hid (own_setT ((HOJ.out.alloc (.cells #[.pointer (some ⟨gt, 0, none⟩)] 112)).kept hgrow (blocks_ne (HOJ.out.alloc (.cells #[.pointer (some ⟨gt, 0, none⟩)] 112)) (HR5.out.alloc (.cells #[.pointer (some ⟨gt, 0, none⟩)] 112)) int_ne_ptr)) (hmid k _ HGK2.out).2 int_ne_link (1 + 0) none (.slice (some ⟨g5, 0, none⟩) (m5 + 1) c5'))
          have hzz : wr.heap.size + 1 ≤ w5.heap.size := by have := hgrow.size; omega
          clear hown' hgrow hat hmid m1 hrow5 hpos
          go_upto_region 11 with fail
          obtain ⟨w6, hw6⟩ : ∃ w6, w6 = w5.setCell ⟨wo.heap.size + 1, 1, none⟩ (.slice (some ⟨g5, 0, none⟩) (m5 + 1) c5') := ⟨_, rfl⟩
          have e6 : w5.setCell ⟨wo.heap.size + 1, 1 + 0, none⟩ (.slice (some ⟨g5, 0, none⟩) (m5 + 1) c5') = w6 := hw6.symm
          rw [← hw6]
          rw [e6] at HAPP MP5 HB5 HO5
          have hz6 : wr.heap.size + 1 ≤ w6.heap.size := by rw [hw6]; simpa [World.setCell] using hzz
          have HLJ6 := Lib.hid HAPP.out
          obtain ⟨A8, c8, hX8, hX8', hr8⟩ := HLJ6.out.row (K := 2 * t + 1) (by have := HLL.out; omega)
          have hbt := (HLJ6.out.bx t _ HGT2.out).1
          rw [hX8'] at hbt
          have k8 := hbt.c 2 _ rfl
          have HX8 := Lib.hid hX8
          have HR8 := Lib.hid hr8
          have hrl8 : ((fun K => if K = 2 * k then lkR gs k j (2 * k) ++ [t] else lkR gs k j K) (2 * t + 1)).length ≤ 10 := by
            dsimp only
            rw [if_neg (by omega), lkR_odd, List.length_append]
            have h1 : (usN gs k t).length ≤ k := by unfold usN; have := List.length_filter_le (fun u => decide ((t : Int) ∈ mayR (gs.getD u default).ps)) (List.range k); simpa using this
            split
            · simp; omega
            · simp; omega
          clear hX8 hX8' hr8 hbt hw6 e6 HAPP
          generalize hml8 : ((fun K => if K = 2 * k then lkR gs k j (2 * k) ++ [t] else lkR gs k j K) (2 * t + 1)).length = m8 at *
          have HML8 := Lib.hid hml8
          clear hml8
          clear n1' f1' hx hlook k1
          go_wp2_with (at_builtin; refine wpList_append_own_at _ rfl _ _ 113 rfl (w.heap.size + 2) 112 i1 (.pointer none) 1 8 Tryz.underlying113 hi hz0 hz1 hz2 rfl (by decide) _ _ _ rfl (HR8.out.alloc _) ⟨_, 0, none⟩ 1 1 [.pointer (some ⟨wo.heap.size + 1, 0, none⟩)] rfl rfl (cell_one_new _ _ _) ?c2 ?c3 ?c4 ?c5 ?_)
          case c2 => first | rfl | (intro u hu; simp at hu; subst hu; rfl)
          case c3 => unfold maxLen; omega
          case c4 => omega
          case c5 => first | omega | (simp; omega)
          intro v' w7 hown' hgrow _ hat
          obtain ⟨g7, c7', rfl⟩ := row_head2 hown' (by omega)
          have hsz : (w6.alloc (.cells #[.pointer (some ⟨wo.heap.size + 1, 0, none⟩)] 112)).heap.size = w6.heap.size + 1 := by simp
          have hmid := HLJ6.out.mid HX8.out hgrow
          have m1 := (hmid t _ HGT2.out).1
          have n2' := m1.c 2 _ (show _ = some _ from rfl)
          have f2' := m1.f 2
          have HAPP := Lib.hid (HLJ6.out.app (fld := 1) (K := 2 * t + 1) (q := k) (m' := m8 + 1) (c' := c7') (A' := some ⟨g7, 0, none⟩) HGT2.out (by omega) (by omega) HGK2.out HX8.out (by have e : (if 2 * t + 1 = 2 * k then lkR gs k j (2 * k) ++ [t] else lkR gs k j (2 * t + 1)) = lkR gs k j (2 * t + 1) := if_neg (by omega); first | exact hown' | (rw [e]; exact hown') | (show World.ownsRow _ _ _ _ _ _ (ptrs _ (if 2 * t + 1 = 2 * k then lkR gs k j (2 * k) ++ [t] else lkR gs k j (2 * t + 1)) ++ _); rw [e]; exact hown')) (congrArg (· + 1) HML8.out.symm) hgrow (by rcases hat with h | h; exact .inl h; exact .inr (by rw [hsz]; exact h)))
          have hpos := hown'.lt g7 rfl
          have hrow8 := (HR8.out.alloc (.cells #[.pointer (some ⟨wo.heap.size + 1, 0, none⟩)] 112)).lt
          have MP7 := Lib.hid (((MP5.out.alloc (.cells #[.pointer (some ⟨wo.heap.size + 1, 0, none⟩)] 112)).grown hgrow (fun e => by have := (hrow8 _ e.symm).1; omega)).setCell ⟨gt, 1 + 1, none⟩ (by show w.heap.size + 1 ≠ gt; omega) (.slice (some ⟨g7, 0, none⟩) (m8 + 1) c7'))
          have HB7 : Hid (Below w.heap.size w (w7.setCell ⟨gt, 1 + 1, none⟩ (.slice (some ⟨g7, 0, none⟩) (m8 + 1) c7'))) := ((HB5.out.alloc HB5.out.size (.cells #[.pointer (some ⟨wo.heap.size + 1, 0, none⟩)] 112)).grown hgrow (by omega) (fun q hq => by have := (hrow8 q hq).1; omega)).setCell (by show w.heap.size ≤ gt; omega) _
          have HO7 := Lib.hid (own_setT ((HO5.out.alloc (.cells #[.pointer (some ⟨wo.heap.size + 1, 0, none⟩)] 112)).kept hgrow (blocks_ne (HO5.out.alloc (.cells #[.pointer (some ⟨wo.heap.size + 1, 0, none⟩)] 112)) (HR8.out.alloc (.cells #[.pointer (some ⟨wo.heap.size + 1, 0, none⟩)] 112)) int_ne_ptr)) (hmid t _ HGT2.out).2 int_ne_link (1 + 1) none (.slice (some ⟨g7, 0, none⟩) (m8 + 1) c7'))
          have hzz7 : w6.heap.size + 1 ≤ w7.heap.size := by have := hgrow.size; omega
          clear hown' hgrow hat hmid m1 hrow8 hpos
          go_wp2
          go_roundw
          case rel => exact ⟨j + 1, _, by omega, by go_num, by rw [HST.out]; exact HAPP.out, MP7.out, HO7.out, HB7.out, by simp [World.setCell]; omega⟩
          case measure => simp [intOf]; omega
        · obtain rfl : j = l := by omega
          have hrl : (rdsN gs k).length = j := by rw [HRD.out, List.length_map, HLn.out]
          have HLA : Hid (LkW (w.heap.size + 2) (lb ++ [wo.heap.size + 1]) (linkR gs (k + 1)) V wr) := by rw [← lkR_all gs HV.out k hkg j hrl]; exact HLJ.out
          go_wp2_with (at_mapUpdate; refine wpList_store_ptr _ rfl _ _ _ rfl (w.heap.size + 1) k _ rfl MPJ.out (by unfold maxLen; omega) k (wo.heap.size + 1) (by omega) rfl rfl ?_)
          intro w9 hmp9 hgrow9
          have hb9 : Below (w.heap.size + 2) wr w9 → True := fun _ => trivial
          have HL9 : Hid (LkW (w.heap.size + 2) (lb ++ [wo.heap.size + 1]) (linkR gs (k + 1)) V w9) := HLA.out.map hgrow9 (by omega)
          have HB9 : Hid (Below w.heap.size w w9) := HBJ.out.grown hgrow9 (by omega) (fun q hq => by simp at hq; omega)
          have MP9 : Hid (MpI w9 (w.heap.size + 1) (k + 1) fun j => (lb ++ [wo.heap.size + 1])[j]?) := by
            have e : (fun j => if j = k then some (wo.heap.size + 1) else lb[j]?) = fun j => (lb ++ [wo.heap.size + 1])[j]? := by
              funext i
              by_cases h : i = k
              · rw [if_pos h, h, ← HLB.out, List.getElem?_append_right (Nat.le_refl _), Nat.sub_self]; rfl
              · rw [if_neg h]
                rcases Nat.lt_or_ge i lb.length with h1 | h1
                · rw [List.getElem?_append_left h1]
                · rw [List.getElem?_eq_none h1, List.getElem?_eq_none (by have := HLB.out; simp; omega)]
            rw [← e]; exact hmp9
          have hz9 := hgrow9.size
          clear hmp9 hgrow9
          go_wp2
          go_roundw
          case rel => exact ⟨k + 1, _, V, by omega, by go_num, by rw [List.length_append, HLB.out]; rfl, HL9.out, MP9.out, HB9.out, by omega⟩
          case measure => simp [intOf]; omega
    · obtain rfl : k = n := by omega
      go_wp2
      go_ret
      exact ⟨lb, rfl, hlb, HL.out.read, MP.out, HB.out⟩
end Go.Proofs.YtgakgmkonmgblaaGreat

namespace Go.Proofs.YtgakgmkonmgblaaGreat
set_option linter.unusedSimpArgs false
set_option linter.unusedVariables false
open Go.RowKit Go.Maps
set_option maxHeartbeats 800000 in
theorem impl_usersOf (g : Nat) (v : Value) (w : World) (hg : g < w.heap.size) (h : w.cell? ⟨g, 2, none⟩ = some v) :
    Calls Tryz.prog 59 #[.pointer (some ⟨g, 0, none⟩)] w fun e w' => e = .returned v ∧ w' = w := by
  go_enter Tryz.func59, Tryz.ntmps59
  go_wp2
  go_ret
  exact ⟨rfl, rfl⟩
/-- How many stores gather makes at most. -/
def CG : Nat → Nat
  | 0 => 0
  | f + 1 => 1 + 10 * CG f
theorem CG_le (f : Nat) (h : f ≤ 11) : CG f ≤ 11111111111 := by
  have : ∀ f, f < 12 → CG f ≤ 11111111111 := by decide
  exact this f (by omega)
/-- A set of links, as a map holds it. -/
def inS (lb : List Nat) (S : Nat → Bool) (j : Nat) : Option Nat := if S j then lb[j]? else none
theorem inS_put (lb : List Nat) (S : Nat → Bool) (x g : Nat) (h : lb[x]? = some g) : (fun j => if j = x then some g else inS lb S j) = inS lb (fun y => if y = x then true else S y) := by
  funext j
  unfold inS
  by_cases e : j = x
  · subst e; simp [h]
  · simp [e]
theorem LkS.grown {B mb : Nat} {lb : List Nat} {R : Nat → List Nat} {w w' : World} (h : LkS B lb R w) (hg : w.grownBy w' (some mb)) (hB : B ≤ mb) (hw : B ≤ w.heap.size) : LkS B lb R w' :=
  h.keep fun p hp => World.cell?_of_block (w := w) (hg.block p.block (by omega) (by simp; omega))
set_option maxRecDepth 100000 in
set_option maxHeartbeats 3200000 in
theorem gather_any (K : FuncId) (fld : Nat) (B mb : Nat) (lb : List Nat) (R : Nat → List Nat) (rank : Nat → Nat) (hfl : fld < 2) (hlb : lb.length ≤ 10) (hB : B ≤ mb)
    (hcf : ∀ (g : Nat) (w : World), (callFunc K #[.pointer (some ⟨g, 0, none⟩)]).run Tryz.prog w = .ok (.enter K #[.pointer (some ⟨g, 0, none⟩)]) w)
    (hK : ∀ (g : Nat) (v : Value) (w : World), g < w.heap.size → w.cell? ⟨g, 1 + fld, none⟩ = some v → Calls Tryz.prog K #[.pointer (some ⟨g, 0, none⟩)] w fun e w' => e = .returned v ∧ w' = w)
    (hR10 : ∀ k, (R k).length ≤ 10) (hst : ∀ x, x < lb.length → ∀ y ∈ R (2 * x + fld), rank y < rank x) :
    ∀ (f : Nat), f ≤ 11 → ∀ (x g n : Nat) (S : Nat → Bool) (w : World), rank x < f → lb[x]? = some g → LkS B lb R w → mb < w.heap.size → MpI w mb n (inS lb S) → n + CG f ≤ 1000000000000 →
    Calls Tryz.prog 95 #[.map (some mb), .pointer (some ⟨g, 0, none⟩), .func (.func K) #[] #[]] w fun e w' => e = .returned (.tuple #[]) ∧ ∃ n', n' ≤ n + CG f ∧ MpI w' mb n' (inS lb (gth (fun x => R (2 * x + fld)) f S x)) ∧ w.grownBy w' (some mb) := by
  intro f
  induction f with
  | zero => intro _ x g n S w h; omega
  | succ f ih =>
    intro hf11 x g n S w hx hgx hL hmb hM hn
    have hxl : x < lb.length := (List.getElem?_eq_some_iff.1 hgx).1
    have hcg := CG_le f (by omega)
    have hcs : CG (f + 1) = 1 + 10 * CG f := rfl
    obtain ⟨hgB, c0, hA, hA'⟩ := hL.it x g hgx
    have hlook := hM.look x (by omega)
    have HIH := Lib.hid ih
    have HK := Lib.hid hK
    have HCF := Lib.hid hcf
    have HST := Lib.hid hst
    have HL := Lib.hid hL
    have HM := Lib.hid hM
    have hgw : g < w.heap.size := by omega
    cases hS : S x
    · have hS1 : inS lb S x = none := by unfold inS; rw [hS]; rfl
      rw [hS1] at hlook
      replace hlook : (Instr.lookup 109 (.map (some mb)) (.int .i64 x) false).run Tryz.prog w = .ok (.pointer none) w := hlook
      obtain ⟨A, m, c, cR, hm, hps⟩ : ∃ A m c, w.cell? ⟨g, 1 + fld, none⟩ = some (.slice A m c) ∧ m = (R (2 * x + fld)).length ∧ PtS w B A lb (R (2 * x + fld)) := by
        rcases (show fld = 0 ∨ fld = 1 by omega) with e | e
        · rw [e]; exact hA
        · rw [e]; exact hA'
      have hm10 : m ≤ 10 := by rw [hm]; exact hR10 _
      have hgt : gth (fun x => R (2 * x + fld)) (f + 1) S x = (R (2 * x + fld)).foldl (gth (fun x => R (2 * x + fld)) f) (fun y => if y = x then true else S y) := by
        rw [gth, if_neg (by rw [hS]; simp)]
      rw [hgt]
      have HSM := Lib.hid fun (k q : Nat) => hL.small k q
      have HSX := Lib.hid (hst x hxl)
      have HPS := Lib.hid hps
      have HMM := Lib.hid hm
      have HGX := Lib.hid hgx
      have HCR := Lib.hid cR
      clear hS hgt hS1 hA hA' hL hM hK hcf hst hps hm hR10 ih hgx cR
      go_enter Tryz.func95, Tryz.ntmps95
      go_wp2_with (at_mapUpdate; refine wpList_store_ptr _ rfl _ _ _ rfl mb n _ rfl HM.out (by unfold maxLen; omega) x g (by omega) rfl rfl ?_)
      intro w1 hm1 hg1
      rw [inS_put lb S x g HGX.out] at hm1
      have HM1 := Lib.hid hm1
      have HL1 := Lib.hid (HL.out.grown hg1 hB (by omega))
      have HG1 := Lib.hid hg1
      have cR1 : w1.cell? ⟨g, 1 + fld, none⟩ = some (.slice A m c) := (World.cell?_of_block (w := w) (a := ⟨g, 1 + fld, none⟩) (hg1.block g hgw (by simp; omega))).trans HCR.out
      have hz1 := hg1.size
      have hcf1 := HCF.out g w1
      have HK1 := Lib.hid (HK.out g _ w1 (by omega) cR1)
      have HPS1 : Hid (PtS w1 B A lb (R (2 * x + fld))) := HPS.out.keep fun p hp => World.cell?_of_block (w := w) (hg1.block p.block (by omega) (by simp; omega))
      clear hm1 hg1 cR1 hlook c0
      go_wp2_with fail
      refine HK1.out.mono ?_
      rintro e w2 ⟨rfl, rfl⟩
      clear hcf1
      go_wp2
      go_loopw [25] (fun u wr => ∃ (q n1 : Nat), q ≤ m ∧ u = .int .i64 q ∧ n1 ≤ n + 1 + q * CG f ∧ Hid (MpI wr mb n1 (inS lb (((R (2 * x + fld)).take q).foldl (gth (fun x => R (2 * x + fld)) f) (fun y => if y = x then true else S y)))) ∧ Hid (w.grownBy wr (some mb))) (fun u _ => m - (intOf u).toNat)
      case atStart => exact ⟨0, n + 1, Nat.zero_le _, rfl, by omega, HM1.out, HG1.out⟩
      case round =>
        obtain ⟨q, n1, hq, rfl, hn1, HMq, HGq⟩ := hrel
        have hzr := HGq.out.size
        by_cases hlt : q < m
        · have hql : q < (R (2 * x + fld)).length := by rw [← HMM.out]; exact hlt
          have HPSq : Hid (PtS wr B A lb (R (2 * x + fld))) := HPS.out.keep fun p hp => World.cell?_of_block (w := w) (HGq.out.block p.block (by omega) (by simp; omega))
          obtain ⟨y, hy⟩ : ∃ y, (R (2 * x + fld))[q]? = some y := ⟨_, List.getElem?_eq_getElem hql⟩
          have hym : y ∈ R (2 * x + fld) := List.mem_of_getElem? hy
          have hyl := HSM.out _ _ hym
          obtain ⟨g2, hg2⟩ : ∃ g2, lb[y]? = some g2 := ⟨_, List.getElem?_eq_getElem hyl⟩
          obtain ⟨bp, op, rfl, hbp, hcp⟩ := HPSq.out (by omega)
          have d0 := hcp q y hy
          rw [hg2] at d0
          have d0 : wr.cell? ⟨bp, op + q, none⟩ = some (.pointer (some ⟨g2, 0, none⟩)) := d0
          have hry := HSX.out y hym
          have hmul : (q + 1) * CG f = q * CG f + CG f := Nat.succ_mul _ _
          have hmul2 : q * CG f ≤ 10 * CG f := Nat.mul_le_mul_right _ (by omega)
          have hmul3 : (q + 1) * CG f ≤ 10 * CG f := Nat.mul_le_mul_right _ (by omega)
          have htk : (R (2 * x + fld)).take (q + 1) = (R (2 * x + fld)).take q ++ [y] := by rw [List.take_add_one, hy]; rfl
          have HST2 : Hid (((R (2 * x + fld)).take (q + 1)).foldl (gth (fun x => R (2 * x + fld)) f) (fun y => if y = x then true else S y) = gth (fun x => R (2 * x + fld)) f (((R (2 * x + fld)).take q).foldl (gth (fun x => R (2 * x + fld)) f) (fun y => if y = x then true else S y)) y) := by
            show _ = _
            rw [htk, List.foldl_append]; rfl
          have HC := Lib.hid (HIH.out (by omega) y g2 n1 _ wr (by omega) hg2 (HL.out.grown HGq.out hB (by omega)) (by omega) HMq.out (by omega))
          clear hcp hy hym htk hg2
          generalize hcc : q * CG f = cc at *
          go_wp2_with fail
          refine HC.out.mono ?_
          rintro e w3 ⟨rfl, n2, hn2, hM3, hG3⟩
          have HM3 := Lib.hid hM3
          have HG3 := Lib.hid (HGq.out.trans hG3)
          clear hM3 hG3
          go_wp2
          go_roundw
          case rel => exact ⟨q + 1, n2, by omega, by go_num, by omega, by rw [HST2.out]; exact HM3.out, HG3.out⟩
          case measure => simp [intOf]; omega
        · obtain rfl : q = m := by omega
          have hmul2 : q * CG f ≤ 10 * CG f := Nat.mul_le_mul_right _ (by omega)
          go_wp2
          go_end0
          refine ⟨rfl, n1, by omega, ?_, HGq.out⟩
          have := HMq.out
          rw [List.take_of_length_le (by rw [← HMM.out]; exact Nat.le_refl _)] at this
          exact this
    · have hS1 : inS lb S x = some g := by unfold inS; rw [hS]; exact hgx
      rw [hS1] at hlook
      replace hlook : (Instr.lookup 109 (.map (some mb)) (.int .i64 x) false).run Tryz.prog w = .ok (.pointer (some ⟨g, 0, none⟩)) w := hlook
      have hgt : gth (fun x => R (2 * x + fld)) (f + 1) S x = S := by rw [gth, if_pos hS]
      rw [hgt]
      clear hS hgt hS1 hA hA' hL hM hK hcf hst hR10 ih
      go_enter Tryz.func95, Tryz.ntmps95
      go_wp2
      refine bodyPost_ret (results_none rfl _ _ _) rfl ?_
      exact ⟨rfl, n, by omega, HM.out, ⟨rfl, rfl, rfl, Nat.le_refl _, fun _ _ _ => rfl⟩⟩
end Go.Proofs.YtgakgmkonmgblaaGreat

namespace Go.Proofs.YtgakgmkonmgblaaGreat
set_option linter.unusedSimpArgs false
set_option linter.unusedVariables false
open Go.RowKit Go.Maps
theorem linkR_len (gs : List Nd) (n k : Nat) (hn : n ≤ 10) : (linkR gs n k).length ≤ 10 := by
  unfold linkR
  split
  · split
    · unfold rdsN
      rw [List.length_map]
      have hlm := mayR_len (gs.getD (k / 2) default).ps 10
      rw [mayR_below] at hlm
      exact hlm
    · simp
  · unfold usN
    have := List.length_filter_le (fun u => decide (((k / 2 : Nat) : Int) ∈ mayR (gs.getD u default).ps)) (List.range n)
    rw [List.length_range] at this
    omega
set_option maxHeartbeats 800000 in
theorem from1_at (g mb n1 : Nat) (lb : List Nat) (S : Nat → Bool) (q : Nat) (w : World) (hq : q < lb.length) (hq2 : q ≤ 1000) (h1 : w.cell? ⟨g, 0, none⟩ = some (.map (some mb))) (hg : g < w.heap.size) (h : MpI w mb n1 (inS lb S)) :
    Calls Tryz.prog 96 #[.int .i64 q, .pointer (some ⟨g, 0, none⟩)] w fun e w' => e = .returned (.bool (S q)) ∧ Below w.heap.size w w' := by
  have hlook := h.look q hq2
  cases hS : S q
  · have e : inS lb S q = none := by unfold inS; rw [hS]; rfl
    rw [e] at hlook
    replace hlook : (Instr.lookup 109 (.map (some mb)) (.int .i64 q) false).run Tryz.prog w = .ok (.pointer none) w := hlook
    clear e h hS
    go_enter Tryz.func96, Tryz.ntmps96
    go_wp2
    go_ret
    exact ⟨ret_b (by simp), Below.refl _ _⟩
  · have e : inS lb S q = some lb[q] := by unfold inS; rw [hS, if_pos rfl]; exact List.getElem?_eq_getElem hq
    rw [e] at hlook
    generalize lb[q] = g9 at hlook
    replace hlook : (Instr.lookup 109 (.map (some mb)) (.int .i64 q) false).run Tryz.prog w = .ok (.pointer (some ⟨g9, 0, none⟩)) w := hlook
    clear e h hS
    go_enter Tryz.func96, Tryz.ntmps96
    go_wp2
    go_ret
    exact ⟨ret_b (by simp), Below.refl _ _⟩
set_option maxRecDepth 100000 in
set_option maxHeartbeats 3200000 in
theorem impl_nodesFrom (K : FuncId) (fld : Nat) (rank : Nat → Nat) (T : Nat → Bool) (A A1 : Option Addr) (n c m c1 : Nat) (gs : List Nd) (xs : List Int) (w : World) (B : Nat) (hB : B ≤ w.heap.size) (hn : n = gs.length) (hm : m = xs.length) (h : GS w B A gs) (hx : IS w B A1 xs) (hv : validG gs = true) (hG : GB gs) (hm10 : m ≤ 10) (hxs : ∀ x ∈ xs, 0 ≤ x ∧ x < (n : Int)) (hfl : fld < 2)
    (hcf : ∀ (g : Nat) (w : World), (callFunc K #[.pointer (some ⟨g, 0, none⟩)]).run Tryz.prog w = .ok (.enter K #[.pointer (some ⟨g, 0, none⟩)]) w)
    (hK : ∀ (g : Nat) (v : Value) (w : World), g < w.heap.size → w.cell? ⟨g, 1 + fld, none⟩ = some v → Calls Tryz.prog K #[.pointer (some ⟨g, 0, none⟩)] w fun e w' => e = .returned v ∧ w' = w)
    (hrk : ∀ x, x < n → rank x < 11) (hst : ∀ x, x < n → ∀ y ∈ linkR gs n (2 * x + fld), rank y < rank x)
    (hT : ∀ i, i < n → ((xs.map Int.toNat).foldl (gth (fun x => linkR gs n (2 * x + fld)) 11) (fun _ => false)) i = T i) :
    Calls Tryz.prog 58 #[.agg #[.slice A n c], .slice A1 m c1, .func (.func K) #[] #[]] w fun e w' => RetI w (nwTo T n) e w' := by
  have hmm := @run_makeMap Tryz.prog
  have hn10 : n ≤ 10 := by have := (validG_parts gs hv).1; omega
  have HLK := Lib.hid fun (w' : World) (hB : B ≤ w'.heap.size) (h : GS w' B A gs) => impl_linksOf A n c gs w' B hB hn h hv hG
  have HGA := Lib.hid fun (B mb : Nat) (lb : List Nat) (hlb : lb.length = n) (hB : B ≤ mb) => gather_any K fld B mb lb (linkR gs n) rank hfl (by omega) hB hcf hK (fun k => linkR_len gs n k hn10) (fun x hx => hst x (by omega)) 11 (by omega)
  have H := Lib.hid h
  have HX := Lib.hid hx
  have HM := Lib.hid hm
  have HXS := Lib.hid hxs
  have HT := Lib.hid hT
  have HRK := Lib.hid hrk
  have HNT := Lib.hid (fun (P Q : Nat → Bool) (h : ∀ i, i < n → P i = Q i) => (show nwTo P n = nwTo Q n by
    unfold nwTo
    congr 1
    exact List.filter_congr fun i hi => h i (List.mem_range.1 hi)))
  generalize hsx : (fun x => linkR gs n (2 * x + fld)) = stp at *
  have hcg : CG 11 ≤ 11111111111 := CG_le 11 (by omega)
  clear h hx hn hm hv hG hxs hT hcf hK hst hsx hrk
  go_enter Tryz.func58, Tryz.ntmps58
  go_wp2_with fail
  refine (HLK.out _ (by simp; omega) (H.out.alloc hB _)).mono ?_
  rintro e w2 ⟨lb, rfl, hlb, hL2, hM2, hb2⟩
  have hz2 : w.heap.size + 1 ≤ w2.heap.size := by have := hb2.size; simpa using this
  have q2 : w2.cell? ⟨w.heap.size, 0, none⟩ = some (.slice A n c) := (hb2.cell (p := ⟨w.heap.size, 0, none⟩) (by simp)).trans (by go_simp)
  have hB2 : Below w.heap.size w w2 := ((Below.refl _ _).alloc (Nat.le_refl _) _).trans (hb2.mono (by simp))
  have hsz1 : (w.alloc (.cells #[.slice A n c] 25)).heap.size + 1 = w.heap.size + 2 := by simp
  rw [hsz1] at hM2
  have hmlt := hM2.lt
  have HL2 := Lib.hid hL2
  have HM2 := Lib.hid hM2
  have HLB := Lib.hid hlb
  clear hb2 hL2 hM2 hlb hsz1
  go_upto_region 3 with fail
  obtain ⟨w4, hw4⟩ : ∃ w4, w4 = (w2.alloc (.map #[] 0)).alloc (.cells #[.map (some w2.heap.size)] 109) := ⟨_, rfl⟩
  have hb4 : Below w2.heap.size w2 w4 := by rw [hw4]; exact ((Below.refl _ _).alloc (Nat.le_refl _) _).alloc (by simp) _
  have hz4 : w4.heap.size = w2.heap.size + 2 := by rw [hw4]; simp
  have hM4 : MpI w4 w2.heap.size 0 (inS lb fun _ => false) := by
    have h1 := (MpI.made w2).alloc (.cells #[.map (some w2.heap.size)] 109)
    have e : inS lb (fun _ => false) = fun _ => none := by funext j; rfl
    rw [hw4, e]; exact h1
  have c8 : w4.cell? ⟨w2.heap.size + 1, 0, none⟩ = some (.map (some w2.heap.size)) := by rw [hw4]; go_simp
  rw [← hw4]
  have q4 := (hb4.cell (p := ⟨w.heap.size, 0, none⟩) (by show w.heap.size < w2.heap.size; omega)).trans q2
  have HM4 := Lib.hid hM4
  have HML4 := Lib.hid (HM2.out.step hb4)
  have HL4 := Lib.hid (HL2.out.keep fun p hp => hb4.cell hp)
  have HB4 := Lib.hid (hB2.trans (hb4.mono (by omega)))
  have HX4 := Lib.hid (HX.out.below HB4.out hB)
  have HZ4 := Lib.hid hz4
  have hz4a : w2.heap.size + 2 ≤ w4.heap.size := by omega
  clear hw4 hb4 hM4 hB2 q2 HM2 HL2 hz4
  go_wp2
  go_loopw [16] (fun u wr => ∃ (k n1 : Nat), k ≤ m ∧ u = .int .i64 k ∧ n1 ≤ k * CG 11 ∧ Hid (MpI wr w2.heap.size n1 (inS lb (((xs.take k).map Int.toNat).foldl (gth stp 11) (fun _ => false)))) ∧ Hid (w4.grownBy wr (some w2.heap.size))) (fun u _ => m - (intOf u).toNat)
  case atStart => exact ⟨0, 0, Nat.zero_le _, rfl, by omega, HM4.out, ⟨rfl, rfl, rfl, Nat.le_refl _, fun _ _ _ => rfl⟩⟩
  case round =>
    obtain ⟨k, n1, hk, rfl, hn1, HMk, HGk⟩ := hrel
    have hzr := HGk.out.size
    have hkeep : ∀ p : Addr, p.block < w2.heap.size → wr.cell? p = w4.cell? p := fun p hp => World.cell?_of_block (w := w4) (HGk.out.block p.block (by omega) (by simp; omega))
    have c8r : wr.cell? ⟨w2.heap.size + 1, 0, none⟩ = some (.map (some w2.heap.size)) := (World.cell?_of_block (w := w4) (a := ⟨w2.heap.size + 1, 0, none⟩) (HGk.out.block (w2.heap.size + 1) (by omega) (by simp))).trans c8
    by_cases hlt : k < m
    · have hkx : k < xs.length := by have := HM.out; omega
      obtain ⟨b, off, rfl, hbB, hc⟩ := HX4.out (by omega)
      have d0 := (hkeep ⟨b, off + k, none⟩ (by show b < w2.heap.size; omega)).trans (hc k hkx)
      have hxk : xs.getD k 0 = xs[k] := by simp [List.getD, hkx]
      obtain ⟨hx0, hx1⟩ := HXS.out xs[k] (List.getElem_mem hkx)
      obtain ⟨y, hy⟩ : ∃ y : Nat, xs[k] = (y : Int) := ⟨xs[k].toNat, by omega⟩
      rw [hxk, hy] at d0
      have hyn : y < n := by omega
      have hyl : y < lb.length := by have := HLB.out; omega
      obtain ⟨g2, hg2⟩ : ∃ g2, lb[y]? = some g2 := ⟨_, List.getElem?_eq_getElem hyl⟩
      have hlook := (HML4.out.grown HGk.out (by simp; omega)).look y (by omega)
      rw [hg2] at hlook
      replace hlook : (Instr.lookup 109 (.map (some (w.heap.size + 2))) (.int .i64 y) false).run Tryz.prog wr = .ok (.pointer (some ⟨g2, 0, none⟩)) wr := hlook
      have htk : (xs.take (k + 1)).map Int.toNat = (xs.take k).map Int.toNat ++ [y] := by
        rw [List.take_succ_eq_append_getElem hkx, List.map_append, hy]; rfl
      have HST : Hid (((xs.take (k + 1)).map Int.toNat).foldl (gth stp 11) (fun _ => false) = gth stp 11 (((xs.take k).map Int.toNat).foldl (gth stp 11) (fun _ => false)) y) := by
        show _ = _
        rw [htk, List.foldl_append]; rfl
      have hmul : (k + 1) * CG 11 = k * CG 11 + CG 11 := Nat.succ_mul _ _
      have hmul2 : k * CG 11 ≤ 10 * CG 11 := Nat.mul_le_mul_right _ (by omega)
      have HC := Lib.hid (HGA.out w2.heap.size w2.heap.size lb HLB.out (Nat.le_refl _) y g2 n1 _ wr (HRK.out y hyn) hg2 (HL4.out.keep hkeep) (by omega) HMk.out (by omega))
      clear hc hxk hx0 hx1 hy htk hg2 hkeep
      generalize hcc : k * CG 11 = cc at *
      go_wp2_with fail
      refine HC.out.mono ?_
      rintro e w5 ⟨rfl, n2, hn2, hM5, hG5⟩
      have HM5 := Lib.hid hM5
      have HG5 := Lib.hid (HGk.out.trans hG5)
      clear hM5 hG5
      go_wp2
      go_roundw
      case rel => exact ⟨k + 1, n2, by omega, by go_num, by omega, by rw [HST.out]; exact HM5.out, HG5.out⟩
      case measure => simp [intOf]; omega
    · obtain rfl : k = m := by omega
      have q5 := (hkeep ⟨w.heap.size, 0, none⟩ (by show w.heap.size < w2.heap.size; omega)).trans q4
      have htk : xs.take k = xs := List.take_of_length_le (by have := HM.out; omega)
      have hMk := HMk.out
      rw [htk] at hMk
      have HNW := Lib.hid (impl_nodesWhere1 96 (.pointer (some ⟨w2.heap.size + 1, 0, none⟩)) ((xs.map Int.toNat).foldl (gth stp 11) (fun _ => false))
        (fun w' => w2.heap.size + 1 < w'.heap.size ∧ w'.cell? ⟨w2.heap.size + 1, 0, none⟩ = some (.map (some w2.heap.size)) ∧ MpI w' w2.heap.size n1 (inS lb ((xs.map Int.toNat).foldl (gth stp 11) (fun _ => false)))) A n c (by omega)
        (fun wa wb h hb => ⟨Nat.lt_of_lt_of_le h.1 hb.size, (hb.cell (p := ⟨w2.heap.size + 1, 0, none⟩) h.1).trans h.2.1, h.2.2.step hb⟩)
        (fun q w => by kernel_rfl)
        (fun q wa hq h => from1_at (w2.heap.size + 1) w2.heap.size n1 lb _ q wa (by have := HLB.out; omega) (by omega) h.2.1 h.1 h.2.2)
        wr ⟨by omega, c8r, hMk⟩)
      rw [HNT.out _ T HT.out] at HNW
      have HB5 : Hid (Below w.heap.size w wr) := HB4.out.grown HGk.out HB4.out.size (fun q hq => by simp at hq; omega)
      clear hMk htk hkeep c8r
      go_wp2_with fail
      refine HNW.out.mono ?_
      rintro e w6 ⟨v, rfl, ho, hb⟩
      go_wp2
      go_ret
      exact ⟨v, by simp, own_mono ho HB5.out.size, HB5.out.trans (hb.mono HB5.out.size)⟩
end Go.Proofs.YtgakgmkonmgblaaGreat

namespace Go.Proofs.YtgakgmkonmgblaaGreat
set_option linter.unusedSimpArgs false
set_option linter.unusedVariables false
open Go.RowKit Go.Maps
theorem linkR_users (gs : List Nd) : (fun x => linkR gs gs.length (2 * x + 1)) = usN gs gs.length := by
  funext x
  unfold linkR
  rw [if_neg (by omega), show (2 * x + 1) / 2 = x by omega]
theorem st_mem {gs : List Nd} {xs : List Int} (h : stOK gs xs) (y : Nat) : y ∈ xs.map Int.toNat ↔ (y : Int) ∈ xs := by
  rw [List.mem_map]
  constructor
  · rintro ⟨x, hx, rfl⟩
    rw [Int.toNat_of_nonneg (h x hx).1]; exact hx
  · intro hy; exact ⟨_, hy, by simp⟩
theorem from_users (A A1 : Option Addr) (n c m c1 : Nat) (gs : List Nd) (xs : List Int) (w : World) (B : Nat) (hB : B ≤ w.heap.size) (hn : n = gs.length) (hm : m = xs.length) (h : GS w B A gs) (hx : IS w B A1 xs) (hv : validG gs = true) (hG : GB gs) (hm10 : m ≤ 10) (hxs : stOK gs xs) :
    Calls Tryz.prog 58 #[.agg #[.slice A n c], .slice A1 m c1, .func (.func 59) #[] #[]] w fun e w' => RetI w (reachTo gs xs gs.length) e w' := by
  subst hn
  have h10 := (validG_parts gs hv).1
  rw [reachTo_nwTo gs xs gs.length gs.length (Nat.le_refl _)]
  have hst : ∀ x, x < gs.length → ∀ y ∈ linkR gs gs.length (2 * x + 1), gs.length - y < gs.length - x := fun x hxl y hy => by
    have e := congrFun (linkR_users gs) x
    rw [e] at hy
    have h1 := usN_gt gs hv _ _ _ (Nat.le_refl _) hy
    omega
  refine impl_nodesFrom 59 1 (fun x => gs.length - x) _ A A1 gs.length c m c1 gs xs w B hB rfl hm h hx hv hG hm10 hxs (by omega) (fun g w => by kernel_rfl) (fun g v w hg hc => impl_usersOf g v w hg hc) (fun x _ => by show gs.length - x < 11; omega) hst ?_
  intro i hi
  rw [linkR_users]
  exact fold_is (usN gs gs.length) (fun x => gs.length - x) 11 (fun x _ y hy => by have h1 := usN_gt gs hv _ _ _ (Nat.le_refl _) hy; have := ((mem_usN _ _ _ _).1 hy).1; show gs.length - y < gs.length - x; omega) _ (fun y _ => by show gs.length - y < 11; omega) _ (reach_cl gs hv xs)
    (fun y hy => by
      have h1 := (st_mem hxs y).1 hy
      have h2 := hxs _ h1
      exact decide_eq_true ((reachTo_iff gs xs _ y (by omega)).2 (.inl h1)))
    (fun S hS hl y hy => reach_min gs hv xs S hS (fun x h1 _ => hl x ((st_mem hxs x).2 h1)) y (of_decide_eq_true hy)) i
end Go.Proofs.YtgakgmkonmgblaaGreat

namespace Go.Proofs.YtgakgmkonmgblaaGreat
set_option linter.unusedSimpArgs false
set_option linter.unusedVariables false
open Go.RowKit
/-- What reach adds for the node at k. -/
def rchB (gs : List Nd) (st : List Int) (k : Nat) : Bool := decide ((k : Int) ∈ st) || (mayR (gs.getD k default).ps).any fun r => decide (r ∈ reachTo gs st k)
theorem reachTo_step (gs : List Nd) (st : List Int) (k : Nat) : reachTo gs st (k + 1) = reachTo gs st k ++ if rchB gs st k then [(k : Int)] else [] := rfl
end Go.Proofs.YtgakgmkonmgblaaGreat

namespace Go.Proofs.YtgakgmkonmgblaaGreat
set_option linter.unusedSimpArgs false
set_option linter.unusedVariables false
open Go.RowKit
set_option maxHeartbeats 1600000 in
theorem laws_ascends (A : Option Addr) (n c : Nat) (xs : List Int) (w : World) (B : Nat) (hB : B ≤ w.heap.size) (hn : n = xs.length) (h : IS w B A xs) (hs : n ≤ 2000000) (hd : ∀ j, j + 1 < xs.length → xs.getD j 0 < xs.getD (j + 1) 0) :
    Calls Tryz.prog 14 #[.slice A n c] w fun e w' => e = .returned (.bool true) ∧ Below w.heap.size w w' := by
  have H := Lib.hid h
  have HN := Lib.hid hn
  have HD := Lib.hid hd
  clear hn h hd
  go_enter Tryz.func14, Tryz.ntmps14
  go_wp2
  go_loopw [3] (fun i wr => ∃ j : Nat, i = .int .i64 ((j : Int) + 1) ∧ Hid (Below w.heap.size w wr)) (fun i _ => n - (intOf i).toNat)
  case atStart => exact ⟨0, rfl, Below.refl _ _⟩
  case round =>
    obtain ⟨j, rfl, HB⟩ := hrel
    by_cases hlt : j + 1 < n
    · obtain ⟨b, off, rfl, hbB, hc⟩ := H.out (by have := HN.out; omega)
      have c0 := (HB.out.cell (p := ⟨b, off + j, none⟩) (by show b < w.heap.size; omega)).trans (hc j (by have := HN.out; omega))
      have c1 := (HB.out.cell (p := ⟨b, off + (j + 1), none⟩) (by show b < w.heap.size; omega)).trans (hc (j + 1) (by have := HN.out; omega))
      have hxy := HD.out j (by have := HN.out; omega)
      clear hc H
      generalize xs.getD j 0 = x at *
      generalize xs.getD (j + 1) 0 = y at *
      have hle : ¬ y ≤ x := by omega
      have hw1 : IntKind.i64.wrap ((j : Int) + 1 - 1) = (j : Int) := by rw [IntWalk.i64_in _ (by omega)]; omega
      have hw2 : IntKind.i64.wrap ((j : Int)) = (j : Int) := by rw [IntWalk.i64_in _ (by omega)]
      have ht : ((j : Int) + 1).toNat = j + 1 := by omega
      have hb1 : (j : Int) + 1 < n := by omega
      have hb0 : (0 : Int) ≤ (j : Int) + 1 := by omega
      go_wp2
      go_quiet (fail)
      clear hw1 hw2 ht
      go_wp2
      go_roundw
      case rel => exact ⟨j + 1, by go_num, drewN_below0 HB.out⟩
      case measure => simp [intOf]; omega
    · have hlt' : ¬ (j : Int) + 1 < n := by omega
      go_wp2
      go_ret
      exact ⟨rfl, HB.out⟩
end Go.Proofs.YtgakgmkonmgblaaGreat

namespace Go.Proofs.YtgakgmkonmgblaaGreat
set_option linter.unusedSimpArgs false
set_option linter.unusedVariables false
open Go.RowKit
theorem within_g (A A' : Option Addr) (n c m c' : Nat) (xs ys : List Int) (w : World) (hn : n = xs.length) (h : IS w w.heap.size A xs) (hs : n ≤ 2000000) (hm : m = ys.length) (h' : IS w w.heap.size A' ys) (hs' : m ≤ 2000000) (hd : ∀ x ∈ xs, x ∈ ys) :
    Calls Tryz.prog 15 #[.slice A n c, .slice A' m c'] w fun e w' => e = .returned (.bool true) ∧ Below w.heap.size w w' := by
  refine (laws_within A A' n c m c' xs ys w w.heap.size (Nat.le_refl _) hn h hs hm h' hs' hd).mono ?_
  rintro e w' ⟨rfl, rfl⟩
  exact ⟨rfl, Below.refl _ _⟩
end Go.Proofs.YtgakgmkonmgblaaGreat

namespace Go.Proofs.YtgakgmkonmgblaaGreat
set_option linter.unusedSimpArgs false
set_option linter.unusedVariables false
open Go.RowKit
set_option maxRecDepth 100000 in
set_option maxHeartbeats 1600000 in
theorem impl_nodesWhere3 (K : FuncId) (cap cap2 cap3 : Value) (P : Nat → Bool) (I : World → Prop) (A : Option Addr) (n c : Nat) (hs : n ≤ 2000000)
    (hI : ∀ w w' : World, I w → Below w.heap.size w w' → I w') (hcf : ∀ (q : Nat) (w : World), (callFunc K #[.int .i64 q, cap, cap2, cap3]).run Tryz.prog w = .ok (.enter K #[.int .i64 q, cap, cap2, cap3]) w)
    (hP : ∀ (q : Nat) (w : World), q < n → I w → Calls Tryz.prog K #[.int .i64 q, cap, cap2, cap3] w fun e w' => e = .returned (.bool (P q)) ∧ Below w.heap.size w w') (w : World) (h : I w) :
    Calls Tryz.prog 54 #[.agg #[.slice A n c], .func (.func K) #[] #[cap, cap2, cap3]] w fun e w' => RetI w (nwTo P n) e w' := by
  obtain ⟨i0, hi, hz0, hz1, hz2⟩ := info_parts info_int
  have HI := Lib.hid hI
  have HP := Lib.hid hP
  have H := Lib.hid h
  have HCF := Lib.hid hcf
  clear hI hP h hcf
  go_enter Tryz.func54, Tryz.ntmps54
  go_wp2
  go_loopw [5, 10] (fun v i wr => ∃ k : Nat, k ≤ n ∧ i = .int .i64 k ∧ Hid (OwnI wr (w.heap.size + 1) v (nwTo P k)) ∧ Below (w.heap.size + 1) (w.alloc (.cells #[.slice A n c] 25)) wr) (fun _ i _ => n - (intOf i).toNat)
  case atStart => exact ⟨0, Nat.zero_le _, rfl, World.ownsRow_nil _ _ _ _, Below.refl _ _⟩
  case round =>
    obtain ⟨k, hk, rfl, HO, hbr⟩ := hrel
    have hwr : w.heap.size + 1 ≤ wr.heap.size := by have := hbr.size; simpa using this
    by_cases hlt : k < n
    · have HST := Lib.hid (nwTo_step P k)
      have hdl := nwTo_len P k
      have HIR := Lib.hid (HI.out _ _ H.out (((Below.refl _ _).alloc (Nat.le_refl _) _).trans (hbr.mono (by omega))))
      have HPK := Lib.hid fun (w' : World) (h : I w') => HP.out k w' hlt h
      have hcf := HCF.out k
      generalize nwTo P k = D at *
      generalize P k = p at *
      cases p
      · go_wp2_with fail
        refine (HPK.out _ HIR.out).mono ?_
        rintro e w2 ⟨rfl, hb2⟩
        go_wp2
        go_roundw
        case rel => exact ⟨k + 1, by omega, by go_num, by rw [HST.out]; simpa [OwnI, Hid] using own_below HO.out hb2, hbr.trans (hb2.mono hwr)⟩
        case measure => simp [intOf]; omega
      · go_wp2_with fail
        refine (HPK.out _ HIR.out).mono ?_
        rintro e w2 ⟨rfl, hb2⟩
        have HO2 := Lib.hid (own_below HO.out hb2)
        have hbr2 := hbr.trans (hb2.mono hwr)
        have hw2 : w.heap.size + 1 ≤ w2.heap.size := by have := hb2.size; omega
        clear hcf
        go_wp2_with (at_builtin; refine wpList_append_own _ rfl _ _ 26 rfl (w.heap.size + 1) 3 i0 (.int .i64 0) 1 8 Tryz.underlying26 hi hz0 hz1 hz2 rfl (by decide) _ _ _ rfl (HO2.out.alloc _) ⟨_, 0, none⟩ 1 1 [.int .i64 k] rfl rfl (cell_one_new _ _ _) ?c2 ?c3 ?c4 ?c5 ?_)
        case c2 => first | rfl | (intro u hu; simp at hu; subst hu; rfl)
        case c3 => unfold maxLen; omega
        case c4 => omega
        case c5 => first | omega | (simp; omega)
        intro v' w3 hown' hgrow _
        have hpos := (HO2.out.alloc (.cells #[.int .i64 k] 3)).lt
        have HO' : Hid (OwnI w3 (w.heap.size + 1) v' (nwTo P (k + 1))) := by
          rw [HST.out]
          simpa [OwnI, Hid] using hown'
        have HB' := Lib.hid ((hbr2.alloc hw2 (.cells #[.int .i64 k] 3)).grown hgrow (by first | (simp; omega) | omega) (fun q hq => (hpos q hq).1))
        clear hown' hgrow hpos
        go_wp2
        go_roundw
        case rel => exact ⟨k + 1, by omega, by go_num, HO'.out, HB'.out⟩
        case measure => simp [intOf]; omega
    · obtain rfl : k = n := by omega
      go_wp2
      go_ret
      exact ⟨_, rfl, own_mono HO.out (by omega), ((Below.refl _ _).alloc (Nat.le_refl _) _).trans (hbr.mono (by omega))⟩
set_option maxHeartbeats 800000 in
theorem slices_IndexFunc1 (K : FuncId) (cap : Value) (P : Int → Bool) (A : Option Addr) (n c : Nat) (xs : List Int) (hs : n ≤ 2000000) (w : World) (hcf : ∀ (q : Int) (w : World), (callFunc K #[.int .i64 q, cap]).run Tryz.prog w = .ok (.enter K #[.int .i64 q, cap]) w)
    (hP : ∀ (q : Int), Calls Tryz.prog K #[.int .i64 q, cap] w fun e w' => e = .returned (.bool (P q)) ∧ w' = w) (hn : n = xs.length) (B : Nat) (hx : IS w B A xs) :
    Calls Tryz.prog 80 #[.slice A n c, .func (.func K) #[] #[cap]] w fun e w' => (∃ r : Int, e = .returned (.int .i64 r) ∧ decide (r ≥ 0) = xs.any P) ∧ w' = w := by
  have HP := Lib.hid hP
  have HCF := Lib.hid hcf
  have HX := Lib.hid hx
  have HN := Lib.hid hn
  clear hP hcf hx hn
  go_enter Tryz.func80, Tryz.ntmps80
  go_wp2
  go_loopw [8] (fun i wr => ∃ k : Nat, k ≤ n ∧ i = .int .i64 k ∧ Hid (∀ j, j < k → P (xs.getD j 0) = false) ∧ wr = w) (fun i _ => n - (intOf i).toNat)
  case atStart => exact ⟨0, Nat.zero_le _, rfl, fun j hj => by omega, rfl⟩
  case round =>
    obtain ⟨k, hk, rfl, HA, rfl⟩ := hrel
    by_cases hlt : k < n
    · have hkx : k < xs.length := by have := HN.out; omega
      obtain ⟨b, off, rfl, hbB, hc⟩ := HX.out (by omega)
      have c0 := hc k hkx
      have HNX : Hid (P (xs.getD k 0) = false → ∀ j, j < k + 1 → P (xs.getD j 0) = false) := fun h j hj => by
        rcases Nat.lt_or_ge j k with h1 | h1
        · exact HA.out j h1
        · obtain rfl : j = k := by omega
          exact h
      have HYS : Hid (P (xs.getD k 0) = true → xs.any P = true) := fun h => List.any_eq_true.2 ⟨xs.getD k 0, by simp [List.getD, hkx], h⟩
      have HPK := Lib.hid (HP.out (xs.getD k 0))
      have hcf := HCF.out (xs.getD k 0)
      generalize xs.getD k 0 = x at *
      generalize P x = p at *
      clear hc HX
      cases p
      · have HN2 := Lib.hid (HNX.out (by first | rfl | trivial))
        go_wp2_with fail
        refine HPK.out.mono ?_
        rintro e w2 ⟨rfl, rfl⟩
        go_wp2
        go_roundw
        case rel => exact ⟨k + 1, by omega, by go_num, HN2.out, by first | rfl | trivial⟩
        case measure => simp [intOf]; omega
      · have HY2 := Lib.hid (HYS.out (by first | rfl | trivial))
        go_wp2_with fail
        refine HPK.out.mono ?_
        rintro e w2 ⟨rfl, rfl⟩
        go_wp2
        go_ret
        exact ⟨⟨k, rfl, by rw [HY2.out]; simp⟩, rfl⟩
    · go_wp2
      go_ret
      refine ⟨⟨-1, rfl, ?_⟩, rfl⟩
      have : xs.any P = false := by
        rw [List.any_eq_false]
        intro x hx
        obtain ⟨j, hj, he⟩ := List.mem_iff_getElem.1 hx
        have := HA.out j (by have := HN.out; omega)
        rw [show xs.getD j 0 = x by simp [List.getD, hj, he]] at this
        simp [this]
      rw [this]; rfl
set_option maxHeartbeats 800000 in
theorem slices_ContainsFunc1 (K : FuncId) (cap : Value) (P : Int → Bool) (A : Option Addr) (n c : Nat) (xs : List Int) (hs : n ≤ 2000000) (w : World) (hcf : ∀ (q : Int) (w : World), (callFunc K #[.int .i64 q, cap]).run Tryz.prog w = .ok (.enter K #[.int .i64 q, cap]) w)
    (hP : ∀ (q : Int), Calls Tryz.prog K #[.int .i64 q, cap] w fun e w' => e = .returned (.bool (P q)) ∧ w' = w) (hn : n = xs.length) (B : Nat) (hx : IS w B A xs) :
    Calls Tryz.prog 36 #[.slice A n c, .func (.func K) #[] #[cap]] w fun e w' => e = .returned (.bool (xs.any P)) ∧ w' = w := by
  have HC := Lib.hid (slices_IndexFunc1 K cap P A n c xs hs w hcf hP hn B hx)
  generalize xs.any P = r at *
  clear hcf hP hn hx
  go_enter Tryz.func36, Tryz.ntmps36
  go_wp2_with fail
  refine HC.out.mono ?_
  rintro e w1 ⟨⟨q, rfl, hq⟩, rfl⟩
  cases r
  all_goals
    go_wp2
    go_ret
    exact ⟨rfl, rfl⟩
set_option maxHeartbeats 800000 in
theorem must1_at (g : Nat) (A : Option Addr) (lc c : Nat) (q : Int) (C : List Int) (w : World) (hl : lc = C.length) (hs : lc ≤ 2000000) (h1 : w.cell? ⟨g, 0, none⟩ = some (.slice A lc c)) (h : IS w w.heap.size A C) :
    Calls Tryz.prog 52 #[.int .i64 q, .pointer (some ⟨g, 0, none⟩)] w fun e w' => e = .returned (.bool (decide (q ∈ C))) ∧ w' = w := by
  have HC := Lib.hid (slices_Contains A lc c C q w w.heap.size (Nat.le_refl _) hl h hs)
  generalize decide (q ∈ C) = r at *
  clear hl h
  go_enter Tryz.func52, Tryz.ntmps52
  go_wp2_with fail
  refine HC.out.mono ?_
  rintro e w1 ⟨rfl, rfl⟩
  go_wp2
  go_ret
  exact ⟨rfl, rfl⟩
/-- What the second closure's variables hold: the graph, the first closure, what is read, what has changed. -/
structure IM (g g7 g9 g8 : Nat) (A : Option Addr) (n c : Nat) (gs : List Nd) (Ac : Option Addr) (lc cc : Nat) (C : List Int) (E : Option Addr) (dn dc : Nat) (D : List (List Int)) (w : World) : Prop where
  l0 : g < w.heap.size
  l7 : g7 < w.heap.size
  l9 : g9 < w.heap.size
  l8 : g8 < w.heap.size
  c0 : w.cell? ⟨g, 0, none⟩ = some (.slice A n c)
  c7 : w.cell? ⟨g7, 0, none⟩ = some (.slice Ac lc cc)
  c9 : w.cell? ⟨g9, 0, none⟩ = some (.func (.func 52) #[] #[.pointer (some ⟨g7, 0, none⟩)])
  c8 : w.cell? ⟨g8, 0, none⟩ = some (.slice E dn dc)
  gr : GS w w.heap.size A gs
  ch : IS w w.heap.size Ac C
  dp : SS w w.heap.size E D
theorem IM.step {g g7 g9 g8 : Nat} {A : Option Addr} {n c : Nat} {gs : List Nd} {Ac : Option Addr} {lc cc : Nat} {C : List Int} {E : Option Addr} {dn dc : Nat} {D : List (List Int)} {w w' : World} (h : IM g g7 g9 g8 A n c gs Ac lc cc C E dn dc D w) (hb : Below w.heap.size w w') : IM g g7 g9 g8 A n c gs Ac lc cc C E dn dc D w' :=
  ⟨Nat.lt_of_lt_of_le h.l0 hb.size, Nat.lt_of_lt_of_le h.l7 hb.size, Nat.lt_of_lt_of_le h.l9 hb.size, Nat.lt_of_lt_of_le h.l8 hb.size, (hb.cell (p := ⟨g, 0, none⟩) h.l0).trans h.c0, (hb.cell (p := ⟨g7, 0, none⟩) h.l7).trans h.c7, (hb.cell (p := ⟨g9, 0, none⟩) h.l9).trans h.c9, (hb.cell (p := ⟨g8, 0, none⟩) h.l8).trans h.c8, (h.gr.below hb (Nat.le_refl _)).more hb.size, h.ch.step hb, h.dp.step hb⟩
theorem IM.drewN {g g7 g9 g8 : Nat} {A : Option Addr} {n c : Nat} {gs : List Nd} {Ac : Option Addr} {lc cc : Nat} {C : List Int} {E : Option Addr} {dn dc : Nat} {D : List (List Int)} {w : World} (h : IM g g7 g9 g8 A n c gs Ac lc cc C E dn dc D w) (k : Nat) : IM g g7 g9 g8 A n c gs Ac lc cc C E dn dc D (w.drewN k) :=
  ⟨h.l0, h.l7, h.l9, h.l8, h.c0, h.c7, h.c9, h.c8, h.gr, h.ch, h.dp⟩
theorem drewN_below1 {B n : Nat} {a w : World} (h : Below B a w) : Below B a (w.drewN n) := ⟨h.os, h.tape, h.output, h.size, h.block⟩
set_option maxRecDepth 100000 in
set_option maxHeartbeats 1600000 in
theorem must2_at (g g7 g9 g8 : Nat) (A : Option Addr) (n c : Nat) (gs : List Nd) (Ac : Option Addr) (lc cc : Nat) (C : List Int) (E : Option Addr) (dn dc : Nat) (D : List (List Int)) (q : Nat) (w : World) (h : IM g g7 g9 g8 A n c gs Ac lc cc C E dn dc D w) (hn : n = gs.length) (hdn : dn = D.length) (hdq : dn = n) (hl : lc = C.length) (hs : lc ≤ 2000000) (hs2 : ∀ j, (D.getD j []).length ≤ 1048576) (hq : q < n) (hns : n ≤ 2000000) :
    Calls Tryz.prog 55 #[.int .i64 q, .pointer (some ⟨g, 0, none⟩), .pointer (some ⟨g9, 0, none⟩), .pointer (some ⟨g8, 0, none⟩)] w fun e w' => e = .returned (.bool (!((gs.getD q default).k == 0) && (decide ((q : Int) ∈ C) || meetB (D.getD q []) C))) ∧ Below w.heap.size w w' := by
  obtain ⟨b, off, rfl, hbB, c0, _, _, _, _, _⟩ := h.gr.at_ q (by omega)
  obtain ⟨b3, off3, rfl, hbB3, A3, n3, c3, d1, hn3, hls⟩ := h.dp.at_ q (by omega)
  have hdlt : (q : Int) < (dn : Int) := by omega
  have hqlt : (q : Int) < (n : Int) := by omega
  have q0 := h.c0
  have q9 := h.c9
  have q8 := h.c8
  have hn3b := hs2 q
  rw [← hn3] at hn3b
  have hcf : ∀ (x : Int) (w : World), (callFunc 52 #[.int .i64 x, .pointer (some ⟨g7, 0, none⟩)]).run Tryz.prog w = .ok (.enter 52 #[.int .i64 x, .pointer (some ⟨g7, 0, none⟩)]) w := fun x w => by kernel_rfl
  have HM1 := Lib.hid fun (x : Int) (k : Nat) => must1_at g7 Ac lc cc x C (w.drewN k) hl hs (h.drewN k).c7 (h.drewN k).ch
  have HCF := Lib.hid fun (k : Nat) =>
    slices_ContainsFunc1 52 (.pointer (some ⟨g7, 0, none⟩)) (fun x => decide (x ∈ C)) A3 n3 c3 (D.getD q []) (by omega) (w.drewN k) hcf (fun x => HM1.out x k) hn3 w.heap.size hls
  have hma : (D.getD q []).any (fun x => decide (x ∈ C)) = meetB (D.getD q []) C := rfl
  rw [hma] at HCF
  have hcq := hcf (q : Int)
  have HMQ := Lib.hid (HM1.out (q : Int))
  generalize meetB (D.getD q []) C = r2 at *
  generalize decide ((q : Int) ∈ C) = r1 at *
  generalize D.getD q [] = DL at *
  generalize (gs.getD q default).k = kd at *
  clear hcf hn hdn hdq hl hls hn3 h hma HM1 hs2
  cases hd : (kd == 0)
  · have hd' : (kd != 0) = true := by simp [bne, hd]
    clear hd
    cases r1
    · go_enter Tryz.func55, Tryz.ntmps55
      go_wp2
      go_quiet (first | (go_at_call 52; exact Calls.quiet_of_same (HMQ.out _)) | (go_at_call 36; exact Calls.quiet_of_same (HCF.out _)))
      go_wp2
      go_ret
      exact ⟨ret_b (by simp), drewN_below1 (Below.refl _ _)⟩
    · go_enter Tryz.func55, Tryz.ntmps55
      go_wp2
      go_quiet (first | (go_at_call 52; exact Calls.quiet_of_same (HMQ.out _)))
      go_wp2
      go_ret
      exact ⟨ret_b (by simp), drewN_below1 (Below.refl _ _)⟩
  · have hd' : (kd != 0) = false := by simp [bne, hd]
    clear hd
    go_enter Tryz.func55, Tryz.ntmps55
    go_wp2
    go_quiet (fail)
    go_wp2
    go_ret
    exact ⟨ret_b (by simp), drewN_below1 (Below.refl _ _)⟩
end Go.Proofs.YtgakgmkonmgblaaGreat

namespace Go.Proofs.YtgakgmkonmgblaaGreat
set_option linter.unusedSimpArgs false
set_option linter.unusedVariables false
open Go.RowKit
theorem start_valid (gs : List Nd) (xs : List Int) (h : okC gs xs = true) : validE gs (startF gs xs) = true := by
  obtain ⟨hg, hc⟩ := okC_parts gs xs h
  have hml : (mean gs xs).length = gs.length := meanTo_len gs xs gs.length
  have hvo := meanTo_VOK gs xs h gs.length (Nat.le_refl _)
  unfold startF
  rw [h, if_pos rfl]
  unfold validE
  rw [hg, decide_eq_true hml, decide_eq_true (depTo_len gs (mean gs xs) gs.length)]
  simp only [Bool.true_and, Bool.and_eq_true]
  refine ⟨allR_true _ _ _ fun k hk => ?_, allE_fin _ _ fun i hi => ?_⟩
  · have := hvo k hk
    unfold rng
    simpa [mean] using this
  · unfold okE
    rw [depTo_get gs (mean gs xs) gs.length i hi]
    simp only [Bool.and_eq_true, beq_iff_eq, decide_true, and_true]
    unfold valE
    cases hk : ((gs.getD i default).k == 0)
    · obtain ⟨h1, h2⟩ := mean_node gs xs h i hi hk
      unfold valF at h2
      rw [h1, if_pos rfl] at h2
      simpa using h2
    · simp
end Go.Proofs.YtgakgmkonmgblaaGreat

namespace Go.Proofs.YtgakgmkonmgblaaGreat
set_option linter.unusedSimpArgs false
set_option linter.unusedVariables false
open Go.RowKit
/-- A function value is stored as every other value of one cell is. -/
theorem run_store_func {P : Program} {w : World} (a : Addr) (m : Mode) (f : Fn) (b c : Array Value) : (store a (.func f b c) m).run P w = stored P w a (.func f b c) m := run_store P w a _ m rfl
attribute [local go_sem ↓] run_store_func
set_option maxRecDepth 100000 in
set_option maxHeartbeats 3200000 in
theorem top_impl_MustRun (gs : List Nd) (xs ys : List Int) (hG : GB gs) (hL : xs.length ≤ 1048576) (hL2 : ys.length ≤ 1048576) : ∀ (A : Option Addr) (n c : Nat) (A1 : Option Addr) (m1 c1 : Nat) (A2 : Option Addr) (m2 c2 : Nat) (w : World), n = gs.length → n ≤ c → GS w w.heap.size A gs → m1 = xs.length → IS w w.heap.size A1 xs → m2 = ys.length → IS w w.heap.size A2 ys →
    Calls Tryz.prog 12 #[.agg #[.slice A n c], .slice A1 m1 c1, .slice A2 m2 c2] w fun e w' => RetI w (mustF gs xs ys) e w' := by
  intro A n c A1 m1 c1 A2 m2 c2 w hn hnc h hx h1 hy h2
  have hm1 : m1 ≤ 2000000 := by omega
  have hm2 : m2 ≤ 2000000 := by omega
  have hn1 : n ≤ 1048576 := by rw [hn]; exact hG.1
  have HG0 := Lib.hid (h.alloc (Nat.le_refl _) (.cells #[.slice A n c] 25))
  have HX0 := Lib.hid (h1.alloc (Nat.le_refl _) (.cells #[.slice A n c] 25))
  have HY0 := Lib.hid (h2.alloc (Nat.le_refl _) (.cells #[.slice A n c] 25))
  have HN := Lib.hid hn
  have HDX := Lib.hid fun (w' : World) (hB : w.heap.size ≤ w'.heap.size) (h : GS w' w.heap.size A gs) (h' : IS w' w.heap.size A1 xs) => impl_ValidCells A A1 n c m1 c1 gs xs w' w.heap.size hB hn hnc hx h h' hG hm1
  have HDY := Lib.hid fun (w' : World) (hB : w.heap.size ≤ w'.heap.size) (h : GS w' w.heap.size A gs) (h' : IS w' w.heap.size A2 ys) => impl_ValidCells A A2 n c m2 c2 gs ys w' w.heap.size hB hn hnc hy h h' hG hm2
  have HCH := Lib.hid fun (w' : World) (h : GS w' w'.heap.size A gs) (h1 : IS w' w'.heap.size A1 xs) (h2 : IS w' w'.heap.size A2 ys) => top_impl_ChangedBy gs xs ys hG hL hL2 A n c A1 m1 c1 A2 m2 c2 w' hn hnc h hx h1 hy h2
  have HDE := Lib.hid fun (w' : World) (h : GS w' w'.heap.size A gs) (h1 : IS w' w'.heap.size A1 xs) => top_impl_DepsOf gs xs hG hL A n c A1 m1 c1 w' hn hnc h hx h1
  have hB0 : Below w.heap.size w (w.alloc (.cells #[.slice A n c] 25)) := (Below.refl _ _).alloc (Nat.le_refl _) _
  have hb12 : chgB gs xs ys = (okC gs xs && okC gs ys) := by unfold chgB okC; cases validG gs <;> cases validC gs xs <;> simp
  have hmf : mustF gs xs ys = if chgB gs xs ys then nwTo (mustP gs (mean gs xs) (diffTo (mean gs xs) (mean gs ys) gs.length)) gs.length else [] := rfl
  rw [hmf, hb12]
  clear hmf
  cases hox : okC gs xs
  · rw [hox] at HDX
    clear hb12 hox h h1 h2 hn hx hy hG
    simp only [Bool.false_and, Bool.false_eq_true, if_false]
    go_enter Tryz.func12, Tryz.ntmps12
    go_wp2_with fail
    refine (HDX.out _ hB0.size HG0.out HX0.out).mono ?_
    rintro e w1 ⟨rfl, hb⟩
    go_wp2
    go_ret
    exact RetI.nil (hB0.trans (hb.mono hB0.size))
  rw [hox] at HDX
  cases hoy : okC gs ys
  · rw [hoy] at HDY
    clear hb12 hox hoy h h1 h2 hn hx hy hG
    simp only [Bool.and_false, Bool.false_eq_true, if_false]
    go_enter Tryz.func12, Tryz.ntmps12
    go_wp2_with fail
    refine (HDX.out _ hB0.size HG0.out HX0.out).mono ?_
    rintro e w1 ⟨rfl, hb⟩
    have q1 : w1.cell? ⟨w.heap.size, 0, none⟩ = some (.slice A n c) := (hb.cell (p := ⟨w.heap.size, 0, none⟩) (by simp)).trans (by go_simp)
    have hB1 := hB0.trans (hb.mono hB0.size)
    have HG1 := Lib.hid (HG0.out.below hb hB0.size)
    have HY1 := Lib.hid (HY0.out.below hb hB0.size)
    clear hb
    go_wp2_with fail
    refine (HDY.out _ hB1.size HG1.out HY1.out).mono ?_
    rintro e w2 ⟨rfl, hb2⟩
    go_wp2
    go_ret
    exact RetI.nil (hB1.trans (hb2.mono hB1.size))
  rw [hoy] at HDY
  simp only [Bool.and_true, if_true]
  have hvg := (okC_parts gs xs hox).1
  have hn10 : n ≤ 10 := by have := (validG_parts gs hvg).1; omega
  have hcf : chgF gs xs ys = diffTo (mean gs xs) (mean gs ys) gs.length := by unfold chgF; rw [hb12, hox, hoy]; rfl
  have hdf : depsF gs xs = depTo gs (mean gs xs) gs.length := by unfold depsF; rw [hox]; rfl
  have hsm := must_same gs xs ys hox hoy
  have hdt := fun q (hq : q < gs.length) => depTo_at gs (mean gs xs) gs.length q hq
  have hdl := depTo_len gs (mean gs xs) gs.length
  have hdb : ∀ j, ((depTo gs (mean gs xs) gs.length).getD j []).length ≤ 1048576 := by have := (depsF_len gs xs).1.2; rw [hdf] at this; exact this
  have hcl := diffTo_len (mean gs xs) (mean gs ys) gs.length
  rw [hcf] at HCH
  rw [hdf] at HDE
  have HP : Hid (∀ q, q < gs.length → (!((gs.getD q default).k == 0) && (decide ((q : Int) ∈ diffTo (mean gs xs) (mean gs ys) gs.length) || meetB ((depTo gs (mean gs xs) gs.length).getD q []) (diffTo (mean gs xs) (mean gs ys) gs.length))) = mustP gs (mean gs xs) (diffTo (mean gs xs) (mean gs ys) gs.length) q) := fun q hq => by rw [hdt q hq]; exact hsm q hq
  generalize mustP gs (mean gs xs) (diffTo (mean gs xs) (mean gs ys) gs.length) = P at *
  generalize diffTo (mean gs xs) (mean gs ys) gs.length = C at *
  generalize depTo gs (mean gs xs) gs.length = D at *
  rw [← hn] at hdl hcl
  have HDL := Lib.hid hdl
  have HDB := Lib.hid hdb
  obtain ⟨lc, hlc⟩ : ∃ lc : Nat, lc = C.length := ⟨_, rfl⟩
  have hlc2 : lc ≤ 2000000 := by omega
  have HLC := Lib.hid hlc
  obtain ⟨dn, hdn⟩ : ∃ dn : Nat, dn = D.length := ⟨_, rfl⟩
  have HDN := Lib.hid hdn
  have hdn2 : dn = n := by omega
  have HDN2 := Lib.hid hdn2
  rw [← hn]
  clear hb12 hox hoy hvg hcf hdf hsm hdt hdl hdb hcl hlc hdn hdn2 h h1 h2 hn hx hy hG
  go_enter Tryz.func12, Tryz.ntmps12
  go_wp2_with fail
  refine (HDX.out _ hB0.size HG0.out HX0.out).mono ?_
  rintro e w1 ⟨rfl, hb⟩
  have q1 : w1.cell? ⟨w.heap.size, 0, none⟩ = some (.slice A n c) := (hb.cell (p := ⟨w.heap.size, 0, none⟩) (by simp)).trans (by go_simp)
  have hB1 := hB0.trans (hb.mono hB0.size)
  have hl1 : w.heap.size < w1.heap.size := by have := hb.size; simp at this; omega
  have HG1 := Lib.hid (HG0.out.below hb hB0.size)
  have HX1 := Lib.hid (HX0.out.below hb hB0.size)
  have HY1 := Lib.hid (HY0.out.below hb hB0.size)
  clear hb hB0 HG0 HX0 HY0
  go_wp2_with fail
  refine (HDY.out _ hB1.size HG1.out HY1.out).mono ?_
  rintro e w2 ⟨rfl, hb⟩
  have q2 := (hb.cell (p := ⟨w.heap.size, 0, none⟩) hl1).trans q1
  have hB2 := hB1.trans (hb.mono hB1.size)
  have hl2 : w.heap.size < w2.heap.size := Nat.lt_of_lt_of_le hl1 hb.size
  have HG2 := Lib.hid ((HG1.out.below hb hB1.size).more (B' := w2.heap.size) hB2.size)
  have HX2 := Lib.hid ((HX1.out.below hb hB1.size).more (B' := w2.heap.size) hB2.size)
  have HY2 := Lib.hid ((HY1.out.below hb hB1.size).more (B' := w2.heap.size) hB2.size)
  clear hb q1 HG1 HX1 HY1 hB1 hl1 HDX HDY
  go_wp2_with fail
  refine (HCH.out w2 HG2.out HX2.out HY2.out).mono ?_
  rintro e w3 ⟨v3, rfl, ho3, hb⟩
  obtain ⟨A3, c3, rfl, hI3⟩ := OwnI.form ho3
  have q3 := (hb.cell (p := ⟨w.heap.size, 0, none⟩) hl2).trans q2
  have hB3 := hB2.trans (hb.mono hB2.size)
  have hl3 : w.heap.size < w3.heap.size := Nat.lt_of_lt_of_le hl2 hb.size
  rw [← HLC.out]
  have HG3 := Lib.hid ((((HG2.out.below hb (Nat.le_refl _)).more hb.size).alloc (Nat.le_refl _) (.cells #[.slice A3 lc c3] 26)).more (B' := (w3.alloc (.cells #[.slice A3 lc c3] 26)).heap.size) (by simp))
  have HX3 := Lib.hid (((HX2.out.step hb).alloc (Nat.le_refl _) (.cells #[.slice A3 lc c3] 26)).more (B' := (w3.alloc (.cells #[.slice A3 lc c3] 26)).heap.size) (by simp))
  have HC3 := Lib.hid ((hI3.alloc (Nat.le_refl _) (.cells #[.slice A3 lc c3] 26)).more (B' := (w3.alloc (.cells #[.slice A3 lc c3] 26)).heap.size) (by simp))
  clear hb q2 HG2 HX2 HY2 hB2 hl2 ho3 hI3 HCH
  go_wp2_with fail
  refine (HDE.out _ HG3.out HX3.out).mono ?_
  rintro e w4 ⟨v4, rfl, ho4, hb⟩
  obtain ⟨A4, c4, rfl⟩ := ho4.form
  have hl4 : w3.heap.size + 1 ≤ w4.heap.size := by have := hb.size; simpa using this
  have q4 := (hb.cell (p := ⟨w.heap.size, 0, none⟩) (by simp; omega)).trans ((World.cell?_alloc_lt _ _ ⟨w.heap.size, 0, none⟩ hl3).trans q3)
  have p4 : w4.cell? ⟨w3.heap.size, 0, none⟩ = some (.slice A3 lc c3) := (hb.cell (p := ⟨w3.heap.size, 0, none⟩) (by simp)).trans (by go_simp)
  have hB4 := (hB3.alloc hB3.size (.cells #[.slice A3 lc c3] 26)).trans (hb.mono (by simp; omega))
  have HG4 := Lib.hid ((HG3.out.below hb (Nat.le_refl _)).more hb.size)
  have HC4 := Lib.hid (HC3.out.step hb)
  have HD4 := Lib.hid ho4.lists
  rw [← HDN.out]
  clear hb q3 HG3 HX3 HC3 hB3 ho4 HDE
  have HIM : Hid (IM w.heap.size w3.heap.size (w4.heap.size + 1) w4.heap.size A n c gs A3 lc c3 C A4 dn c4 D ((w4.alloc (.cells #[.slice A4 dn c4] 27)).alloc (.cells #[.func (.func 52) #[] #[.pointer (some ⟨w3.heap.size, 0, none⟩)]] 68))) := by
    refine ⟨by simp; omega, by simp; omega, by simp, by simp; omega, ?_, ?_, by go_simp, by go_simp, ?_, ?_, ?_⟩
    · exact (World.cell?_alloc_lt _ _ ⟨w.heap.size, 0, none⟩ (by simp; omega)).trans ((World.cell?_alloc_lt _ _ ⟨w.heap.size, 0, none⟩ (by show w.heap.size < w4.heap.size; omega)).trans q4)
    · exact (World.cell?_alloc_lt _ _ ⟨w3.heap.size, 0, none⟩ (by simp; omega)).trans ((World.cell?_alloc_lt _ _ ⟨w3.heap.size, 0, none⟩ (by show w3.heap.size < w4.heap.size; omega)).trans p4)
    · exact ((HG4.out.alloc (Nat.le_refl _) _).alloc (by simp) _).more (by simp; omega)
    · exact ((HC4.out.alloc (Nat.le_refl _) _).alloc (by simp) _).more (by simp; omega)
    · exact ((HD4.out.alloc (Nat.le_refl _) _).alloc (by simp) _).more (by simp; omega)
  have hB5 := Lib.hid ((hB4.alloc hB4.size (.cells #[.slice A4 dn c4] 27)).alloc (by simp; have := hB4.size; omega) (.cells #[.func (.func 52) #[] #[.pointer (some ⟨w3.heap.size, 0, none⟩)]] 68))
  have HNW := Lib.hid (impl_nodesWhere3 55 (.pointer (some ⟨w.heap.size, 0, none⟩)) (.pointer (some ⟨w4.heap.size + 1, 0, none⟩)) (.pointer (some ⟨w4.heap.size, 0, none⟩)) P
    (fun w' => IM w.heap.size w3.heap.size (w4.heap.size + 1) w4.heap.size A n c gs A3 lc c3 C A4 dn c4 D w') A n c (by omega)
    (fun wa wb h hb => h.step hb)
    (fun q w => by kernel_rfl)
    (fun q wa hq h => (must2_at w.heap.size w3.heap.size (w4.heap.size + 1) w4.heap.size A n c gs A3 lc c3 C A4 dn c4 D q wa h HN.out HDN.out HDN2.out HLC.out hlc2 HDB.out hq (by omega)).mono fun e w' he => ⟨by rw [he.1, HP.out q (by have := HN.out; omega)], he.2⟩)
    _ HIM.out)
  have hlt4 : w.heap.size < w4.heap.size := by omega
  clear HIM HG4 HC4 HD4 hB4
  go_wp2_with fail
  refine HNW.out.mono ?_
  rintro e w6 ⟨v, rfl, ho, hb⟩
  go_wp2
  go_ret
  exact ⟨v, by simp, own_mono ho hB5.out.size, hB5.out.trans (hb.mono hB5.out.size)⟩
end Go.Proofs.YtgakgmkonmgblaaGreat

namespace Go.Proofs.YtgakgmkonmgblaaGreat
set_option linter.unusedSimpArgs false
set_option linter.unusedVariables false
open Go.RowKit
theorem filter_take_step (P : Int → Bool) (xs : List Int) (k : Nat) (h : k < xs.length) : (xs.take (k + 1)).filter P = if P (xs.getD k 0) = true then (xs.take k).filter P ++ [xs.getD k 0] else (xs.take k).filter P := by
  have hg : xs[k] = xs.getD k 0 := by simp [List.getD, h]
  rw [List.take_succ_eq_append_getElem h, List.filter_append, hg]
  generalize xs.getD k 0 = x
  clear hg
  by_cases hp : P x = true
  · rw [if_pos hp]; simp [hp]
  · rw [if_neg hp]; simp [hp]
theorem RetI_nil {w w' : World} (hb : Below w.heap.size w w') : RetI w [] (.returned (.slice none 0 0)) w' := ⟨_, rfl, World.ownsRow_nil _ _ _ _, hb⟩
end Go.Proofs.YtgakgmkonmgblaaGreat

namespace Go.Proofs.YtgakgmkonmgblaaGreat
set_option linter.unusedSimpArgs false
set_option linter.unusedVariables false
open Go.RowKit
theorem mrF_len (gs : List Nd) (xs : List Int) : (mrF gs xs).length ≤ 10 := by
  unfold mrF mrB
  split
  · rename_i h
    simp only [Bool.and_eq_true] at h
    have h1 := (validG_parts gs h.1).1
    have h2 := reachTo_len gs xs gs.length
    exact Nat.le_trans (List.length_filter_le _ _) (by omega)
  · simp
theorem reach_ok (gs : List Nd) (st : List Int) (k : Nat) : ∀ x ∈ reachTo gs st k, ∃ q : Nat, q < k ∧ x = (q : Int) := by
  induction k with
  | zero => intro x hx; cases hx
  | succ k ih =>
    intro x hx
    rw [reachTo_step] at hx
    rcases List.mem_append.1 hx with h | h
    · obtain ⟨q, h1, h2⟩ := ih x h
      exact ⟨q, by omega, h2⟩
    · split at h
      · simp at h; exact ⟨k, by omega, h⟩
      · simp at h
end Go.Proofs.YtgakgmkonmgblaaGreat

namespace Go.Proofs.YtgakgmkonmgblaaGreat
set_option linter.unusedSimpArgs false
set_option linter.unusedVariables false
open Go.RowKit
theorem own_clear {base g cap n : Nat} : ∀ (m i : Nat) (R : List Int) (w : World), w.ownsRow base 3 1 (.slice (some ⟨g, 0, none⟩) n cap) n (R.map (Value.int .i64)) → i + m ≤ n →
    ∃ R' : List Int, (w.setCells g i (List.replicate m (.int .i64 0))).ownsRow base 3 1 (.slice (some ⟨g, 0, none⟩) n cap) n (R'.map (Value.int .i64)) ∧ R'.take i = R.take i ∧ ∀ w0 : World, base ≤ w0.heap.size → Below base w0 w → Below base w0 (w.setCells g i (List.replicate m (.int .i64 0))) := by
  intro m
  induction m with
  | zero => intro i R w h _; exact ⟨R, h, rfl, fun _ _ h => h⟩
  | succ m ih =>
    intro i R w h hi
    have h1 := (h.stored i (.int .i64 0)).1
    rw [← List.map_set] at h1
    obtain ⟨R', h2, h3, h4⟩ := ih (i + 1) (R.set i 0) _ h1 (by omega)
    refine ⟨R', h2, ?_, fun w0 hw0 hb => h4 w0 hw0 (hb.setCell (p := ⟨g, i, none⟩) (h.lt g rfl).1 _)⟩
    have : (R'.take (i + 1)).take i = ((R.set i 0).take (i + 1)).take i := by rw [h3]
    have e : (R.set i 0).take i = R.take i := by
      apply List.ext_getElem?
      intro j
      rw [List.getElem?_take, List.getElem?_take]
      split
      · rw [List.getElem?_set, if_neg (by omega)]
      · rfl
    rw [← e]
    simpa [List.take_take, Nat.min_eq_left (Nat.le_succ i)] using this
set_option maxHeartbeats 1600000 in
theorem slices_IndexFuncN (K : FuncId) (cap : Value) (P : Int → Bool) (A : Option Addr) (n c : Nat) (xs : List Int) (hs : n ≤ 2000000) (w : World) (hcf : ∀ (q : Int) (w : World), (callFunc K #[.int .i64 q, cap]).run Tryz.prog w = .ok (.enter K #[.int .i64 q, cap]) w)
    (hP : ∀ q ∈ xs, Calls Tryz.prog K #[.int .i64 q, cap] w fun e w' => e = .returned (.bool (P q)) ∧ w' = w) (hn : n = xs.length) (B : Nat) (hx : IS w B A xs) :
    Calls Tryz.prog 80 #[.slice A n c, .func (.func K) #[] #[cap]] w fun e w' => ((∃ i : Nat, e = .returned (.int .i64 i) ∧ i < n ∧ (xs.take i).filter P = [] ∧ P (xs.getD i 0) = true) ∨ (e = .returned (.int .i64 (-1)) ∧ xs.filter P = [])) ∧ w' = w := by
  have HP := Lib.hid hP
  have HCF := Lib.hid hcf
  have HX := Lib.hid hx
  have HN := Lib.hid hn
  clear hP hcf hx hn
  go_enter Tryz.func80, Tryz.ntmps80
  go_wp2
  go_loopw [8] (fun i wr => ∃ k : Nat, k ≤ n ∧ i = .int .i64 k ∧ Hid ((xs.take k).filter P = []) ∧ wr = w) (fun i _ => n - (intOf i).toNat)
  case atStart => exact ⟨0, Nat.zero_le _, rfl, by simp [Hid], rfl⟩
  case round =>
    obtain ⟨k, hk, rfl, HA, rfl⟩ := hrel
    by_cases hlt : k < n
    · have hkx : k < xs.length := by have := HN.out; omega
      obtain ⟨b, off, rfl, hbB, hc⟩ := HX.out (by omega)
      have c0 := hc k hkx
      have hst := filter_take_step P xs k hkx
      have HNX : Hid (P (xs.getD k 0) = false → (xs.take (k + 1)).filter P = []) := fun h => by
        rw [hst, if_neg (by rw [h]; simp)]; exact HA.out
      have HPK := Lib.hid (HP.out (xs.getD k 0) (by simp [List.getD, hkx]))
      have hcf := HCF.out (xs.getD k 0)
      have HGX : Hid (∀ p, P (xs.getD k 0) = p → P (xs.getD k 0) = p) := fun _ h => h
      clear hst
      obtain ⟨p, hp⟩ : ∃ p, p = P (xs.getD k 0) := ⟨_, rfl⟩
      rw [← hp] at HPK HNX
      have HPE := Lib.hid hp
      clear hp HGX
      generalize hgx : xs.getD k 0 = x at *
      have HGX := Lib.hid hgx
      clear hgx
      clear hc HX
      cases p
      · have HN2 := Lib.hid (HNX.out (by first | rfl | trivial))
        go_wp2_with fail
        refine HPK.out.mono ?_
        rintro e w2 ⟨rfl, rfl⟩
        go_wp2
        go_roundw
        case rel => exact ⟨k + 1, by omega, by go_num, HN2.out, by first | rfl | trivial⟩
        case measure => simp [intOf]; omega
      · go_wp2_with fail
        refine HPK.out.mono ?_
        rintro e w2 ⟨rfl, rfl⟩
        go_wp2
        go_ret
        exact ⟨.inl ⟨k, rfl, hlt, HA.out, by rw [HGX.out]; exact HPE.out.symm⟩, rfl⟩
    · obtain rfl : n = k := by omega
      have HF : Hid (xs.filter P = []) := by
        have h1 := HA.out
        rw [List.take_of_length_le (by have := HN.out; omega)] at h1
        exact h1
      go_wp2
      go_ret
      exact ⟨.inr ⟨rfl, HF.out⟩, rfl⟩
/-- The row while some are taken away: the first i are those that stay of the first j, and from j on it is as it was. -/
structure DelS (P : Int → Bool) (xs R : List Int) (j i : Nat) : Prop where
  len : R.length = xs.length
  out : R.take i = (xs.take j).filter fun x => !P x
  rest : ∀ t, j ≤ t → t < xs.length → R.getD t 0 = xs.getD t 0
  lt : i < j
theorem DelS.drop {P : Int → Bool} {xs R : List Int} {j i : Nat} (h : DelS P xs R j i) (hj : j < xs.length) (hp : P (xs.getD j 0) = true) : DelS P xs R (j + 1) i :=
  ⟨h.len, by rw [h.out, filter_take_step _ xs j hj, hp]; rfl, fun t ht => h.rest t (by omega), by have := h.lt; omega⟩
theorem DelS.keep {P : Int → Bool} {xs R : List Int} {j i : Nat} (h : DelS P xs R j i) (hj : j < xs.length) (hp : P (xs.getD j 0) = false) : DelS P xs (R.set i (xs.getD j 0)) (j + 1) (i + 1) := by
  have hi := h.lt
  have hl := h.len
  refine ⟨by simp [hl], ?_, fun t ht htl => ?_, by omega⟩
  · rw [filter_take_step _ xs j hj, hp]
    simp only [Bool.not_false, if_true]
    rw [← h.out]
    apply List.ext_getElem?
    intro t
    rw [List.getElem?_take, List.getElem?_set, List.getElem?_append, List.length_take, Nat.min_eq_left (by omega), List.getElem?_take]
    by_cases h1 : t < i
    · rw [if_pos (by omega), if_neg (by omega), if_pos h1, if_pos h1]
    · by_cases h2 : t = i
      · subst h2
        rw [if_pos (by omega), if_pos rfl, if_pos (by omega), if_neg h1]; simp
      · rw [if_neg (by omega), if_neg h1]
        symm
        apply List.getElem?_eq_none
        simp; omega
  · have := h.rest t (by omega) htl
    rw [← this]
    simp only [List.getD, List.getElem?_set]
    rw [if_neg (by omega)]
set_option maxRecDepth 100000 in
set_option maxHeartbeats 6400000 in
theorem slices_DeleteFunc (K : FuncId) (cap1 : Value) (P : Int → Bool) (base n cap : Nat) (A : Option Addr) (xs : List Int) (w : World) (hn : n = xs.length) (hs : n ≤ 2000000) (ho : OwnI w base (.slice A n cap) xs) (hbase : base ≤ w.heap.size)
    (hcf : ∀ (q : Int) (w : World), (callFunc K #[.int .i64 q, cap1]).run Tryz.prog w = .ok (.enter K #[.int .i64 q, cap1]) w)
    (hP : ∀ q ∈ xs, ∀ w' : World, Below base w w' → Calls Tryz.prog K #[.int .i64 q, cap1] w' fun e w'' => e = .returned (.bool (P q)) ∧ w'' = w') :
    Calls Tryz.prog 60 #[.slice A n cap, .func (.func K) #[] #[cap1]] w fun e w' => ∃ v, e = .returned v ∧ OwnI w' base v (xs.filter fun x => !P x) ∧ Below base w w' := by
  have HN := Lib.hid hn
  have ho0 : w.ownsRow base 3 1 (.slice A n cap) n (xs.map (Value.int .i64)) := by have h := ho; unfold OwnI at h; rw [← hn] at h; exact h
  have HI := Lib.hid (slices_IndexFuncN K cap1 P A n cap xs hs w hcf (fun q hq => hP q hq w (Below.refl _ _)) hn w.heap.size (IS.of_own ho0))
  have HO := Lib.hid ho0
  have HCF := Lib.hid hcf
  have HP := Lib.hid hP
  have HB := Lib.hid hbase
  clear ho ho0 hn hcf hP
  go_enter Tryz.func60, Tryz.ntmps60
  go_wp2_with fail
  refine HI.out.mono ?_
  rintro e w2 ⟨hres, rfl⟩
  rcases hres with ⟨i0, rfl, hi0, hf0, hp0⟩ | ⟨rfl, hf0⟩
  · have hx0 : i0 < xs.length := by have := HN.out; omega
    obtain ⟨g, rfl⟩ : ∃ g, A = some ⟨g, 0, none⟩ := by
      rcases HO.out.2 with ⟨_, hz⟩ | ⟨g, cap', cur, hv, _⟩
      · omega
      · simp only [Value.slice.injEq] at hv
        exact ⟨g, hv.1⟩
    have hD : DelS P xs xs (i0 + 1) i0 := by
      refine ⟨rfl, ?_, fun _ _ _ => rfl, by omega⟩
      rw [filter_take_step _ xs i0 hx0, hp0]
      simp only [Bool.not_true, Bool.false_eq_true, if_false]
      symm
      rw [List.filter_eq_self]
      intro x hx
      have := List.filter_eq_nil_iff.1 hf0 x hx
      simpa using this
    have HD0 := Lib.hid hD
    have HP0 := Lib.hid hp0
    have HF0 := Lib.hid hf0
    clear hD hp0 hf0 HI
    have hne : ((i0 : Int) == -1) = false := by first | (simp; done) | (simp; omega)
    go_wp2
    go_loopw [5, 6] (fun u v wr => ∃ (i j : Nat) (R : List Int), j ≤ n ∧ i < j ∧ u = .int .i64 i ∧ v = .int .i64 j ∧ Hid (DelS P xs R j i) ∧ Hid (wr.ownsRow base 3 1 (.slice (some ⟨g, 0, none⟩) n cap) n (R.map (Value.int .i64))) ∧ Hid (Below base w2 wr)) (fun _ v _ => n - (intOf v).toNat)
    case atStart => exact ⟨i0, i0 + 1, xs, by omega, by omega, rfl, by go_num, HD0, HO, Below.refl _ _⟩
    case round =>
      obtain ⟨i, j, R, hj, hij, rfl, rfl, HD, HR, HBR⟩ := hrel
      by_cases hlt : j < n
      · have hjx : j < xs.length := by have := HN.out; omega
        have hl := HD.out.len
        have hrest := HD.out.rest j (Nat.le_refl _) hjx
        have HPX := Lib.hid (HP.out (xs.getD j 0) (by simp [List.getD, hjx]) wr HBR.out)
        have hcf := HCF.out (xs.getD j 0)
        have HDD := Lib.hid (HD.out.drop hjx)
        have HDK := Lib.hid (HD.out.keep hjx)
        have u0 := HR.out.cellAt j (by omega)
        rw [List.getElem?_eq_getElem (by rw [List.length_map]; omega), List.getElem_map] at u0
        have e0 : R[j]'(by omega) = xs.getD j 0 := by rw [← hrest]; simp [List.getD, hl, hjx]
        rw [e0] at u0
        have u1 := HR.out.cellAt i (by omega)
        rw [List.getElem?_eq_getElem (by rw [List.length_map]; omega)] at u1
        have f1 := HR.out.frozenAt i
        have hst := (HR.out.stored i (.int .i64 (xs.getD j 0))).1
        rw [← List.map_set] at hst
        have HST := Lib.hid hst
        have hgg := (HR.out.lt g rfl).1
        have HB4 := Lib.hid (HBR.out.setCell (p := ⟨g, i, none⟩) hgg (.int .i64 (xs.getD j 0)))
        generalize (R.map (Value.int .i64))[i]'_ = vv at u1
        clear hst hrest e0 hl
        obtain ⟨p, hp⟩ : ∃ p, p = P (xs.getD j 0) := ⟨_, rfl⟩
        rw [← hp] at HPX HDD HDK
        clear hp
        generalize xs.getD j 0 = x at *
        have hin : (i : Int) < (n : Int) := by omega
        cases p
        · have HD2 := Lib.hid (HDK.out rfl)
          go_wp2_with fail
          refine HPX.out.mono ?_
          rintro e w3 ⟨rfl, rfl⟩
          go_wp2
          go_roundw
          case rel => exact ⟨i + 1, j + 1, _, by omega, by omega, by go_num, by go_num, HD2.out, HST.out, HB4.out⟩
          case measure => simp [intOf]; omega
        · have HD2 := Lib.hid (HDD.out rfl)
          go_wp2_with fail
          refine HPX.out.mono ?_
          rintro e w3 ⟨rfl, rfl⟩
          go_wp2
          go_roundw
          case rel => exact ⟨i, j + 1, _, by omega, by omega, rfl, by go_num, HD2.out, HR.out, HBR.out⟩
          case measure => simp [intOf]; omega
      · obtain rfl : n = j := by omega
        have hnc := own_ncap HR.out
        have hcl : ∀ ty, (Builtin.clear_ #[26] ty #[.slice (some ⟨g, i, none⟩) (n - i) (cap - i)]).run Tryz.prog wr = .ok (.tuple #[]) (wr.setCells g i (List.replicate (n - i) (.int .i64 0))) :=
          fun ty => Lib.run_clear_slice wr 26 3 ty (.int .i64 0) Tryz.underlying26 (fun w => by kernel_rfl) rfl rfl g i (n - i) (cap - i) (by omega) (fun k hk => by
            have u0 := HR.out.cellAt (i + k) (by omega)
            rw [u0, List.getElem?_eq_getElem (by rw [List.length_map, HD.out.len]; have := HN.out; omega)]; rfl) (fun k hk => HR.out.frozenAt (i + k))
        obtain ⟨R', hR1, hR2, hR3⟩ := own_clear (n - i) i R wr HR.out (by omega)
        have HR1 := Lib.hid (own_shrink hR1 (show i ≤ n by omega))
        have HB5 := Lib.hid (hR3 w2 hbase HBR.out)
        have HE : Hid ((R'.map (Value.int .i64)).take i = (xs.filter fun x => !P x).map (Value.int .i64)) := by
          show _ = _
          rw [← List.map_take, hR2, HD.out.out, List.take_of_length_le (by have := HN.out; omega)]
        have HL : Hid (i = (xs.filter fun x => !P x).length) := by
          show _ = _
          rw [show (xs.filter fun x => !P x) = R.take i by rw [HD.out.out, List.take_of_length_le (by have := HN.out; omega)], List.length_take, HD.out.len]
          have := HN.out; omega
        clear hR1 hR2 hR3
        have hin : (i : Int) ≤ (n : Int) := by omega
        have hin2 : i ≤ n := by omega
        go_wp2_with (simp only [hcl])
        go_ret
        refine ⟨_, rfl, ?_, HB5.out⟩
        unfold OwnI
        rw [← HE.out, ← HL.out]
        exact HR1.out
  · have HF : Hid (xs.filter (fun x => !P x) = xs) := by
      show _ = _
      rw [List.filter_eq_self]
      intro x hx
      have := List.filter_eq_nil_iff.1 hf0 x hx
      simpa using this
    clear hf0
    go_wp2
    go_ret
    exact ⟨_, rfl, by rw [HF.out]; unfold OwnI; rw [← HN.out]; exact HO.out, Below.refl _ _⟩
end Go.Proofs.YtgakgmkonmgblaaGreat

namespace Go.Proofs.YtgakgmkonmgblaaGreat
set_option linter.unusedSimpArgs false
set_option linter.unusedVariables false
open Go.RowKit
set_option maxHeartbeats 1600000 in
theorem mayRun1_at (A : Option Addr) (n c b : Nat) (gs : List Nd) (q B : Nat) (w : World) (hb : w.cell? ⟨b, 0, none⟩ = some (.slice A n c)) (hn : n = gs.length) (h : GS w B A gs) (hq : q < n) :
    Calls Tryz.prog 61 #[.int .i64 q, .pointer (some ⟨b, 0, none⟩)] w fun e w' => e = .returned (.bool ((gs.getD q default).k == 0)) ∧ w' = w := by
  obtain ⟨b1, off, rfl, hbB, d0, A6, n6, c6, d1, hn6, hps⟩ := h.at_ q (by omega)
  have hqn : (q : Int) < (n : Int) := by omega
  clear d1 hn6 hps h hn
  generalize (gs.getD q default).k = kd at *
  go_enter Tryz.func61, Tryz.ntmps61
  go_wp2
  go_ret
  exact ⟨rfl, rfl⟩
set_option maxRecDepth 100000 in
set_option maxHeartbeats 6400000 in
theorem top_impl_MayRun (gs : List Nd) (xs : List Int) (hG : GB gs) (hL : xs.length ≤ 1048576) : ∀ (A1 : Option Addr) (n1 c1 : Nat) (E1 : Option Addr) (m1 d1 : Nat) (w1 : World), n1 = gs.length → n1 ≤ c1 → GS w1 w1.heap.size A1 gs → m1 = xs.length → m1 ≤ d1 → IS w1 w1.heap.size E1 xs →
    Calls Tryz.prog 16 #[.agg #[.slice A1 n1 c1], .slice E1 m1 d1] w1 fun e w' => RetI w1 (mrF gs xs) e w' := by
  intro A1 n1 c1 E1 m1 d1 w1 hn hnc h hm1 hmd h1
  have HN1 := Lib.hid hn
  have HM1 := Lib.hid hm1
  have HG := Lib.hid hG
  have P_1 := Lib.hid (h)
  have I_1 := Lib.hid (h1)
  have B_1 := Lib.hid (Below.refl w1.heap.size w1)
  have hn1b : n1 ≤ 1048576 := by have := hG.1; omega
  have hm1b : m1 ≤ 1048576 := by omega
  have HVG := Lib.hid fun (w' : World) (h : GS w' w'.heap.size A1 gs) => impl_ValidGraph A1 n1 c1 gs w' _ (Nat.le_refl _) HN1.out h HG.out hnc
  have HAC := Lib.hid fun (hv : validG gs = true) (w' : World) (h : GS w' w'.heap.size A1 gs) (h1 : IS w' w'.heap.size E1 xs) => impl_areCells A1 E1 n1 c1 m1 d1 gs xs w' HN1.out (by have := (validG_parts gs hv).1; have := HN1.out; omega) HM1.out hm1b h h1
  have HFU := Lib.hid fun (hv : validG gs = true) (hw : wrB gs xs = true) (w' : World) (h : GS w' w'.heap.size A1 gs) (h1 : IS w' w'.heap.size E1 xs) => from_users A1 E1 n1 c1 m1 d1 gs xs w' w'.heap.size (Nat.le_refl _) HN1.out HM1.out h h1 hv HG.out (by have := (validG_parts gs hv).1; have := wrB_len gs xs hw; have := HM1.out; omega) (wrB_parts gs xs hw).2
  have HMR : Hid (mrF gs xs = if validG gs && wrB gs xs then (reachTo gs xs gs.length).filter (ncB gs) else []) := by show _ = _; unfold mrF; rw [mrB_eq]
  have HLB := Lib.hid (reach_ok gs xs gs.length)
  have hll := reachTo_len gs xs gs.length
  have HVP := Lib.hid fun (hv : validG gs = true) => (validG_parts gs hv).1
  have HRL := Lib.hid hll
  clear hn hm1 h h1 hG hL hll
  generalize validG gs = v at *
  generalize wrB gs xs = v2 at *
  go_enter Tryz.func16, Tryz.ntmps16
  go_wp2_with fail
  obtain ⟨w2, hw2⟩ : ∃ W, W = w1.alloc (.cells #[.slice A1 n1 c1] 25) := ⟨_, rfl⟩
  have hb : Below w1.heap.size w1 w2 := by rw [hw2]; exact (Below.refl _ _).alloc (Nat.le_refl _) _
  have P_2 := Lib.hid (P_1.out.step hb)
  clear P_1
  have I_2 := Lib.hid (I_1.out.step hb)
  clear I_1
  have B_2 := Lib.hid (B_1.out.trans (hb.mono B_1.out.size))
  clear B_1
  have F_2 : Hid (As w1.heap.size (w1.heap.size + 1) (fun w' => w'.cell? ⟨w1.heap.size, 0, none⟩ = some (.slice A1 n1 c1)) w2) := by rw [hw2]; exact box_new _ _ _
  clear hb
  rw [← hw2]
  clear hw2
  refine (HVG.out w2 P_2.out).mono ?_
  rintro e w3 ⟨rfl, hb⟩
  have P_3 := Lib.hid (P_2.out.step hb)
  clear P_2
  have I_3 := Lib.hid (I_2.out.step hb)
  clear I_2
  have B_3 := Lib.hid (B_2.out.trans (hb.mono B_2.out.size))
  clear B_2
  have F_3 := Lib.hid (F_2.out.step hb)
  clear F_2
  clear hb
  cases v
  · have HMR2 : Hid (mrF gs xs = []) := HMR.out
    go_wp2
    go_ret
    rw [HMR2.out]
    exact RetI_nil B_3.out
  · have hv10 := HVP.out (by first | rfl | trivial)
    have q0 := F_3.out.it
    go_wp2_with fail
    refine (HAC.out (by first | rfl | trivial) w3 P_3.out I_3.out).mono ?_
    rintro e w4 ⟨rfl, hb⟩
    have P_4 := Lib.hid (P_3.out.step hb)
    clear P_3
    have I_4 := Lib.hid (I_3.out.step hb)
    clear I_3
    have B_4 := Lib.hid (B_3.out.trans (hb.mono B_3.out.size))
    clear B_3
    have F_4 := Lib.hid (F_3.out.step hb)
    clear F_3
    clear hb q0
    cases v2
    · have HMR2 : Hid (mrF gs xs = []) := HMR.out
      go_wp2
      go_ret
      rw [HMR2.out]
      exact RetI_nil B_4.out
    · have HMR2 : Hid (mrF gs xs = (reachTo gs xs gs.length).filter (ncB gs)) := HMR.out
      have HF2 := Lib.hid (HFU.out (by first | rfl | trivial) (by first | rfl | trivial))
      generalize reachTo gs xs gs.length = L at *
      have q0 := F_4.out.it
      go_wp2_with fail
      have FW := F_4
      have PW := P_4
      have BW := B_4
      refine (HF2.out w4 P_4.out I_4.out).mono ?_
      rintro e w5 ⟨v7, rfl, ho, hb⟩
      obtain ⟨AL, cL, rfl, _⟩ := OwnI.form ho
      obtain ⟨ll, hll2⟩ : ∃ l, l = L.length := ⟨_, rfl⟩
      rw [← hll2] at ho
      have HLL := Lib.hid hll2
      rw [← hll2]
      clear hll2 q0
      have HCL : Hid (∀ q ∈ L, ∀ w' : World, Below w4.heap.size w5 w' → Calls Tryz.prog 61 #[.int .i64 q, .pointer (some ⟨w1.heap.size, 0, none⟩)] w' fun e w'' => e = .returned (.bool ((gs.getD q.toNat default).k == 0)) ∧ w'' = w') := by
        intro q hq w' hb'
        obtain ⟨t, ht, rfl⟩ := HLB.out q hq
        rw [Int.toNat_natCast]
        have hb2 : Below w4.heap.size w4 w' := hb.trans hb'
        exact mayRun1_at A1 n1 c1 w1.heap.size gs t w'.heap.size w' (FW.out.step hb2).it HN1.out (PW.out.step hb2) (by have := HN1.out; omega)
      have HDF := Lib.hid (slices_DeleteFunc 61 (.pointer (some ⟨w1.heap.size, 0, none⟩)) (fun x => (gs.getD x.toNat default).k == 0) w4.heap.size ll cL AL L w5 HLL.out (by have := HLL.out; have := HRL.out; have := HN1.out; omega) ho hb.size (fun q w => by go_simp) HCL.out)
      have hb9 := Lib.hid hb
      clear ho HCL hb
      go_wp2_with fail
      refine HDF.out.mono ?_
      rintro e w9 ⟨v, rfl, ho, hb⟩
      go_wp2
      go_ret
      rw [HMR2.out]
      exact ⟨_, rfl, own_mono ho BW.out.size, BW.out.trans ((hb9.out.trans hb).mono BW.out.size)⟩
end Go.Proofs.YtgakgmkonmgblaaGreat

namespace Go.Proofs.YtgakgmkonmgblaaGreat
set_option linter.unusedSimpArgs false
set_option linter.unusedVariables false
open Go.RowKit
theorem nwTo_asc (P : Nat → Bool) (n j : Nat) (h : j + 1 < (nwTo P n).length) : (nwTo P n).getD j 0 < (nwTo P n).getD (j + 1) 0 := by
  have hp : (nwTo P n).Pairwise (· < ·) := by
    unfold nwTo
    rw [List.pairwise_map]
    refine List.Pairwise.imp ?_ (List.Pairwise.filter _ List.pairwise_lt_range)
    intro a b hab
    omega
  have := List.pairwise_iff_getElem.1 hp j (j + 1) (by omega) h (by omega)
  simpa [List.getD, h, show j < (nwTo P n).length by omega] using this
theorem must_asc (gs : List Nd) (xs ys : List Int) (j : Nat) (h : j + 1 < (mustF gs xs ys).length) : (mustF gs xs ys).getD j 0 < (mustF gs xs ys).getD (j + 1) 0 := by
  cases hc : chgB gs xs ys
  · unfold mustF at h
    rw [hc] at h
    simp at h
  · unfold mustF at *
    simp only [hc, if_true] at h ⊢
    exact nwTo_asc _ _ j h
end Go.Proofs.YtgakgmkonmgblaaGreat
