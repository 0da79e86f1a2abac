/- The contracts of both ValidCells. -/
import Derived.Test.YtkmhpiojbocjkaaG6
namespace Go.Proofs.Ytkmhpiojbocjkaa
set_option linter.unusedSimpArgs false
set_option linter.unusedVariables false
open Go.RowKit

set_option maxRecDepth 100000 in
set_option maxHeartbeats 1600000 in
theorem impl_ValidCells (A A' : Option Addr) (n c m c' : Nat) (gs : List Nd) (xs : List Int) (w : World) (B : Nat) (hB : B ≤ w.heap.size) (hn : n = gs.length) (hnc : n ≤ c) (hm : m = xs.length) (h : GS w B A gs) (h' : IS w B A' xs) (hs : GB gs) (hs' : m ≤ 2000000) :
    Calls Try.prog 43 #[.agg #[.slice A n c], .slice A' m c'] w fun e w' => e = .returned (.bool (okC gs xs)) ∧ Below w.heap.size w w' := by
  have hn1 : n ≤ 1048576 := by rw [hn]; exact hs.1
  have HVG := Lib.hid fun (w' : World) (hB : B ≤ w'.heap.size) (h : GS w' B A gs) => impl_ValidGraph A n c gs w' B hB hn h hs hnc
  have hok : okC gs xs = (validG gs && validC gs xs) := rfl
  cases hv : validG gs
  · have : okC gs xs = false := by rw [hok, hv]; rfl
    rw [this]
    rw [hv] at HVG
    have H := Lib.hid h
    clear this h h' hn hm hok hv
    go_enter Try.func43, Try.ntmps43
    go_wp2_with fail
    refine (HVG.out _ (by simp; omega) (H.out.alloc hB _)).mono ?_
    rintro e w1 ⟨rfl, hb⟩
    go_wp2
    go_ret
    exact ⟨rfl, ((Below.refl _ _).alloc (Nat.le_refl _) _).trans (hb.mono (by simp))⟩
  have : okC gs xs = validC gs xs := by rw [hok, hv]; rfl
  rw [this]
  rw [hv] at HVG
  have h10 := (validG_parts gs hv).1
  have hn10 : n ≤ 10 := by omega
  clear this hok hv h10
  by_cases hl : m = n
  · have hne : ((m : Int) != (n : Int)) = false := by simp [hl]
    have hlx : xs.length ≤ 10 := by omega
    have hdx : decide (xs.length ≤ 10) = true := by simpa using hlx
    have HAR := Lib.hid fun (w' : World) (hB : B ≤ w'.heap.size) (h : IS w' B A' xs) => impl_allInRange A' m c' xs 999 w' B hB hm h hs'
    rw [hdx] at HAR
    have H := Lib.hid h
    have HI := Lib.hid h'
    have HN := Lib.hid hn
    have HM := Lib.hid hm
    have HE := Lib.hid hl
    clear h h' hn hm hl hlx hdx
    cases ha : allR xs 0 999
    · rw [validC_range gs xs ha]
      rw [ha] at HAR
      clear ha
      go_enter Try.func43, Try.ntmps43
      go_wp2_with fail
      refine (HVG.out _ (by simp; omega) (H.out.alloc hB _)).mono ?_
      rintro e w1 ⟨rfl, hb⟩
      have q : w1.cell? ⟨w.heap.size, 0, none⟩ = some (.slice A n c) := (hb.cell (p := ⟨w.heap.size, 0, none⟩) (by simp)).trans (by go_simp)
      have HI1 := Lib.hid ((HI.out.alloc hB (.cells #[.slice A n c] 31)).below hb (by simp; omega))
      have hz : B ≤ w1.heap.size := by have := hb.size; simp at this; omega
      go_wp2_with fail
      refine (HAR.out _ hz HI1.out).mono ?_
      rintro e w2 ⟨rfl, rfl⟩
      go_wp2
      go_ret
      exact ⟨rfl, ((Below.refl _ _).alloc (Nat.le_refl _) _).trans (hb.mono (by simp))⟩
    · have HALL := Lib.hid ha
      rw [ha] at HAR
      clear ha
      go_enter Try.func43, Try.ntmps43
      go_wp2_with fail
      refine (HVG.out _ (by simp; omega) (H.out.alloc hB _)).mono ?_
      rintro e w1 ⟨rfl, hb⟩
      have q : w1.cell? ⟨w.heap.size, 0, none⟩ = some (.slice A n c) := (hb.cell (p := ⟨w.heap.size, 0, none⟩) (by simp)).trans (by go_simp)
      have HI1 := Lib.hid ((HI.out.alloc hB (.cells #[.slice A n c] 31)).below hb (by simp; omega))
      have HG1 := Lib.hid ((H.out.alloc hB (.cells #[.slice A n c] 31)).below hb (by simp; omega))
      have hz : B ≤ w1.heap.size := by have := hb.size; simp at this; omega
      have hB1 : Below w.heap.size w w1 := ((Below.refl _ _).alloc (Nat.le_refl _) _).trans (hb.mono (by simp))
      clear hb H HI
      go_wp2_with fail
      refine (HAR.out _ hz HI1.out).mono ?_
      rintro e w2 ⟨rfl, rfl⟩
      go_wp2
      go_loopw [26] (fun u wr => ∃ k : Nat, k ≤ n ∧ u = .int .i64 k ∧ Hid (∀ j, j < k → cellOK gs xs j = true) ∧ Below w1.heap.size w1 wr) (fun u _ => n - (intOf u).toNat)
      case atStart => exact ⟨0, by omega, rfl, by intro j hj; omega, Below.refl _ _⟩
      case round =>
        obtain ⟨k, hk, rfl, HK, hbr⟩ := hrel
        by_cases hlt : k < n
        · have hkm : k < m := by have := HE.out; omega
          obtain ⟨b, off, rfl, hbB, c0, A1, n1, c1, c2, _⟩ := HG1.out.at_ k (by have := HN.out; omega)
          obtain ⟨b', off', rfl, hb', hc⟩ := HI1.out (by have := HM.out; omega)
          have hx := hc k (by have := HM.out; omega)
          clear hc
          have e0 := (hbr.cell (p := ⟨b, off + k * 2, none⟩) (by simp; omega)).trans c0
          have e1 := (hbr.cell (p := ⟨b, off + k * 2 + 1, none⟩) (by simp; omega)).trans c2
          have e2 := (hbr.cell (p := ⟨b', off' + k, none⟩) (by simp; omega)).trans hx
          have hbw : b < wr.heap.size := by have := hbr.size; omega
          have hbw' : b' < wr.heap.size := by have := hbr.size; omega
          have hco : cellOK gs xs k = (rng (xs.getD k 0) 0 999 && ((gs.getD k default).k == 0 || xs.getD k 0 == 0)) := rfl
          have hrg : rng (xs.getD k 0) 0 999 = true := by
            have := HALL.out
            unfold allR at this
            rw [List.all_eq_true] at this
            exact this _ (by have := HM.out; have h2 : k < xs.length := by omega
                             simp [List.getD, h2])
          have HNK := Lib.hid fun (h : cellOK gs xs k = false) => validC_bad gs xs k (by have := HN.out; omega) h
          have HNT : Hid (cellOK gs xs k = true → ∀ j, j < k + 1 → cellOK gs xs j = true) := fun h j hj => by
            rcases Nat.lt_or_ge j k with h1 | h1
            · exact HK.out j h1
            · obtain rfl : j = k := by omega
              exact h
          generalize cellOK gs xs k = r at *
          generalize gs.getD k default = d at *
          generalize xs.getD k 0 = x at *
          subst hco
          have HR := Lib.hid hrg
          clear c0 c2 hx hrg
          cases hd : (d.k == 0)
          · have hd' : (d.k != 0) = true := by simp [bne, hd]
            have HD := Lib.hid hd
            cases hz' : (x == 0)
            · have hz2 : (x != 0) = true := by simp [bne, hz']
              have HZ := Lib.hid hz'
              go_wp2
              go_ret
              exact ⟨ret_b (HNK.out (by rw [HR.out, HD.out, HZ.out]; rfl)).symm, hB1.trans ((hbr.alloc (by have := hbr.size; omega) _).mono hB1.size)⟩
            · have hz2 : (x != 0) = false := by simp [bne, hz']
              have HZ := Lib.hid hz'
              go_wp2
              go_roundw
              case rel => exact ⟨k + 1, by omega, by go_num, HNT.out (by rw [HR.out, HD.out, HZ.out]; rfl), hbr.alloc (by have := hbr.size; omega) _⟩
              case measure => simp [intOf]; omega
          · have hd' : (d.k != 0) = false := by simp [bne, hd]
            have HD := Lib.hid hd
            go_wp2
            go_roundw
            case rel => exact ⟨k + 1, by omega, by go_num, HNT.out (by rw [HR.out, HD.out]; rfl), hbr.alloc (by have := hbr.size; omega) _⟩
            case measure => simp [intOf]; omega
        · go_wp2
          go_ret
          refine ⟨ret_b ?_, hB1.trans (hbr.mono hB1.size)⟩
          exact (validC_fin gs xs (by have := HN.out; have := HM.out; have := HE.out; omega) fun j hj => HK.out j (by have := HN.out; omega)).symm
  · have hne : ((m : Int) != (n : Int)) = true := by simp; omega
    rw [validC_len gs xs (by omega)]
    have H := Lib.hid h
    clear hl hn hm h h'
    go_enter Try.func43, Try.ntmps43
    go_wp2_with fail
    refine (HVG.out _ (by simp; omega) (H.out.alloc hB _)).mono ?_
    rintro e w1 ⟨rfl, hb⟩
    have q : w1.cell? ⟨w.heap.size, 0, none⟩ = some (.slice A n c) := (hb.cell (p := ⟨w.heap.size, 0, none⟩) (by simp)).trans (by go_simp)
    go_wp2
    go_ret
    exact ⟨rfl, ((Below.refl _ _).alloc (Nat.le_refl _) _).trans (hb.mono (by simp))⟩

theorem top_impl_ValidCells (gs : List Nd) (xs : List Int) (hG : GB gs) (hL : xs.length ≤ 1048576) : ∀ (A : Option Addr) (n c : Nat) (A' : Option Addr) (m c' : Nat) (w : World), n = gs.length → n ≤ c → GS w w.heap.size A gs → m = xs.length → IS w w.heap.size A' xs →
    Calls Try.prog 43 #[.agg #[.slice A n c], .slice A' m c'] w fun e w' => e = .returned (.bool (okC gs xs)) ∧ Below w.heap.size w w' :=
  fun A n c A' m c' w hn hc h hm h' => impl_ValidCells A A' n c m c' gs xs w w.heap.size (Nat.le_refl _) hn hc hm h h' hG (by omega)
end Go.Proofs.Ytkmhpiojbocjkaa
