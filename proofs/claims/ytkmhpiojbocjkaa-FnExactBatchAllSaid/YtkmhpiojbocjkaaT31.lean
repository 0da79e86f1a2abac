/- The standing contracts of ValidActs. -/
import Derived.Test.YtkmhpiojbocjkaaT30
import Derived.Test.YtkmhpiojbocjkaaT1
namespace Go.Proofs.Ytkmhpiojbocjkaa
set_option linter.unusedSimpArgs false
set_option linter.unusedVariables false
open Go.RowKit

theorem getD_mem_box {w : World} {x y z : Value} {t : TypeId} : (w.alloc (.cells #[x, y, z] t)).cell? ⟨w.heap.size, 0, none⟩ = some x := by go_simp

set_option maxRecDepth 100000 in
set_option maxHeartbeats 3200000 in
theorem spec_validActs (gs : List Nd) (ac : List Ac) (hG : GB gs) (hL : ac.length ≤ 1048576) (A : Option Addr) (n c : Nat) (A' : Option Addr) (m c' : Nat) (w : World) (B : Nat) (hB : B ≤ w.heap.size) (hn : n = gs.length) (h : GS w B A gs) (hm : m = ac.length) (h' : CS w B A' ac) :
    Calls Try.prog 22 #[.agg #[.slice A n c], .slice A' m c'] w fun e w' => e = .returned (.bool (validA gs ac)) ∧ Below w.heap.size w w' := by
  have hm1 : m ≤ 2000000 := by omega
  have hn1 : n ≤ 2000000 := by have := hG.1; omega
  have H := Lib.hid (h.alloc hB (.cells #[.slice A n c] 31))
  have HX := Lib.hid (h'.alloc hB (.cells #[.slice A n c] 31))
  have HM := Lib.hid hm
  have HN := Lib.hid hn
  have HC := Lib.hid fun (w' : World) (hB : B ≤ w'.heap.size) (h : GS w' B A gs) => spec_validGraph A n c gs w' B hB hn h hG
  have HF := Lib.hid fun (x : Int) (w' : World) (hB : B ≤ w'.heap.size) (h : GS w' B A gs) => spec_isCell A n c gs x w' B hB hn h hn1
  have hv : validA gs ac = (validG gs && decide (m ≤ 30) && ac.all (actOK gs)) := by rw [hm]; rfl
  have HNO := Lib.hid fun (k : Nat) (hk : k < ac.length) (hp : actOK gs (ac.getD k default) = false) => all_no ac (actOK gs) k hk hp
  have HYE := Lib.hid fun (hp : ∀ j, j < m → actOK gs (ac.getD j default) = true) => all_yes ac (actOK gs) m hm hp
  rw [hv]
  generalize ac.all (actOK gs) = R at *
  generalize validG gs = V at *
  have hle : w.heap.size < (w.alloc (.cells #[.slice A n c] 31)).heap.size := by simp
  have hq : (w.alloc (.cells #[.slice A n c] 31)).cell? ⟨w.heap.size, 0, none⟩ = some (.slice A n c) := by go_simp
  have HB0 := Lib.hid ((Below.refl w.heap.size w).alloc (Nat.le_refl _) (.cells #[.slice A n c] 31))
  clear h h' hn hm hG hv
  go_enter Try.func22, Try.ntmps22
  generalize hw1 : w.alloc (.cells #[.slice A n c] 31) = w1 at *
  go_wp2
  try simp only [hw1]
  go_loopw [5] (fun i wr => ∃ k : Nat, k ≤ m ∧ i = .int .i64 k ∧ Hid (∀ j, j < k → actOK gs (ac.getD j default) = true) ∧ Hid (Below w1.heap.size w1 wr) ∧ w1.heap.size ≤ wr.heap.size) (fun i _ => m - (intOf i).toNat)
  case atStart => exact ⟨0, Nat.zero_le _, rfl, fun j hj => absurd hj (Nat.not_lt_zero _), Below.refl _ _, Nat.le_refl _⟩
  case round =>
    obtain ⟨k, hk, rfl, HT, HB, hwr⟩ := hrel
    have q2 := (HB.out.cell (p := ⟨w.heap.size, 0, none⟩) hle).trans hq
    by_cases hlt : k < m
    · obtain ⟨b, off, rfl, hbB, c0, c1, c2⟩ := HX.out.at_ k (by have := HM.out; omega)
      have b0 := (HB.out.cell (p := ⟨b, off + k * 3, none⟩) (show b < w1.heap.size by omega)).trans c0
      have b1 := (HB.out.cell (p := ⟨b, off + k * 3 + 1, none⟩) (show b < w1.heap.size by omega)).trans c1
      have b2 := (HB.out.cell (p := ⟨b, off + k * 3 + 2, none⟩) (show b < w1.heap.size by omega)).trans c2
      have hbr : b < wr.heap.size := by omega
      have hwl : w.heap.size < wr.heap.size := by omega
      have hno := HNO.out k (by have := HM.out; omega)
      clear c0 c1 c2
      generalize hp : ac.getD k default = p at *
      have HP := Lib.hid hp
      have HNK := Lib.hid hno
      clear hp hno
      obtain ⟨pk, pa, pb⟩ := p
      have HG2 := Lib.hid ((H.out.below HB.out (by omega)).alloc (by omega) (.cells #[.int .i64 pk, .int .i64 pa, .int .i64 pb] 46))
      have HB2 := Lib.hid (HB.out.alloc (by omega) (.cells #[.int .i64 pk, .int .i64 pa, .int .i64 pb] 46))
      have HREL := Lib.hid fun (hok : actOK gs ⟨pk, pa, pb⟩ = true) (j : Nat) (hj : j < k + 1) => show actOK gs (ac.getD j default) = true from by
          rcases Nat.lt_or_ge j k with h1 | h1
          · exact HT.out j h1
          · obtain rfl : j = k := by omega
            rw [HP.out]; exact hok
      by_cases h0 : pk = 0
      · subst h0
        have hf : actOK gs ⟨0, pa, pb⟩ = (isC gs pa && rng pb 0 999) := rfl
        have HFP := Lib.hid (HF.out pa)
        generalize actOK gs ⟨0, pa, pb⟩ = ok at *
        generalize isC gs pa = r at *
        cases hq9 : rng pb 0 999 <;> cases r
        all_goals
          rw [hq9] at hf
          subst hf
          go_wp2_with fail
          refine (HFP.out _ (by simp; omega) HG2.out).mono ?_
          rintro e w3 ⟨rfl, hb3⟩
          have hB3 := Lib.hid (HB2.out.trans (hb3.mono (by simp; omega)))
          have hs3 : wr.heap.size + 1 ≤ w3.heap.size := by have := hb3.size; simpa using this
          have p2 : w3.cell? ⟨wr.heap.size, 2, none⟩ = some (.int .i64 pb) := (hb3.cell (p := ⟨wr.heap.size, 2, none⟩) (by simp)).trans (by go_simp)
          clear hb3
          go_wp2_with (go_at_call 35; refine (spec_inRange _ _ _ _).mono ?_; rintro e w' ⟨rfl, rfl⟩)
        · go_ret
          exact ⟨ret_b (by rw [HNK.out rfl]; simp), HB0.out.trans (hB3.out.mono (by omega))⟩
        · go_ret
          exact ⟨ret_b (by rw [HNK.out rfl]; simp), HB0.out.trans (hB3.out.mono (by omega))⟩
        · go_ret
          exact ⟨ret_b (by rw [HNK.out rfl]; simp), HB0.out.trans (hB3.out.mono (by omega))⟩
        · go_roundw
          case rel => exact ⟨k + 1, by omega, by go_num, HREL.out rfl, hB3.out, hB3.out.size⟩
          case measure => simp [intOf]; omega
      have e0 : (pk == 0) = false := by simp [h0]
      by_cases h1 : pk = 1
      · subst h1
        clear h0 e0
        have hf : actOK gs ⟨1, pa, pb⟩ = (isK gs pa 2 && (pb == 0)) := rfl
        have hr : hasN gs pa = rng pa 0 ((n : Int) - 1) := by rw [HN.out]; rfl
        have hi : isK gs pa 2 = (hasN gs pa && ((gs.getD pa.toNat default).k == 2)) := rfl
        cases hh : hasN gs pa
        · rw [hi, hh] at hf
          rw [hh] at hr
          have HNF := Lib.hid (HNK.out (by rw [hf]; rfl))
          have hr' := hr.symm
          clear hf hi hh hr
          go_wp2_with (go_at_call 35; refine (spec_inRange _ _ _ _).mono ?_; rintro e w' ⟨rfl, rfl⟩)
          go_ret
          exact ⟨ret_b (by rw [HNF.out]; simp), HB0.out.trans (HB2.out.mono (by omega))⟩
        · obtain ⟨t, rfl, ht⟩ := hasN_nat gs pa hh
          rw [hi, hh] at hf
          have htn : t < n := by have := HN.out; omega
          obtain ⟨b9, off9, rfl, hb9, d0, _⟩ := H.out.at_ t ht
          have g0 := (HB.out.cell (p := ⟨b9, off9 + t * 2, none⟩) (show b9 < w1.heap.size by omega)).trans d0
          have hbr9 : b9 < wr.heap.size := by omega
          rw [hh] at hr
          have hr' := hr.symm
          have hf' : actOK gs ⟨1, (t : Int), pb⟩ = (((gs.getD t default).k == 2) && (pb == 0)) := by rw [hf]; simp
          clear hf hi hh hr d0 ht
          generalize gs.getD t default = d at *
          cases hd : (d.k == 2)
          · have HNF := Lib.hid (HNK.out (by rw [hf', hd]; rfl))
            have hd' : (d.k != 2) = true := by simp [bne, hd]
            clear hf'
            go_wp2_with (go_at_call 35; refine (spec_inRange _ _ _ _).mono ?_; rintro e w' ⟨rfl, rfl⟩)
            go_ret
            exact ⟨ret_b (by rw [HNF.out]; simp), HB0.out.trans (HB2.out.mono (by omega))⟩
          · have hd' : (d.k != 2) = false := by simp [bne, hd]
            cases hb : (pb == 0)
            · have HNF := Lib.hid (HNK.out (by rw [hf', hd, hb]; rfl))
              have hb' : (pb != 0) = true := by simp [bne, hb]
              clear hf'
              go_wp2_with (go_at_call 35; refine (spec_inRange _ _ _ _).mono ?_; rintro e w' ⟨rfl, rfl⟩)
              go_ret
              exact ⟨ret_b (by rw [HNF.out]; simp), HB0.out.trans (HB2.out.mono (by omega))⟩
            · have HYF := Lib.hid (HREL.out (by rw [hf', hd, hb]; rfl))
              have hb' : (pb != 0) = false := by simp [bne, hb]
              clear hf'
              go_wp2_with (go_at_call 35; refine (spec_inRange _ _ _ _).mono ?_; rintro e w' ⟨rfl, rfl⟩)
              go_roundw
              case rel => exact ⟨k + 1, by omega, by go_num, HYF.out, HB2.out, HB2.out.size⟩
              case measure => simp [intOf]; omega
      have e1 : (pk == 1) = false := by simp [h1]
      have hf : actOK gs ⟨pk, pa, pb⟩ = if pk = 2 ∨ pk = 3 then (pa == 0) && (pb == 0) else false := by unfold actOK; simp [h0, h1]
      clear h0 h1
      cases e2 : (pk == 2) <;> cases e3 : (pk == 3)
      · have hk : ¬ (pk = 2 ∨ pk = 3) := by simp at e2 e3; omega
        rw [if_neg hk] at hf
        have HNF := Lib.hid (HNK.out hf)
        clear hf hk
        go_wp2
        go_ret
        exact ⟨ret_b (by rw [HNF.out]; simp), HB0.out.trans (HB2.out.mono (by omega))⟩
      all_goals
        have hk : pk = 2 ∨ pk = 3 := by simp at e2 e3; omega
        rw [if_pos hk] at hf
        clear hk
        cases ha : (pa == 0)
        · have HNF := Lib.hid (HNK.out (by rw [hf, ha]; rfl))
          have ha' : (pa != 0) = true := by simp [bne, ha]
          clear hf
          go_wp2
          go_ret
          exact ⟨ret_b (by rw [HNF.out]; simp), HB0.out.trans (HB2.out.mono (by omega))⟩
        · have ha' : (pa != 0) = false := by simp [bne, ha]
          cases hb : (pb == 0)
          · have HNF := Lib.hid (HNK.out (by rw [hf, ha, hb]; rfl))
            have hb' : (pb != 0) = true := by simp [bne, hb]
            clear hf
            go_wp2
            go_ret
            exact ⟨ret_b (by rw [HNF.out]; simp), HB0.out.trans (HB2.out.mono (by omega))⟩
          · have HYF := Lib.hid (HREL.out (by rw [hf, ha, hb]; rfl))
            have hb' : (pb != 0) = false := by simp [bne, hb]
            clear hf
            go_wp2
            go_roundw
            case rel => exact ⟨k + 1, by omega, by go_num, HYF.out, HB2.out, HB2.out.size⟩
            case measure => simp [intOf]; omega
    · obtain rfl : k = m := by omega
      have hR := HYE.out HT.out
      subst hR
      have HG2 := Lib.hid (H.out.below HB.out (by omega))
      by_cases h30 : k ≤ 30 <;> cases V
      all_goals
        go_wp2_with fail
        refine (HC.out _ (by omega) HG2.out).mono ?_
        rintro e w3 ⟨rfl, hb3⟩
        go_wp2
        all_goals
          go_ret
          exact ⟨ret_b (by first | (simp; omega) | simp), HB0.out.trans ((HB.out.trans (hb3.mono (by omega))).mono (by omega))⟩
end Go.Proofs.Ytkmhpiojbocjkaa
