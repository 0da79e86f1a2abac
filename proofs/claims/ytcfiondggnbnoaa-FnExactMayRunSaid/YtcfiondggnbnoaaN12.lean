/- The standing contract of impl.areCells. (Made by n12.py.) -/
import Derived.Test.YtcfiondggnbnoaaN10
import Derived.Test.YtcfiondggnbnoaaN9
import Derived.Test.YtcfiondggnbnoaaS14

namespace Go.Proofs.Ytcfiondggnbnoaa
set_option linter.unusedSimpArgs false
set_option linter.unusedVariables false
open Go.RowKit

set_option maxRecDepth 100000 in
set_option maxHeartbeats 6400000 in
theorem impl_areCells (A1 E1 : Option Addr) (n1 c1 m1 d1 : Nat) (gs : List Nd) (xs : List Int) (w1 : World) (hn : n1 = gs.length) (h10 : n1 ≤ 10) (hm1 : m1 = xs.length) (hms : m1 ≤ 1048576) (h : GS w1 w1.heap.size A1 gs) (h1 : IS w1 w1.heap.size E1 xs) :
    Calls Try.prog 45 #[.agg #[.slice A1 n1 c1], .slice E1 m1 d1] w1 fun e w' => e = .returned (.bool (wrB gs xs)) ∧ Below w1.heap.size w1 w' := by
  have HN1 := Lib.hid hn
  have HM1 := Lib.hid hm1
  have P_1 := Lib.hid (h)
  have I_1 := Lib.hid (h1)
  have B_1 := Lib.hid (Below.refl w1.heap.size w1)
  clear hn hm1 h h1
  go_enter Try.func45, Try.ntmps45
  go_wp2
  obtain ⟨w2, hw2⟩ : ∃ W, W = w1.alloc (.cells #[.slice A1 n1 c1] 30) := ⟨_, rfl⟩
  have hb : Below w1.heap.size w1 w2 := by rw [hw2]; exact (Below.refl _ _).alloc (Nat.le_refl _) _
  have P_2 := Lib.hid (P_1.out.step hb)
  clear P_1
  have I_2 := Lib.hid (I_1.out.step hb)
  clear I_1
  have B_2 := Lib.hid (B_1.out.trans (hb.mono B_1.out.size))
  clear B_1
  have F_2 : Hid (As w1.heap.size (w1.heap.size + 1) (fun w' => w'.cell? ⟨w1.heap.size, 0, none⟩ = some (.slice A1 n1 c1)) w2) := by rw [hw2]; exact box_new _ _ _
  clear hb
  rw [← hw2]
  have hs2 : w1.heap.size + 1 = w2.heap.size := by rw [hw2]; simp
  clear hw2
  rw [hs2]
  obtain ⟨w3, hw3⟩ : ∃ W, W = w2.alloc (.cells #[.bool false, .bool false, .bool false, .bool false, .bool false, .bool false, .bool false, .bool false, .bool false, .bool false] 83) := ⟨_, rfl⟩
  rw [← hw3]
  have HU0 : Hid (∀ j : Nat, j < 10 → w3.cell? ⟨w2.heap.size, j, none⟩ = some (.bool (decide ((j : Int) ∈ xs.take 0)))) := by
    intro j hj
    rw [hw3]
    have : j = 0 ∨ j = 1 ∨ j = 2 ∨ j = 3 ∨ j = 4 ∨ j = 5 ∨ j = 6 ∨ j = 7 ∨ j = 8 ∨ j = 9 := by omega
    rcases this with rfl | rfl | rfl | rfl | rfl | rfl | rfl | rfl | rfl | rfl <;> simp [go_sem]
  have HZ0 : Hid (∀ j : Nat, j < 10 → w3.frozen? ⟨w2.heap.size, j, none⟩ = false) := by
    intro j hj
    rw [hw3]
    have : j = 0 ∨ j = 1 ∨ j = 2 ∨ j = 3 ∨ j = 4 ∨ j = 5 ∨ j = 6 ∨ j = 7 ∨ j = 8 ∨ j = 9 := by omega
    rcases this with rfl | rfl | rfl | rfl | rfl | rfl | rfl | rfl | rfl | rfl <;> simp [go_sem]
  have HB0 : Hid (Below w2.heap.size w2 w3) := by rw [hw3]; exact (Below.refl _ _).alloc (Nat.le_refl _) _
  have hs3 : w2.heap.size < w3.heap.size := by rw [hw3]; simp
  clear hw3 hs2
  have FW := F_2
  have PW := P_2
  have IW := I_2
  have BW := B_2
  go_loopw [10] (fun u wr => ∃ k : Nat, k ≤ m1 ∧ u = .int .i64 k ∧ Hid ((xs.take k).Nodup) ∧ Hid (∀ j, j < k → isC gs (xs.getD j 0) = true) ∧ Hid (∀ j : Nat, j < 10 → wr.cell? ⟨w2.heap.size, j, none⟩ = some (.bool (decide ((j : Int) ∈ xs.take k)))) ∧ Hid (∀ j : Nat, j < 10 → wr.frozen? ⟨w2.heap.size, j, none⟩ = false) ∧ Hid (Below w2.heap.size w2 wr) ∧ w3.heap.size ≤ wr.heap.size) (fun u _ => m1 - (intOf u).toNat)
  case atStart => exact ⟨0, Nat.zero_le _, rfl, by simp [Hid], fun j hj => by omega, HU0, HZ0, HB0, Nat.le_refl _⟩
  case round =>
    obtain ⟨k, hk, rfl, HD, HA, HU, HZ, HB, hwr⟩ := hrel
    obtain ⟨w4, hwK⟩ : ∃ W, W = wr := ⟨_, rfl⟩
    rw [← hwK]
    rw [← hwK] at HU HZ HB hwr
    clear hwK HU0 HZ0 HB0
    have F_4 := Lib.hid (FW.out.step HB.out)
    have P_4 := Lib.hid (PW.out.step HB.out)
    have I_4 := Lib.hid (IW.out.step HB.out)
    have BR := Lib.hid (BW.out.trans (HB.out.mono BW.out.size))
    by_cases hlt : k < m1
    · have hkx : k < xs.length := by have := HM1.out; omega
      obtain ⟨b6, o6, rfl, hb6, e6⟩ := I_4.out (by omega)
      have x6 := e6 k hkx
      clear e6
      have HY := Lib.hid (nodup_take_step xs k hkx)
      have HNO := Lib.hid (nodup_take_no xs k hkx)
      have HCN := Lib.hid (wrB_cell_no gs xs k hkx)
      have HTK : Hid (xs.take (k + 1) = xs.take k ++ [xs.getD k 0]) := by show _ = _; rw [List.take_succ_eq_append_getElem hkx]; simp [List.getD, hkx]
      have HAS : Hid (isC gs (xs.getD k 0) = true → ∀ j, j < k + 1 → isC gs (xs.getD j 0) = true) := fun h j hj => by
        rcases Nat.lt_or_ge j k with h1 | h1
        · exact HA.out j h1
        · obtain rfl : j = k := by omega
          exact h
      generalize xs.getD k 0 = x at *
      have q0 := F_4.out.it
      have hwn : IntKind.i64.wrap ((n1 : Int) - 1) = (n1 : Int) - 1 := by rw [IntKind.wrap_i64]; omega
      have HR := Lib.hid (impl_inRange x ((n1 : Int) - 1) w4)
      have hkm : (k : Int) < (m1 : Int) := by omega
      have hic : isC gs x = (rng x 0 ((n1 : Int) - 1) && ((gs.getD x.toNat default).k == 0)) := by rw [HN1.out]; rfl
      have HHN := Lib.hid fun (hr : rng x 0 ((n1 : Int) - 1) = true) => hasN_nat gs x (by unfold hasN; rw [← HN1.out]; exact hr)
      generalize rng x 0 ((n1 : Int) - 1) = r at *
      cases r
      · have HF2 := Lib.hid (HCN.out (by rw [hic]; rfl))
        clear hic HY HNO HCN HAS HTK HHN
        go_wp2_with fail
        refine HR.out.mono ?_
        rintro e w9 ⟨rfl, rfl⟩
        go_wp2
        go_ret
        exact ⟨ret_b HF2.out.symm, BR.out⟩
      · obtain ⟨q, rfl, hqg⟩ := HHN.out rfl
        have hqn : q < n1 := by have := HN1.out; omega
        have hqn2 : (q : Int) < (n1 : Int) := by omega
        have hq10 : (q : Int) < 10 := by omega
        obtain ⟨b, off, rfl, hbB, d0, A6, n6, c6, d1, hn6, hps⟩ := P_4.out.at_ q (by have := HN1.out; omega)
        clear d1 hn6 hps
        rw [Int.toNat_natCast] at hic
        generalize (gs.getD q default).k = kd at *
        cases hk0 : (kd == 0)
        · have HF2 := Lib.hid (HCN.out (by rw [hic, hk0]; rfl))
          have hk1 : (kd != 0) = true := by rw [bne, hk0]; rfl
          clear hic HY HNO HCN HAS HTK HHN
          go_wp2_with fail
          refine HR.out.mono ?_
          rintro e w9 ⟨rfl, rfl⟩
          go_wp2
          go_ret
          exact ⟨ret_b HF2.out.symm, BR.out⟩
        · have HAS2 := Lib.hid (HAS.out (by rw [hic, hk0]; rfl))
          have hk1 : (kd != 0) = false := by rw [bne, hk0]; rfl
          have u0 := HU.out q (by omega)
          clear hic HAS HCN HHN
          by_cases hm : (q : Int) ∈ xs.take k
          · rw [decide_eq_true hm] at u0
            have HF2 := Lib.hid (wrB_dup_no gs xs (HNO.out hm))
            clear hm HY HNO HTK
            go_wp2_with fail
            refine HR.out.mono ?_
            rintro e w9 ⟨rfl, rfl⟩
            go_wp2
            go_ret
            exact ⟨ret_b HF2.out.symm, BR.out⟩
          · rw [decide_eq_false hm] at u0
            have HT2 := Lib.hid (HY.out HD.out hm)
            have f0 := HZ.out q (by omega)
            have HU2 : Hid (∀ j : Nat, j < 10 → (w4.setCell ⟨w2.heap.size, q, none⟩ (.bool true)).cell? ⟨w2.heap.size, j, none⟩ = some (.bool (decide ((j : Int) ∈ xs.take (k + 1))))) := by
              intro j hj
              rw [HTK.out]
              by_cases e : j = q
              · subst e
                rw [World.cell?_setCell_same _ _ _ u0]; simp
              · rw [World.cell?_setCell_other _ _ _ _ (by intro e2; have := congrArg Addr.off e2; simp at this; omega), HU.out j hj]
                have : ((j : Int) ∈ xs.take k ++ [(q : Int)]) ↔ (j : Int) ∈ xs.take k := by simp; omega
                simp only [this]
            have HZ2 : Hid (∀ j : Nat, j < 10 → (w4.setCell ⟨w2.heap.size, q, none⟩ (.bool true)).frozen? ⟨w2.heap.size, j, none⟩ = false) := fun j hj => by rw [World.frozen?_setCell]; exact HZ.out j hj
            have HB2 := Lib.hid (HB.out.setCell (p := ⟨w2.heap.size, q, none⟩) (Nat.le_refl _) (.bool true))
            clear hm HY HNO HTK
            go_wp2_with fail
            refine HR.out.mono ?_
            rintro e w9 ⟨rfl, rfl⟩
            go_wp2
            go_roundw
            case rel => exact ⟨k + 1, by omega, by go_num, HT2.out, HAS2.out, HU2.out, HZ2.out, HB2.out, by simpa [World.setCell] using hwr⟩
            case measure => simp [intOf]; omega
    · obtain rfl : m1 = k := by omega
      have HF2 := Lib.hid (wrB_yes gs xs (fun j hj => HA.out j (by have := HM1.out; omega)) (by have := HD.out; rwa [HM1.out, List.take_of_length_le (Nat.le_refl _)] at this))
      go_wp2
      go_ret
      exact ⟨ret_b HF2.out.symm, BR.out⟩
end Go.Proofs.Ytcfiondggnbnoaa
