/- laws.FnLabelsOf returns true for all bytes, and writes nothing that was there. (Made by genpl.py.) -/
import Derived.Test.YtkfglodjnnlbkaaTLa
import Derived.Test.YtkfglodjnnlbkaaR25
import Derived.Test.YtkfglodjnnlbkaaM43
import Derived.Test.YtkfglodjnnlbkaaV33
import Derived.Test.YtkfglodjnnlbkaaJG
import Derived.Deep.RegionHeld3
import Derived.BigQuiet
import Derived.Deep.QuietTactic
import Derived.Test.YtkfglodjnnlbkaaM42

namespace Go.Proofs.Ytkfglodjnnlbkaa
set_option linter.unusedSimpArgs false
set_option linter.unusedVariables false
open Go.RowKit

theorem is_of_own {w : World} {base n c : Nat} {A : Option Addr} {xs : List Int} (hn : n = xs.length) (h : w.ownsRow base 3 1 (.slice A n c) n (xs.map (Value.int .i64))) : IS w w.heap.size A xs := by
  subst hn
  have h' : OwnI w base (.slice A xs.length c) xs := h
  obtain ⟨A', c', e, hI⟩ := h'.form
  simp only [Value.slice.injEq] at e
  obtain ⟨rfl, _⟩ := e
  exact hI

set_option maxRecDepth 100000 in
set_option maxHeartbeats 6400000 in
theorem plaw_LabelsOf (A : Option Addr) (n c : Nat) (bs : List Int) (w : World) (hn : n = bs.length) (hnc : n ≤ c) (h : BS w w.heap.size A bs) (hy : BY bs) (hm : n ≤ 9223372036854775807) :
    Calls Try.prog 8 #[.slice A n c] w fun e w' => e = .returned (.bool true) ∧ Below w.heap.size w w' := by
  by_cases hs : 1048576 < n
  · clear hn hnc h hy
    go_enter Try.func8, Try.ntmps8
    go_wp2
    go_ret
    exact ⟨rfl, Below.refl _ _⟩
  have HC := Lib.hid (spec_DrawLabelsOf A n c bs w hn hnc h hy (by omega))
  clear hn hnc h hy
  go_enter Try.func8, Try.ntmps8
  go_wp2_with fail
  refine HC.out.mono ?_
  rintro e w1 ⟨A1, n1, c1, ds, o, rfl, ho1, ho2, hp1, hn1, hn12, hnc1, hOB, hlens, hP, hb⟩
  have HN1 := Lib.hid hp1
  have HOB := Lib.hid hOB
  have HLE := Lib.hid hlens
  have P_1 := Lib.hid (hP)
  have B_1 := Lib.hid (hb)
  clear hP hp1 hb HC hOB hlens
  have HIM := Lib.hid fun (w' : World) (h : OS w' w'.heap.size A1 ds) =>  top_impl_LabelsOf ds o HOB.out A1 n1 c1 w' HN1.out hnc1 h
  have HSP := Lib.hid fun (w' : World) (h : OS w' w'.heap.size A1 ds) =>  top_spec_LabelsOf ds o HOB.out A1 n1 c1 w' HN1.out hnc1 h
  have HVO := Lib.hid fun (w' : World) (h : OS w' w'.heap.size A1 ds) =>  top_impl_ValidOwners ds HOB.out A1 n1 c1 w' HN1.out hnc1 h
  have hlb := rerL_len ds o
  have HIA := Lib.hid fun (q : Int) (w' : World) (h : OS w' w'.heap.size A1 ds) => top_impl_LabelsOf ds q HOB.out A1 n1 c1 w' HN1.out hnc1 h
  have HKI := Lib.hid fun (w' : World) (h : OS w' w'.heap.size A1 ds) => top_impl_KidsOf ds o HOB.out A1 n1 c1 w' HN1.out hnc1 h
  have HF := Lib.hid fun (hv : validO ds = true) (t : Nat) (e : o = (t : Int)) (ht : t < ds.length) (hoo : isO ds t = true) => (by rw [e]; exact labels_facts hv t ht hoo : ∃ S : Nat → List Int, S 0 = [] ∧ (∀ m j, m + j + 1 = (kidsF ds o).length → S (m + 1) = S m ++ rerL ds ((kidsF ds o).getD j 0)) ∧ rerL ds o = S (kidsF ds o).length ++ (clO ds t).reverse ∧ (∀ m, m ≤ (kidsF ds o).length → (S m).length ≤ 60) ∧ (∀ j, j < (kidsF ds o).length → ∃ c : Nat, (kidsF ds o).getD j 0 = (c : Int) ∧ c < ds.length))
  have hkl0 := kidsF_len ds o
  generalize validO ds = v at *
  obtain ⟨R, hR⟩ : ∃ R, R = rerL ds o := ⟨_, rfl⟩
  have HR := Lib.hid hR
  rw [← hR] at HIM HSP hlb
  clear hR
  go_wp2_with fail
  refine (HIM.out w1 P_1.out).mono ?_
  rintro e w2 ⟨v, rfl, ho, hb⟩
  have P_2 := Lib.hid (P_1.out.step hb)
  clear P_1
  have B_2 := Lib.hid (B_1.out.trans (hb.mono B_1.out.size))
  clear B_1
  clear hb
  obtain ⟨A3, c3, rfl, hI9⟩ := OwnI.form ho
  obtain ⟨rl, hl2⟩ : ∃ l, l = R.length := ⟨_, rfl⟩
  have HRL := Lib.hid hl2
  rw [← hl2]
  have R_2 := Lib.hid (hI9)
  clear ho hI9 hl2
  rw [← HRL.out] at hlb
  clear HIM
  go_wp2_with fail
  refine (HSP.out w2 P_2.out).mono ?_
  rintro e w3 ⟨v, rfl, ho, hb⟩
  obtain ⟨A4, c4, rfl, hI9⟩ := OwnI.form ho
  have P_3 := Lib.hid (P_2.out.step hb)
  clear P_2
  have B_3 := Lib.hid (B_2.out.trans (hb.mono B_2.out.size))
  clear B_2
  have R_3 := Lib.hid (R_2.out.step hb)
  clear R_2
  clear hb
  rw [← HRL.out]
  have HEQ := Lib.hid (laws_equalInts A3 A4 rl rl c3 c4 R R w3 w3.heap.size (Nat.le_refl _) HRL.out HRL.out R_3.out hI9 (by omega) (by omega))
  rw [show decide (R = R) = true from decide_eq_true rfl] at HEQ
  clear ho hI9
  go_wp2_with fail
  refine (HEQ.out).mono ?_
  rintro e w4 ⟨rfl, hb⟩
  have P_4 := Lib.hid (P_3.out.step hb)
  clear P_3
  have B_4 := Lib.hid (B_3.out.trans (hb.mono B_3.out.size))
  clear B_3
  have R_4 := Lib.hid (R_3.out.step hb)
  clear R_3
  clear hb
  clear HEQ
  go_wp2_with fail
  refine (HVO.out w4 P_4.out).mono ?_
  rintro e w5 ⟨rfl, hb⟩
  have P_5 := Lib.hid (P_4.out.step hb)
  clear P_4
  have B_5 := Lib.hid (B_4.out.trans (hb.mono B_4.out.size))
  clear B_4
  have R_5 := Lib.hid (R_4.out.step hb)
  clear R_4
  clear hb
  cases v
  · skip
    go_wp2_with fail
    refine (HSP.out w5 P_5.out).mono ?_
    rintro e w6 ⟨v, rfl, ho, hb⟩
    obtain ⟨A4, c4, rfl, hI9⟩ := OwnI.form ho
    have P_6 := Lib.hid (P_5.out.step hb)
    clear P_5
    have B_6 := Lib.hid (B_5.out.trans (hb.mono B_5.out.size))
    clear B_5
    have R_6 := Lib.hid (R_5.out.step hb)
    clear R_5
    clear hb
    rw [← HRL.out]
    have HEQ := Lib.hid (laws_equalInts A3 A4 rl rl c3 c4 R R w6 w6.heap.size (Nat.le_refl _) HRL.out HRL.out R_6.out hI9 (by omega) (by omega))
    rw [show decide (R = R) = true from decide_eq_true rfl] at HEQ
    clear ho hI9
    go_wp2_with fail
    refine (HEQ.out).mono ?_
    rintro e w7 ⟨rfl, hb⟩
    have P_7 := Lib.hid (P_6.out.step hb)
    clear P_6
    have B_7 := Lib.hid (B_6.out.trans (hb.mono B_6.out.size))
    clear B_6
    have R_7 := Lib.hid (R_6.out.step hb)
    clear R_6
    clear hb
    clear HEQ
    go_wp2
    go_ret
    exact ⟨rfl, B_7.out⟩
  · by_cases hx0 : o < 0
    · skip
      go_wp2_with fail
      refine (HSP.out w5 P_5.out).mono ?_
      rintro e w6 ⟨v, rfl, ho, hb⟩
      obtain ⟨A4, c4, rfl, hI9⟩ := OwnI.form ho
      have P_6 := Lib.hid (P_5.out.step hb)
      clear P_5
      have B_6 := Lib.hid (B_5.out.trans (hb.mono B_5.out.size))
      clear B_5
      have R_6 := Lib.hid (R_5.out.step hb)
      clear R_5
      clear hb
      rw [← HRL.out]
      have HEQ := Lib.hid (laws_equalInts A3 A4 rl rl c3 c4 R R w6 w6.heap.size (Nat.le_refl _) HRL.out HRL.out R_6.out hI9 (by omega) (by omega))
      rw [show decide (R = R) = true from decide_eq_true rfl] at HEQ
      clear ho hI9
      go_wp2_with fail
      refine (HEQ.out).mono ?_
      rintro e w7 ⟨rfl, hb⟩
      have P_7 := Lib.hid (P_6.out.step hb)
      clear P_6
      have B_7 := Lib.hid (B_6.out.trans (hb.mono B_6.out.size))
      clear B_6
      have R_7 := Lib.hid (R_6.out.step hb)
      clear R_6
      clear hb
      clear HEQ
      go_wp2
      go_ret
      exact ⟨rfl, B_7.out⟩
    · by_cases hxn : (n1 : Int) ≤ o
      · skip
        go_wp2_with fail
        refine (HSP.out w5 P_5.out).mono ?_
        rintro e w6 ⟨v, rfl, ho, hb⟩
        obtain ⟨A4, c4, rfl, hI9⟩ := OwnI.form ho
        have P_6 := Lib.hid (P_5.out.step hb)
        clear P_5
        have B_6 := Lib.hid (B_5.out.trans (hb.mono B_5.out.size))
        clear B_5
        have R_6 := Lib.hid (R_5.out.step hb)
        clear R_5
        clear hb
        rw [← HRL.out]
        have HEQ := Lib.hid (laws_equalInts A3 A4 rl rl c3 c4 R R w6 w6.heap.size (Nat.le_refl _) HRL.out HRL.out R_6.out hI9 (by omega) (by omega))
        rw [show decide (R = R) = true from decide_eq_true rfl] at HEQ
        clear ho hI9
        go_wp2_with fail
        refine (HEQ.out).mono ?_
        rintro e w7 ⟨rfl, hb⟩
        have P_7 := Lib.hid (P_6.out.step hb)
        clear P_6
        have B_7 := Lib.hid (B_6.out.trans (hb.mono B_6.out.size))
        clear B_6
        have R_7 := Lib.hid (R_6.out.step hb)
        clear R_6
        clear hb
        clear HEQ
        go_wp2
        go_ret
        exact ⟨rfl, B_7.out⟩
      · obtain ⟨t, hto⟩ : ∃ t : Nat, o = (t : Int) := ⟨o.toNat, by omega⟩
        subst hto
        have htn : t < n1 := by omega
        obtain ⟨b, off, rfl, hbB, d0, d1, ⟨A6, n6, c6, d2, hn6, i6⟩, A7, n7, c7, d3, hn7, i7⟩ := P_5.out.at_ t (by have := HN1.out; omega)
        clear d0 d3 hn7 i7
        have HFT := Lib.hid (HF.out (by first | rfl | trivial) t rfl (by have := HN1.out; omega))
        clear HF
        obtain ⟨po, hpo⟩ : ∃ p, p = (ds.getD t default).o := ⟨_, rfl⟩
        rw [← hpo] at d1
        have HPO : Hid (po = isO ds t) := hpo
        clear hpo
        cases po
        · clear HFT HPO d2 hn6 i6
          go_wp2_with fail
          refine (HSP.out w5 P_5.out).mono ?_
          rintro e w6 ⟨v, rfl, ho, hb⟩
          obtain ⟨A4, c4, rfl, hI9⟩ := OwnI.form ho
          have P_6 := Lib.hid (P_5.out.step hb)
          clear P_5
          have B_6 := Lib.hid (B_5.out.trans (hb.mono B_5.out.size))
          clear B_5
          have R_6 := Lib.hid (R_5.out.step hb)
          clear R_5
          clear hb
          rw [← HRL.out]
          have HEQ := Lib.hid (laws_equalInts A3 A4 rl rl c3 c4 R R w6 w6.heap.size (Nat.le_refl _) HRL.out HRL.out R_6.out hI9 (by omega) (by omega))
          rw [show decide (R = R) = true from decide_eq_true rfl] at HEQ
          clear ho hI9
          go_wp2_with fail
          refine (HEQ.out).mono ?_
          rintro e w7 ⟨rfl, hb⟩
          have P_7 := Lib.hid (P_6.out.step hb)
          clear P_6
          have B_7 := Lib.hid (B_6.out.trans (hb.mono B_6.out.size))
          clear B_6
          have R_7 := Lib.hid (R_6.out.step hb)
          clear R_6
          clear hb
          clear HEQ
          go_wp2
          go_ret
          exact ⟨rfl, B_7.out⟩
        · obtain ⟨S, f0, f1, f2, f3, f4⟩ := HFT.out HPO.out.symm
          rw [← HR.out] at f2
          have HF1 := Lib.hid f1
          have HF2 := Lib.hid f2
          have HF3 := Lib.hid f3
          have HF0 := Lib.hid f0
          obtain ⟨CL, hCL⟩ : ∃ C, C = (ds.getD t default).cl := ⟨_, rfl⟩
          have hn6b : n6 ≤ 6 := by have := (HLE.out t).1; omega
          rw [← hCL] at hn6 i6
          have HCL : Hid (CL = clO ds t) := hCL
          have HN6 := Lib.hid hn6
          clear f0 f1 f2 f3 f4 hCL hn6 HFT HSP HVO
          generalize kidsF ds (t : Int) = KD at *
          have htn2 : (t : Int) < (n1 : Int) := by omega
          have d2_5 : Hid (C1 b (off + t * 4 + 2) (.slice A6 n6 c6) w5) := ⟨hbB, d2⟩
          have HBB := Lib.hid hbB
          clear d2
          have C_5 := Lib.hid (i6)
          clear i6
          go_wp2_with fail
          have PZ := Lib.hid P_5.out
          have RZ := Lib.hid R_5.out
          have BZ := Lib.hid B_5.out
          have DZ := Lib.hid d2_5.out
          have CZ := Lib.hid C_5.out
          have Z_5 := Lib.hid (Below.refl w5.heap.size w5)
          obtain ⟨w6, hw6⟩ : ∃ W, W = w5.alloc (.cells #[] 3) := ⟨_, rfl⟩
          have hb : Below w5.heap.size w5 w6 := by rw [hw6]; exact (Below.refl _ _).alloc (Nat.le_refl _) _
          have P_6 := Lib.hid (P_5.out.step hb)
          clear P_5
          have B_6 := Lib.hid (B_5.out.trans (hb.mono B_5.out.size))
          clear B_5
          have R_6 := Lib.hid (R_5.out.step hb)
          clear R_5
          have d2_6 := Lib.hid (d2_5.out.step hb)
          clear d2_5
          have C_6 := Lib.hid (C_5.out.step hb)
          clear C_5
          have Z_6 := Lib.hid (Z_5.out.trans (hb.mono Z_5.out.size))
          clear Z_5
          clear hb
          rw [← hw6]
          have HT0 : Hid (World.ownsRow w6 w5.heap.size 3 1 (.slice (some ⟨w5.heap.size, 0, none⟩) 0 0) 0 ([] : List Value)) := by rw [hw6]; exact World.ownsRow_lit (e := 3) (size := 1) w5 #[] 0 (Nat.le_refl _) (by unfold maxLen; omega) (by simp)
          clear hw6
          try clear d1 htn hx0 hxn
          refine (HKI.out w6 P_6.out).mono ?_
          rintro e w7 ⟨v, rfl, ho, hb⟩
          have HT1 := Lib.hid (own_below HT0.out hb)
          clear HT0
          have P_7 := Lib.hid (P_6.out.step hb)
          clear P_6
          have B_7 := Lib.hid (B_6.out.trans (hb.mono B_6.out.size))
          clear B_6
          have R_7 := Lib.hid (R_6.out.step hb)
          clear R_6
          have d2_7 := Lib.hid (d2_6.out.step hb)
          clear d2_6
          have C_7 := Lib.hid (C_6.out.step hb)
          clear C_6
          have Z_7 := Lib.hid (Z_6.out.trans (hb.mono Z_6.out.size))
          clear Z_6
          clear hb
          obtain ⟨A5, c5, rfl, hI9⟩ := OwnI.form ho
          obtain ⟨kl, hl2⟩ : ∃ l, l = KD.length := ⟨_, rfl⟩
          have HKL := Lib.hid hl2
          rw [← hl2]
          have K_7 := Lib.hid (hI9)
          clear ho hI9 hl2
          rw [← HKL.out] at hkl0
          clear HKI
          go_wp2
          have hB0 : w5.heap.size ≤ w7.heap.size := Z_7.out.size
          go_loopw [6, 8] (fun al u wr => ∃ (m l : Nat) (A : Option Addr) (c : Nat), m ≤ kl ∧ u = .int .i64 ((kl : Int) - 1 - m) ∧ al = .slice A l c ∧ Hid (l = (S m).length) ∧ Hid (World.ownsRow wr w5.heap.size 3 1 (.slice A l c) l ((S m).map (Value.int .i64))) ∧ Hid (Below w7.heap.size w7 wr) ∧ w7.heap.size ≤ wr.heap.size) (fun _ u _ => (intOf u + 1).toNat)
          case atStart => exact ⟨0, 0, _, _, Nat.zero_le _, by simp, rfl, by rw [HF0.out]; exact Lib.hid rfl, by rw [HF0.out]; exact HT1.out, Below.refl _ _, Nat.le_refl _⟩
          case round =>
            obtain ⟨m, l, Aa, ca, hm, rfl, rfl, HL, HO, HB, hwr⟩ := hrel
            obtain ⟨w8, hwK⟩ : ∃ W, W = wr := ⟨_, rfl⟩
            rw [← hwK]
            rw [← hwK] at HB HO hwr
            clear hwK
            have P_8 := Lib.hid (P_7.out.step HB.out)
            have B_8 := Lib.hid (B_7.out.trans (HB.out.mono B_7.out.size))
            have R_8 := Lib.hid (R_7.out.step HB.out)
            have d2_8 := Lib.hid (d2_7.out.step HB.out)
            have C_8 := Lib.hid (C_7.out.step HB.out)
            have Z_8 := Lib.hid (Z_7.out.trans (HB.out.mono Z_7.out.size))
            have K_8 := Lib.hid (K_7.out.step HB.out)
            have BK_8 := HB
            clear HB
            by_cases hlt : m < kl
            · obtain ⟨j, hj⟩ : ∃ j : Nat, m + j + 1 = kl := ⟨kl - 1 - m, by omega⟩
              have hji : (kl : Int) - 1 - (m : Int) = (j : Int) := by omega
              have hjl : j < kl := by omega
              have hjl2 : (j : Int) < (kl : Int) := by omega
              have HS1 := Lib.hid (HF1.out m j (by have := HKL.out; omega))
              have hb1 := HF3.out (m + 1) (by have := HKL.out; omega)
              have hb2 := HF3.out m (by have := HKL.out; omega)
              have HJI := Lib.hid hji
              rw [hji]
              clear hji
              obtain ⟨b5, o5, hA5, hb5, x5⟩ := K_8.out (by have := HKL.out; omega)
              subst hA5
              have x6 := x5 j (by have := HKL.out; omega)
              clear x5
              generalize KD.getD j 0 = q at *
              have HIQ := Lib.hid (HIA.out q)
              have hrq := rerL_len ds q
              generalize rerL ds q = Rq at *
              have HJJ := Lib.hid hj
              have hl60 : l ≤ 60 := by have := HL.out; omega
              clear hj hb1 hb2
              go_wp2_with fail
              refine (HIQ.out w8 P_8.out).mono ?_
              rintro e w9 ⟨v, rfl, ho, hb⟩
              have HO2 := Lib.hid (own_below HO.out hb)
              clear HO x6 HIQ
              have P_9 := Lib.hid (P_8.out.step hb)
              clear P_8
              have B_9 := Lib.hid (B_8.out.trans (hb.mono B_8.out.size))
              clear B_8
              have R_9 := Lib.hid (R_8.out.step hb)
              clear R_8
              have d2_9 := Lib.hid (d2_8.out.step hb)
              clear d2_8
              have C_9 := Lib.hid (C_8.out.step hb)
              clear C_8
              have Z_9 := Lib.hid (Z_8.out.trans (hb.mono Z_8.out.size))
              clear Z_8
              have K_9 := Lib.hid (K_8.out.step hb)
              clear K_8
              have BK_9 := Lib.hid (BK_8.out.trans (hb.mono BK_8.out.size))
              clear BK_8
              clear hb
              obtain ⟨A9, c9, rfl, hI9⟩ := OwnI.form ho
              obtain ⟨l9, hl9⟩ : ∃ l, l = Rq.length := ⟨_, rfl⟩
              rw [← hl9]
              rw [← hl9] at hrq
              have HL9 := Lib.hid hl9
              have Q_9 := Lib.hid (hI9)
              clear hI9 ho hl9
              have hIA : IS w9 w9.heap.size Aa (S m) := is_of_own HL.out HO2.out
              have HJN := Lib.hid (laws_joinG Aa A9 l ca l9 c9 (S m) Rq w9 HL.out hIA (by omega) HL9.out Q_9.out (by omega))
              clear hIA
              have hsz9 : w5.heap.size ≤ w9.heap.size := by have := BK_9.out.size; omega
              go_wp2_with fail
              refine (HJN.out).mono ?_
              rintro e w10 ⟨v, rfl, ho, hb⟩
              have P_10 := Lib.hid (P_9.out.step hb)
              clear P_9
              have B_10 := Lib.hid (B_9.out.trans (hb.mono B_9.out.size))
              clear B_9
              have R_10 := Lib.hid (R_9.out.step hb)
              clear R_9
              have d2_10 := Lib.hid (d2_9.out.step hb)
              clear d2_9
              have C_10 := Lib.hid (C_9.out.step hb)
              clear C_9
              have Z_10 := Lib.hid (Z_9.out.trans (hb.mono Z_9.out.size))
              clear Z_9
              have K_10 := Lib.hid (K_9.out.step hb)
              clear K_9
              have BK_10 := Lib.hid (BK_9.out.trans (hb.mono BK_9.out.size))
              clear BK_9
              have Q_10 := Lib.hid (Q_9.out.step hb)
              clear Q_9
              clear hb
              rw [← HS1.out] at ho
              have hrow0 := ho
              obtain ⟨A8, c8, rfl⟩ := own_form ho
              have HRO : Hid (World.ownsRow w10 w5.heap.size 3 1 (.slice A8 (S (m + 1)).length c8) (S (m + 1)).length ((S (m + 1)).map (Value.int .i64))) := own_mono ho (by omega)
              clear ho hrow0 HJN HO2
              go_wp2
              go_roundw
              case rel => exact ⟨m + 1, _, _, _, by omega, by have := HJI.out; go_num, rfl, Lib.hid rfl, HRO.out, BK_10.out, BK_10.out.size⟩
              case measure => have := HJI.out; simp [intOf]
            · obtain rfl : m = kl := by omega
              have hl60 : l ≤ 60 := by have := HF3.out m (by have := HKL.out; omega); have := HL.out; omega
              have hneg : decide ((0 : Int) ≤ (m : Int) - 1 - m) = false := decide_eq_false (by omega)
              have y2 := d2_8.out.2
              go_wp2
              clear hneg hlt y2
              go_loopw [6, 9] (fun al u wr => ∃ (j l2 : Nat) (A : Option Addr) (c : Nat), j ≤ n6 ∧ u = .int .i64 ((n6 : Int) - 1 - j) ∧ al = .slice A l2 c ∧ l2 = l + j ∧ Hid (World.ownsRow wr w5.heap.size 3 1 (.slice A l2 c) l2 ((S m ++ CL.reverse.take j).map (Value.int .i64))) ∧ Hid (Below w5.heap.size w5 wr)) (fun _ u _ => (intOf u + 1).toNat)
              case atStart => exact ⟨0, l, _, _, Nat.zero_le _, by simp, rfl, rfl, Lib.hid (by simpa using HO.out), Z_8.out⟩
              case round =>
                obtain ⟨j, l2, Ab, cb, hj, rfl, rfl, hl2, HO3, HB3⟩ := hrel
                by_cases hlt : j < n6
                · obtain ⟨q, hq⟩ : ∃ q : Nat, j + q + 1 = n6 := ⟨n6 - 1 - j, by omega⟩
                  have hqi : (n6 : Int) - 1 - (j : Int) = (q : Int) := by omega
                  have hql : q < n6 := by omega
                  have hql2 : (q : Int) < (n6 : Int) := by omega
                  have HQI := Lib.hid hqi
                  rw [hqi]
                  have hd := (DZ.out.step HB3.out).2
                  obtain ⟨b6, o6, hA6, hb6, x6⟩ := (CZ.out.step HB3.out) (by have := HN6.out; omega)
                  subst hA6
                  have x7 := x6 q (by have := HN6.out; omega)
                  have htk : CL.reverse.take (j + 1) = CL.reverse.take j ++ [CL.getD q 0] := by
                    have h1 : j < CL.reverse.length := by rw [List.length_reverse]; have := HN6.out; omega
                    rw [List.take_succ_eq_append_getElem h1, List.getElem_reverse]
                    have h2 : q < CL.length := by have := HN6.out; omega
                    simp [List.getD, h2]
                    have := HN6.out
                    congr 1
                    omega
                  have HTK := Lib.hid htk
                  have HL2 := Lib.hid hl2
                  have hl70 : l2 ≤ 70 := by omega
                  clear hqi x6 htk hl2
                  generalize CL.getD q 0 = lx at *
                  obtain ⟨i0, hi, hz0, hz1, hz2⟩ := info_parts info_int
                  have HRW := Lib.hid (own_below HO3.out ((Below.refl wr.heap.size wr).alloc (Nat.le_refl _) (.cells #[.int .i64 lx] 3)))
                  have hwz : w5.heap.size ≤ wr.heap.size := HB3.out.size
                  have HQQ := Lib.hid hq
                  clear hq hj hlt
                  go_wp2_with (at_builtin; refine wpList_append_own_at _ rfl _ _ 26 rfl w5.heap.size 3 i0 (.int .i64 0) 1 8 Try.underlying26 hi hz0 hz1 hz2 rfl (by decide) _ _ _ rfl HRW.out ⟨wr.heap.size, 0, none⟩ 1 1 [.int .i64 lx] rfl rfl (cell_one_new wr _ _) (by intro u hu; obtain rfl := List.mem_singleton.1 hu; rfl) (by unfold maxLen; omega) (by omega) (by simp; omega) ?_)
                  intro v5 w5b hown5 hgr5 _ _
                  obtain ⟨A5b, c5b, hv5⟩ := row_form' hown5
                  subst hv5
                  have hlt5 := HRW.out.lt
                  have HB5 : Hid (Below w5.heap.size w5 w5b) := (HB3.out.alloc hwz _).grown hgr5 (by simp; omega) (fun r e => (hlt5 r e).1)
                  have HO5 : Hid (World.ownsRow w5b w5.heap.size 3 1 (.slice A5b (l2 + 1) c5b) (l2 + 1) ((S m ++ CL.reverse.take (j + 1)).map (Value.int .i64))) := Lib.hid (by rw [HTK.out]; simpa using hown5)
                  clear hown5 hgr5 hlt5 HO3 HRW hd x7
                  go_wp2
                  go_roundw
                  case rel => exact ⟨j + 1, l2 + 1, _, _, by have := HQQ.out; omega, by have := HQI.out; go_num, rfl, by have := HL2.out; omega, HO5.out, HB5.out⟩
                  case measure => have := HQI.out; simp [intOf]
                · obtain rfl : j = n6 := by omega
                  have hneg : decide ((0 : Int) ≤ (j : Int) - 1 - j) = false := decide_eq_false (by omega)
                  have hall : S m ++ CL.reverse.take j = R := by rw [List.take_of_length_le (by rw [List.length_reverse, ← HN6.out]; exact Nat.le_refl _), HF2.out, ← HKL.out, HCL.out]
                  have hO4 := HO3.out
                  rw [hall] at hO4
                  have hll : l2 = rl := by have := hO4.1; rw [List.length_map, Nat.mul_one] at this; have := HRL.out; omega
                  subst hll
                  have HEQ := Lib.hid (eq_g Ab A3 l2 cb c3 R wr HRL.out (is_of_own HRL.out hO4) (RZ.out.step HB3.out) (by omega))
                  have HBF := Lib.hid (BZ.out.trans (HB3.out.mono BZ.out.size))
                  clear hall hO4 HO3 hl2 hj hlt
                  go_wp2_with fail
                  refine HEQ.out.mono ?_
                  rintro e w6b ⟨rfl, hb⟩
                  have HBG := Lib.hid (HBF.out.trans (hb.mono HBF.out.size))
                  clear hb HEQ
                  go_wp2
                  go_ret
                  exact ⟨rfl, HBG.out⟩
end Go.Proofs.Ytkfglodjnnlbkaa
