/- laws.FnMatchRowsAgain returns true for all bytes, and writes nothing that was there. (Made by genpl.py.) -/
import Derived.Test.YtlbomopjldhmeaaB16a
import Derived.BigQuiet
import Derived.Deep.QuietTactic
import Derived.Test.YtlbomopjldhmeaaKD10
import Derived.Test.YtlbomopjldhmeaaKE2
import Derived.Test.YtlbomopjldhmeaaM35

namespace Go.Proofs.Ytlbomopjldhmeaa
set_option linter.unusedSimpArgs false
set_option linter.unusedVariables false
open Go.RowKit

set_option maxRecDepth 100000 in
set_option maxHeartbeats 6400000 in
theorem plaw_MatchRowsAgain (A : Option Addr) (n c : Nat) (bs : List Int) (w : World) (hn : n = bs.length) (hnc : n ≤ c) (h : BS w w.heap.size A bs) (hy : BY bs) (hm : n ≤ 9223372036854775807) :
    Calls Try.prog 8 #[.slice A n c] w fun e w' => e = .returned (.bool true) ∧ Below w.heap.size w w' := by
  by_cases hs : 1048576 < n
  · clear hn hnc h hy
    go_enter Try.func8, Try.ntmps8
    go_wp2
    go_ret
    exact ⟨rfl, Below.refl _ _⟩
  have HC := Lib.hid (spec_DrawMatchRows A n c bs w hn hnc h hy (by omega))
  clear hn hnc h hy
  go_enter Try.func8, Try.ntmps8
  go_wp2_with fail
  refine HC.out.mono ?_
  rintro e w1 ⟨A1, n1, c1, rs, nx, A2, n2, c2, ys, rfl, h1, hn11, hnc1, h4, hn21, hnc2, hnx0, hnx1, hI1, hI2, hb⟩
  have HN1 := Lib.hid h1
  have HM1 := Lib.hid h4
  have P_1 := Lib.hid (hI1)
  have I_1 := Lib.hid (hI2)
  have B_1 := Lib.hid (hb)
  clear h1 h4 hI1 hI2 hb HC
  have HIM := Lib.hid fun (w' : World) (h : WS w' w'.heap.size A1 rs) (h' : IS w' w'.heap.size A2 ys) => top_impl_MatchRows rs nx ys (by have := HN1.out; omega) (by have := HM1.out; omega) A1 n1 c1 A2 n2 c2 w' HN1.out hnc1 h HM1.out hnc2 h'
  have HSP := Lib.hid fun (w' : World) (h : WS w' w'.heap.size A1 rs) (h' : IS w' w'.heap.size A2 ys) => top_spec_MatchRows rs nx ys (by have := HN1.out; omega) (by have := HM1.out; omega) A1 n1 c1 A2 n2 c2 w' HN1.out hnc1 h HM1.out hnc2 h'
  have hrl := matchF_len rs nx ys
  have HNG := Lib.hid (matchN_neg (rs := rs) (nx := nx) (ys := ys))
  have HMF := Lib.hid (match_facts (rs := rs) (nx := nx) (ys := ys))
  have HMA := Lib.hid (match_again (rs := rs) (nx := nx) (ys := ys))
  generalize matchF rs nx ys = R at *
  generalize matchN rs nx ys = f at *
  generalize matchB rs nx ys = ok at *
  go_wp2_with fail
  refine (HIM.out w1 P_1.out I_1.out).mono ?_
  rintro e w2 ⟨v, rfl, ho, hb⟩
  obtain ⟨A3, c3, rfl⟩ := own_form ho
  have hI9 := WS.of_own ho
  have hnc9 := own_ncap ho
  have P_2 := Lib.hid (P_1.out.step hb)
  clear P_1
  have I_2 := Lib.hid (I_1.out.step hb)
  clear I_1
  have B_2 := Lib.hid (B_1.out.trans (hb.mono B_1.out.size))
  clear B_1
  clear hb
  obtain ⟨rl, hrl2⟩ : ∃ l, l = R.length := ⟨_, rfl⟩
  have HRL := Lib.hid hrl2
  have R_2 := Lib.hid (hI9)
  rw [← hrl2] at hrl hnc9
  rw [← hrl2]
  clear ho hI9 hrl2
  go_wp2_with fail
  refine (HSP.out w2 P_2.out I_2.out).mono ?_
  rintro e w3 ⟨v, rfl, ho, hb⟩
  obtain ⟨A4, c4, rfl⟩ := own_form ho
  have hI9 := WS.of_own ho
  have hnc8 := own_ncap ho
  have P_3 := Lib.hid (P_2.out.step hb)
  clear P_2
  have I_3 := Lib.hid (I_2.out.step hb)
  clear I_2
  have B_3 := Lib.hid (B_2.out.trans (hb.mono B_2.out.size))
  clear B_2
  have R_3 := Lib.hid (R_2.out.step hb)
  clear R_2
  clear hb
  clear hnc8
  rw [← HRL.out]
  have S_3 := Lib.hid (hI9)
  clear ho hI9
  have hff : (f != f) = false := by simp
  have hfe : (f == f) = true := by simp
  have HEQ := Lib.hid (laws_equalRows A3 A4 rl c3 c4 R w3 w3.heap.size (Nat.le_refl _) HRL.out R_3.out S_3.out (by omega))
  go_wp2_with fail
  refine (HEQ.out).mono ?_
  rintro e w4 ⟨rfl, hb⟩
  have P_4 := Lib.hid (P_3.out.step hb)
  clear P_3
  have I_4 := Lib.hid (I_3.out.step hb)
  clear I_3
  have B_4 := Lib.hid (B_3.out.trans (hb.mono B_3.out.size))
  clear B_3
  have R_4 := Lib.hid (R_3.out.step hb)
  clear R_3
  have S_4 := Lib.hid (S_3.out.step hb)
  clear S_3
  clear hb
  clear HEQ
  cases ok
  · have hf1 := HNG.out rfl
    subst hf1
    have HEQ := Lib.hid (laws_equalRows A3 A4 rl c3 c4 R w4 w4.heap.size (Nat.le_refl _) HRL.out R_4.out S_4.out (by omega))
    go_wp2_with fail
    refine (HEQ.out).mono ?_
    rintro e w5 ⟨rfl, hb⟩
    have P_5 := Lib.hid (P_4.out.step hb)
    clear P_4
    have I_5 := Lib.hid (I_4.out.step hb)
    clear I_4
    have B_5 := Lib.hid (B_4.out.trans (hb.mono B_4.out.size))
    clear B_4
    have R_5 := Lib.hid (R_4.out.step hb)
    clear R_4
    have S_5 := Lib.hid (S_4.out.step hb)
    clear S_4
    clear hb
    clear HEQ
    go_wp2
    go_ret
    exact ⟨ret_b (by first | rfl | simp), B_5.out⟩
  obtain ⟨-, -, -, hlen, hf0, -⟩ := HMF.out rfl
  have hfn : ¬ f < 0 := by omega
  obtain ⟨ha1, ha2⟩ := HMA.out rfl
  have HAG := Lib.hid fun (w' : World) (h : WS w' w'.heap.size A3 R) (h' : IS w' w'.heap.size A2 ys) => top_impl_MatchRows R f ys (by have := HRL.out; omega) (by have := HM1.out; omega) A3 rl c3 A2 n2 c2 w' HRL.out hnc9 h HM1.out hnc2 h'
  rw [ha1, ha2] at HAG
  clear ha1 ha2 HMA HMF HNG hlen
  go_wp2_with fail
  refine (HAG.out w4 R_4.out I_4.out).mono ?_
  rintro e w5 ⟨v, rfl, ho, hb⟩
  obtain ⟨A5, c5, rfl⟩ := own_form ho
  have hI9 := WS.of_own ho
  have hnc8 := own_ncap ho
  have P_5 := Lib.hid (P_4.out.step hb)
  clear P_4
  have I_5 := Lib.hid (I_4.out.step hb)
  clear I_4
  have B_5 := Lib.hid (B_4.out.trans (hb.mono B_4.out.size))
  clear B_4
  have R_5 := Lib.hid (R_4.out.step hb)
  clear R_4
  have S_5 := Lib.hid (S_4.out.step hb)
  clear S_4
  clear hb
  rw [← HRL.out]
  have HEQ := Lib.hid (laws_equalRows A5 A3 rl c5 c3 R w5 w5.heap.size (Nat.le_refl _) HRL.out hI9 R_5.out (by omega))
  clear ho hI9 hnc8
  go_wp2_with fail
  refine (HEQ.out).mono ?_
  rintro e w6 ⟨rfl, hb⟩
  have P_6 := Lib.hid (P_5.out.step hb)
  clear P_5
  have I_6 := Lib.hid (I_5.out.step hb)
  clear I_5
  have B_6 := Lib.hid (B_5.out.trans (hb.mono B_5.out.size))
  clear B_5
  have R_6 := Lib.hid (R_5.out.step hb)
  clear R_5
  have S_6 := Lib.hid (S_5.out.step hb)
  clear S_5
  clear hb
  go_wp2
  go_ret
  exact ⟨ret_b (by first | rfl | simp), B_6.out⟩
end Go.Proofs.Ytlbomopjldhmeaa
