/- For all bytes the law FnReadsOf holds: what is read may be read, each node once, and the program reads what the model reads; and the bytes stay as they were. Conditions: none. -/
import Derived.Test.YtnbohohoceghnaaZ07
import Derived.Deep.RegionWith
/- laws.FnReadsOf returns true for all bytes, and writes nothing that was there. (Made by genpl.py.) -/
namespace Go.Proofs.Ytnbohohoceghnaa
set_option linter.unusedSimpArgs false
set_option linter.unusedVariables false
open Go.RowKit

theorem readP_len (ps : List Pt) (vs : List Int) : (readF ps vs).length ≤ 1000000 := by
  unfold readF
  cases hc : canEv ps vs
  · simp
  · obtain ⟨hv, _⟩ := canEv_parts ps vs hc
    obtain ⟨hg, h1, h12⟩ := validF_good ps hv
    exact Nat.le_trans (firsts_len _) (by have := rds_whole ps vs h12; omega)
theorem mayP_len (ps : List Pt) : (mayF ps).length ≤ 10 := by
  unfold mayF
  split
  · exact mayR_len _ 10
  · exact Nat.zero_le _

set_option maxRecDepth 100000 in
set_option maxHeartbeats 6400000 in
theorem plaw_ReadsOf (A : Option Addr) (n c : Nat) (bs : List Int) (w : World) (hn : n = bs.length) (hnc : n ≤ c) (h : BS w w.heap.size A bs) (hy : BY bs) (hm : n ≤ 9223372036854775807) :
    Calls Try.prog 3 #[.slice A n c] w fun e w' => e = .returned (.bool true) ∧ Below w.heap.size w w' := by
  by_cases hs : 1048576 < n
  · clear hn hnc h hy
    go_enter Try.func3, Try.ntmps3
    go_wp2
    go_ret
    exact ⟨rfl, Below.refl _ _⟩
  have HC := Lib.hid (spec_DrawReadsOf A n c bs w hn hnc h hy (by omega))
  clear hn hnc h hy
  go_enter Try.func3, Try.ntmps3
  go_wp2_with fail
  refine HC.out.mono ?_
  rintro e w1 ⟨A1, n1, c1, ps, E1, m1, d1, xs, rfl, hp1, hp2, hp3, hm1, hx3, hx10, hP, hI, _, _, hb⟩
  have HN1 := Lib.hid hp1
  have P_1 := Lib.hid (hP)
  have HM1 := Lib.hid hm1
  have I_1 := Lib.hid (hI)
  have B_1 := Lib.hid (hb)
  clear hP hp1 hb HC hI hm1
  go_wp2_with fail
  obtain ⟨w2, hw2⟩ : ∃ W, W = w1.alloc (.cells #[.slice A1 n1 c1] 25) := ⟨_, rfl⟩
  have hb : Below w1.heap.size w1 w2 := by rw [hw2]; exact (Below.refl _ _).alloc (Nat.le_refl _) _
  have P_2 := Lib.hid (P_1.out.step hb)
  clear P_1
  have I_2 := Lib.hid (I_1.out.step hb)
  clear I_1
  have B_2 := Lib.hid (B_1.out.trans (hb.mono B_1.out.size))
  clear B_1
  have F_2 : Hid (As w1.heap.size (w1.heap.size + 1) (fun w' => w'.cell? ⟨w1.heap.size, 0, none⟩ = some (.slice A1 n1 c1)) w2) := by rw [hw2]; exact box_new _ _ _
  clear hb
  rw [← hw2]
  clear hw2
  have HIM := Lib.hid fun (w' : World) (h : PS w' w'.heap.size A1 ps) (h' : IS w' w'.heap.size E1 xs) => impl_ReadsOf A1 E1 n1 c1 m1 d1 ps xs _ HN1.out HM1.out (by omega) (by omega) w' (Nat.le_refl _) h h'
  have HSP := Lib.hid fun (w' : World) (h : PS w' w'.heap.size A1 ps) (h' : IS w' w'.heap.size E1 xs) => spec_ReadsOf A1 E1 n1 c1 m1 d1 ps xs _ HN1.out HM1.out (by omega) (by omega) w' (Nat.le_refl _) h h'
  have HMA := Lib.hid fun (w' : World) (h : PS w' w'.heap.size A1 ps) => impl_MayRead A1 n1 c1 ps w' _ (Nat.le_refl _) HN1.out h (by omega)
  have hrl := readP_len ps xs
  have hml := mayP_len ps
  have HF := Lib.hid (readF_may ps xs)
  generalize readF ps xs = R at *
  generalize mayF ps = M at *
  have q0 := F_2.out.it
  go_wp2_with fail
  refine (HIM.out w2 P_2.out I_2.out).mono ?_
  rintro e w3 ⟨v, rfl, ho, hb⟩
  obtain ⟨A3, c3, rfl, hI9⟩ := OwnI.form ho
  have P_3 := Lib.hid (P_2.out.step hb)
  clear P_2
  have I_3 := Lib.hid (I_2.out.step hb)
  clear I_2
  have B_3 := Lib.hid (B_2.out.trans (hb.mono B_2.out.size))
  clear B_2
  have F_3 := Lib.hid (F_2.out.step hb)
  clear F_2
  clear hb
  clear q0
  obtain ⟨rl, hrl2⟩ : ∃ l, l = R.length := ⟨_, rfl⟩
  have HRL := Lib.hid hrl2
  have R_3 := Lib.hid (hI9)
  clear ho hI9
  rw [← hrl2] at hrl
  rw [← hrl2]
  clear hrl2
  have q0 := F_3.out.it
  go_wp2_with fail
  refine (HSP.out w3 P_3.out I_3.out).mono ?_
  rintro e w4 ⟨v, rfl, ho, hb⟩
  obtain ⟨A4, c4, rfl, hI9⟩ := OwnI.form ho
  have P_4 := Lib.hid (P_3.out.step hb)
  clear P_3
  have I_4 := Lib.hid (I_3.out.step hb)
  clear I_3
  have B_4 := Lib.hid (B_3.out.trans (hb.mono B_3.out.size))
  clear B_3
  have F_4 := Lib.hid (F_3.out.step hb)
  clear F_3
  have R_4 := Lib.hid (R_3.out.step hb)
  clear R_3
  clear hb
  clear q0
  rw [← HRL.out]
  have HEQ := Lib.hid (laws_equalInts A3 A4 rl rl c3 c4 R R w4 w4.heap.size (Nat.le_refl _) HRL.out HRL.out R_4.out hI9 (by omega) (by omega))
  rw [show decide (R = R) = true from decide_eq_true rfl] at HEQ
  clear ho hI9
  have q0 := F_4.out.it
  go_wp2_with fail
  refine (HEQ.out).mono ?_
  rintro e w5 ⟨rfl, hb⟩
  have P_5 := Lib.hid (P_4.out.step hb)
  clear P_4
  have I_5 := Lib.hid (I_4.out.step hb)
  clear I_4
  have B_5 := Lib.hid (B_4.out.trans (hb.mono B_4.out.size))
  clear B_4
  have F_5 := Lib.hid (F_4.out.step hb)
  clear F_4
  have R_5 := Lib.hid (R_4.out.step hb)
  clear R_4
  clear hb
  clear q0
  clear HEQ
  by_cases h0 : rl = 0
  · have hz : ((rl : Int) == 0) = true := by simp [h0]
    clear h0
    have q0 := F_5.out.it
    go_wp2_with fail
    refine (HSP.out w5 P_5.out I_5.out).mono ?_
    rintro e w6 ⟨v, rfl, ho, hb⟩
    obtain ⟨A4, c4, rfl, hI9⟩ := OwnI.form ho
    have P_6 := Lib.hid (P_5.out.step hb)
    clear P_5
    have I_6 := Lib.hid (I_5.out.step hb)
    clear I_5
    have B_6 := Lib.hid (B_5.out.trans (hb.mono B_5.out.size))
    clear B_5
    have F_6 := Lib.hid (F_5.out.step hb)
    clear F_5
    have R_6 := Lib.hid (R_5.out.step hb)
    clear R_5
    clear hb
    clear q0
    rw [← HRL.out]
    have HEQ := Lib.hid (laws_equalInts A3 A4 rl rl c3 c4 R R w6 w6.heap.size (Nat.le_refl _) HRL.out HRL.out R_6.out hI9 (by omega) (by omega))
    rw [show decide (R = R) = true from decide_eq_true rfl] at HEQ
    clear ho hI9
    have q0 := F_6.out.it
    go_wp2_with fail
    refine (HEQ.out).mono ?_
    rintro e w7 ⟨rfl, hb⟩
    have P_7 := Lib.hid (P_6.out.step hb)
    clear P_6
    have I_7 := Lib.hid (I_6.out.step hb)
    clear I_6
    have B_7 := Lib.hid (B_6.out.trans (hb.mono B_6.out.size))
    clear B_6
    have F_7 := Lib.hid (F_6.out.step hb)
    clear F_6
    have R_7 := Lib.hid (R_6.out.step hb)
    clear R_6
    clear hb
    clear q0
    clear HEQ
    go_wp2
    go_ret
    exact ⟨rfl, B_7.out⟩
  · have hz : ((rl : Int) == 0) = false := by simp; omega
    clear h0
    have q0 := F_5.out.it
    go_wp2_with fail
    refine (laws_noTwice A3 rl c3 R w5 w5.heap.size (Nat.le_refl _) HRL.out R_5.out (by omega) HF.out.1).mono ?_
    rintro e w9 ⟨rfl, rfl⟩
    clear q0
    have q0 := F_5.out.it
    go_wp2_with fail
    refine (HMA.out w5 P_5.out).mono ?_
    rintro e w6 ⟨v, rfl, ho, hb⟩
    obtain ⟨A5, c5, rfl, hI9⟩ := OwnI.form ho
    have P_6 := Lib.hid (P_5.out.step hb)
    clear P_5
    have I_6 := Lib.hid (I_5.out.step hb)
    clear I_5
    have B_6 := Lib.hid (B_5.out.trans (hb.mono B_5.out.size))
    clear B_5
    have F_6 := Lib.hid (F_5.out.step hb)
    clear F_5
    have R_6 := Lib.hid (R_5.out.step hb)
    clear R_5
    clear hb
    clear q0
    obtain ⟨ml, hml2⟩ : ∃ l, l = M.length := ⟨_, rfl⟩
    have HML := Lib.hid hml2
    rw [← hml2] at hml
    rw [← hml2]
    clear hml2
    have M_6 := Lib.hid (hI9)
    clear ho hI9
    have q0 := F_6.out.it
    go_wp2_with fail
    refine (laws_within A3 A5 rl c3 ml c5 R M w6 w6.heap.size (Nat.le_refl _) HRL.out R_6.out (by omega) HML.out M_6.out (by omega) HF.out.2).mono ?_
    rintro e w9 ⟨rfl, rfl⟩
    clear q0
    go_wp2
    go_ret
    exact ⟨rfl, B_6.out⟩
end Go.Proofs.Ytnbohohoceghnaa


namespace Go.Proofs.Ytnbohohoceghnaa
set_option linter.unusedSimpArgs false
set_option linter.unusedVariables false
open Go.ChangeShapes Go.WideShapes Go.ChangeAt Go.RowKit

set_option maxRecDepth 100000 in
theorem plifted_ReadsOf (os : Os) (started : os.Started) (H : Type) (enc : TypeId × Value → H) :
    ReturnsInHanded {} Try.checked os 3 .any (Rows.fnReadsOfSpec.pre6 enc Try.prog Try.f3 Rows.fnReadsOfRow.domain false) (Rows.fnReadsOfSpec.post enc Try.prog Try.f3 false true false false) := by
  refine returnsInHanded_of_change (C := Try.checked) own started (by kernel_rfl) Try.func3
    (ChangeSpec.witness6 (enc := enc) (C := Try.checked) false ⟨#[], #[.slice none 0 0], []⟩ 8 (by kernel_rfl) (by kernel_rfl) (by kernel_rfl) (by kernel_rfl)) ?_
  intro W base args ds gs before hval0 hW hcnd _
  have hval : ∀ (j : Nat) t v, Try.f3.params[j]? = some t → args[j]? = some v → Value.okWide Try.prog W .any base t v := hval0
  have hW' := hW
  obtain ⟨p, q, hA0, hV, rfl, hfz, hnd⟩ := hW
  have hA : DataW.TrodAll enc Try.prog W 0 (fun _ => true) true Try.f3.params.toList args.toList ds p := hA0
  rw [Try.params3] at hA hval
  obtain ⟨v0, vs0, d0, ds0, p0, q0, hargs, rfl, rfl, h0, r0⟩ := trodAll_cons hA
  obtain ⟨rfl, rfl, rfl⟩ := trodAll_nil r0
  obtain rfl : args = #[v0] := by cases args; simp_all
  obtain ⟨rfl, rfl⟩ := trodVars_none hV
  have k0 := h0
  have lt0 : ∀ x ∈ p0, x.block < W.heap.size := by obtain ⟨m, hm⟩ := k0; exact DataW.trod_lt m _ _ _ hm
  obtain ⟨A, n, c, bs, rfl, hn, hnc, hm, hy, hbs⟩ := open_code (hval 0 22 v0 rfl rfl) h0
  clear hA0 hval0
  refine (plaw_ReadsOf A n c bs W hn hnc hbs hy hm).mono fun e W' ⟨he, bel⟩ => ?_
  subst he
  exact ⟨_, rfl, _, _, _, [], _, [], hW', trodAll_mk1 (shut_bool Try.underlying4 _), (trodAll_cons_mk (Below.trod laidOut (by kernel_rfl) (of_decide_eq_true (by kernel_rfl)) k0 bel lt0) trodAll_mk0), rfl, bel.frame _, fun h => by cases h⟩

theorem pproved_ReadsOf : Rows.FnReadsOfSaid :=
  OpenClaim.holds_of_wide 3 Try.f3 rfl rfl rfl rfl rfl rfl rfl ⟨rfl, rfl, rfl, rfl, rfl⟩ rfl rfl rfl rfl rfl (by kernel_rfl) Try.func3 (by kernel_rfl)
    (of_decide_eq_true (by kernel_rfl)) (by unfold Func.isWrapper; first | (rw [if_pos (by decide +kernel)]; kernel_rfl) | (rw [if_neg (by decide +kernel)]; exact ⟨rfl, rfl⟩))
    (fun os started H enc _ => plifted_ReadsOf os started H enc)
#print axioms pproved_ReadsOf
end Go.Proofs.Ytnbohohoceghnaa
