/- For all bytes the law FnValidGraph holds: the first nodes of a valid graph are a valid graph; and the bytes stay as they were. Conditions: none. -/
import Derived.Test.YtgbijmfmdcphhaaZ06
/- laws.FnValidGraph returns true for all bytes, and writes nothing that was there. (Made by genpl.py.) -/
namespace Go.Proofs.Ytgbijmfmdcphhaa
set_option linter.unusedSimpArgs false
set_option linter.unusedVariables false
open Go.RowKit

theorem GS.pre {w : World} {B : Nat} {A : Option Addr} {gs : List Nd} (h : GS w B A gs) (k : Nat) : GS w B A (gs.take k) := by
  intro hn
  rw [List.length_take] at hn
  obtain ⟨b, off, e, hb, hc⟩ := h (by omega)
  refine ⟨b, off, e, hb, fun j hj => ?_⟩
  rw [List.length_take] at hj
  rw [take_getD gs k j (by omega)]
  exact hc j (by omega)
theorem GB.take {gs : List Nd} (h : GB gs) (k : Nat) : GB (gs.take k) := by
  refine ⟨by have := h.1; rw [List.length_take]; omega, fun j => ?_⟩
  by_cases hj : j < k
  · rw [take_getD gs k j hj]; exact h.2 j
  · have : (gs.take k)[j]? = none := List.getElem?_eq_none (by rw [List.length_take]; omega)
    simp [List.getD, this]
    exact Nat.zero_le _

set_option maxRecDepth 100000 in
set_option maxHeartbeats 6400000 in
theorem plaw_ValidGraph (A : Option Addr) (n c : Nat) (bs : List Int) (w : World) (hn : n = bs.length) (hnc : n ≤ c) (h : BS w w.heap.size A bs) (hy : BY bs) (hm : n ≤ 9223372036854775807) :
    Calls Try.prog 5 #[.slice A n c] w fun e w' => e = .returned (.bool true) ∧ Below w.heap.size w w' := by
  by_cases hs : 1048576 < n
  · clear hn hnc h hy
    go_enter Try.func5, Try.ntmps5
    go_wp2
    go_ret
    exact ⟨rfl, Below.refl _ _⟩
  have HC := Lib.hid (spec_DrawValidGraph A n c bs w hn hnc h hy (by omega))
  clear hn hnc h hy
  go_enter Try.func5, Try.ntmps5
  go_wp2_with fail
  refine HC.out.mono ?_
  rintro e w1 ⟨A1, n1, c1, gs, rfl, hp1, hp2, hp3, hnc1, hsm, hP, hb⟩
  have HN1 := Lib.hid hp1
  have HG := Lib.hid (GB.of_drawn (by omega) hsm)
  have P_1 := Lib.hid (hP)
  have B_1 := Lib.hid (hb)
  clear hP hp1 hb HC hsm
  go_wp2_with fail
  obtain ⟨w2, hw2⟩ : ∃ W, W = w1.alloc (.cells #[.slice A1 n1 c1] 41) := ⟨_, rfl⟩
  have hb : Below w1.heap.size w1 w2 := by rw [hw2]; exact (Below.refl _ _).alloc (Nat.le_refl _) _
  have P_2 := Lib.hid (P_1.out.step hb)
  clear P_1
  have B_2 := Lib.hid (B_1.out.trans (hb.mono B_1.out.size))
  clear B_1
  have F_2 : Hid (As w1.heap.size (w1.heap.size + 1) (fun w' => w'.cell? ⟨w1.heap.size, 0, none⟩ = some (.slice A1 n1 c1)) w2) := by rw [hw2]; exact box_new _ _ _
  clear hb
  rw [← hw2]
  clear hw2
  have HIM := Lib.hid fun (w' : World) (h : GS w' w'.heap.size A1 gs) => impl_ValidGraph A1 n1 c1 gs w' _ (Nat.le_refl _) HN1.out h HG.out hnc1
  have HSP := Lib.hid fun (w' : World) (h : GS w' w'.heap.size A1 gs) => top_spec_ValidGraph gs HG.out A1 n1 c1 w' HN1.out hnc1 h
  have HTK := Lib.hid fun (k : Nat) (hk : k ≤ n1) (w' : World) (h : GS w' w'.heap.size A1 gs) => impl_ValidGraph A1 k c1 (gs.take k) w' _ (Nat.le_refl _) (by rw [List.length_take, ← HN1.out]; omega) (h.pre k) (HG.out.take k) (by omega)
  have HVT := Lib.hid fun (hv : validG gs = true) (k : Nat) (hk : k ≤ n1) => validG_take gs k hv (by rw [← HN1.out]; exact hk)
  obtain ⟨b, off, hA1, _, _⟩ := P_2.out (by have := HN1.out; omega)
  subst hA1
  generalize validG gs = v at *
  have q0 := F_2.out.it
  go_wp2_with fail
  refine (HIM.out w2 P_2.out).mono ?_
  rintro e w3 ⟨rfl, hb⟩
  have P_3 := Lib.hid (P_2.out.step hb)
  clear P_2
  have B_3 := Lib.hid (B_2.out.trans (hb.mono B_2.out.size))
  clear B_2
  have F_3 := Lib.hid (F_2.out.step hb)
  clear F_2
  clear hb
  clear q0
  cases v
  · skip
    have q0 := F_3.out.it
    go_wp2_with fail
    refine (HSP.out w3 P_3.out).mono ?_
    rintro e w4 ⟨rfl, hb⟩
    have P_4 := Lib.hid (P_3.out.step hb)
    clear P_3
    have B_4 := Lib.hid (B_3.out.trans (hb.mono B_3.out.size))
    clear B_3
    have F_4 := Lib.hid (F_3.out.step hb)
    clear F_3
    clear hb
    clear q0
    have q0 := F_4.out.it
    go_wp2_with fail
    refine (HSP.out w4 P_4.out).mono ?_
    rintro e w5 ⟨rfl, hb⟩
    have P_5 := Lib.hid (P_4.out.step hb)
    clear P_4
    have B_5 := Lib.hid (B_4.out.trans (hb.mono B_4.out.size))
    clear B_4
    have F_5 := Lib.hid (F_4.out.step hb)
    clear F_4
    clear hb
    clear q0
    go_wp2
    go_ret
    exact ⟨rfl, B_5.out⟩
  · have HVT2 := Lib.hid (HVT.out (by first | rfl | trivial))
    have q0 := F_3.out.it
    go_wp2_with fail
    refine (HSP.out w3 P_3.out).mono ?_
    rintro e w4 ⟨rfl, hb⟩
    have P_4 := Lib.hid (P_3.out.step hb)
    clear P_3
    have B_4 := Lib.hid (B_3.out.trans (hb.mono B_3.out.size))
    clear B_3
    have F_4 := Lib.hid (F_3.out.step hb)
    clear F_3
    clear hb
    clear q0
    have q0 := F_4.out.it
    go_wp2
    go_loopw [5] (fun u wr => ∃ k : Nat, k ≤ n1 + 1 ∧ u = .int .i64 k ∧ Hid (Below w4.heap.size w4 wr) ∧ w4.heap.size ≤ wr.heap.size) (fun u _ => n1 + 1 - (intOf u).toNat)
    case atStart => exact ⟨0, Nat.zero_le _, rfl, Below.refl _ _, Nat.le_refl _⟩
    case round =>
      obtain ⟨k, hk, rfl, HB, hwr⟩ := hrel
      obtain ⟨w5, hwK⟩ : ∃ W, W = wr := ⟨_, rfl⟩
      rw [← hwK]
      rw [← hwK] at HB hwr
      clear hwK
      have P_5 := Lib.hid (P_4.out.step HB.out)
      have B_5 := Lib.hid (B_4.out.trans (HB.out.mono B_4.out.size))
      have F_5 := Lib.hid (F_4.out.step HB.out)
      clear q0
      by_cases hlt : k ≤ n1
      · have hkc : k ≤ c1 := by omega
        have HTK2 := HTK.out k hlt
        rw [HVT2.out k hlt] at HTK2
        have HTK3 := Lib.hid HTK2
        clear HTK2
        have q1 := F_5.out.it
        go_wp2_with fail
        refine (HTK3.out _ ?_).mono ?_
        · exact P_5.out
        rintro e w9 ⟨rfl, hb9⟩
        have HB9 := Lib.hid (HB.out.trans (hb9.mono hwr))
        clear hb9 q1
        go_wp2
        go_roundw
        case rel => exact ⟨k + 1, by omega, by go_num, HB9.out, HB9.out.size⟩
        case measure => simp [intOf]; omega
      · have q1 := F_5.out.it
        go_wp2
        go_ret
        exact ⟨rfl, B_5.out⟩
end Go.Proofs.Ytgbijmfmdcphhaa


namespace Go.Proofs.Ytgbijmfmdcphhaa
set_option linter.unusedSimpArgs false
set_option linter.unusedVariables false
open Go.ChangeShapes Go.WideShapes Go.ChangeAt Go.RowKit

set_option maxRecDepth 100000 in
theorem plifted_ValidGraph (os : Os) (started : os.Started) (H : Type) (enc : TypeId × Value → H) :
    ReturnsInHanded {} Try.checked os 5 .any (Rows.fnValidGraphSpec.pre6 enc Try.prog Try.f5 Rows.fnValidGraphRow.domain false) (Rows.fnValidGraphSpec.post enc Try.prog Try.f5 false true false false) := by
  refine returnsInHanded_of_change (C := Try.checked) own started (by kernel_rfl) Try.func5
    (ChangeSpec.witness6 (enc := enc) (C := Try.checked) false ⟨#[], #[.slice none 0 0], []⟩ 8 (by kernel_rfl) (by kernel_rfl) (by kernel_rfl) (by kernel_rfl)) ?_
  intro W base args ds gs before hval0 hW hcnd _
  have hval : ∀ (j : Nat) t v, Try.f5.params[j]? = some t → args[j]? = some v → Value.okWide Try.prog W .any base t v := hval0
  have hW' := hW
  obtain ⟨p, q, hA0, hV, rfl, hfz, hnd⟩ := hW
  have hA : DataW.TrodAll enc Try.prog W 0 (fun _ => true) true Try.f5.params.toList args.toList ds p := hA0
  rw [Try.params5] at hA hval
  obtain ⟨v0, vs0, d0, ds0, p0, q0, hargs, rfl, rfl, h0, r0⟩ := trodAll_cons hA
  obtain ⟨rfl, rfl, rfl⟩ := trodAll_nil r0
  obtain rfl : args = #[v0] := by cases args; simp_all
  obtain ⟨rfl, rfl⟩ := trodVars_none hV
  have k0 := h0
  have lt0 : ∀ x ∈ p0, x.block < W.heap.size := by obtain ⟨m, hm⟩ := k0; exact DataW.trod_lt m _ _ _ hm
  obtain ⟨A, n, c, bs, rfl, hn, hnc, hm, hy, hbs⟩ := open_code (hval 0 22 v0 rfl rfl) h0
  clear hA0 hval0
  refine (plaw_ValidGraph A n c bs W hn hnc hbs hy hm).mono fun e W' ⟨he, bel⟩ => ?_
  subst he
  exact ⟨_, rfl, _, _, _, [], _, [], hW', trodAll_mk1 (shut_bool Try.underlying4 _), (trodAll_cons_mk (Below.trod laidOut (by kernel_rfl) (of_decide_eq_true (by kernel_rfl)) k0 bel lt0) trodAll_mk0), rfl, bel.frame _, fun h => by cases h⟩

theorem pproved_ValidGraph : Rows.FnValidGraphSaid :=
  OpenClaim.holds_of_wide 5 Try.f5 rfl rfl rfl rfl rfl rfl rfl ⟨rfl, rfl, rfl, rfl, rfl⟩ rfl rfl rfl rfl rfl (by kernel_rfl) Try.func5 (by kernel_rfl)
    (of_decide_eq_true (by kernel_rfl)) (by unfold Func.isWrapper; first | (rw [if_pos (by decide +kernel)]; kernel_rfl) | (rw [if_neg (by decide +kernel)]; exact ⟨rfl, rfl⟩))
    (fun os started H enc _ => plifted_ValidGraph os started H enc)
#print axioms pproved_ValidGraph
end Go.Proofs.Ytgbijmfmdcphhaa
