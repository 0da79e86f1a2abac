/- For all bytes the law FnMeaningOf holds: cells have their cell, and each other node the value of its formula; and the bytes stay as they were. Conditions: none. -/
import Derived.Test.YtgbijmfmdcphhaaZ06
import Derived.Deep.RegionHeld3
/- laws.FnMeaningOf returns true for all bytes, and writes nothing that was there. (Made by genpl.py.) -/
namespace Go.Proofs.Ytgbijmfmdcphhaa
set_option linter.unusedSimpArgs false
set_option linter.unusedVariables false
open Go.RowKit

set_option maxRecDepth 100000 in
set_option maxHeartbeats 6400000 in
theorem plaw_MeaningOf (A : Option Addr) (n c : Nat) (bs : List Int) (w : World) (hn : n = bs.length) (hnc : n ≤ c) (h : BS w w.heap.size A bs) (hy : BY bs) (hm : n ≤ 9223372036854775807) :
    Calls Try.prog 7 #[.slice A n c] w fun e w' => e = .returned (.bool true) ∧ Below w.heap.size w w' := by
  by_cases hs : 1048576 < n
  · clear hn hnc h hy
    go_enter Try.func7, Try.ntmps7
    go_wp2
    go_ret
    exact ⟨rfl, Below.refl _ _⟩
  have HC := Lib.hid (spec_DrawMeaningOf A n c bs w hn hnc h hy (by omega))
  clear hn hnc h hy
  go_enter Try.func7, Try.ntmps7
  go_wp2_with fail
  refine HC.out.mono ?_
  rintro e w1 ⟨A1, n1, c1, gs, E1, m1, d1, xs, rfl, hp1, hp2, hp3, hnc1, hsm, hm1, hx1, hx2, hmd, hP, hI, hb⟩
  have HN1 := Lib.hid hp1
  have HG := Lib.hid (GB.of_drawn (by omega) hsm)
  have P_1 := Lib.hid (hP)
  have HM1 := Lib.hid hm1
  have I_1 := Lib.hid (hI)
  have B_1 := Lib.hid (hb)
  clear hP hp1 hb HC hsm hI hm1
  go_wp2_with fail
  obtain ⟨w2, hw2⟩ : ∃ W, W = w1.alloc (.cells #[.slice A1 n1 c1] 41) := ⟨_, rfl⟩
  have hb : Below w1.heap.size w1 w2 := by rw [hw2]; exact (Below.refl _ _).alloc (Nat.le_refl _) _
  have P_2 := Lib.hid (P_1.out.step hb)
  clear P_1
  have I_2 := Lib.hid (I_1.out.step hb)
  clear I_1
  have B_2 := Lib.hid (B_1.out.trans (hb.mono B_1.out.size))
  clear B_1
  have F_2 : Hid (As w1.heap.size (w1.heap.size + 1) (fun w' => w'.cell? ⟨w1.heap.size, 0, none⟩ = some (.slice A1 n1 c1)) w2) := by rw [hw2]; exact box_new _ _ _
  clear hb
  rw [← hw2]
  clear hw2
  have HVC := Lib.hid fun (w' : World) (h : GS w' w'.heap.size A1 gs) (h' : IS w' w'.heap.size E1 xs) => top_impl_ValidCells gs xs HG.out (by have := HM1.out; omega) A1 n1 c1 E1 m1 d1 w' HN1.out hnc1 h HM1.out h'
  have HIM := Lib.hid fun (w' : World) (h : GS w' w'.heap.size A1 gs) (h' : IS w' w'.heap.size E1 xs) => top_impl_MeaningOf gs xs HG.out (by have := HM1.out; omega) A1 n1 c1 E1 m1 d1 w' HN1.out hnc1 h HM1.out h'
  have HSP := Lib.hid fun (w' : World) (h : GS w' w'.heap.size A1 gs) (h' : IS w' w'.heap.size E1 xs) => top_spec_MeaningOf gs xs HG.out (by have := HM1.out; omega) A1 n1 c1 E1 m1 d1 w' HN1.out hnc1 h HM1.out h'
  have hml := meanF_len gs xs
  have HMF := Lib.hid fun (hv : okC gs xs = true) => show meanF gs xs = mean gs xs from by unfold meanF; rw [hv]; rfl
  have HCELL := Lib.hid fun (i : Nat) (hi : i < gs.length) (hk : ((gs.getD i default).k == 0) = true) => mean_cell gs xs i hi hk
  have HNODE := Lib.hid fun (hv : okC gs xs = true) (i : Nat) (hi : i < gs.length) (hk : ((gs.getD i default).k == 0) = false) => mean_node gs xs hv i hi hk
  have HLEN := Lib.hid fun (hv : okC gs xs = true) => show gs.length ≤ 10 ∧ xs.length = gs.length from ⟨(validG_parts gs (okC_parts gs xs hv).1).1, (validC_parts gs xs (okC_parts gs xs hv).2).1⟩
  have HML := Lib.hid (show (mean gs xs).length = gs.length from meanTo_len gs xs gs.length)
  generalize okC gs xs = v at *
  generalize mean gs xs = M at *
  obtain ⟨R, hR⟩ : ∃ R, R = meanF gs xs := ⟨_, rfl⟩
  rw [← hR] at HIM HSP hml HMF
  clear hR
  have q0 := F_2.out.it
  go_wp2_with fail
  refine (HIM.out w2 P_2.out I_2.out).mono ?_
  rintro e w3 ⟨v, rfl, ho, hb⟩
  obtain ⟨A3, c3, rfl, hI9⟩ := OwnI.form ho
  have P_3 := Lib.hid (P_2.out.step hb)
  clear P_2
  have I_3 := Lib.hid (I_2.out.step hb)
  clear I_2
  have B_3 := Lib.hid (B_2.out.trans (hb.mono B_2.out.size))
  clear B_2
  have F_3 := Lib.hid (F_2.out.step hb)
  clear F_2
  clear hb
  clear q0
  obtain ⟨rl, hrl2⟩ : ∃ l, l = R.length := ⟨_, rfl⟩
  have HRL := Lib.hid hrl2
  have R_3 := Lib.hid (hI9)
  clear ho hI9
  rw [← hrl2] at hml
  rw [← hrl2]
  clear hrl2
  have q0 := F_3.out.it
  go_wp2_with fail
  refine (HSP.out w3 P_3.out I_3.out).mono ?_
  rintro e w4 ⟨v, rfl, ho, hb⟩
  obtain ⟨A4, c4, rfl, hI9⟩ := OwnI.form ho
  have P_4 := Lib.hid (P_3.out.step hb)
  clear P_3
  have I_4 := Lib.hid (I_3.out.step hb)
  clear I_3
  have B_4 := Lib.hid (B_3.out.trans (hb.mono B_3.out.size))
  clear B_3
  have F_4 := Lib.hid (F_3.out.step hb)
  clear F_3
  have R_4 := Lib.hid (R_3.out.step hb)
  clear R_3
  clear hb
  clear q0
  rw [← HRL.out]
  have HEQ := Lib.hid (laws_equalInts A3 A4 rl rl c3 c4 R R w4 w4.heap.size (Nat.le_refl _) HRL.out HRL.out R_4.out hI9 (by omega) (by omega))
  rw [show decide (R = R) = true from decide_eq_true rfl] at HEQ
  clear ho hI9
  have q0 := F_4.out.it
  go_wp2_with fail
  refine (HEQ.out).mono ?_
  rintro e w5 ⟨rfl, hb⟩
  have P_5 := Lib.hid (P_4.out.step hb)
  clear P_4
  have I_5 := Lib.hid (I_4.out.step hb)
  clear I_4
  have B_5 := Lib.hid (B_4.out.trans (hb.mono B_4.out.size))
  clear B_4
  have F_5 := Lib.hid (F_4.out.step hb)
  clear F_4
  have R_5 := Lib.hid (R_4.out.step hb)
  clear R_4
  clear hb
  clear q0
  clear HEQ
  have q0 := F_5.out.it
  go_wp2_with fail
  refine (HVC.out w5 P_5.out I_5.out).mono ?_
  rintro e w6 ⟨rfl, hb⟩
  have P_6 := Lib.hid (P_5.out.step hb)
  clear P_5
  have I_6 := Lib.hid (I_5.out.step hb)
  clear I_5
  have B_6 := Lib.hid (B_5.out.trans (hb.mono B_5.out.size))
  clear B_5
  have F_6 := Lib.hid (F_5.out.step hb)
  clear F_5
  have R_6 := Lib.hid (R_5.out.step hb)
  clear R_5
  clear hb
  clear q0
  cases v
  · skip
    have q0 := F_6.out.it
    go_wp2_with fail
    refine (HSP.out w6 P_6.out I_6.out).mono ?_
    rintro e w7 ⟨v, rfl, ho, hb⟩
    obtain ⟨A4, c4, rfl, hI9⟩ := OwnI.form ho
    have P_7 := Lib.hid (P_6.out.step hb)
    clear P_6
    have I_7 := Lib.hid (I_6.out.step hb)
    clear I_6
    have B_7 := Lib.hid (B_6.out.trans (hb.mono B_6.out.size))
    clear B_6
    have F_7 := Lib.hid (F_6.out.step hb)
    clear F_6
    have R_7 := Lib.hid (R_6.out.step hb)
    clear R_6
    clear hb
    clear q0
    rw [← HRL.out]
    have HEQ := Lib.hid (laws_equalInts A3 A4 rl rl c3 c4 R R w7 w7.heap.size (Nat.le_refl _) HRL.out HRL.out R_7.out hI9 (by omega) (by omega))
    rw [show decide (R = R) = true from decide_eq_true rfl] at HEQ
    clear ho hI9
    have q0 := F_7.out.it
    go_wp2_with fail
    refine (HEQ.out).mono ?_
    rintro e w8 ⟨rfl, hb⟩
    have P_8 := Lib.hid (P_7.out.step hb)
    clear P_7
    have I_8 := Lib.hid (I_7.out.step hb)
    clear I_7
    have B_8 := Lib.hid (B_7.out.trans (hb.mono B_7.out.size))
    clear B_7
    have F_8 := Lib.hid (F_7.out.step hb)
    clear F_7
    have R_8 := Lib.hid (R_7.out.step hb)
    clear R_7
    clear hb
    clear q0
    clear HEQ
    go_wp2
    go_ret
    exact ⟨rfl, B_8.out⟩
  · obtain ⟨hg10, hxg⟩ := HLEN.out (by first | rfl | trivial)
    have hmf := HMF.out (by first | rfl | trivial)
    subst hmf
    have HND := Lib.hid (HNODE.out (by first | rfl | trivial))
    have hrn : rl = n1 := by have := HRL.out; have := HML.out; have := HN1.out; omega
    have hmn : m1 = n1 := by have := HM1.out; have := HN1.out; omega
    subst hrn
    subst hmn
    clear hg10 hxg HNODE HLEN HMF HIM HSP HVC
    have q0 := F_6.out.it
    go_wp2
    go_loopw [6] (fun u wr => ∃ k : Nat, k ≤ m1 ∧ u = .int .i64 k ∧ Hid (Below w6.heap.size w6 wr) ∧ w6.heap.size ≤ wr.heap.size) (fun u _ => m1 - (intOf u).toNat)
    case atStart => exact ⟨0, Nat.zero_le _, rfl, Below.refl _ _, Nat.le_refl _⟩
    case round =>
      obtain ⟨k, hk, rfl, HB, hwr⟩ := hrel
      obtain ⟨w7, hwK⟩ : ∃ W, W = wr := ⟨_, rfl⟩
      rw [← hwK]
      rw [← hwK] at HB hwr
      clear hwK
      have P_7 := Lib.hid (P_6.out.step HB.out)
      have I_7 := Lib.hid (I_6.out.step HB.out)
      have B_7 := Lib.hid (B_6.out.trans (HB.out.mono B_6.out.size))
      have F_7 := Lib.hid (F_6.out.step HB.out)
      have R_7 := Lib.hid (R_6.out.step HB.out)
      clear q0
      have q1 := F_7.out.it
      by_cases hlt : k < m1
      · obtain ⟨b, off, rfl, hbB, d0, A6, n6, c6, d1, hn6, hps⟩ := P_7.out.at_ k (by have := HN1.out; omega)
        obtain ⟨b2, off2, rfl, hb2, e2⟩ := I_7.out (by have := HM1.out; omega)
        obtain ⟨b3, off3, rfl, hb3, e3⟩ := R_7.out (by have := HRL.out; omega)
        have x2 := e2 k (by have := HM1.out; omega)
        have x3 := e3 k (by have := HRL.out; omega)
        clear e2 e3
        have hcell := HCELL.out k (by have := HN1.out; omega)
        have hnode := HND.out k (by have := HN1.out; omega)
        have h40 := HG.out.2 k
        generalize gs.getD k default = d at *
        generalize hy : xs.getD k 0 = y at *
        generalize hz : R.getD k 0 = z at *
        clear hy hz
        have HPS := Lib.hid hps
        have HN6 := Lib.hid hn6
        cases hd : (d.k == 0)
        · obtain ⟨hce, hva⟩ := hnode hd
          have HVO := Lib.hid fun (w' : World) (h : PS w' w'.heap.size A6 d.ps) (h' : IS w' w'.heap.size (some ⟨b3, off3, none⟩) R) => impl_ValueOf A6 (some ⟨b3, off3, none⟩) n6 c6 m1 c3 d.ps R _ HN6.out HRL.out (by omega) (by omega) w' (Nat.le_refl _) h h'
          rw [hce, hva] at HVO
          have HVO2 := Lib.hid HVO.out
          clear hcell hnode hce hva HVO hps hn6
          go_wp2_with fail
          refine (HVO2.out _ HPS.out R_7.out).mono ?_
          rintro e w9 ⟨rfl, hb9⟩
          have HB9 := Lib.hid (HB.out.trans (hb9.mono hwr))
          have x9 := (hb9.cell (p := ⟨b3, off3 + k, none⟩) hb3).trans x3
          have hzz : (z != z) = false := by simp
          clear hb9
          go_wp2
          go_roundw
          case rel => exact ⟨k + 1, by omega, by go_num, HB9.out, HB9.out.size⟩
          case measure => simp [intOf]; omega
        · have hyz : z = y := hcell hd
          subst hyz
          have hzz : (z != z) = false := by simp
          clear hcell hnode hps hn6
          go_wp2
          refine wp_region_held_drew (S := fun w' => w'.cell? ⟨b3, off3 + k, none⟩ = some (.int .i64 z) ∧ w'.cell? ⟨b2, off2 + k, none⟩ = some (.int .i64 z)) (by kernel_rfl) ⟨x3, x2⟩ (fun hHeld => ?_)
          refine wpAnyH_take (i := 0) (oi := ⟨some 51, _, _, _, _, _⟩) (v := ?_) rfl (by kernel_rfl) (by kernel_rfl) (by kernel_rfl) (fun _ _ _ h => h) (Or.inl ⟨by rfl, ?_⟩) (by assumption) ?_; rotate_left; (focus (intro w hSw; (try dsimp only at hSw); go_simp; (try with_reducible rfl))); (try simp only [Act.put, List.setIfInBounds_toArray, List.set_cons_zero, List.set_cons_succ])
          refine wpAnyH_take (i := 1) (oi := ⟨some 52, _, _, _, _, _⟩) (v := ?_) rfl (by kernel_rfl) (by kernel_rfl) (by kernel_rfl) (fun _ _ _ h => h) (Or.inl ⟨by rfl, ?_⟩) (by assumption) ?_; rotate_left; (focus (intro w hSw; (try dsimp only at hSw); go_simp; (try with_reducible rfl))); (try simp only [Act.put, List.setIfInBounds_toArray, List.set_cons_zero, List.set_cons_succ])
          refine wpAnyH_take (i := 2) (oi := ⟨some 53, _, _, _, _, _⟩) (v := ?_) rfl (by kernel_rfl) (by kernel_rfl) (by kernel_rfl) (fun _ _ _ h => h) (Or.inl ⟨by rfl, ?_⟩) (by assumption) ?_; rotate_left; (focus (intro w hSw; (try dsimp only at hSw); go_simp; (try with_reducible rfl))); (try simp only [Act.put, List.setIfInBounds_toArray, List.set_cons_zero, List.set_cons_succ])
          refine wpAnyH_take (i := 3) (oi := ⟨some 54, _, _, _, _, _⟩) (v := ?_) rfl (by kernel_rfl) (by kernel_rfl) (by kernel_rfl) (fun _ _ _ h => h) (Or.inl ⟨by rfl, ?_⟩) (by assumption) ?_; rotate_left; (focus (intro w hSw; (try dsimp only at hSw); go_simp; (try with_reducible rfl))); (try simp only [Act.put, List.setIfInBounds_toArray, List.set_cons_zero, List.set_cons_succ])
          refine wpAnyH_take (i := 4) (oi := ⟨some 55, _, _, _, _, _⟩) (v := ?_) rfl (by kernel_rfl) (by kernel_rfl) (by kernel_rfl) (fun _ _ _ h => h) (Or.inl ⟨by rfl, ?_⟩) (by assumption) ?_; rotate_left; (focus (intro w hSw; (try dsimp only at hSw); go_simp; (try with_reducible rfl))); (try simp only [Act.put, List.setIfInBounds_toArray, List.set_cons_zero, List.set_cons_succ])
          refine wpAnyH_take (i := 5) (oi := ⟨some 56, _, _, _, _, _⟩) (v := ?_) rfl (by kernel_rfl) (by kernel_rfl) (by kernel_rfl) (fun _ _ _ h => h) (Or.inl ⟨by rfl, ?_⟩) (by assumption) ?_; rotate_left; (focus (intro w hSw; (try dsimp only at hSw); go_simp; (try with_reducible rfl))); (try simp only [Act.put, List.setIfInBounds_toArray, List.set_cons_zero, List.set_cons_succ])
          refine wpAnyH_take (i := 6) (oi := ⟨some 57, _, _, _, _, _⟩) (v := ?_) rfl (by kernel_rfl) (by kernel_rfl) (by kernel_rfl) (fun _ _ _ h => h) (Or.inl ⟨by rfl, ?_⟩) (by assumption) ?_; rotate_left; (focus (intro w hSw; (try dsimp only at hSw); go_simp; (try with_reducible rfl))); (try simp only [Act.put, List.setIfInBounds_toArray, List.set_cons_zero, List.set_cons_succ])
          refine wpAnyH_take (i := 7) (oi := ⟨some 58, _, _, _, _, _⟩) (v := ?_) rfl (by kernel_rfl) (by kernel_rfl) (by kernel_rfl) (fun _ _ _ h => h) (Or.inl ⟨by rfl, ?_⟩) (by assumption) ?_; rotate_left; (focus (intro w hSw; (try dsimp only at hSw); go_simp; (try with_reducible rfl))); (try simp only [Act.put, List.setIfInBounds_toArray, List.set_cons_zero, List.set_cons_succ])
          refine wpAnyH_take (i := 8) (oi := ⟨some 59, _, _, _, _, _⟩) (v := ?_) rfl (by kernel_rfl) (by kernel_rfl) (by kernel_rfl) (fun _ _ _ h => h) (Or.inl ⟨by rfl, ?_⟩) (by assumption) ?_; rotate_left; (focus (intro w hSw; (try dsimp only at hSw); go_simp; (try with_reducible rfl))); (try simp only [Act.put, List.setIfInBounds_toArray, List.set_cons_zero, List.set_cons_succ])
          refine wpAnyH_done (by kernel_rfl) ?_ _
          go_wp2
          go_roundw
          case rel => exact ⟨k + 1, by omega, by go_num, HB.out.drew, hwr⟩
          case measure => simp [intOf]; omega
      · obtain rfl : k = m1 := by omega
        go_wp2
        go_ret
        exact ⟨ret_b (by simp), B_7.out⟩
end Go.Proofs.Ytgbijmfmdcphhaa


namespace Go.Proofs.Ytgbijmfmdcphhaa
set_option linter.unusedSimpArgs false
set_option linter.unusedVariables false
open Go.ChangeShapes Go.WideShapes Go.ChangeAt Go.RowKit

set_option maxRecDepth 100000 in
theorem plifted_MeaningOf (os : Os) (started : os.Started) (H : Type) (enc : TypeId × Value → H) :
    ReturnsInHanded {} Try.checked os 7 .any (Rows.fnMeaningOfSpec.pre6 enc Try.prog Try.f7 Rows.fnMeaningOfRow.domain false) (Rows.fnMeaningOfSpec.post enc Try.prog Try.f7 false true false false) := by
  refine returnsInHanded_of_change (C := Try.checked) own started (by kernel_rfl) Try.func7
    (ChangeSpec.witness6 (enc := enc) (C := Try.checked) false ⟨#[], #[.slice none 0 0], []⟩ 8 (by kernel_rfl) (by kernel_rfl) (by kernel_rfl) (by kernel_rfl)) ?_
  intro W base args ds gs before hval0 hW hcnd _
  have hval : ∀ (j : Nat) t v, Try.f7.params[j]? = some t → args[j]? = some v → Value.okWide Try.prog W .any base t v := hval0
  have hW' := hW
  obtain ⟨p, q, hA0, hV, rfl, hfz, hnd⟩ := hW
  have hA : DataW.TrodAll enc Try.prog W 0 (fun _ => true) true Try.f7.params.toList args.toList ds p := hA0
  rw [Try.params7] at hA hval
  obtain ⟨v0, vs0, d0, ds0, p0, q0, hargs, rfl, rfl, h0, r0⟩ := trodAll_cons hA
  obtain ⟨rfl, rfl, rfl⟩ := trodAll_nil r0
  obtain rfl : args = #[v0] := by cases args; simp_all
  obtain ⟨rfl, rfl⟩ := trodVars_none hV
  have k0 := h0
  have lt0 : ∀ x ∈ p0, x.block < W.heap.size := by obtain ⟨m, hm⟩ := k0; exact DataW.trod_lt m _ _ _ hm
  obtain ⟨A, n, c, bs, rfl, hn, hnc, hm, hy, hbs⟩ := open_code (hval 0 22 v0 rfl rfl) h0
  clear hA0 hval0
  refine (plaw_MeaningOf A n c bs W hn hnc hbs hy hm).mono fun e W' ⟨he, bel⟩ => ?_
  subst he
  exact ⟨_, rfl, _, _, _, [], _, [], hW', trodAll_mk1 (shut_bool Try.underlying4 _), (trodAll_cons_mk (Below.trod laidOut (by kernel_rfl) (of_decide_eq_true (by kernel_rfl)) k0 bel lt0) trodAll_mk0), rfl, bel.frame _, fun h => by cases h⟩

theorem pproved_MeaningOf : Rows.FnMeaningOfSaid :=
  OpenClaim.holds_of_wide 7 Try.f7 rfl rfl rfl rfl rfl rfl rfl ⟨rfl, rfl, rfl, rfl, rfl⟩ rfl rfl rfl rfl rfl (by kernel_rfl) Try.func7 (by kernel_rfl)
    (of_decide_eq_true (by kernel_rfl)) (by unfold Func.isWrapper; first | (rw [if_pos (by decide +kernel)]; kernel_rfl) | (rw [if_neg (by decide +kernel)]; exact ⟨rfl, rfl⟩))
    (fun os started H enc _ => plifted_MeaningOf os started H enc)
#print axioms pproved_MeaningOf
end Go.Proofs.Ytgbijmfmdcphhaa
