/- laws.FnNeedOf returns true for all bytes, and writes nothing that was there. (Made by genpl.py.) -/
import Derived.Test.YtdhjflhpenkchaaR18
import Derived.Test.YtdhjflhpenkchaaR19
import Derived.Test.YtdhjflhpenkchaaH8
import Derived.Test.YtdhjflhpenkchaaM26
import Derived.Deep.RegionHeld3
import Derived.Test.YtdhjflhpenkchaaM27
import Derived.Maps.AppendAt

namespace Go.Proofs.Ytdhjflhpenkchaa
set_option linter.unusedSimpArgs false
set_option linter.unusedVariables false
open Go.RowKit

theorem news_i {w : World} {b off : Nat} {xs : List Int} (hc : ∀ j, j < xs.length → w.cell? ⟨b, off + j, none⟩ = some (.int .i64 (xs.getD j 0))) : ∀ j u, (xs.map (Value.int .i64))[j]? = some u → w.cell? ((⟨b, off, none⟩ : Addr).add j) = some u := by
  intro j u hu
  rw [List.getElem?_map, Option.map_eq_some_iff] at hu
  obtain ⟨x, hx, rfl⟩ := hu
  have hj := (List.getElem?_eq_some_iff.1 hx).1
  have := hc j hj
  rw [addr_add', this]
  simp [List.getD, hx]
theorem one_i (xs : List Int) : ∀ u ∈ xs.map (Value.int .i64), u.oneCell' = true := by
  intro u hu
  obtain ⟨x, _, rfl⟩ := List.mem_map.1 hu
  rfl
set_option maxRecDepth 100000 in
set_option maxHeartbeats 1600000 in
theorem laws_join (A A' : Option Addr) (n c m c' : Nat) (xs ys : List Int) (w : World) (hn : n = xs.length) (h : IS w w.heap.size A xs) (hs : n ≤ 2000000) (hm : m = ys.length) (h' : IS w w.heap.size A' ys) (hs' : m ≤ 2000000) (hp : 0 < n) (hp' : 0 < m) :
    Calls Try.prog 28 #[.slice A n c, .slice A' m c'] w fun e w' => RetI w (xs ++ ys) e w' := by
  obtain ⟨i0, hi, hz0, hz1, hz2⟩ := info_parts info_int
  obtain ⟨b, off, rfl, hbB, hc⟩ := h (by omega)
  obtain ⟨b', off', rfl, hbB', hc'⟩ := h' (by omega)
  have HNEW := Lib.hid (World.ownsRow_lit (e := 3) (size := 1) (base := w.heap.size) w #[] 0 (Nat.le_refl _) (by unfold maxLen; omega) (by simp))
  have HNS := Lib.hid (news_i fun j hj => (World.cell?_alloc_lt w (.cells #[] 3) ⟨b, off + j, none⟩ hbB).trans (hc j hj))
  have HC' := Lib.hid hc'
  have HN := Lib.hid hn
  have HM := Lib.hid hm
  clear hc hc' hn hm h h'
  go_enter Try.func28, Try.ntmps28
  go_wp2_with (at_builtin; refine wpList_append_own_at _ rfl _ _ 28 rfl w.heap.size 3 i0 (.int .i64 0) 1 8 Try.underlying28 hi hz0 hz1 hz2 rfl (by decide) _ _ _ rfl HNEW.out ⟨b, off, none⟩ n c (xs.map (Value.int .i64)) rfl (by rw [List.length_map, ← HN.out]; omega) HNS.out (one_i xs) (by unfold maxLen; omega) (by omega) (by simp) ?_)
  intro v1 w1 hown1 hgrow1 _ _
  have hb1 : Below w.heap.size w w1 := ((Below.refl _ _).alloc (Nat.le_refl _) (.cells #[] 3)).grown hgrow1 (by simp) (fun q hq => by simp [Value.ownBlock] at hq; omega)
  have HNS2 := Lib.hid (news_i fun j hj => (hb1.cell (p := ⟨b', off' + j, none⟩) hbB').trans (HC'.out j hj))
  have HO1 := Lib.hid hown1
  have HB1 := Lib.hid hb1
  clear hown1 hgrow1 hb1
  go_wp2_with (at_builtin; refine wpList_append_own_at _ rfl _ _ 28 rfl w.heap.size 3 i0 (.int .i64 0) 1 8 Try.underlying28 hi hz0 hz1 hz2 rfl (by decide) _ _ _ rfl HO1.out ⟨b', off', none⟩ m c' (ys.map (Value.int .i64)) rfl (by rw [List.length_map, ← HM.out]; omega) HNS2.out (one_i ys) (by unfold maxLen; omega) (by omega) HB1.out.size ?_)
  intro v2 w2 hown2 hgrow2 _ _
  have hpos := HO1.out.lt
  have HB2 := Lib.hid (HB1.out.grown hgrow2 HB1.out.size (fun q hq => (hpos q hq).1))
  have HO2 := Lib.hid hown2
  clear hown2 hgrow2 hpos
  go_wp2
  go_ret
  refine ⟨v2, rfl, ?_, HB2.out⟩
  unfold OwnI
  rw [List.length_append, ← HN.out, ← HM.out]
  simpa using HO2.out

set_option maxRecDepth 100000 in
set_option maxHeartbeats 6400000 in
theorem plaw_NeedOf (A : Option Addr) (n c : Nat) (bs : List Int) (w : World) (hn : n = bs.length) (hnc : n ≤ c) (h : BS w w.heap.size A bs) (hy : BY bs) (hm : n ≤ 9223372036854775807) :
    Calls Try.prog 5 #[.slice A n c] w fun e w' => e = .returned (.bool true) ∧ Below w.heap.size w w' := by
  by_cases hs : 1048576 < n
  · clear hn hnc h hy
    go_enter Try.func5, Try.ntmps5
    go_wp2
    go_ret
    exact ⟨rfl, Below.refl _ _⟩
  have HC := Lib.hid (spec_DrawNeedOf A n c bs w hn hnc h hy (by omega))
  clear hn hnc h hy
  go_enter Try.func5, Try.ntmps5
  go_wp2_with fail
  refine HC.out.mono ?_
  rintro e w1 ⟨A1, n1, c1, gs, x, rfl, hp1, hp2, hp3, hnc1, hsm, hx1, hx2, hP, hb⟩
  have HN1 := Lib.hid hp1
  have HG := Lib.hid (GB.of_drawn (by omega) hsm)
  have P_1 := Lib.hid (hP)
  have B_1 := Lib.hid (hb)
  clear hP hp1 hb HC hsm
  go_wp2_with fail
  obtain ⟨w2, hw2⟩ : ∃ W, W = w1.alloc (.cells #[.slice A1 n1 c1] 25) := ⟨_, rfl⟩
  have hb : Below w1.heap.size w1 w2 := by rw [hw2]; exact (Below.refl _ _).alloc (Nat.le_refl _) _
  have P_2 := Lib.hid (P_1.out.step hb)
  clear P_1
  have B_2 := Lib.hid (B_1.out.trans (hb.mono B_1.out.size))
  clear B_1
  have F_2 : Hid (As w1.heap.size (w1.heap.size + 1) (fun w' => w'.cell? ⟨w1.heap.size, 0, none⟩ = some (.slice A1 n1 c1)) w2) := by rw [hw2]; exact box_new _ _ _
  clear hb
  rw [← hw2]
  clear hw2
  have HIM := Lib.hid fun (w' : World) (h : GS w' w'.heap.size A1 gs) => top_impl_NeedOf gs x HG.out A1 n1 c1 w' HN1.out hnc1 h
  have HSP := Lib.hid fun (w' : World) (h : GS w' w'.heap.size A1 gs) => top_spec_NeedOf gs x HG.out A1 n1 c1 w' HN1.out hnc1 h
  have hml := needF_len gs x
  obtain ⟨R, hR⟩ : ∃ R, R = needF gs x := ⟨_, rfl⟩
  have HR := Lib.hid hR
  rw [← hR] at HIM HSP hml
  clear hR
  have q0 := F_2.out.it
  go_wp2_with fail
  refine (HIM.out w2 P_2.out).mono ?_
  rintro e w3 ⟨v, rfl, ho, hb⟩
  have P_3 := Lib.hid (P_2.out.step hb)
  clear P_2
  have B_3 := Lib.hid (B_2.out.trans (hb.mono B_2.out.size))
  clear B_2
  have F_3 := Lib.hid (F_2.out.step hb)
  clear F_2
  clear hb
  clear q0
  obtain ⟨A3, c3, rfl, hI9⟩ := OwnI.form ho
  obtain ⟨rl, hl2⟩ : ∃ l, l = R.length := ⟨_, rfl⟩
  have HRL := Lib.hid hl2
  rw [← hl2]
  have R_3 := Lib.hid (hI9)
  clear ho hI9 hl2
  rw [← HRL.out] at hml
  have q0 := F_3.out.it
  go_wp2_with fail
  refine (HSP.out w3 P_3.out).mono ?_
  rintro e w4 ⟨v, rfl, ho, hb⟩
  obtain ⟨A4, c4, rfl, hI9⟩ := OwnI.form ho
  have P_4 := Lib.hid (P_3.out.step hb)
  clear P_3
  have B_4 := Lib.hid (B_3.out.trans (hb.mono B_3.out.size))
  clear B_3
  have F_4 := Lib.hid (F_3.out.step hb)
  clear F_3
  have R_4 := Lib.hid (R_3.out.step hb)
  clear R_3
  clear hb
  clear q0
  rw [← HRL.out]
  have HEQ := Lib.hid (laws_equalInts A3 A4 rl rl c3 c4 R R w4 w4.heap.size (Nat.le_refl _) HRL.out HRL.out R_4.out hI9 (by omega) (by omega))
  rw [show decide (R = R) = true from decide_eq_true rfl] at HEQ
  clear ho hI9
  have q0 := F_4.out.it
  go_wp2_with fail
  refine (HEQ.out).mono ?_
  rintro e w5 ⟨rfl, hb⟩
  have P_5 := Lib.hid (P_4.out.step hb)
  clear P_4
  have B_5 := Lib.hid (B_4.out.trans (hb.mono B_4.out.size))
  clear B_4
  have F_5 := Lib.hid (F_4.out.step hb)
  clear F_4
  have R_5 := Lib.hid (R_4.out.step hb)
  clear R_4
  clear hb
  clear q0
  clear HEQ
  cases hb : hasB gs x
  · skip
    have hrl0 : rl = 0 := by rw [HRL.out, HR.out, needF_none gs x hb]; rfl
    have hz0 : ((rl : Int) == 0) = true := by rw [hrl0]; rfl
    clear hb hrl0
    have q0 := F_5.out.it
    go_wp2_with fail
    refine (HSP.out w5 P_5.out).mono ?_
    rintro e w6 ⟨v, rfl, ho, hb⟩
    obtain ⟨A4, c4, rfl, hI9⟩ := OwnI.form ho
    have P_6 := Lib.hid (P_5.out.step hb)
    clear P_5
    have B_6 := Lib.hid (B_5.out.trans (hb.mono B_5.out.size))
    clear B_5
    have F_6 := Lib.hid (F_5.out.step hb)
    clear F_5
    have R_6 := Lib.hid (R_5.out.step hb)
    clear R_5
    clear hb
    clear q0
    rw [← HRL.out]
    have HEQ := Lib.hid (laws_equalInts A3 A4 rl rl c3 c4 R R w6 w6.heap.size (Nat.le_refl _) HRL.out HRL.out R_6.out hI9 (by omega) (by omega))
    rw [show decide (R = R) = true from decide_eq_true rfl] at HEQ
    clear ho hI9
    have q0 := F_6.out.it
    go_wp2_with fail
    refine (HEQ.out).mono ?_
    rintro e w7 ⟨rfl, hb⟩
    have P_7 := Lib.hid (P_6.out.step hb)
    clear P_6
    have B_7 := Lib.hid (B_6.out.trans (hb.mono B_6.out.size))
    clear B_6
    have F_7 := Lib.hid (F_6.out.step hb)
    clear F_6
    have R_7 := Lib.hid (R_6.out.step hb)
    clear R_6
    clear hb
    clear q0
    clear HEQ
    go_wp2
    go_ret
    exact ⟨rfl, B_7.out⟩
  · obtain ⟨hv, _, t, rfl, htg⟩ := hasB_parts gs x hb
    have HV := Lib.hid hv
    have HTG := Lib.hid htg
    have htn : t < n1 := by have := HN1.out; omega
    clear hb hv htg HIM HSP
    obtain ⟨hf1, hf2, hf3, hf4, hf5⟩ := need_facts gs HV.out t HTG.out
    rw [← HR.out] at hf1 hf2 hf3 hf4 hf5
    rw [← HRL.out] at hf4 hf5
    have HF3 := Lib.hid hf3
    have HF4 := Lib.hid hf4
    have hrn : ((rl : Int) == 0) = false := by simp; omega
    have hah : ∀ x ∈ mayF (gs.getD t default).ps, 0 ≤ x ∧ x < (t : Int) := by rw [mayF_valid gs t HV.out HTG.out]; exact mayR_ahead gs t HV.out HTG.out
    have HFL := Lib.hid fun (q : Nat) (hq : q < t) => (need_facts gs HV.out q (by have := HTG.out; omega)).2.2.2.2
    have h40 := HG.out.2 t
    obtain ⟨b, off, rfl, hbB, d0, A6, n6, c6, d1, hn6, hps⟩ := P_5.out.at_ t (by have := HN1.out; omega)
    have hlm := mayF_le (gs.getD t default).ps
    obtain ⟨d, hd⟩ : ∃ d, d = gs.getD t default := ⟨_, rfl⟩
    rw [← hd] at hn6 hps hah hf1 hf2 h40 hlm
    clear hd
    have HMR := Lib.hid fun (w' : World) (h : PS w' w'.heap.size A6 d.ps) => impl_MayRead A6 n6 c6 d.ps w' _ (Nat.le_refl _) hn6 h (by omega)
    clear hn6
    generalize mayF d.ps = M at *
    have HF1 := Lib.hid hf1
    have HF2 := Lib.hid hf2
    have HAH := Lib.hid hah
    have HPS := Lib.hid hps
    clear hf1 hf2 hf3 hf4 hah hps d0 h40
    have q0 := F_5.out.it
    go_wp2_with fail
    refine (HMR.out _ HPS.out).mono ?_
    rintro e w6 ⟨v7, rfl, ho, hb⟩
    have P_6 := Lib.hid (P_5.out.step hb)
    clear P_5
    have B_6 := Lib.hid (B_5.out.trans (hb.mono B_5.out.size))
    clear B_5
    have F_6 := Lib.hid (F_5.out.step hb)
    clear F_5
    have R_6 := Lib.hid (R_5.out.step hb)
    clear R_5
    clear hb HPS d1 q0
    obtain ⟨A7, c7, rfl, hI9⟩ := OwnI.form ho
    obtain ⟨ml, hl2⟩ : ∃ l, l = M.length := ⟨_, rfl⟩
    have HML := Lib.hid hl2
    rw [← hl2]
    have M_6 := Lib.hid (hI9)
    clear ho hI9 hl2
    have q0 := F_6.out.it
    go_wp2
    obtain ⟨w7, hwa⟩ : ∃ W, W = w6.alloc (.cells #[.int .i64 t] 3) := ⟨_, rfl⟩
    rw [← hwa]
    have hb : Below w6.heap.size w6 w7 := by rw [hwa]; exact (Below.refl _ _).alloc (Nat.le_refl _) _
    have P_7 := Lib.hid (P_6.out.step hb)
    clear P_6
    have B_7 := Lib.hid (B_6.out.trans (hb.mono B_6.out.size))
    clear B_6
    have F_7 := Lib.hid (F_6.out.step hb)
    clear F_6
    have R_7 := Lib.hid (R_6.out.step hb)
    clear R_6
    have M_7 := Lib.hid (M_6.out.step hb)
    clear M_6
    have X_7 : Hid (IS w7 w7.heap.size (some ⟨w6.heap.size, 0, none⟩) (allN gs t (M.take 0))) := by rw [hwa]; exact fun _ => ⟨w6.heap.size, 0, rfl, by simp, fun j hj => by have : j = 0 := (by simp [allN] at hj; omega); subst this; simp [allN]⟩
    clear hb hwa q0
    go_loopw [7, 8] (fun v u wr => ∃ (k l c : Nat) (A : Option Addr), k ≤ ml ∧ u = .int .i64 k ∧ v = .slice A l c ∧ Hid (l = (allN gs t (M.take k)).length) ∧ 0 < l ∧ l ≤ 1 + 10 * k ∧ Hid (IS wr wr.heap.size A (allN gs t (M.take k))) ∧ Hid (Below w7.heap.size w7 wr) ∧ w7.heap.size ≤ wr.heap.size) (fun _ u _ => ml - (intOf u).toNat)
    case atStart => exact ⟨0, 1, 1, some ⟨w6.heap.size, 0, none⟩, Nat.zero_le _, rfl, rfl, by simp [allN, Hid], by omega, by omega, X_7.out, Below.refl _ _, Nat.le_refl _⟩
    case round =>
      clear X_7
      obtain ⟨k, l, cX, AX, hk, rfl, rfl, HXL, hl0, hlk, HX0, HB, hwr⟩ := hrel
      obtain ⟨w8, hwK⟩ : ∃ W, W = wr := ⟨_, rfl⟩
      rw [← hwK]
      rw [← hwK] at HB hwr HX0
      clear hwK
      have P_8 := Lib.hid (P_7.out.step HB.out)
      have B_8 := Lib.hid (B_7.out.trans (HB.out.mono B_7.out.size))
      have F_8 := Lib.hid (F_7.out.step HB.out)
      have R_8 := Lib.hid (R_7.out.step HB.out)
      have M_8 := Lib.hid (M_7.out.step HB.out)
      have X_8 := HX0
      clear HX0
      have BK_8 := HB
      clear HB
      have q1 := F_8.out.it
      by_cases hlt : k < ml
      · skip
        have hkM : k < M.length := by have := HML.out; omega
        obtain ⟨b7, o7, rfl, hb7, e7⟩ := M_8.out (by omega)
        have x7 := e7 k hkM
        clear e7
        obtain ⟨hq0, hq1⟩ := HAH.out (M.getD k 0) (by simp [List.getD, hkM])
        have hst := allN_step gs t M k hkM
        obtain ⟨q, hqx⟩ : ∃ q : Nat, M.getD k 0 = (q : Int) := ⟨(M.getD k 0).toNat, by omega⟩
        rw [hqx] at x7 hst hq1
        clear hqx hq0
        have hfl := HFL.out q (by omega)
        have HND := Lib.hid fun (w' : World) (h : GS w' w'.heap.size (some ⟨b, off, none⟩) gs) => top_impl_NeedOf gs (q : Int) HG.out (some ⟨b, off, none⟩) n1 c1 w' HN1.out hnc1 h
        have hnl := needF_len gs (q : Int)
        generalize needF gs (q : Int) = N at *
        have HST := Lib.hid hst
        have HXX := Lib.hid (show (allN gs t (M.take (k + 1))).length = l + N.length from by rw [hst, List.length_append, ← HXL.out])
        clear hst
        have x7_8 : Hid (C1 b7 (o7 + k) (.int .i64 (q : Int)) w8) := ⟨hb7, x7⟩
        clear x7
        have hnl0 := hfl
        clear hfl
        go_wp2
        refine wp_region_held_drew (S := fun w' => w'.cell? ⟨w1.heap.size, 0, none⟩ = some (.slice (some ⟨b, off, none⟩) n1 c1) ∧ w'.cell? ⟨b7, o7 + k, none⟩ = some (.int .i64 (q : Int))) (by kernel_rfl) ⟨F_8.out.it, x7_8.out.2⟩ (fun hHeld => ?_)
        refine wpAnyH_take (i := 0) (oi := ⟨some 51, _, _, _, _, _⟩) (v := ?_) rfl (by kernel_rfl) (by kernel_rfl) (by kernel_rfl) (fun _ _ _ h => h) (Or.inl ⟨by rfl, ?_⟩) (by assumption) ?_; rotate_left; (focus (intro w hSw; (try dsimp only at hSw); go_simp; (try with_reducible rfl))); (try simp only [Act.put, List.setIfInBounds_toArray, List.set_cons_zero, List.set_cons_succ])
        refine wpAnyH_take (i := 1) (oi := ⟨some 52, _, _, _, _, _⟩) (v := ?_) rfl (by kernel_rfl) (by kernel_rfl) (by kernel_rfl) (fun _ _ _ h => h) (Or.inl ⟨by rfl, ?_⟩) (by assumption) ?_; rotate_left; (focus (intro w hSw; (try dsimp only at hSw); go_simp; (try with_reducible rfl))); (try simp only [Act.put, List.setIfInBounds_toArray, List.set_cons_zero, List.set_cons_succ])
        refine wpAnyH_take (i := 2) (oi := ⟨some 53, _, _, _, _, _⟩) (v := ?_) rfl (by kernel_rfl) (by kernel_rfl) (by kernel_rfl) (fun _ _ _ h => h) (Or.inl ⟨by rfl, ?_⟩) (by assumption) ?_; rotate_left; (focus (intro w hSw; (try dsimp only at hSw); go_simp; (try with_reducible rfl))); (try simp only [Act.put, List.setIfInBounds_toArray, List.set_cons_zero, List.set_cons_succ])
        refine wpAnyH_take (i := 3) (oi := ⟨some 54, _, _, _, _, _⟩) (v := ?_) rfl (by kernel_rfl) (by kernel_rfl) (by kernel_rfl) (fun _ _ _ h => h) (Or.inl ⟨by rfl, ?_⟩) (by assumption) ?_; rotate_left; (focus (intro w hSw; (try dsimp only at hSw); go_simp; (try with_reducible rfl))); (try simp only [Act.put, List.setIfInBounds_toArray, List.set_cons_zero, List.set_cons_succ])
        refine wpAnyH_take (i := 4) (oi := ⟨some 55, _, _, _, _, _⟩) (v := ?_) rfl (by kernel_rfl) (by kernel_rfl) (by kernel_rfl) (fun _ _ _ h => h) (Or.inl ⟨by rfl, ?_⟩) (by assumption) ?_; rotate_left; (focus (intro w hSw; (try dsimp only at hSw); go_simp; (try with_reducible rfl))); (try simp only [Act.put, List.setIfInBounds_toArray, List.set_cons_zero, List.set_cons_succ])
        refine wpAnyH_take (i := 5) (oi := ⟨some 56, _, _, _, _, _⟩) (v := ?_) rfl (by kernel_rfl) (by kernel_rfl) (by kernel_rfl) (fun _ _ _ h => h) (Or.inl ⟨by rfl, ?_⟩) (by assumption) ?_; rotate_left; (focus (intro w hSw; (try dsimp only at hSw); go_simp; (try with_reducible rfl))); (try simp only [Act.put, List.setIfInBounds_toArray, List.set_cons_zero, List.set_cons_succ])
        refine wpAnyH_ready (rs := [6]) (by kernel_rfl) (by simp) ?_; refine AllReadyH.cons (o := ⟨some 57, _, _, _, _, _⟩) rfl (fun K hK => ?_) AllReadyH.nil; go_simp
        go_at_call 25
        refine (HND.out w8.drew P_8.out).mono ?_
        rintro e w9 ⟨v7, rfl, ho, hb'⟩
        have hb : Below w8.heap.size w8 w9 := below_of_drew hb'
        obtain ⟨A8, c8, rfl, hI9⟩ := OwnI.form ho
        obtain ⟨nl, hl2⟩ : ∃ l, l = N.length := ⟨_, rfl⟩
        have HNL := Lib.hid hl2
        rw [← hl2]
        have P_9 := Lib.hid (P_8.out.step hb)
        clear P_8
        have B_9 := Lib.hid (B_8.out.trans (hb.mono B_8.out.size))
        clear B_8
        have F_9 := Lib.hid (F_8.out.step hb)
        clear F_8
        have R_9 := Lib.hid (R_8.out.step hb)
        clear R_8
        have M_9 := Lib.hid (M_8.out.step hb)
        clear M_8
        have X_9 := Lib.hid (X_8.out.step hb)
        clear X_8
        have BK_9 := Lib.hid (BK_8.out.trans (hb.mono BK_8.out.size))
        clear BK_8
        have x7_9 := Lib.hid (x7_8.out.step hb)
        clear x7_8
        clear hb hb'
        have N_9 := Lib.hid (hI9)
        clear ho hI9 hl2
        refine hK.out _ _ ⟨F_9.out.it, x7_9.out.2⟩ (fun hHeld => ?_); clear hK K; (try simp only [Act.put, List.setIfInBounds_toArray, List.set_cons_zero, List.set_cons_succ])
        refine wpAnyH_ready (rs := [7]) (by kernel_rfl) (by simp) ?_; refine AllReadyH.cons (o := ⟨some 58, _, _, _, _, _⟩) rfl (fun K hK => ?_) AllReadyH.nil; go_simp
        go_at_call 28
        refine (laws_join AX A8 l cX nl c8 _ N w9 HXL.out X_9.out (by omega) HNL.out N_9.out (by have := HNL.out; omega) hl0 (by have := HNL.out; omega)).mono ?_
        rintro e w10 ⟨v8, rfl, ho, hb⟩
        obtain ⟨A9, c9, rfl, hI9⟩ := OwnI.form ho
        have P_10 := Lib.hid (P_9.out.step hb)
        clear P_9
        have B_10 := Lib.hid (B_9.out.trans (hb.mono B_9.out.size))
        clear B_9
        have F_10 := Lib.hid (F_9.out.step hb)
        clear F_9
        have R_10 := Lib.hid (R_9.out.step hb)
        clear R_9
        have M_10 := Lib.hid (M_9.out.step hb)
        clear M_9
        have X_10 := Lib.hid (X_9.out.step hb)
        clear X_9
        have BK_10 := Lib.hid (BK_9.out.trans (hb.mono BK_9.out.size))
        clear BK_9
        have x7_10 := Lib.hid (x7_9.out.step hb)
        clear x7_9
        have N_10 := Lib.hid (N_9.out.step hb)
        clear N_9
        clear hb
        have XJ_10 := Lib.hid (hI9)
        clear ho hI9
        refine hK.out _ _ ⟨F_10.out.it, x7_10.out.2⟩ (fun hHeld => ?_); clear hK K; (try simp only [Act.put, List.setIfInBounds_toArray, List.set_cons_zero, List.set_cons_succ])
        refine wpAnyH_take (i := 8) (oi := ⟨some 7, _, _, _, _, _⟩) (v := ?_) rfl (by kernel_rfl) (by kernel_rfl) (by kernel_rfl) (fun _ _ _ h => h) (Or.inl ⟨by rfl, ?_⟩) (by assumption) ?_; rotate_left; (focus (intro w hSw; (try dsimp only at hSw); go_simp; (try with_reducible rfl))); (try simp only [Act.put, List.setIfInBounds_toArray, List.set_cons_zero, List.set_cons_succ])
        refine wpAnyH_done (by kernel_rfl) ?_ _
        go_wp2
        go_roundw
        case rel => exact ⟨k + 1, _, c9, A9, by omega, by go_num, rfl, by show _ = _; rw [HST.out, List.length_append], by have := HXL.out; omega, by have := HXL.out; omega, by rw [HST.out]; exact XJ_10.out, BK_10.out, BK_10.out.size⟩
        case measure => simp [intOf]; omega
      · obtain rfl : k = ml := by omega
        have hk10 : k ≤ 10 := by have := HML.out; omega
        have hMt : M.take k = M := List.take_of_length_le (by have := HML.out; omega)
        have hxl := HXL.out
        rw [hMt] at hxl
        have HXM := Lib.hid hxl
        clear hxl
        have HAS := Lib.hid fun (w' : World) (h : IS w' w'.heap.size A3 R) => laws_ascends A3 rl c3 R w' _ (Nat.le_refl _) HRL.out h (by omega) HF3.out
        have hX := X_8.out
        rw [hMt] at hX
        have XM_8 := Lib.hid hX
        clear hX hMt
        have q0 := F_8.out.it
        go_wp2_with fail
        refine (HAS.out w8 R_8.out).mono ?_
        rintro e w9 ⟨rfl, hb⟩
        have P_9 := Lib.hid (P_8.out.step hb)
        clear P_8
        have B_9 := Lib.hid (B_8.out.trans (hb.mono B_8.out.size))
        clear B_8
        have F_9 := Lib.hid (F_8.out.step hb)
        clear F_8
        have R_9 := Lib.hid (R_8.out.step hb)
        clear R_8
        have M_9 := Lib.hid (M_8.out.step hb)
        clear M_8
        have X_9 := Lib.hid (X_8.out.step hb)
        clear X_8
        have BK_9 := Lib.hid (BK_8.out.trans (hb.mono BK_8.out.size))
        clear BK_8
        have XM_9 := Lib.hid (XM_8.out.step hb)
        clear XM_8
        clear hb
        clear q0
        have q0 := F_9.out.it
        go_wp2_with fail
        refine (within_g AX A3 l cX rl c3 _ R w9 HXM.out XM_9.out (by omega) HRL.out R_9.out (by omega) HF1.out).mono ?_
        rintro e w10 ⟨rfl, hb⟩
        have P_10 := Lib.hid (P_9.out.step hb)
        clear P_9
        have B_10 := Lib.hid (B_9.out.trans (hb.mono B_9.out.size))
        clear B_9
        have F_10 := Lib.hid (F_9.out.step hb)
        clear F_9
        have R_10 := Lib.hid (R_9.out.step hb)
        clear R_9
        have M_10 := Lib.hid (M_9.out.step hb)
        clear M_9
        have X_10 := Lib.hid (X_9.out.step hb)
        clear X_9
        have BK_10 := Lib.hid (BK_9.out.trans (hb.mono BK_9.out.size))
        clear BK_9
        have XM_10 := Lib.hid (XM_9.out.step hb)
        clear XM_9
        clear hb
        clear q0
        have q0 := F_10.out.it
        go_wp2_with fail
        refine (within_g A3 AX rl c3 l cX R _ w10 HRL.out R_10.out (by omega) HXM.out XM_10.out (by omega) HF2.out).mono ?_
        rintro e w11 ⟨rfl, hb⟩
        have P_11 := Lib.hid (P_10.out.step hb)
        clear P_10
        have B_11 := Lib.hid (B_10.out.trans (hb.mono B_10.out.size))
        clear B_10
        have F_11 := Lib.hid (F_10.out.step hb)
        clear F_10
        have R_11 := Lib.hid (R_10.out.step hb)
        clear R_10
        have M_11 := Lib.hid (M_10.out.step hb)
        clear M_10
        have X_11 := Lib.hid (X_10.out.step hb)
        clear X_10
        have BK_11 := Lib.hid (BK_10.out.trans (hb.mono BK_10.out.size))
        clear BK_10
        have XM_11 := Lib.hid (XM_10.out.step hb)
        clear XM_10
        clear hb
        clear q0
        obtain ⟨b3, off3, rfl, hb3, e3⟩ := R_11.out (by have := HRL.out; omega)
        have x3 := e3 (rl - 1) (by have := HRL.out; omega)
        rw [HF4.out] at x3
        clear e3
        have hrl0 : (0 : Int) < (rl : Int) := by omega
        have hwl : IntKind.i64.wrap ((rl : Int) - 1) = ((rl - 1 : Nat) : Int) := by rw [IntKind.wrap_i64]; omega
        have hrl1 : rl - 1 < rl := by omega
        go_wp2
        go_ret
        exact ⟨ret_b (by simp), B_11.out⟩
end Go.Proofs.Ytdhjflhpenkchaa
