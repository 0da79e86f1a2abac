/- laws.FnNewOwners returns true for all bytes, and writes nothing that was there. -/
import Derived.Test.YtgjodcddkmjboaaR20

namespace Go.Proofs.Ytgjodcddkmjboaa
set_option linter.unusedSimpArgs false
set_option linter.unusedVariables false
open Go.RowKit

theorem own_ncapO {lo hi n c : Nat} {A : Option Addr} {ds : List On} {w : World} (h : OwO lo hi (.slice A n c) n ds w) : n ≤ c := by
  obtain ⟨_, xs, us, h1, _⟩ := h
  rcases h1.1.2 with ⟨hv, hz⟩ | ⟨g, cap, cur, hv, _, _, h2, _⟩
  · omega
  · simp only [Value.slice.injEq] at hv
    obtain ⟨_, _, rfl⟩ := hv
    exact h2

set_option maxRecDepth 100000 in
set_option maxHeartbeats 6400000 in
theorem plaw_NewOwners (A : Option Addr) (n c : Nat) (bs : List Int) (w : World) (hn : n = bs.length) (hnc : n ≤ c) (h : BS w w.heap.size A bs) (hy : BY bs) (hm : n ≤ 9223372036854775807) :
    Calls Try.prog 3 #[.slice A n c] w fun e w' => e = .returned (.bool true) ∧ Below w.heap.size w w' := by
  by_cases hs : 1048576 < n
  · clear hn hnc h hy
    go_enter Try.func3, Try.ntmps3
    go_wp2
    go_ret
    exact ⟨rfl, Below.refl _ _⟩
  have HC := Lib.hid (spec_DrawNewOwners A n c bs w w.heap.size (Nat.le_refl _) hn hnc h hy (by omega))
  clear hn hnc h hy
  go_enter Try.func3, Try.ntmps3
  go_wp2_with fail
  refine HC.out.mono ?_
  rintro e w1 ⟨A1, n1, c1, xs, rfl, hn1, hn3, hI, hb⟩
  have HN1 := Lib.hid hn1
  have HIM := Lib.hid fun (w' : World) (h : IS w' w'.heap.size A1 xs) => top_impl_NewOwners xs (by omega) A1 n1 c1 w' hn1 h
  have HSP := Lib.hid fun (w' : World) (h : IS w' w'.heap.size A1 xs) => top_spec_NewOwners xs (by omega) A1 n1 c1 w' hn1 h
  have HOB := Lib.hid (newF_OB xs)
  have I_1 := Lib.hid hI
  have B_1 := Lib.hid hb
  clear hI hb HC hn1
  go_wp2_with fail
  refine (HIM.out w1 I_1.out).mono ?_
  rintro e w2 ⟨v2, rfl, ho, hb⟩
  obtain ⟨A2, c2, rfl⟩ := ho.form
  have hcap := own_ncapO ho
  have O_2 := Lib.hid (show OS w2 w2.heap.size A2 (newF xs) from ho.owners)
  have I_2 := Lib.hid (I_1.out.below hb (Nat.le_refl _) |>.more hb.size)
  have B_2 := Lib.hid (B_1.out.trans (hb.mono B_1.out.size))
  obtain ⟨m, hm'⟩ : ∃ m : Nat, m = (newF xs).length := ⟨_, rfl⟩
  rw [← hm'] at hcap
  have HM := Lib.hid hm'
  rw [← hm']
  clear ho hb I_1 B_1 HIM
  go_wp2_with fail
  refine (HSP.out w2 I_2.out).mono ?_
  rintro e w3 ⟨v3, rfl, ho, hb⟩
  obtain ⟨A3, c3, rfl⟩ := ho.form
  rw [← hm']
  have O_3 := Lib.hid (O_2.out.step hb)
  have Q_3 := Lib.hid (show OS w3 w3.heap.size A3 (newF xs) from ho.owners)
  have I_3 := Lib.hid (I_2.out.below hb (Nat.le_refl _) |>.more hb.size)
  have B_3 := Lib.hid (B_2.out.trans (hb.mono B_2.out.size))
  clear ho hb O_2 I_2 B_2 hm'
  go_wp2_with fail
  refine (laws_equalOwners A2 A3 m c2 c3 (newF xs) w3 w3.heap.size (Nat.le_refl _) HM.out O_3.out Q_3.out HOB.out).mono ?_
  rintro e w4 ⟨rfl, hb⟩
  have O_4 := Lib.hid (O_3.out.step hb)
  have I_4 := Lib.hid (I_3.out.below hb (Nat.le_refl _) |>.more hb.size)
  have B_4 := Lib.hid (B_3.out.trans (hb.mono B_3.out.size))
  clear hb O_3 Q_3 I_3 B_3
  cases hx : ctxOK xs
  · have hm0 : m = 0 := by rw [HM.out]; unfold newF; rw [hx]; rfl
    have hz : ((m : Int) == 0) = true := by simp [hm0]
    have HM0 := Lib.hid hm0
    clear hm0 hx
    go_wp2_with fail
    refine (HSP.out w4 I_4.out).mono ?_
    rintro e w5 ⟨v5, rfl, ho, hb⟩
    obtain ⟨A5, c5, rfl⟩ := ho.form
    rw [← HM.out]
    have O_5 := Lib.hid (O_4.out.step hb)
    have Q_5 := Lib.hid (show OS w5 w5.heap.size A5 (newF xs) from ho.owners)
    have B_5 := Lib.hid (B_4.out.trans (hb.mono B_4.out.size))
    clear ho hb O_4 I_4 B_4
    go_wp2_with fail
    refine (laws_equalOwners A2 A5 m c2 c5 (newF xs) w5 w5.heap.size (Nat.le_refl _) HM.out O_5.out Q_5.out HOB.out).mono ?_
    rintro e w6 ⟨rfl, hb⟩
    have B_6 := Lib.hid (B_5.out.trans (hb.mono B_5.out.size))
    clear hb O_5 Q_5 B_5
    go_wp2
    go_ret
    exact ⟨rfl, B_6.out⟩
  have hm1 : m = 1 := by rw [HM.out, newF_ok hx]; rfl
  have hz : ((m : Int) == 0) = false := by simp [hm1]
  have hn13 : n1 = 3 := by have := ctxOK_len hx; have := HN1.out; omega
  have HN13 := Lib.hid hn13
  have HLK := Lib.hid fun (k : Nat) (w' : World) (h : OS w' w'.heap.size A2 (newF xs)) => top_impl_LookUp (newF xs) 0 k HOB.out A2 m c2 w' HM.out hcap h
  have HVO := Lib.hid fun (w' : World) (h : OS w' w'.heap.size A2 (newF xs)) => top_impl_ValidOwners (newF xs) HOB.out A2 m c2 w' HM.out hcap h
  have HLO := Lib.hid fun (w' : World) (h : OS w' w'.heap.size A2 (newF xs)) => top_impl_LiveOf (newF xs) HOB.out A2 m c2 w' HM.out hcap h
  have HNL := Lib.hid fun k hk => new_look hx k hk
  have hnv := new_valid hx
  have hnl := new_live hx
  rw [hnv] at HVO
  rw [hnl] at HLO
  clear hx hnv hnl hm1 HSP
  go_wp2
  go_loopw [5, 6, 7] (fun i x y wr => ∃ k : Nat, k ≤ n1 ∧ i = .int .i64 k ∧ Hid (Below w4.heap.size w4 wr)) (fun i _ _ _ => n1 - (intOf i).toNat)
  case atStart => exact ⟨0, Nat.zero_le _, rfl, Below.refl _ _⟩
  case round =>
    obtain ⟨k, hk, rfl, HB⟩ := hrel
    have OW := Lib.hid (O_4.out.step HB.out)
    have IW := Lib.hid (I_4.out.below HB.out (Nat.le_refl _) |>.more HB.out.size)
    have BW := Lib.hid (B_4.out.trans (HB.out.mono B_4.out.size))
    by_cases hlt : k < n1
    · have hk3 : k < 3 := by have := HN13.out; omega
      have HL := Lib.hid (HLK.out k wr OW.out)
      have hlk := HNL.out k hk3
      rw [hlk] at HL
      obtain ⟨b, off, rfl, hbB, hc⟩ := IW.out (by have := HN1.out; omega)
      have c0 := hc k (by have := HN1.out; omega)
      generalize xs.getD k 0 = x at *
      clear hc hlk IW
      by_cases hx0 : 0 ≤ x
      · rw [if_pos hx0] at HL
        simp only [Option.getD_some, Option.isSome_some] at HL
        have hxx : (x != x) = false := by simp
        go_wp2_with fail
        refine HL.out.mono ?_
        rintro e w6 ⟨rfl, hb6⟩
        have d0 := (hb6.cell (p := ⟨b, off + k, none⟩) hbB).trans c0
        have HB6 := Lib.hid (HB.out.trans (hb6.mono HB.out.size))
        clear hb6 c0
        go_wp2
        go_roundw
        case rel => exact ⟨k + 1, by omega, by go_num, HB6.out⟩
        case measure => simp [intOf]; omega
      · rw [if_neg hx0] at HL
        simp only [Option.getD_none, Option.isSome_none] at HL
        go_wp2_with fail
        refine HL.out.mono ?_
        rintro e w6 ⟨rfl, hb6⟩
        have d0 := (hb6.cell (p := ⟨b, off + k, none⟩) hbB).trans c0
        have HB6 := Lib.hid (HB.out.trans (hb6.mono HB.out.size))
        clear hb6 c0
        go_wp2
        go_roundw
        case rel => exact ⟨k + 1, by omega, by go_num, HB6.out⟩
        case measure => simp [intOf]; omega
    · go_wp2_with fail
      refine (HVO.out wr OW.out).mono ?_
      rintro e w6 ⟨rfl, hb⟩
      have O_6 := Lib.hid (OW.out.step hb)
      have B_6 := Lib.hid (BW.out.trans (hb.mono BW.out.size))
      clear hb
      go_wp2_with fail
      refine (HLO.out w6 O_6.out).mono ?_
      rintro e w7 ⟨v7, rfl, ho, hb⟩
      obtain ⟨A7, c7, rfl, hI7⟩ := OwnI.form ho
      have B_7 := Lib.hid (B_6.out.trans (hb.mono B_6.out.size))
      have hl1 : ([0] : List Int).length = 1 := rfl
      rw [hl1]
      obtain ⟨w8, hw8⟩ : ∃ W : World, W = w7.alloc (.cells #[.int .i64 0] 3) := ⟨_, rfl⟩
      have hb8 : Below w7.heap.size w7 w8 := by rw [hw8]; exact (Below.refl _ _).alloc (Nat.le_refl _) _
      have I_8 := Lib.hid (hI7.below hb8 (Nat.le_refl _) |>.more hb8.size)
      have J_8 : Hid (IS w8 w8.heap.size (some ⟨w7.heap.size, 0, none⟩) [0]) := by
        rw [hw8]
        intro _
        refine ⟨w7.heap.size, 0, rfl, by simp, fun j hj => ?_⟩
        match j, hj with
        | 0, _ => go_simp
      have B_8 := Lib.hid (B_7.out.trans (hb8.mono B_7.out.size))
      clear ho hb hI7 hb8 B_7 hl1
      go_wp2_with fail
      rw [← hw8]
      clear hw8
      refine (laws_equalInts A7 (some ⟨w7.heap.size, 0, none⟩) 1 1 c7 1 [0] [0] w8 w8.heap.size (Nat.le_refl _) rfl rfl I_8.out J_8.out (by omega) (by omega)).mono ?_
      rintro e w9 ⟨rfl, hb⟩
      have B_9 := Lib.hid (B_8.out.trans (hb.mono B_8.out.size))
      clear hb
      go_wp2
      go_ret
      exact ⟨ret_b (by simp), B_9.out⟩
end Go.Proofs.Ytgjodcddkmjboaa
