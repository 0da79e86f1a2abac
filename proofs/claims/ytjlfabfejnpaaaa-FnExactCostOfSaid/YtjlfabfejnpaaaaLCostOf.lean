/- laws.FnExactCostOf returns true for all arguments, and writes nothing that was there. (Made by genlaw.py.) -/
import Derived.Test.YtjlfabfejnpaaaaS21
import Derived.Deep.RegionWith
import Derived.Test.YtjlfabfejnpaaaaK13

namespace Go.Proofs.Ytjlfabfejnpaaaa
set_option linter.unusedSimpArgs false
set_option linter.unusedVariables false
open Go.RowKit

set_option maxRecDepth 100000 in
set_option maxHeartbeats 3200000 in
theorem law_CostOf (A0 : Option Addr) (n0 c0 : Nat) (xs0 : List Int) (A1 : Option Addr) (n1 c1 : Nat) (xs1 : List Int) (w : World) (hn0 : n0 = xs0.length) (h0 : IS w w.heap.size A0 xs0) (hm0 : n0 ≤ 9223372036854775807) (hn1 : n1 = xs1.length) (h1 : IS w w.heap.size A1 xs1) (hm1 : n1 ≤ 9223372036854775807) :
    Calls Try.prog 10 #[.slice A0 n0 c0, .slice A1 n1 c1] w fun e w' => e = .returned (.bool true) ∧ Below w.heap.size w w' := by
  by_cases hs0 : 1048576 < n0
  · clear hn0 h0 hn1 h1
    go_enter Try.func10, Try.ntmps10
    go_wp2
    go_ret
    exact ⟨rfl, Below.refl _ _⟩
  by_cases hs1 : 1048576 < n1
  · clear hn0 h0 hn1 h1
    go_enter Try.func10, Try.ntmps10
    go_wp2
    go_ret
    exact ⟨rfl, Below.refl _ _⟩
  obtain ⟨l0, hl0⟩ : ∃ l0 : Int, l0 = 1048576 := ⟨_, rfl⟩
  have HSP := Lib.hid (top_spec_CostOf xs0 xs1 (by omega) (by omega))
  have HIM := Lib.hid (top_impl_CostOf xs0 xs1 (by omega) (by omega))
  generalize costF xs0 xs1 = F0 at *
  have hf0 : (F0 != F0) = false := by simp
  have HN0 := Lib.hid hn0
  have hx0 : decide (xs0 = xs0) = true := by simp
  have hnb0 : n0 ≤ 1048576 := by omega
  have HN1 := Lib.hid hn1
  have hx1 : decide (xs1 = xs1) = true := by simp
  have hnb1 : n1 ≤ 1048576 := by omega
  have S_0 : Hid (As 0 w.heap.size (fun wk => IS wk w.heap.size A0 xs0 ∧ IS wk w.heap.size A1 xs1) w) := ⟨⟨h0, h1⟩, Nat.le_refl _, ((IS.loc _ _ _).and (IS.loc _ _ _))⟩
  have Bl_0 : Hid (Bl w w) := Bl.refl w
  have HLS := Lib.hid hl0
  subst hl0
  clear HLS hn0 h0 hn1 h1
  go_enter Try.func10, Try.ntmps10
  go_wp2_with fail
  refine (laws_toIntS A0 n0 c0 xs0 _ w.heap.size Bl_0.out.le HN0.out S_0.out.it.1 (by omega)).mono ?_
  rintro e w1 ⟨rfl, hown, hb⟩
  try simp only [World.size_alloc] at hown
  have hs_1 : w.heap.size ≤ w1.heap.size := by have := hb.size; (try simp only [World.size_alloc] at this); omega
  have S_1 := Lib.hid (S_0.out.step hb)
  clear S_0
  have Bl_1 := Lib.hid (Bl_0.out.step hb)
  clear Bl_0
  have X0_1 := Lib.hid (row_start hown)
  clear hown hb
  go_wp2_with fail
  refine (laws_toIntS A1 n1 c1 xs1 _ w.heap.size Bl_1.out.le HN1.out S_1.out.it.2 (by omega)).mono ?_
  rintro e w2 ⟨rfl, hown, hb⟩
  try simp only [World.size_alloc] at hown
  have hs_2 : w1.heap.size ≤ w2.heap.size := by have := hb.size; (try simp only [World.size_alloc] at this); omega
  have S_2 := Lib.hid (S_1.out.step hb)
  clear S_1
  have Bl_2 := Lib.hid (Bl_1.out.step hb)
  clear Bl_1
  have X0_2 := Lib.hid (X0_1.out.step hb)
  clear X0_1
  have X1_2 := Lib.hid (row_start hown)
  clear hown hb
  go_wp2_with fail
  refine (HSP.out _ n0 _ _ n1 _ _ HN0.out (Nat.le_refl _) X0_2.out.ints HN1.out (Nat.le_refl _) X1_2.out.ints).mono ?_
  rintro e w3 ⟨rfl, hb⟩
  clear X0_2
  clear X1_2
  have hs_3 : w2.heap.size ≤ w3.heap.size := by have := hb.size; (try simp only [World.size_alloc] at this); omega
  have S_3 := Lib.hid (S_2.out.step hb)
  clear S_2
  have Bl_3 := Lib.hid (Bl_2.out.step hb)
  clear Bl_2
  clear hb
  go_wp2_with fail
  refine (laws_toIntS A0 n0 c0 xs0 _ w.heap.size Bl_3.out.le HN0.out S_3.out.it.1 (by omega)).mono ?_
  rintro e w4 ⟨rfl, hown, hb⟩
  try simp only [World.size_alloc] at hown
  have hs_4 : w3.heap.size ≤ w4.heap.size := by have := hb.size; (try simp only [World.size_alloc] at this); omega
  have S_4 := Lib.hid (S_3.out.step hb)
  clear S_3
  have Bl_4 := Lib.hid (Bl_3.out.step hb)
  clear Bl_3
  have X0_4 := Lib.hid (row_start hown)
  clear hown hb
  go_wp2_with fail
  refine (laws_toIntS A1 n1 c1 xs1 _ w.heap.size Bl_4.out.le HN1.out S_4.out.it.2 (by omega)).mono ?_
  rintro e w5 ⟨rfl, hown, hb⟩
  try simp only [World.size_alloc] at hown
  have hs_5 : w4.heap.size ≤ w5.heap.size := by have := hb.size; (try simp only [World.size_alloc] at this); omega
  have S_5 := Lib.hid (S_4.out.step hb)
  clear S_4
  have Bl_5 := Lib.hid (Bl_4.out.step hb)
  clear Bl_4
  have X0_5 := Lib.hid (X0_4.out.step hb)
  clear X0_4
  have X1_5 := Lib.hid (row_start hown)
  clear hown hb
  go_wp2_with fail
  refine (HIM.out _ n0 _ _ n1 _ _ HN0.out (Nat.le_refl _) X0_5.out.ints HN1.out (Nat.le_refl _) X1_5.out.ints).mono ?_
  rintro e w6 ⟨rfl, hb⟩
  have hs_6 : w5.heap.size ≤ w6.heap.size := by have := hb.size; (try simp only [World.size_alloc] at this); omega
  have S_6 := Lib.hid (S_5.out.step hb)
  clear S_5
  have Bl_6 := Lib.hid (Bl_5.out.step hb)
  clear Bl_5
  have X0_6 := Lib.hid (X0_5.out.step hb)
  clear X0_5
  have X1_6 := Lib.hid (X1_5.out.step hb)
  clear X1_5
  clear hb
  go_wp2_with fail
  refine (laws_toIntS A0 n0 c0 xs0 _ w.heap.size Bl_6.out.le HN0.out S_6.out.it.1 (by omega)).mono ?_
  rintro e w7 ⟨rfl, hown, hb⟩
  have Z := Lib.hid (IS.of_own hown)
  have S_7 := Lib.hid (S_6.out.step hb)
  clear S_6
  have Bl_7 := Lib.hid (Bl_6.out.step hb)
  clear Bl_6
  have X0_7 := Lib.hid (X0_6.out.step hb)
  clear X0_6
  have X1_7 := Lib.hid (X1_6.out.step hb)
  clear X1_6
  clear hown hb
  go_wp2_with fail
  refine (laws_eqIntS _ _ n0 n0 _ _ xs0 xs0 _ w7.heap.size (Nat.le_refl _) HN0.out HN0.out X0_7.out.ints Z.out (by omega) (by omega)).mono ?_
  rintro e w8 ⟨rfl, hb⟩
  have S_8 := Lib.hid (S_7.out.step hb)
  clear S_7
  have Bl_8 := Lib.hid (Bl_7.out.step hb)
  clear Bl_7
  have X0_8 := Lib.hid (X0_7.out.step hb)
  clear X0_7
  have X1_8 := Lib.hid (X1_7.out.step hb)
  clear X1_7
  clear hb Z
  go_wp2_with fail
  refine (laws_toIntS A1 n1 c1 xs1 _ w.heap.size Bl_8.out.le HN1.out S_8.out.it.2 (by omega)).mono ?_
  rintro e w9 ⟨rfl, hown, hb⟩
  have Z := Lib.hid (IS.of_own hown)
  have S_9 := Lib.hid (S_8.out.step hb)
  clear S_8
  have Bl_9 := Lib.hid (Bl_8.out.step hb)
  clear Bl_8
  have X0_9 := Lib.hid (X0_8.out.step hb)
  clear X0_8
  have X1_9 := Lib.hid (X1_8.out.step hb)
  clear X1_8
  clear hown hb
  go_wp2_with fail
  refine (laws_eqIntS _ _ n1 n1 _ _ xs1 xs1 _ w9.heap.size (Nat.le_refl _) HN1.out HN1.out X1_9.out.ints Z.out (by omega) (by omega)).mono ?_
  rintro e w10 ⟨rfl, hb⟩
  have S_10 := Lib.hid (S_9.out.step hb)
  clear S_9
  have Bl_10 := Lib.hid (Bl_9.out.step hb)
  clear Bl_9
  have X0_10 := Lib.hid (X0_9.out.step hb)
  clear X0_9
  have X1_10 := Lib.hid (X1_9.out.step hb)
  clear X1_9
  clear hb Z
  go_wp2
  go_ret
  exact ⟨rfl, Bl_10.out⟩
end Go.Proofs.Ytjlfabfejnpaaaa
