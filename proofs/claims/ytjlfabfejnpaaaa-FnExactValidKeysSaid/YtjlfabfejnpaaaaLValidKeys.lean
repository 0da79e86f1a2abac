/- laws.FnExactValidKeys returns true for all arguments, and writes nothing that was there. (Made by genlaw.py.) -/
import Derived.Test.YtjlfabfejnpaaaaS1
import Derived.Deep.RegionWith
import Derived.Test.YtjlfabfejnpaaaaK1

namespace Go.Proofs.Ytjlfabfejnpaaaa
set_option linter.unusedSimpArgs false
set_option linter.unusedVariables false
open Go.RowKit

set_option maxRecDepth 100000 in
set_option maxHeartbeats 3200000 in
theorem law_ValidKeys (A0 : Option Addr) (n0 c0 : Nat) (xs0 : List Int) (w : World) (hn0 : n0 = xs0.length) (h0 : IS w w.heap.size A0 xs0) (hm0 : n0 ≤ 9223372036854775807) :
    Calls Try.prog 3 #[.slice A0 n0 c0] w fun e w' => e = .returned (.bool true) ∧ Below w.heap.size w w' := by
  by_cases hs0 : 1048576 < n0
  · clear hn0 h0
    go_enter Try.func3, Try.ntmps3
    go_wp2
    go_ret
    exact ⟨rfl, Below.refl _ _⟩
  obtain ⟨l0, hl0⟩ : ∃ l0 : Int, l0 = 1048576 := ⟨_, rfl⟩
  have HSP := Lib.hid (top_spec_ValidKeys xs0 (by omega))
  have HIM := Lib.hid (top_impl_ValidKeys xs0 (by omega))
  generalize validK xs0 = F0 at *
  have hf0 : (F0 != F0) = false := by simp
  have HN0 := Lib.hid hn0
  have hx0 : decide (xs0 = xs0) = true := by simp
  have hnb0 : n0 ≤ 1048576 := by omega
  have S_0 : Hid (As 0 w.heap.size (fun wk => IS wk w.heap.size A0 xs0) w) := ⟨h0, Nat.le_refl _, (IS.loc _ _ _)⟩
  have Bl_0 : Hid (Bl w w) := Bl.refl w
  have HLS := Lib.hid hl0
  subst hl0
  clear HLS hn0 h0
  go_enter Try.func3, Try.ntmps3
  go_wp2_with fail
  refine (laws_toIntS A0 n0 c0 xs0 _ w.heap.size Bl_0.out.le HN0.out S_0.out.it (by omega)).mono ?_
  rintro e w1 ⟨rfl, hown, hb⟩
  try simp only [World.size_alloc] at hown
  have hs_1 : w.heap.size ≤ w1.heap.size := by have := hb.size; (try simp only [World.size_alloc] at this); omega
  have S_1 := Lib.hid (S_0.out.step hb)
  clear S_0
  have Bl_1 := Lib.hid (Bl_0.out.step hb)
  clear Bl_0
  have X0_1 := Lib.hid (row_start hown)
  clear hown hb
  go_wp2_with fail
  refine (HSP.out _ n0 _ _ HN0.out (Nat.le_refl _) X0_1.out.ints).mono ?_
  rintro e w2 ⟨rfl, hb⟩
  clear X0_1
  have hs_2 : w1.heap.size ≤ w2.heap.size := by have := hb.size; (try simp only [World.size_alloc] at this); omega
  have S_2 := Lib.hid (S_1.out.step hb)
  clear S_1
  have Bl_2 := Lib.hid (Bl_1.out.step hb)
  clear Bl_1
  clear hb
  go_wp2_with fail
  refine (laws_toIntS A0 n0 c0 xs0 _ w.heap.size Bl_2.out.le HN0.out S_2.out.it (by omega)).mono ?_
  rintro e w3 ⟨rfl, hown, hb⟩
  try simp only [World.size_alloc] at hown
  have hs_3 : w2.heap.size ≤ w3.heap.size := by have := hb.size; (try simp only [World.size_alloc] at this); omega
  have S_3 := Lib.hid (S_2.out.step hb)
  clear S_2
  have Bl_3 := Lib.hid (Bl_2.out.step hb)
  clear Bl_2
  have X0_3 := Lib.hid (row_start hown)
  clear hown hb
  go_wp2_with fail
  refine (HIM.out _ n0 _ _ HN0.out (Nat.le_refl _) X0_3.out.ints).mono ?_
  rintro e w4 ⟨rfl, hb⟩
  have hs_4 : w3.heap.size ≤ w4.heap.size := by have := hb.size; (try simp only [World.size_alloc] at this); omega
  have S_4 := Lib.hid (S_3.out.step hb)
  clear S_3
  have Bl_4 := Lib.hid (Bl_3.out.step hb)
  clear Bl_3
  have X0_4 := Lib.hid (X0_3.out.step hb)
  clear X0_3
  clear hb
  go_wp2_with fail
  refine (laws_toIntS A0 n0 c0 xs0 _ w.heap.size Bl_4.out.le HN0.out S_4.out.it (by omega)).mono ?_
  rintro e w5 ⟨rfl, hown, hb⟩
  have Z := Lib.hid (IS.of_own hown)
  have S_5 := Lib.hid (S_4.out.step hb)
  clear S_4
  have Bl_5 := Lib.hid (Bl_4.out.step hb)
  clear Bl_4
  have X0_5 := Lib.hid (X0_4.out.step hb)
  clear X0_4
  clear hown hb
  go_wp2_with fail
  refine (laws_eqIntS _ _ n0 n0 _ _ xs0 xs0 _ w5.heap.size (Nat.le_refl _) HN0.out HN0.out X0_5.out.ints Z.out (by omega) (by omega)).mono ?_
  rintro e w6 ⟨rfl, hb⟩
  have S_6 := Lib.hid (S_5.out.step hb)
  clear S_5
  have Bl_6 := Lib.hid (Bl_5.out.step hb)
  clear Bl_5
  have X0_6 := Lib.hid (X0_5.out.step hb)
  clear X0_5
  clear hb Z
  go_wp2
  go_ret
  exact ⟨rfl, Bl_6.out⟩
end Go.Proofs.Ytjlfabfejnpaaaa
