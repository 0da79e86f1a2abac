/- laws.FnExactValidOwners returns true for all arguments, and writes nothing that was there. (Made by genlaw.py.) -/
import Derived.Test.YtdcfmoaomlfijaaS3
import Derived.Deep.RegionWith
import Derived.Test.YtdcfmoaomlfijaaV4
import Derived.Test.YtdcfmoaomlfijaaV8

namespace Go.Proofs.Ytdcfmoaomlfijaa
set_option linter.unusedSimpArgs false
set_option linter.unusedVariables false
open Go.RowKit

set_option maxRecDepth 100000 in
set_option maxHeartbeats 3200000 in
theorem law_ValidOwners (A0 : Option Addr) (n0 c0 : Nat) (ds0 : List On) (w : World) (hn0 : n0 = ds0.length) (h0 : OS w w.heap.size A0 ds0) (hm0 : n0 ≤ 9223372036854775807) (hp0 : ∀ j, (ds0.getD j default).cl.length ≤ 9223372036854775807 ∧ (ds0.getD j default).cx.length ≤ 9223372036854775807) :
    Calls Try.prog 3 #[.slice A0 n0 c0] w fun e w' => e = .returned (.bool true) ∧ Below w.heap.size w w' := by
  obtain ⟨l0, hl0⟩ : ∃ l0 : Int, l0 = 1048576 := ⟨_, rfl⟩
  have HC0 := Lib.hid fun (w' : World) (hB : w.heap.size ≤ w'.heap.size) (h : OS w' w.heap.size A0 ds0) => laws_szOwnerS A0 n0 c0 ds0 l0 w' w.heap.size hB hn0 h (by omega) (by omega) hm0 hp0
  by_cases hz0 : ((osz ds0 : Nat) : Int) ≤ l0
  case neg =>
    rw [leftOf_no hz0] at HC0
    subst hl0
    have S_0 : Hid (As 0 w.heap.size (fun wk => OS wk w.heap.size A0 ds0) w) := ⟨h0, Nat.le_refl _, (OS.loc _ _ _)⟩
    have Bl_0 : Hid (Bl w w) := Bl.refl w
    clear hn0 h0 hp0 hz0
    go_enter Try.func3, Try.ntmps3
    go_wp2_with fail
    refine (HC0.out _ Bl_0.out.le S_0.out.it).mono ?_
    rintro e w1 ⟨rfl, hb⟩
    have S_1 := Lib.hid (S_0.out.step hb)
    clear S_0
    have Bl_1 := Lib.hid (Bl_0.out.step hb)
    clear Bl_0
    clear  hb
    go_wp2
    go_ret
    exact ⟨rfl, Bl_1.out⟩
  rw [leftOf_ok hz0] at HC0
  obtain ⟨l1, hl1⟩ : ∃ l1 : Int, l1 = l0 - ((osz ds0 : Nat) : Int) := ⟨_, rfl⟩
  rw [← hl1] at HC0
  have hge1 : 0 ≤ l1 := by omega
  have hle1 : l1 ≤ 1048576 := by omega
  have hG0 : OB ds0 := OB.of_osz (by omega)
  have HSP := Lib.hid (top_spec_ValidOwners ds0 hG0)
  have HIM := Lib.hid (top_impl_ValidOwners ds0 hG0)
  generalize validO ds0 = F0 at *
  have hf0 : (F0 != F0) = false := by simp
  have HN0 := Lib.hid hn0
  have HG0 := Lib.hid hG0
  have hx0 : decide (ds0 = ds0) = true := by simp
  have hnb0 : n0 ≤ 1048576 := by rw [hn0]; exact hG0.1
  have S_0 : Hid (As 0 w.heap.size (fun wk => OS wk w.heap.size A0 ds0) w) := ⟨h0, Nat.le_refl _, (OS.loc _ _ _)⟩
  have Bl_0 : Hid (Bl w w) := Bl.refl w
  have HLS := Lib.hid hl0
  subst hl0
  clear HLS hn0 h0 hp0 hl1 hz0 hG0
  go_enter Try.func3, Try.ntmps3
  go_wp2_with fail
  refine (HC0.out _ Bl_0.out.le S_0.out.it).mono ?_
  rintro e w1 ⟨rfl, hb⟩
  have hs_1 : w.heap.size ≤ w1.heap.size := by have := hb.size; (try simp only [World.size_alloc] at this); omega
  have S_1 := Lib.hid (S_0.out.step hb)
  clear S_0
  have Bl_1 := Lib.hid (Bl_0.out.step hb)
  clear Bl_0
  clear  hb
  go_wp2_with fail
  refine (laws_toOwnerS A0 n0 c0 ds0 _ w.heap.size Bl_1.out.le HN0.out S_1.out.it HG0.out).mono ?_
  rintro e w2 ⟨rfl, hown, hb⟩
  try simp only [World.size_alloc] at hown
  have hs_2 : w1.heap.size ≤ w2.heap.size := by have := hb.size; (try simp only [World.size_alloc] at this); omega
  have S_2 := Lib.hid (S_1.out.step hb)
  clear S_1
  have Bl_2 := Lib.hid (Bl_1.out.step hb)
  clear Bl_1
  have X0_2 := Lib.hid (owners_start hown)
  clear hown hb
  go_wp2_with fail
  refine (HSP.out (some ⟨w1.heap.size, 0, none⟩) n0 n0 _ HN0.out (Nat.le_refl _) X0_2.out.owners).mono ?_
  rintro e w3 ⟨rfl, hb⟩
  clear X0_2
  have hs_3 : w2.heap.size ≤ w3.heap.size := by have := hb.size; (try simp only [World.size_alloc] at this); omega
  have S_3 := Lib.hid (S_2.out.step hb)
  clear S_2
  have Bl_3 := Lib.hid (Bl_2.out.step hb)
  clear Bl_2
  clear hb
  go_wp2_with fail
  refine (laws_toOwnerS A0 n0 c0 ds0 _ w.heap.size Bl_3.out.le HN0.out S_3.out.it HG0.out).mono ?_
  rintro e w4 ⟨rfl, hown, hb⟩
  try simp only [World.size_alloc] at hown
  have hs_4 : w3.heap.size ≤ w4.heap.size := by have := hb.size; (try simp only [World.size_alloc] at this); omega
  have S_4 := Lib.hid (S_3.out.step hb)
  clear S_3
  have Bl_4 := Lib.hid (Bl_3.out.step hb)
  clear Bl_3
  have X0_4 := Lib.hid (owners_start hown)
  clear hown hb
  go_wp2_with fail
  refine (HIM.out (some ⟨w3.heap.size, 0, none⟩) n0 n0 _ HN0.out (Nat.le_refl _) X0_4.out.owners).mono ?_
  rintro e w5 ⟨rfl, hb⟩
  have hs_5 : w4.heap.size ≤ w5.heap.size := by have := hb.size; (try simp only [World.size_alloc] at this); omega
  have S_5 := Lib.hid (S_4.out.step hb)
  clear S_4
  have Bl_5 := Lib.hid (Bl_4.out.step hb)
  clear Bl_4
  have X0_5 := Lib.hid (X0_4.out.step hb)
  clear X0_4
  clear hb
  go_wp2_with fail
  refine (laws_toOwnerS A0 n0 c0 ds0 _ w.heap.size Bl_5.out.le HN0.out S_5.out.it HG0.out).mono ?_
  rintro e w6 ⟨rfl, hown, hb⟩
  have Z := Lib.hid (OwO.owners hown)
  have S_6 := Lib.hid (S_5.out.step hb)
  clear S_5
  have Bl_6 := Lib.hid (Bl_5.out.step hb)
  clear Bl_5
  have X0_6 := Lib.hid (X0_5.out.step hb)
  clear X0_5
  clear hown hb
  go_wp2_with fail
  refine (laws_eqOwnerS _ _ n0 n0 _ _ ds0 ds0 _ w6.heap.size (Nat.le_refl _) HN0.out HN0.out X0_6.out.owners Z.out HG0.out HG0.out).mono ?_
  rintro e w7 ⟨rfl, hb⟩
  have S_7 := Lib.hid (S_6.out.step hb)
  clear S_6
  have Bl_7 := Lib.hid (Bl_6.out.step hb)
  clear Bl_6
  have X0_7 := Lib.hid (X0_6.out.step hb)
  clear X0_6
  clear hb Z
  go_wp2
  go_ret
  exact ⟨rfl, Bl_7.out⟩
end Go.Proofs.Ytdcfmoaomlfijaa
