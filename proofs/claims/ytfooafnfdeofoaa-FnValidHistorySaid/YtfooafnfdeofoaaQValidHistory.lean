/- laws.FnValidHistory returns true for all bytes, and writes nothing that was there. (Made by genpl.py.) -/
import Derived.Test.YtfooafnfdeofoaaH6
import Derived.Test.YtfooafnfdeofoaaR17

namespace Go.Proofs.Ytfooafnfdeofoaa
set_option linter.unusedSimpArgs false
set_option linter.unusedVariables false
open Go.RowKit

set_option maxRecDepth 100000 in
set_option maxHeartbeats 6400000 in
theorem plaw_ValidHistory (A : Option Addr) (n c : Nat) (bs : List Int) (w : World) (hn : n = bs.length) (hnc : n ≤ c) (h : BS w w.heap.size A bs) (hy : BY bs) (hm : n ≤ 9223372036854775807) :
    Calls Try.prog 3 #[.slice A n c] w fun e w' => e = .returned (.bool true) ∧ Below w.heap.size w w' := by
  by_cases hs : 1048576 < n
  · clear hn hnc h hy
    go_enter Try.func3, Try.ntmps3
    go_wp2
    go_ret
    exact ⟨rfl, Below.refl _ _⟩
  have HC := Lib.hid (spec_DrawValidHistory A n c bs w hn hnc h hy (by omega))
  clear hn hnc h hy
  go_enter Try.func3, Try.ntmps3
  go_wp2_with fail
  refine HC.out.mono ?_
  rintro e w1 ⟨A1, n1, c1, gs, E1, l1, d1, ss, y, rfl, ⟨hp1, hp2, hp3, hnc1, hsm, hl, hl1, hl2, hld, hx, hy1, hy2, hP, hS, hb⟩⟩
  have HN1 := Lib.hid hp1
  have HG := Lib.hid (GB.of_drawnH (by omega) hsm)
  have HL1 := Lib.hid hl
  have HX := Lib.hid hx
  have HIB := Lib.hid (HiB.of_drawn y (by omega) hx)
  have P_1 := Lib.hid (hP)
  have S_1 := Lib.hid (hS)
  have B_1 := Lib.hid (hb)
  clear hP hp1 hb HC hsm hl hx hS
  go_wp2_with fail
  obtain ⟨w2, hw2⟩ : ∃ W, W = w1.alloc (.cells #[.slice A1 n1 c1] 25) := ⟨_, rfl⟩
  have hb : Below w1.heap.size w1 w2 := by rw [hw2]; exact (Below.refl _ _).alloc (Nat.le_refl _) _
  have P_2 := Lib.hid (P_1.out.step hb)
  clear P_1
  have S_2 := Lib.hid (S_1.out.step hb)
  clear S_1
  have B_2 := Lib.hid (B_1.out.trans (hb.mono B_1.out.size))
  clear B_1
  have F_2 : Hid (As w1.heap.size (w1.heap.size + 1) (fun w' => w'.cell? ⟨w1.heap.size, 0, none⟩ = some (.slice A1 n1 c1)) w2) := by rw [hw2]; exact box_new _ _ _
  clear hb
  have hsz2 : w2.heap.size = w1.heap.size + 1 := by rw [hw2]; simp
  obtain ⟨w3, hw3⟩ : ∃ W, W = w2.alloc (.cells #[.slice E1 l1 d1, .int .i64 y] 28) := ⟨_, rfl⟩
  have hb : Below w2.heap.size w2 w3 := by rw [hw3]; exact (Below.refl _ _).alloc (Nat.le_refl _) _
  have P_3 := Lib.hid (P_2.out.step hb)
  clear P_2
  have S_3 := Lib.hid (S_2.out.step hb)
  clear S_2
  have B_3 := Lib.hid (B_2.out.trans (hb.mono B_2.out.size))
  clear B_2
  have F_3 := Lib.hid (F_2.out.step hb)
  clear F_2
  have X_3 : Hid (As w2.heap.size (w2.heap.size + 1) (fun w' => w'.cell? ⟨w2.heap.size, 0, none⟩ = some (.slice E1 l1 d1) ∧ w'.cell? ⟨w2.heap.size, 1, none⟩ = some (.int .i64 y)) w3) := by rw [hw3]; exact box2_new _ _ _ _
  clear hb
  rw [hsz2] at X_3
  rw [← hw2]
  rw [← hw3]
  clear hw2 hw3 hsz2
  have HVI := Lib.hid fun (w' : World) (h : GS w' w'.heap.size A1 gs) (h' : SS w' w'.heap.size E1 ss) => top_impl_ValidHistory gs ⟨ss, y⟩ HG.out HIB.out A1 n1 c1 E1 l1 d1 w' HN1.out hnc1 h HL1.out h'
  have HVS := Lib.hid fun (w' : World) (h : GS w' w'.heap.size A1 gs) (h' : SS w' w'.heap.size E1 ss) => top_spec_ValidHistory gs ⟨ss, y⟩ HG.out HIB.out A1 n1 c1 E1 l1 d1 w' HN1.out hnc1 h HL1.out h'
  have HVK := Lib.hid fun (k : Nat) (w' : World) (h : GS w' w'.heap.size A1 gs) (h' : SS w' w'.heap.size E1 ss) => top_impl_ValidHistory gs ⟨ss, k⟩ HG.out HIB.out A1 n1 c1 E1 l1 d1 w' HN1.out hnc1 h HL1.out h'
  have HVT := Lib.hid fun (hv : validHi gs ⟨ss, y⟩ = true) (k : Nat) (hk : k < l1) => validHi_at hv k (by rw [← HL1.out]; exact hk)
  generalize validHi gs ⟨ss, y⟩ = v at *
  have qf := F_3.out.it
  obtain ⟨xf, yf⟩ := X_3.out.it
  go_wp2_with fail
  refine (HVI.out w3 P_3.out S_3.out).mono ?_
  rintro e w4 ⟨rfl, hb⟩
  have P_4 := Lib.hid (P_3.out.step hb)
  clear P_3
  have S_4 := Lib.hid (S_3.out.step hb)
  clear S_3
  have B_4 := Lib.hid (B_3.out.trans (hb.mono B_3.out.size))
  clear B_3
  have F_4 := Lib.hid (F_3.out.step hb)
  clear F_3
  have X_4 := Lib.hid (X_3.out.step hb)
  clear X_3
  clear hb qf xf yf
  have qf := F_4.out.it
  obtain ⟨xf, yf⟩ := X_4.out.it
  go_wp2_with fail
  refine (HVS.out w4 P_4.out S_4.out).mono ?_
  rintro e w5 ⟨rfl, hb⟩
  have P_5 := Lib.hid (P_4.out.step hb)
  clear P_4
  have S_5 := Lib.hid (S_4.out.step hb)
  clear S_4
  have B_5 := Lib.hid (B_4.out.trans (hb.mono B_4.out.size))
  clear B_4
  have F_5 := Lib.hid (F_4.out.step hb)
  clear F_4
  have X_5 := Lib.hid (X_4.out.step hb)
  clear X_4
  clear hb qf xf yf
  cases v
  · skip
    have qf := F_5.out.it
    obtain ⟨xf, yf⟩ := X_5.out.it
    go_wp2_with fail
    refine (HVS.out w5 P_5.out S_5.out).mono ?_
    rintro e w6 ⟨rfl, hb⟩
    have P_6 := Lib.hid (P_5.out.step hb)
    clear P_5
    have S_6 := Lib.hid (S_5.out.step hb)
    clear S_5
    have B_6 := Lib.hid (B_5.out.trans (hb.mono B_5.out.size))
    clear B_5
    have F_6 := Lib.hid (F_5.out.step hb)
    clear F_5
    have X_6 := Lib.hid (X_5.out.step hb)
    clear X_5
    clear hb qf xf yf
    go_wp2
    go_ret
    exact ⟨rfl, B_6.out⟩
  · have HVT2 := Lib.hid (HVT.out (by first | rfl | trivial))
    clear HVI HVS HVT
    go_wp2
    go_loopw [6] (fun u wr => ∃ k : Nat, k ≤ l1 ∧ u = .int .i64 k ∧ Hid (Below w5.heap.size w5 wr) ∧ w5.heap.size ≤ wr.heap.size) (fun u _ => l1 - (intOf u).toNat)
    case atStart => exact ⟨0, Nat.zero_le _, rfl, Below.refl _ _, Nat.le_refl _⟩
    case round =>
      obtain ⟨k, hk, rfl, HB, hwr⟩ := hrel
      obtain ⟨w6, hwK⟩ : ∃ W, W = wr := ⟨_, rfl⟩
      rw [← hwK]
      rw [← hwK] at HB hwr
      clear hwK
      have P_6 := Lib.hid (P_5.out.step HB.out)
      have S_6 := Lib.hid (S_5.out.step HB.out)
      have B_6 := Lib.hid (B_5.out.trans (HB.out.mono B_5.out.size))
      have F_6 := Lib.hid (F_5.out.step HB.out)
      have X_6 := Lib.hid (X_5.out.step HB.out)
      by_cases hlt : k < l1
      · have HVK2 := HVK.out k
        rw [HVT2.out k hlt] at HVK2
        have HVK3 := Lib.hid HVK2
        clear HVK2
        have qf := F_6.out.it
        obtain ⟨xf, yf⟩ := X_6.out.it
        go_wp2_with fail
        refine (HVK3.out _ ?_ ?_).mono ?_
        · exact P_6.out
        · exact S_6.out
        rintro e w9 ⟨rfl, hb9⟩
        have HB9 := Lib.hid (HB.out.trans (hb9.mono hwr))
        clear hb9 qf xf yf
        go_wp2
        go_roundw
        case rel => exact ⟨k + 1, by omega, by go_num, HB9.out, HB9.out.size⟩
        case measure => simp [intOf]; omega
      · have qf := F_6.out.it
        obtain ⟨xf, yf⟩ := X_6.out.it
        go_wp2
        go_ret
        exact ⟨rfl, B_6.out⟩
end Go.Proofs.Ytfooafnfdeofoaa
