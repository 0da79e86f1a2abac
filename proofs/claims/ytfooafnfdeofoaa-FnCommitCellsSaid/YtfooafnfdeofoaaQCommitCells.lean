/- laws.FnCommitCells returns true for all bytes, and writes nothing that was there. (Made by genpl.py.) -/
import Derived.Test.YtfooafnfdeofoaaR17
import Derived.Test.YtfooafnfdeofoaaH8
import Derived.Deep.RegionHeld3

namespace Go.Proofs.Ytfooafnfdeofoaa
set_option linter.unusedSimpArgs false
set_option linter.unusedVariables false
open Go.RowKit

theorem RetHB.parts {w w' : World} {ss : List (List Int)} {y : Int} {b : Bool} {e : Ending} (h : RetHB w ⟨ss, y⟩ b e w') : ∃ (A : Option Addr) (n c : Nat), e = .returned (.tuple #[.agg #[.slice A n c, .int .i64 y], .bool b]) ∧ n = ss.length ∧ SS w' w'.heap.size A ss ∧ Below w.heap.size w w' := by
  obtain ⟨A, n, c, rfl, ho, hb⟩ := h
  exact ⟨A, n, c, rfl, ho.1, ho.hist, hb⟩

theorem RetHIB.parts {w w' : World} {ss : List (List Int)} {y : Int} {xs : List Int} {b : Bool} {e : Ending} (h : RetHIB w ⟨ss, y⟩ xs b e w') : ∃ (A : Option Addr) (n c : Nat) (A' : Option Addr) (m' c' : Nat), e = .returned (.tuple #[.agg #[.slice A n c, .int .i64 y], .slice A' m' c', .bool b]) ∧ n = ss.length ∧ SS w' w'.heap.size A ss ∧ m' = xs.length ∧ IS w' w'.heap.size A' xs ∧ Below w.heap.size w w' := by
  obtain ⟨A, n, c, A', m', c', mid, rfl, hm, ho, hr, h1, h2, hb⟩ := h
  refine ⟨A, n, c, A', m', c', rfl, ho.1, SS.more ho.hist h2, hm, ?_, hb⟩
  exact IS.of_own hr.1
/-- A cell of a block that is there. -/
def Ce (b i : Nat) (v : Value) (w : World) : Prop := b < w.heap.size ∧ w.cell? ⟨b, i, none⟩ = some v
theorem Ce.step {b i : Nat} {v : Value} {w w' : World} (h : Ce b i v w) (hb : Below w.heap.size w w') : Ce b i v w' := ⟨Nat.lt_of_lt_of_le h.1 hb.size, (hb.cell (p := ⟨b, i, none⟩) h.1).trans h.2⟩

set_option maxRecDepth 100000 in
set_option maxHeartbeats 6400000 in
theorem plaw_CommitCells (A : Option Addr) (n c : Nat) (bs : List Int) (w : World) (hn : n = bs.length) (hnc : n ≤ c) (h : BS w w.heap.size A bs) (hy : BY bs) (hm : n ≤ 9223372036854775807) :
    Calls Try.prog 5 #[.slice A n c] w fun e w' => e = .returned (.bool true) ∧ Below w.heap.size w w' := by
  by_cases hs : 1048576 < n
  · clear hn hnc h hy
    go_enter Try.func5, Try.ntmps5
    go_wp2
    go_ret
    exact ⟨rfl, Below.refl _ _⟩
  have HC := Lib.hid (spec_DrawCommitCells A n c bs w hn hnc h hy (by omega))
  clear hn hnc h hy
  go_enter Try.func5, Try.ntmps5
  go_wp2_with fail
  refine HC.out.mono ?_
  rintro e w1 ⟨A1, n1, c1, gs, E1, l1, d1, ss, y, A3, m3, c3, xs, rfl, ⟨hp1, hp2, hp3, hnc1, hsm, hl, hl1, hl2, hld, hx, hy1, hy2, hP, hS, hb⟩, hm1, hm2, hmc, hI⟩
  have HN1 := Lib.hid hp1
  have HG := Lib.hid (GB.of_drawnH (by omega) hsm)
  have HL1 := Lib.hid hl
  have HX := Lib.hid hx
  have HIB := Lib.hid (HiB.of_drawn y (by omega) hx)
  have P_1 := Lib.hid (hP)
  have S_1 := Lib.hid (hS)
  have B_1 := Lib.hid (hb)
  have I_1 := Lib.hid (hI)
  have HM1 := Lib.hid hm1
  clear hI hm1
  clear hP hp1 hb HC hsm hl hx hS
  go_wp2_with fail
  obtain ⟨w2, hw2⟩ : ∃ W, W = w1.alloc (.cells #[.slice A1 n1 c1] 25) := ⟨_, rfl⟩
  have hb : Below w1.heap.size w1 w2 := by rw [hw2]; exact (Below.refl _ _).alloc (Nat.le_refl _) _
  have P_2 := Lib.hid (P_1.out.step hb)
  clear P_1
  have S_2 := Lib.hid (S_1.out.step hb)
  clear S_1
  have B_2 := Lib.hid (B_1.out.trans (hb.mono B_1.out.size))
  clear B_1
  have I_2 := Lib.hid (I_1.out.step hb)
  clear I_1
  have F_2 : Hid (As w1.heap.size (w1.heap.size + 1) (fun w' => w'.cell? ⟨w1.heap.size, 0, none⟩ = some (.slice A1 n1 c1)) w2) := by rw [hw2]; exact box_new _ _ _
  clear hb
  have hsz2 : w2.heap.size = w1.heap.size + 1 := by rw [hw2]; simp
  obtain ⟨w3, hw3⟩ : ∃ W, W = w2.alloc (.cells #[.slice E1 l1 d1, .int .i64 y] 28) := ⟨_, rfl⟩
  have hb : Below w2.heap.size w2 w3 := by rw [hw3]; exact (Below.refl _ _).alloc (Nat.le_refl _) _
  have P_3 := Lib.hid (P_2.out.step hb)
  clear P_2
  have S_3 := Lib.hid (S_2.out.step hb)
  clear S_2
  have B_3 := Lib.hid (B_2.out.trans (hb.mono B_2.out.size))
  clear B_2
  have I_3 := Lib.hid (I_2.out.step hb)
  clear I_2
  have F_3 := Lib.hid (F_2.out.step hb)
  clear F_2
  have X_3 : Hid (As w2.heap.size (w2.heap.size + 1) (fun w' => w'.cell? ⟨w2.heap.size, 0, none⟩ = some (.slice E1 l1 d1) ∧ w'.cell? ⟨w2.heap.size, 1, none⟩ = some (.int .i64 y)) w3) := by rw [hw3]; exact box2_new _ _ _ _
  clear hb
  rw [hsz2] at X_3
  rw [← hw2]
  rw [← hw3]
  clear hw2 hw3 hsz2
  have HIM := Lib.hid fun (w' : World) (h : GS w' w'.heap.size A1 gs) (h' : SS w' w'.heap.size E1 ss) (h2 : IS w' w'.heap.size A3 xs) => top_impl_CommitCells gs ⟨ss, y⟩ xs HG.out HIB.out (by have := HM1.out; omega) A1 n1 c1 E1 l1 d1 A3 m3 c3 w' HN1.out hnc1 h HL1.out hld h' HM1.out h2
  have HSP := Lib.hid fun (w' : World) (h : GS w' w'.heap.size A1 gs) (h' : SS w' w'.heap.size E1 ss) (h2 : IS w' w'.heap.size A3 xs) => top_spec_CommitCells gs ⟨ss, y⟩ xs HG.out HIB.out (by have := HM1.out; omega) A1 n1 c1 E1 l1 d1 A3 m3 c3 w' HN1.out hnc1 h HL1.out hld h' HM1.out h2
  have HHB := Lib.hid (commitH_HB gs ⟨ss, y⟩ xs)
  have HCF := Lib.hid fun (h : commitB gs ⟨ss, y⟩ xs = true) => commit_facts h
  generalize commitH gs ⟨ss, y⟩ xs = st at *
  generalize commitB gs ⟨ss, y⟩ xs = b at *
  obtain ⟨tt, ix⟩ := st
  have qFc := F_3.out.it
  obtain ⟨xXc, yXc⟩ := X_3.out.it
  go_wp2_with fail
  refine (HIM.out w3 P_3.out S_3.out I_3.out).mono ?_
  rintro e w4 hr9
  obtain ⟨A5, n5, c5, rfl, hn5, hS5, hb⟩ := RetHB.parts hr9
  have HM5 := Lib.hid hn5
  clear hn5 hr9
  have P_4 := Lib.hid (P_3.out.step hb)
  clear P_3
  have S_4 := Lib.hid (S_3.out.step hb)
  clear S_3
  have B_4 := Lib.hid (B_3.out.trans (hb.mono B_3.out.size))
  clear B_3
  have I_4 := Lib.hid (I_3.out.step hb)
  clear I_3
  have F_4 := Lib.hid (F_3.out.step hb)
  clear F_3
  have X_4 := Lib.hid (X_3.out.step hb)
  clear X_3
  have R_4 := Lib.hid (hS5)
  clear hS5
  clear hb qFc xXc yXc
  have qFd := F_4.out.it
  obtain ⟨xXd, yXd⟩ := X_4.out.it
  have lF : w1.heap.size < w4.heap.size := F_4.out.le
  have lX : w1.heap.size + 1 < w4.heap.size := X_4.out.le
  go_wp2_with fail
  obtain ⟨w5, hw5⟩ : ∃ W, W = w4.alloc (.cells #[.slice A5 n5 c5, .int .i64 ix] 28) := ⟨_, rfl⟩
  have hb : Below w4.heap.size w4 w5 := by rw [hw5]; exact (Below.refl _ _).alloc (Nat.le_refl _) _
  have P_5 := Lib.hid (P_4.out.step hb)
  clear P_4
  have S_5 := Lib.hid (S_4.out.step hb)
  clear S_4
  have B_5 := Lib.hid (B_4.out.trans (hb.mono B_4.out.size))
  clear B_4
  have I_5 := Lib.hid (I_4.out.step hb)
  clear I_4
  have F_5 := Lib.hid (F_4.out.step hb)
  clear F_4
  have X_5 := Lib.hid (X_4.out.step hb)
  clear X_4
  have R_5 := Lib.hid (R_4.out.step hb)
  clear R_4
  have Y_5 : Hid (As w4.heap.size (w4.heap.size + 1) (fun w' => w'.cell? ⟨w4.heap.size, 0, none⟩ = some (.slice A5 n5 c5) ∧ w'.cell? ⟨w4.heap.size, 1, none⟩ = some (.int .i64 ix)) w5) := by rw [hw5]; exact box2_new _ _ _ _
  clear hb
  rw [← hw5]
  clear hw5 qFd xXd yXd lF lX
  have qFc := F_5.out.it
  obtain ⟨xXc, yXc⟩ := X_5.out.it
  obtain ⟨xYc, yYc⟩ := Y_5.out.it
  go_wp2_with fail
  refine (HSP.out w5 P_5.out S_5.out I_5.out).mono ?_
  rintro e w6 hr9
  obtain ⟨A6, n6, c6, rfl, hn6, hS6, hb⟩ := RetHB.parts hr9
  have hn56 : n5 = n6 := by rw [HM5.out, hn6]
  subst hn56
  clear hn6 hr9
  have P_6 := Lib.hid (P_5.out.step hb)
  clear P_5
  have S_6 := Lib.hid (S_5.out.step hb)
  clear S_5
  have B_6 := Lib.hid (B_5.out.trans (hb.mono B_5.out.size))
  clear B_5
  have I_6 := Lib.hid (I_5.out.step hb)
  clear I_5
  have F_6 := Lib.hid (F_5.out.step hb)
  clear F_5
  have X_6 := Lib.hid (X_5.out.step hb)
  clear X_5
  have R_6 := Lib.hid (R_5.out.step hb)
  clear R_5
  have Y_6 := Lib.hid (Y_5.out.step hb)
  clear Y_5
  have T_6 := Lib.hid (hS6)
  clear hS6
  clear hb qFc xXc yXc xYc yYc
  have qFd := F_6.out.it
  obtain ⟨xXd, yXd⟩ := X_6.out.it
  obtain ⟨xYd, yYd⟩ := Y_6.out.it
  have lF : w1.heap.size < w6.heap.size := F_6.out.le
  have lX : w1.heap.size + 1 < w6.heap.size := X_6.out.le
  have lY : w4.heap.size < w6.heap.size := Y_6.out.le
  go_wp2_with fail
  obtain ⟨w7, hw7⟩ : ∃ W, W = w6.alloc (.cells #[.slice A6 n5 c6, .int .i64 ix] 28) := ⟨_, rfl⟩
  have hb : Below w6.heap.size w6 w7 := by rw [hw7]; exact (Below.refl _ _).alloc (Nat.le_refl _) _
  have P_7 := Lib.hid (P_6.out.step hb)
  clear P_6
  have S_7 := Lib.hid (S_6.out.step hb)
  clear S_6
  have B_7 := Lib.hid (B_6.out.trans (hb.mono B_6.out.size))
  clear B_6
  have I_7 := Lib.hid (I_6.out.step hb)
  clear I_6
  have F_7 := Lib.hid (F_6.out.step hb)
  clear F_6
  have X_7 := Lib.hid (X_6.out.step hb)
  clear X_6
  have R_7 := Lib.hid (R_6.out.step hb)
  clear R_6
  have Y_7 := Lib.hid (Y_6.out.step hb)
  clear Y_6
  have T_7 := Lib.hid (T_6.out.step hb)
  clear T_6
  have Z_7 : Hid (As w6.heap.size (w6.heap.size + 1) (fun w' => w'.cell? ⟨w6.heap.size, 0, none⟩ = some (.slice A6 n5 c6) ∧ w'.cell? ⟨w6.heap.size, 1, none⟩ = some (.int .i64 ix)) w7) := by rw [hw7]; exact box2_new _ _ _ _
  clear hb
  rw [← hw7]
  clear hw7 qFd xXd yXd xYd yYd lF lX lY
  have HEQ := Lib.hid fun (w' : World) (h : SS w' w'.heap.size A5 tt) (h' : SS w' w'.heap.size A6 tt) => laws_equalHistory A5 A6 n5 c5 c6 ⟨tt, ix⟩ w' HM5.out h h' HHB.out
  obtain ⟨xYe, yYe⟩ := Y_7.out.it
  obtain ⟨xZe, yZe⟩ := Z_7.out.it
  go_wp2_with fail
  refine (HEQ.out w7 R_7.out T_7.out).mono ?_
  rintro e w8 ⟨rfl, hb⟩
  have P_8 := Lib.hid (P_7.out.step hb)
  clear P_7
  have S_8 := Lib.hid (S_7.out.step hb)
  clear S_7
  have B_8 := Lib.hid (B_7.out.trans (hb.mono B_7.out.size))
  clear B_7
  have I_8 := Lib.hid (I_7.out.step hb)
  clear I_7
  have F_8 := Lib.hid (F_7.out.step hb)
  clear F_7
  have X_8 := Lib.hid (X_7.out.step hb)
  clear X_7
  have R_8 := Lib.hid (R_7.out.step hb)
  clear R_7
  have Y_8 := Lib.hid (Y_7.out.step hb)
  clear Y_7
  have T_8 := Lib.hid (T_7.out.step hb)
  clear T_7
  have Z_8 := Lib.hid (Z_7.out.step hb)
  clear Z_7
  clear hb xYe yYe xZe yZe
  cases b
  · skip
    obtain ⟨xYe, yYe⟩ := Y_8.out.it
    obtain ⟨xZe, yZe⟩ := Z_8.out.it
    go_wp2_with fail
    refine (HEQ.out w8 R_8.out T_8.out).mono ?_
    rintro e w9 ⟨rfl, hb⟩
    have P_9 := Lib.hid (P_8.out.step hb)
    clear P_8
    have S_9 := Lib.hid (S_8.out.step hb)
    clear S_8
    have B_9 := Lib.hid (B_8.out.trans (hb.mono B_8.out.size))
    clear B_8
    have I_9 := Lib.hid (I_8.out.step hb)
    clear I_8
    have F_9 := Lib.hid (F_8.out.step hb)
    clear F_8
    have X_9 := Lib.hid (X_8.out.step hb)
    clear X_8
    have R_9 := Lib.hid (R_8.out.step hb)
    clear R_8
    have Y_9 := Lib.hid (Y_8.out.step hb)
    clear Y_8
    have T_9 := Lib.hid (T_8.out.step hb)
    clear T_8
    have Z_9 := Lib.hid (Z_8.out.step hb)
    clear Z_8
    clear hb xYe yYe xZe yZe
    go_wp2
    go_ret
    exact ⟨rfl, B_9.out⟩
  · obtain ⟨k, rfl, hk, hk9, hst, hln, hg0, hg1, hval, hmb, hmh, hmo⟩ := HCF.out (by first | rfl | trivial)
    obtain ⟨htt, hixk⟩ : tt = ss.take (k + 1) ++ [xs] ∧ ix = (k : Int) + 1 := by simpa using hst
    rw [← htt] at hln hg0 hg1 hval hmb hmh hmo
    obtain ⟨j, hj⟩ : ∃ j, j = k + 1 := ⟨_, rfl⟩
    have hji : (k : Int) + 1 = (j : Int) := by omega
    rw [hji] at hixk hval hmb hmh hmo
    subst hixk
    have HMB := Lib.hid fun (w' : World) (h : GS w' w'.heap.size A1 gs) (h' : SS w' w'.heap.size A5 tt) => top_impl_MoveHistory gs ⟨tt, (j : Int)⟩ (-1) HG.out HHB.out A1 n1 c1 A5 n5 c5 w' HN1.out hnc1 h HM5.out h' (by omega) (by omega)
    have HMO := Lib.hid fun (w' : World) (h : GS w' w'.heap.size A1 gs) (h' : SS w' w'.heap.size A5 tt) => top_impl_MoveHistory gs ⟨tt, (j : Int)⟩ 1 HG.out HHB.out A1 n1 c1 A5 n5 c5 w' HN1.out hnc1 h HM5.out h' (by omega) (by omega)
    have HVH := Lib.hid fun (w' : World) (h : GS w' w'.heap.size A1 gs) (h' : SS w' w'.heap.size A5 tt) => top_impl_ValidHistory gs ⟨tt, (j : Int)⟩ HG.out HHB.out A1 n1 c1 A5 n5 c5 w' HN1.out hnc1 h HM5.out h'
    rw [hmb, hmh] at HMB
    rw [hmo] at HMO
    rw [hval] at HVH
    generalize moveI gs ⟨tt, (j : Int)⟩ (-1) = ib at *
    generalize moveH gs ⟨tt, (j : Int)⟩ 1 = so at *
    generalize moveI gs ⟨tt, (j : Int)⟩ 1 = io at *
    obtain ⟨so1, so2⟩ := so
    have hn5k : n5 = k + 2 := by rw [HM5.out]; exact hln
    have hkl : k < l1 := by rw [HL1.out]; exact hk
    have hlk : (ss.getD k []).length ≤ 1048576 := HIB.out.2.1.2 k
    have hk5 : k < n5 := by omega
    have hj5 : j < n5 := by omega
    clear hn5k
    have HG0 := Lib.hid hg0
    have hg1j : tt.getD j [] = xs := by rw [hj]; exact hg1
    have HG1 := Lib.hid hg1j
    have HJ := Lib.hid hj
    clear hmb hmh hmo hval hst htt hln hg0 hg1 hg1j hji hj HCF HIM HSP HEQ T_8 Z_8
    have qFc := F_8.out.it
    obtain ⟨xXc, yXc⟩ := X_8.out.it
    obtain ⟨xYc, yYc⟩ := Y_8.out.it
    go_wp2_with fail
    refine (HMB.out w8 P_8.out R_8.out).mono ?_
    rintro e w9 hr9
    obtain ⟨A7, n7, c7, A8, m8, c8, rfl, hn7, hS7, hm8, hI8, hb⟩ := RetHIB.parts hr9
    have HM7 := Lib.hid hn7
    have hk7 : k < n7 := by rw [hn7, ← HM5.out]; exact hk5
    clear hn7 hm8 hI8 hr9
    have P_9 := Lib.hid (P_8.out.step hb)
    clear P_8
    have S_9 := Lib.hid (S_8.out.step hb)
    clear S_8
    have B_9 := Lib.hid (B_8.out.trans (hb.mono B_8.out.size))
    clear B_8
    have I_9 := Lib.hid (I_8.out.step hb)
    clear I_8
    have F_9 := Lib.hid (F_8.out.step hb)
    clear F_8
    have X_9 := Lib.hid (X_8.out.step hb)
    clear X_8
    have R_9 := Lib.hid (R_8.out.step hb)
    clear R_8
    have Y_9 := Lib.hid (Y_8.out.step hb)
    clear Y_8
    have Q_9 := Lib.hid (hS7)
    clear hS7
    clear hb qFc xXc yXc xYc yYc
    have qFd := F_9.out.it
    obtain ⟨xXd, yXd⟩ := X_9.out.it
    obtain ⟨xYd, yYd⟩ := Y_9.out.it
    have lF : w1.heap.size < w9.heap.size := F_9.out.le
    have lX : w1.heap.size + 1 < w9.heap.size := X_9.out.le
    have lY : w4.heap.size < w9.heap.size := Y_9.out.le
    go_wp2_with fail
    obtain ⟨w10, hw10⟩ : ∃ W, W = w9.alloc (.cells #[.slice A7 n7 c7, .int .i64 k] 28) := ⟨_, rfl⟩
    have hb : Below w9.heap.size w9 w10 := by rw [hw10]; exact (Below.refl _ _).alloc (Nat.le_refl _) _
    have P_10 := Lib.hid (P_9.out.step hb)
    clear P_9
    have S_10 := Lib.hid (S_9.out.step hb)
    clear S_9
    have B_10 := Lib.hid (B_9.out.trans (hb.mono B_9.out.size))
    clear B_9
    have I_10 := Lib.hid (I_9.out.step hb)
    clear I_9
    have F_10 := Lib.hid (F_9.out.step hb)
    clear F_9
    have X_10 := Lib.hid (X_9.out.step hb)
    clear X_9
    have R_10 := Lib.hid (R_9.out.step hb)
    clear R_9
    have Y_10 := Lib.hid (Y_9.out.step hb)
    clear Y_9
    have Q_10 := Lib.hid (Q_9.out.step hb)
    clear Q_9
    have U_10 : Hid (As w9.heap.size (w9.heap.size + 1) (fun w' => w'.cell? ⟨w9.heap.size, 0, none⟩ = some (.slice A7 n7 c7) ∧ w'.cell? ⟨w9.heap.size, 1, none⟩ = some (.int .i64 k)) w10) := by rw [hw10]; exact box2_new _ _ _ _
    clear hb
    rw [← hw10]
    clear hw10 qFd xXd yXd xYd yYd lF lX lY
    have qFc := F_10.out.it
    obtain ⟨xXc, yXc⟩ := X_10.out.it
    obtain ⟨xYc, yYc⟩ := Y_10.out.it
    obtain ⟨xUc, yUc⟩ := U_10.out.it
    go_wp2_with fail
    refine (HMO.out w10 P_10.out R_10.out).mono ?_
    rintro e w11 hr9
    obtain ⟨A9, n9, c9, A10, m10, c10, rfl, hn9, hS9, hm10, hI10, hb⟩ := RetHIB.parts hr9
    clear hn9 hS9 hm10 hI10 hr9
    have P_11 := Lib.hid (P_10.out.step hb)
    clear P_10
    have S_11 := Lib.hid (S_10.out.step hb)
    clear S_10
    have B_11 := Lib.hid (B_10.out.trans (hb.mono B_10.out.size))
    clear B_10
    have I_11 := Lib.hid (I_10.out.step hb)
    clear I_10
    have F_11 := Lib.hid (F_10.out.step hb)
    clear F_10
    have X_11 := Lib.hid (X_10.out.step hb)
    clear X_10
    have R_11 := Lib.hid (R_10.out.step hb)
    clear R_10
    have Y_11 := Lib.hid (Y_10.out.step hb)
    clear Y_10
    have Q_11 := Lib.hid (Q_10.out.step hb)
    clear Q_10
    have U_11 := Lib.hid (U_10.out.step hb)
    clear U_10
    clear hb qFc xXc yXc xYc yYc xUc yUc
    have qFd := F_11.out.it
    obtain ⟨xXd, yXd⟩ := X_11.out.it
    obtain ⟨xYd, yYd⟩ := Y_11.out.it
    obtain ⟨xUd, yUd⟩ := U_11.out.it
    have lF : w1.heap.size < w11.heap.size := F_11.out.le
    have lX : w1.heap.size + 1 < w11.heap.size := X_11.out.le
    have lY : w4.heap.size < w11.heap.size := Y_11.out.le
    have lU : w9.heap.size < w11.heap.size := U_11.out.le
    go_wp2_with fail
    obtain ⟨w12, hw12⟩ : ∃ W, W = w11.alloc (.cells #[.slice A9 n9 c9, .int .i64 so2] 28) := ⟨_, rfl⟩
    have hb : Below w11.heap.size w11 w12 := by rw [hw12]; exact (Below.refl _ _).alloc (Nat.le_refl _) _
    have P_12 := Lib.hid (P_11.out.step hb)
    clear P_11
    have S_12 := Lib.hid (S_11.out.step hb)
    clear S_11
    have B_12 := Lib.hid (B_11.out.trans (hb.mono B_11.out.size))
    clear B_11
    have I_12 := Lib.hid (I_11.out.step hb)
    clear I_11
    have F_12 := Lib.hid (F_11.out.step hb)
    clear F_11
    have X_12 := Lib.hid (X_11.out.step hb)
    clear X_11
    have R_12 := Lib.hid (R_11.out.step hb)
    clear R_11
    have Y_12 := Lib.hid (Y_11.out.step hb)
    clear Y_11
    have Q_12 := Lib.hid (Q_11.out.step hb)
    clear Q_11
    have U_12 := Lib.hid (U_11.out.step hb)
    clear U_11
    have V_12 : Hid (As w11.heap.size (w11.heap.size + 1) (fun w' => w'.cell? ⟨w11.heap.size, 0, none⟩ = some (.slice A9 n9 c9) ∧ w'.cell? ⟨w11.heap.size, 1, none⟩ = some (.int .i64 so2)) w12) := by rw [hw12]; exact box2_new _ _ _ _
    clear hb
    rw [← hw12]
    clear hw12 qFd xXd yXd xYd yYd xUd yUd lF lX lY lU
    obtain ⟨bE, oE, rfl, hbE, hcE⟩ := S_12.out (by omega)
    obtain ⟨b5, o5, rfl, hb5, hc5⟩ := R_12.out (by have := HM5.out; omega)
    obtain ⟨b7, o7, rfl, hb7, hc7⟩ := Q_12.out (by have := HM5.out; omega)
    obtain ⟨Ae, ne, ce, ee, hne, hIe⟩ := hcE k (by exact hk)
    have ac_12 : Hid (Ce bE (oE + k) (.slice Ae ne ce) w12) := ⟨hbE, ee⟩
    have ai_12 : Hid (IS w12 w12.heap.size Ae (ss.getD k [])) := hIe
    have HNRe : Hid (ne = (ss.getD k []).length) := hne
    clear ee hne hIe
    obtain ⟨Ao, no, co, eo, hno, hIo⟩ := hc5 j (by have := HM5.out; omega)
    have bc_12 : Hid (Ce b5 (o5 + j) (.slice Ao no co) w12) := ⟨hb5, eo⟩
    have bi_12 : Hid (IS w12 w12.heap.size Ao (tt.getD j [])) := hIo
    have HNRo : Hid (no = (tt.getD j []).length) := hno
    clear eo hno hIo
    obtain ⟨Au, nu, cu, eu, hnu, hIu⟩ := hc7 k (by have := HM5.out; omega)
    have dc_12 : Hid (Ce b7 (o7 + k) (.slice Au nu cu) w12) := ⟨hb7, eu⟩
    have di_12 : Hid (IS w12 w12.heap.size Au (tt.getD k [])) := hIu
    have HNRu : Hid (nu = (tt.getD k []).length) := hnu
    clear eu hnu hIu
    rw [HG1.out] at bi_12 HNRo
    rw [HG0.out] at di_12 HNRu
    generalize ss.getD k [] = row at *
    have hnue : nu = ne := by rw [HNRu.out, HNRe.out]
    have hnom : no = m3 := by rw [HNRo.out, HM1.out]
    subst hnue hnom
    have hnu : nu ≤ 2000000 := by rw [HNRu.out]; omega
    clear hcE hc5 hc7 hlk
    clear V_12
    go_wp2
    have qF0 := F_12.out.it
    obtain ⟨xX0, yX0⟩ := X_12.out.it
    obtain ⟨xY0, yY0⟩ := Y_12.out.it
    obtain ⟨xU0, yU0⟩ := U_12.out.it
    have zac0 := ac_12.out.2
    have zbc0 := bc_12.out.2
    have zdc0 := dc_12.out.2
    refine wp_region_held_drew (S := fun w' => w'.cell? ⟨w1.heap.size, 0, none⟩ = some (.slice A1 n1 c1) ∧ w'.cell? ⟨w1.heap.size + 1, 0, none⟩ = some (.slice (some ⟨bE, oE, none⟩) l1 d1) ∧ w'.cell? ⟨w1.heap.size + 1, 1, none⟩ = some (.int .i64 k) ∧ w'.cell? ⟨w4.heap.size, 0, none⟩ = some (.slice (some ⟨b5, o5, none⟩) n5 c5) ∧ w'.cell? ⟨w4.heap.size, 1, none⟩ = some (.int .i64 j) ∧ w'.cell? ⟨w9.heap.size, 0, none⟩ = some (.slice (some ⟨b7, o7, none⟩) n7 c7) ∧ w'.cell? ⟨w9.heap.size, 1, none⟩ = some (.int .i64 k) ∧ w'.cell? ⟨bE, oE + k, none⟩ = some (.slice Ae nu ce) ∧ w'.cell? ⟨b5, o5 + j, none⟩ = some (.slice Ao no co) ∧ w'.cell? ⟨b7, o7 + k, none⟩ = some (.slice Au nu cu)) (by kernel_rfl) ⟨qF0, xX0, yX0, xY0, yY0, xU0, yU0, zac0, zbc0, zdc0⟩ (fun hHeld => ?_)
    refine wpAnyH_take (i := 0) (oi := ⟨some 74, _, _, _, _, _⟩) (v := ?_) rfl (by kernel_rfl) (by kernel_rfl) (by kernel_rfl) (fun _ _ _ h => h) (Or.inl ⟨by rfl, ?_⟩) (by assumption) ?_; rotate_left; (focus (intro w hSw; (try dsimp only at hSw); go_simp; (try with_reducible rfl))); (try simp only [Act.put, List.setIfInBounds_toArray, List.set_cons_zero, List.set_cons_succ])
    refine wpAnyH_take (i := 1) (oi := ⟨some 75, _, _, _, _, _⟩) (v := ?_) rfl (by kernel_rfl) (by kernel_rfl) (by kernel_rfl) (fun _ _ _ h => h) (Or.inl ⟨by rfl, ?_⟩) (by assumption) ?_; rotate_left; (focus (intro w hSw; (try dsimp only at hSw); go_simp; (try with_reducible rfl))); (try simp only [Act.put, List.setIfInBounds_toArray, List.set_cons_zero, List.set_cons_succ])
    refine wpAnyH_take (i := 2) (oi := ⟨some 76, _, _, _, _, _⟩) (v := ?_) rfl (by kernel_rfl) (by kernel_rfl) (by kernel_rfl) (fun _ _ _ h => h) (Or.inl ⟨by rfl, ?_⟩) (by assumption) ?_; rotate_left; (focus (intro w hSw; (try dsimp only at hSw); go_simp; (try with_reducible rfl))); (try simp only [Act.put, List.setIfInBounds_toArray, List.set_cons_zero, List.set_cons_succ])
    refine wpAnyH_take (i := 3) (oi := ⟨some 77, _, _, _, _, _⟩) (v := ?_) rfl (by kernel_rfl) (by kernel_rfl) (by kernel_rfl) (fun _ _ _ h => h) (Or.inl ⟨by rfl, ?_⟩) (by assumption) ?_; rotate_left; (focus (intro w hSw; (try dsimp only at hSw); go_simp; (try with_reducible rfl))); (try simp only [Act.put, List.setIfInBounds_toArray, List.set_cons_zero, List.set_cons_succ])
    refine wpAnyH_take (i := 4) (oi := ⟨some 78, _, _, _, _, _⟩) (v := ?_) rfl (by kernel_rfl) (by kernel_rfl) (by kernel_rfl) (fun _ _ _ h => h) (Or.inl ⟨by rfl, ?_⟩) (by assumption) ?_; rotate_left; (focus (intro w hSw; (try dsimp only at hSw); go_simp; (try with_reducible rfl))); (try simp only [Act.put, List.setIfInBounds_toArray, List.set_cons_zero, List.set_cons_succ])
    refine wpAnyH_take (i := 5) (oi := ⟨some 79, _, _, _, _, _⟩) (v := ?_) rfl (by kernel_rfl) (by kernel_rfl) (by kernel_rfl) (fun _ _ _ h => h) (Or.inl ⟨by rfl, ?_⟩) (by assumption) ?_; rotate_left; (focus (intro w hSw; (try dsimp only at hSw); go_simp; (try with_reducible rfl))); (try simp only [Act.put, List.setIfInBounds_toArray, List.set_cons_zero, List.set_cons_succ])
    refine wpAnyH_take (i := 6) (oi := ⟨some 80, _, _, _, _, _⟩) (v := ?_) rfl (by kernel_rfl) (by kernel_rfl) (by kernel_rfl) (fun _ _ _ h => h) (Or.inl ⟨by rfl, ?_⟩) (by assumption) ?_; rotate_left; (focus (intro w hSw; (try dsimp only at hSw); go_simp; (try with_reducible rfl))); (try simp only [Act.put, List.setIfInBounds_toArray, List.set_cons_zero, List.set_cons_succ])
    refine wpAnyH_take (i := 7) (oi := ⟨some 81, _, _, _, _, _⟩) (v := ?_) rfl (by kernel_rfl) (by kernel_rfl) (by kernel_rfl) (fun _ _ _ h => h) (Or.inl ⟨by rfl, ?_⟩) (by assumption) ?_; rotate_left; (focus (intro w hSw; (try dsimp only at hSw); go_simp; (try with_reducible rfl))); (try simp only [Act.put, List.setIfInBounds_toArray, List.set_cons_zero, List.set_cons_succ])
    refine wpAnyH_take (i := 8) (oi := ⟨some 82, _, _, _, _, _⟩) (v := ?_) rfl (by kernel_rfl) (by kernel_rfl) (by kernel_rfl) (fun _ _ _ h => h) (Or.inl ⟨by rfl, ?_⟩) (by assumption) ?_; rotate_left; (focus (intro w hSw; (try dsimp only at hSw); go_simp; (try with_reducible rfl))); (try simp only [Act.put, List.setIfInBounds_toArray, List.set_cons_zero, List.set_cons_succ])
    refine wpAnyH_take (i := 9) (oi := ⟨some 83, _, _, _, _, _⟩) (v := ?_) rfl (by kernel_rfl) (by kernel_rfl) (by kernel_rfl) (fun _ _ _ h => h) (Or.inl ⟨by rfl, ?_⟩) (by assumption) ?_; rotate_left; (focus (intro w hSw; (try dsimp only at hSw); go_simp; (try with_reducible rfl))); (try simp only [Act.put, List.setIfInBounds_toArray, List.set_cons_zero, List.set_cons_succ])
    refine wpAnyH_take (i := 10) (oi := ⟨some 84, _, _, _, _, _⟩) (v := ?_) rfl (by kernel_rfl) (by kernel_rfl) (by kernel_rfl) (fun _ _ _ h => h) (Or.inl ⟨by rfl, ?_⟩) (by assumption) ?_; rotate_left; (focus (intro w hSw; (try dsimp only at hSw); go_simp; (try with_reducible rfl))); (try simp only [Act.put, List.setIfInBounds_toArray, List.set_cons_zero, List.set_cons_succ])
    refine wpAnyH_take (i := 11) (oi := ⟨some 85, _, _, _, _, _⟩) (v := ?_) rfl (by kernel_rfl) (by kernel_rfl) (by kernel_rfl) (fun _ _ _ h => h) (Or.inl ⟨by rfl, ?_⟩) (by assumption) ?_; rotate_left; (focus (intro w hSw; (try dsimp only at hSw); go_simp; (try with_reducible rfl))); (try simp only [Act.put, List.setIfInBounds_toArray, List.set_cons_zero, List.set_cons_succ])
    refine wpAnyH_take (i := 12) (oi := ⟨some 86, _, _, _, _, _⟩) (v := ?_) rfl (by kernel_rfl) (by kernel_rfl) (by kernel_rfl) (fun _ _ _ h => h) (Or.inl ⟨by rfl, ?_⟩) (by assumption) ?_; rotate_left; (focus (intro w hSw; (try dsimp only at hSw); go_simp; (try with_reducible rfl))); (try simp only [Act.put, List.setIfInBounds_toArray, List.set_cons_zero, List.set_cons_succ])
    refine wpAnyH_take (i := 13) (oi := ⟨some 87, _, _, _, _, _⟩) (v := ?_) rfl (by kernel_rfl) (by kernel_rfl) (by kernel_rfl) (fun _ _ _ h => h) (Or.inl ⟨by rfl, ?_⟩) (by assumption) ?_; rotate_left; (focus (intro w hSw; (try dsimp only at hSw); go_simp; (try with_reducible rfl))); (try simp only [Act.put, List.setIfInBounds_toArray, List.set_cons_zero, List.set_cons_succ])
    refine wpAnyH_take (i := 14) (oi := ⟨some 88, _, _, _, _, _⟩) (v := ?_) rfl (by kernel_rfl) (by kernel_rfl) (by kernel_rfl) (fun _ _ _ h => h) (Or.inl ⟨by rfl, ?_⟩) (by assumption) ?_; rotate_left; (focus (intro w hSw; (try dsimp only at hSw); go_simp; (try with_reducible rfl))); (try simp only [Act.put, List.setIfInBounds_toArray, List.set_cons_zero, List.set_cons_succ])
    refine wpAnyH_take (i := 15) (oi := ⟨some 89, _, _, _, _, _⟩) (v := ?_) rfl (by kernel_rfl) (by kernel_rfl) (by kernel_rfl) (fun _ _ _ h => h) (Or.inl ⟨by rfl, ?_⟩) (by assumption) ?_; rotate_left; (focus (intro w hSw; (try dsimp only at hSw); go_simp; (try with_reducible rfl))); (try simp only [Act.put, List.setIfInBounds_toArray, List.set_cons_zero, List.set_cons_succ])
    refine wpAnyH_take (i := 16) (oi := ⟨some 90, _, _, _, _, _⟩) (v := ?_) rfl (by kernel_rfl) (by kernel_rfl) (by kernel_rfl) (fun _ _ _ h => h) (Or.inl ⟨by rfl, ?_⟩) (by assumption) ?_; rotate_left; (focus (intro w hSw; (try dsimp only at hSw); go_simp; (try with_reducible rfl))); (try simp only [Act.put, List.setIfInBounds_toArray, List.set_cons_zero, List.set_cons_succ])
    refine wpAnyH_take (i := 17) (oi := ⟨some 91, _, _, _, _, _⟩) (v := ?_) rfl (by kernel_rfl) (by kernel_rfl) (by kernel_rfl) (fun _ _ _ h => h) (Or.inl ⟨by rfl, ?_⟩) (by assumption) ?_; rotate_left; (focus (intro w hSw; (try dsimp only at hSw); go_simp; (try with_reducible rfl))); (try simp only [Act.put, List.setIfInBounds_toArray, List.set_cons_zero, List.set_cons_succ])
    refine wpAnyH_ready (rs := [18]) (by kernel_rfl) (by simp) ?_; refine AllReadyH.cons (o := ⟨some 92, _, _, _, _, _⟩) rfl (fun K hK => ?_) AllReadyH.nil; go_simp
    go_at_call 17
    refine (laws_equalInts Au Ae nu nu cu ce row row w12.drew w12.drew.heap.size (Nat.le_refl _) HNRu.out HNRu.out di_12.out ai_12.out (by omega) (by omega)).mono ?_
    rintro e w13 ⟨rfl, hb'⟩
    have hb : Below w12.heap.size w12 w13 := below_of_drew hb'
    have P_13 := Lib.hid (P_12.out.step hb)
    clear P_12
    have S_13 := Lib.hid (S_12.out.step hb)
    clear S_12
    have B_13 := Lib.hid (B_12.out.trans (hb.mono B_12.out.size))
    clear B_12
    have I_13 := Lib.hid (I_12.out.step hb)
    clear I_12
    have F_13 := Lib.hid (F_12.out.step hb)
    clear F_12
    have X_13 := Lib.hid (X_12.out.step hb)
    clear X_12
    have R_13 := Lib.hid (R_12.out.step hb)
    clear R_12
    have Y_13 := Lib.hid (Y_12.out.step hb)
    clear Y_12
    have Q_13 := Lib.hid (Q_12.out.step hb)
    clear Q_12
    have U_13 := Lib.hid (U_12.out.step hb)
    clear U_12
    have ac_13 := Lib.hid (ac_12.out.step hb)
    clear ac_12
    have ai_13 := Lib.hid (ai_12.out.step hb)
    clear ai_12
    have bc_13 := Lib.hid (bc_12.out.step hb)
    clear bc_12
    have bi_13 := Lib.hid (bi_12.out.step hb)
    clear bi_12
    have dc_13 := Lib.hid (dc_12.out.step hb)
    clear dc_12
    have di_13 := Lib.hid (di_12.out.step hb)
    clear di_12
    clear hb hb'
    rw [show decide (row = row) = true from decide_eq_true rfl]
    have qF9 := F_13.out.it
    obtain ⟨xX9, yX9⟩ := X_13.out.it
    obtain ⟨xY9, yY9⟩ := Y_13.out.it
    obtain ⟨xU9, yU9⟩ := U_13.out.it
    have zac9 := ac_13.out.2
    have zbc9 := bc_13.out.2
    have zdc9 := dc_13.out.2
    refine hK.out _ _ ⟨qF9, xX9, yX9, xY9, yY9, xU9, yU9, zac9, zbc9, zdc9⟩ (fun hHeld => ?_); clear hK K; (try simp only [Act.put, List.setIfInBounds_toArray, List.set_cons_zero, List.set_cons_succ])
    refine wpAnyH_take (i := 19) (oi := ⟨some 93, _, _, _, _, _⟩) (v := ?_) rfl (by kernel_rfl) (by kernel_rfl) (by kernel_rfl) (fun _ _ _ h => h) (Or.inl ⟨by rfl, ?_⟩) (by assumption) ?_; rotate_left; (focus (intro w hSw; (try dsimp only at hSw); go_simp; (try with_reducible rfl))); (try simp only [Act.put, List.setIfInBounds_toArray, List.set_cons_zero, List.set_cons_succ])
    refine wpAnyH_take (i := 20) (oi := ⟨some 94, _, _, _, _, _⟩) (v := ?_) rfl (by kernel_rfl) (by kernel_rfl) (by kernel_rfl) (fun _ _ _ h => h) (Or.inl ⟨by rfl, ?_⟩) (by assumption) ?_; rotate_left; (focus (intro w hSw; (try dsimp only at hSw); go_simp; (try with_reducible rfl))); (try simp only [Act.put, List.setIfInBounds_toArray, List.set_cons_zero, List.set_cons_succ])
    refine wpAnyH_take (i := 21) (oi := ⟨some 95, _, _, _, _, _⟩) (v := ?_) rfl (by kernel_rfl) (by kernel_rfl) (by kernel_rfl) (fun _ _ _ h => h) (Or.inl ⟨by rfl, ?_⟩) (by assumption) ?_; rotate_left; (focus (intro w hSw; (try dsimp only at hSw); go_simp; (try with_reducible rfl))); (try simp only [Act.put, List.setIfInBounds_toArray, List.set_cons_zero, List.set_cons_succ])
    refine wpAnyH_take (i := 22) (oi := ⟨some 96, _, _, _, _, _⟩) (v := ?_) rfl (by kernel_rfl) (by kernel_rfl) (by kernel_rfl) (fun _ _ _ h => h) (Or.inl ⟨by rfl, ?_⟩) (by assumption) ?_; rotate_left; (focus (intro w hSw; (try dsimp only at hSw); go_simp; (try with_reducible rfl))); (try simp only [Act.put, List.setIfInBounds_toArray, List.set_cons_zero, List.set_cons_succ])
    refine wpAnyH_take (i := 23) (oi := ⟨some 97, _, _, _, _, _⟩) (v := ?_) rfl (by kernel_rfl) (by kernel_rfl) (by kernel_rfl) (fun _ _ _ h => h) (Or.inl ⟨by rfl, ?_⟩) (by assumption) ?_; rotate_left; (focus (intro w hSw; (try dsimp only at hSw); go_simp; (try with_reducible rfl))); (try simp only [Act.put, List.setIfInBounds_toArray, List.set_cons_zero, List.set_cons_succ])
    refine wpAnyH_take (i := 24) (oi := ⟨some 98, _, _, _, _, _⟩) (v := ?_) rfl (by kernel_rfl) (by kernel_rfl) (by kernel_rfl) (fun _ _ _ h => h) (Or.inl ⟨by rfl, ?_⟩) (by assumption) ?_; rotate_left; (focus (intro w hSw; (try dsimp only at hSw); go_simp; (try with_reducible rfl))); (try simp only [Act.put, List.setIfInBounds_toArray, List.set_cons_zero, List.set_cons_succ])
    refine wpAnyH_take (i := 25) (oi := ⟨some 99, _, _, _, _, _⟩) (v := ?_) rfl (by kernel_rfl) (by kernel_rfl) (by kernel_rfl) (fun _ _ _ h => h) (Or.inl ⟨by rfl, ?_⟩) (by assumption) ?_; rotate_left; (focus (intro w hSw; (try dsimp only at hSw); go_simp; (try with_reducible rfl))); (try simp only [Act.put, List.setIfInBounds_toArray, List.set_cons_zero, List.set_cons_succ])
    refine wpAnyH_take (i := 26) (oi := ⟨some 100, _, _, _, _, _⟩) (v := ?_) rfl (by kernel_rfl) (by kernel_rfl) (by kernel_rfl) (fun _ _ _ h => h) (Or.inl ⟨by rfl, ?_⟩) (by assumption) ?_; rotate_left; (focus (intro w hSw; (try dsimp only at hSw); go_simp; (try with_reducible rfl))); (try simp only [Act.put, List.setIfInBounds_toArray, List.set_cons_zero, List.set_cons_succ])
    refine wpAnyH_take (i := 27) (oi := ⟨some 101, _, _, _, _, _⟩) (v := ?_) rfl (by kernel_rfl) (by kernel_rfl) (by kernel_rfl) (fun _ _ _ h => h) (Or.inl ⟨by rfl, ?_⟩) (by assumption) ?_; rotate_left; (focus (intro w hSw; (try dsimp only at hSw); go_simp; (try with_reducible rfl))); (try simp only [Act.put, List.setIfInBounds_toArray, List.set_cons_zero, List.set_cons_succ])
    refine wpAnyH_ready (rs := [28]) (by kernel_rfl) (by simp) ?_; refine AllReadyH.cons (o := ⟨some 102, _, _, _, _, _⟩) rfl (fun K hK => ?_) AllReadyH.nil; go_simp
    go_at_call 17
    refine (laws_equalInts Ao A3 no no co c3 xs xs w13 w13.heap.size (Nat.le_refl _) HM1.out HM1.out bi_13.out I_13.out (by omega) (by omega)).mono ?_
    rintro e w14 ⟨rfl, hb⟩
    have P_14 := Lib.hid (P_13.out.step hb)
    clear P_13
    have S_14 := Lib.hid (S_13.out.step hb)
    clear S_13
    have B_14 := Lib.hid (B_13.out.trans (hb.mono B_13.out.size))
    clear B_13
    have I_14 := Lib.hid (I_13.out.step hb)
    clear I_13
    have F_14 := Lib.hid (F_13.out.step hb)
    clear F_13
    have X_14 := Lib.hid (X_13.out.step hb)
    clear X_13
    have R_14 := Lib.hid (R_13.out.step hb)
    clear R_13
    have Y_14 := Lib.hid (Y_13.out.step hb)
    clear Y_13
    have Q_14 := Lib.hid (Q_13.out.step hb)
    clear Q_13
    have U_14 := Lib.hid (U_13.out.step hb)
    clear U_13
    have ac_14 := Lib.hid (ac_13.out.step hb)
    clear ac_13
    have ai_14 := Lib.hid (ai_13.out.step hb)
    clear ai_13
    have bc_14 := Lib.hid (bc_13.out.step hb)
    clear bc_13
    have bi_14 := Lib.hid (bi_13.out.step hb)
    clear bi_13
    have dc_14 := Lib.hid (dc_13.out.step hb)
    clear dc_13
    have di_14 := Lib.hid (di_13.out.step hb)
    clear di_13
    clear hb
    rw [show decide (xs = xs) = true from decide_eq_true rfl]
    have qF9 := F_14.out.it
    obtain ⟨xX9, yX9⟩ := X_14.out.it
    obtain ⟨xY9, yY9⟩ := Y_14.out.it
    obtain ⟨xU9, yU9⟩ := U_14.out.it
    have zac9 := ac_14.out.2
    have zbc9 := bc_14.out.2
    have zdc9 := dc_14.out.2
    refine hK.out _ _ ⟨qF9, xX9, yX9, xY9, yY9, xU9, yU9, zac9, zbc9, zdc9⟩ (fun hHeld => ?_); clear hK K; (try simp only [Act.put, List.setIfInBounds_toArray, List.set_cons_zero, List.set_cons_succ])
    refine wpAnyH_take (i := 29) (oi := ⟨some 103, _, _, _, _, _⟩) (v := ?_) rfl (by kernel_rfl) (by kernel_rfl) (by kernel_rfl) (fun _ _ _ h => h) (Or.inl ⟨by rfl, ?_⟩) (by assumption) ?_; rotate_left; (focus (intro w hSw; (try dsimp only at hSw); go_simp; (try with_reducible rfl))); (try simp only [Act.put, List.setIfInBounds_toArray, List.set_cons_zero, List.set_cons_succ])
    refine wpAnyH_take (i := 30) (oi := ⟨some 104, _, _, _, _, _⟩) (v := ?_) rfl (by kernel_rfl) (by kernel_rfl) (by kernel_rfl) (fun _ _ _ h => h) (Or.inl ⟨by rfl, ?_⟩) (by assumption) ?_; rotate_left; (focus (intro w hSw; (try dsimp only at hSw); go_simp; (try with_reducible rfl))); (try simp only [Act.put, List.setIfInBounds_toArray, List.set_cons_zero, List.set_cons_succ])
    refine wpAnyH_take (i := 31) (oi := ⟨some 105, _, _, _, _, _⟩) (v := ?_) rfl (by kernel_rfl) (by kernel_rfl) (by kernel_rfl) (fun _ _ _ h => h) (Or.inl ⟨by rfl, ?_⟩) (by assumption) ?_; rotate_left; (focus (intro w hSw; (try dsimp only at hSw); go_simp; (try with_reducible rfl))); (try simp only [Act.put, List.setIfInBounds_toArray, List.set_cons_zero, List.set_cons_succ])
    refine wpAnyH_take (i := 32) (oi := ⟨some 106, _, _, _, _, _⟩) (v := ?_) rfl (by kernel_rfl) (by kernel_rfl) (by kernel_rfl) (fun _ _ _ h => h) (Or.inl ⟨by rfl, ?_⟩) (by assumption) ?_; rotate_left; (focus (intro w hSw; (try dsimp only at hSw); go_simp; (try with_reducible rfl))); (try simp only [Act.put, List.setIfInBounds_toArray, List.set_cons_zero, List.set_cons_succ])
    refine wpAnyH_ready (rs := [33]) (by kernel_rfl) (by simp) ?_; refine AllReadyH.cons (o := ⟨some 107, _, _, _, _, _⟩) rfl (fun K hK => ?_) AllReadyH.nil; go_simp
    go_at_call 9
    refine (HVH.out w14 P_14.out R_14.out).mono ?_
    rintro e w15 ⟨rfl, hb⟩
    have P_15 := Lib.hid (P_14.out.step hb)
    clear P_14
    have S_15 := Lib.hid (S_14.out.step hb)
    clear S_14
    have B_15 := Lib.hid (B_14.out.trans (hb.mono B_14.out.size))
    clear B_14
    have I_15 := Lib.hid (I_14.out.step hb)
    clear I_14
    have F_15 := Lib.hid (F_14.out.step hb)
    clear F_14
    have X_15 := Lib.hid (X_14.out.step hb)
    clear X_14
    have R_15 := Lib.hid (R_14.out.step hb)
    clear R_14
    have Y_15 := Lib.hid (Y_14.out.step hb)
    clear Y_14
    have Q_15 := Lib.hid (Q_14.out.step hb)
    clear Q_14
    have U_15 := Lib.hid (U_14.out.step hb)
    clear U_14
    have ac_15 := Lib.hid (ac_14.out.step hb)
    clear ac_14
    have ai_15 := Lib.hid (ai_14.out.step hb)
    clear ai_14
    have bc_15 := Lib.hid (bc_14.out.step hb)
    clear bc_14
    have bi_15 := Lib.hid (bi_14.out.step hb)
    clear bi_14
    have dc_15 := Lib.hid (dc_14.out.step hb)
    clear dc_14
    have di_15 := Lib.hid (di_14.out.step hb)
    clear di_14
    clear hb
    have qF9 := F_15.out.it
    obtain ⟨xX9, yX9⟩ := X_15.out.it
    obtain ⟨xY9, yY9⟩ := Y_15.out.it
    obtain ⟨xU9, yU9⟩ := U_15.out.it
    have zac9 := ac_15.out.2
    have zbc9 := bc_15.out.2
    have zdc9 := dc_15.out.2
    refine hK.out _ _ ⟨qF9, xX9, yX9, xY9, yY9, xU9, yU9, zac9, zbc9, zdc9⟩ (fun hHeld => ?_); clear hK K; (try simp only [Act.put, List.setIfInBounds_toArray, List.set_cons_zero, List.set_cons_succ])
    refine wpAnyH_take (i := 34) (oi := ⟨some 108, _, _, _, _, _⟩) (v := ?_) rfl (by kernel_rfl) (by kernel_rfl) (by kernel_rfl) (fun _ _ _ h => h) (Or.inl ⟨by rfl, ?_⟩) (by assumption) ?_; rotate_left; (focus (intro w hSw; (try dsimp only at hSw); go_simp; (try with_reducible rfl))); (try simp only [Act.put, List.setIfInBounds_toArray, List.set_cons_zero, List.set_cons_succ])
    refine wpAnyH_take (i := 35) (oi := ⟨some 2, _, _, _, _, _⟩) (v := ?_) rfl (by kernel_rfl) (by kernel_rfl) (by kernel_rfl) (fun _ _ _ h => h) (Or.inl ⟨by rfl, ?_⟩) (by assumption) ?_; rotate_left; (focus (intro w hSw; (try dsimp only at hSw); go_simp; (try with_reducible rfl))); (try simp only [Act.put, List.setIfInBounds_toArray, List.set_cons_zero, List.set_cons_succ])
    refine wpAnyH_done (by kernel_rfl) ?_ _
    go_wp2
    go_ret
    exact ⟨rfl, B_15.out⟩
end Go.Proofs.Ytfooafnfdeofoaa
