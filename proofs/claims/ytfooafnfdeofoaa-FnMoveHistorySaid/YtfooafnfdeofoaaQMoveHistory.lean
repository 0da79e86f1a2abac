/- laws.FnMoveHistory returns true for all bytes, and writes nothing that was there. (Made by genpl.py.) -/
import Derived.Test.YtfooafnfdeofoaaR17
import Derived.Test.YtfooafnfdeofoaaH10
import Derived.Deep.RegionHeld3

namespace Go.Proofs.Ytfooafnfdeofoaa
set_option linter.unusedSimpArgs false
set_option linter.unusedVariables false
open Go.RowKit

theorem RetHIB.parts {w w' : World} {ss : List (List Int)} {y : Int} {xs : List Int} {b : Bool} {e : Ending} (h : RetHIB w ⟨ss, y⟩ xs b e w') : ∃ (A : Option Addr) (n c : Nat) (A' : Option Addr) (m' c' : Nat), e = .returned (.tuple #[.agg #[.slice A n c, .int .i64 y], .slice A' m' c', .bool b]) ∧ n = ss.length ∧ SS w' w'.heap.size A ss ∧ m' = xs.length ∧ IS w' w'.heap.size A' xs ∧ Below w.heap.size w w' := by
  obtain ⟨A, n, c, A', m', c', mid, rfl, hm, ho, hr, h1, h2, hb⟩ := h
  refine ⟨A, n, c, A', m', c', rfl, ho.1, SS.more ho.hist h2, hm, ?_, hb⟩
  exact IS.of_own hr.1
/-- A cell of a block that is there. -/
def Ce (b i : Nat) (v : Value) (w : World) : Prop := b < w.heap.size ∧ w.cell? ⟨b, i, none⟩ = some v
theorem Ce.step {b i : Nat} {v : Value} {w w' : World} (h : Ce b i v w) (hb : Below w.heap.size w w') : Ce b i v w' := ⟨Nat.lt_of_lt_of_le h.1 hb.size, (hb.cell (p := ⟨b, i, none⟩) h.1).trans h.2⟩

set_option maxRecDepth 100000 in
set_option maxHeartbeats 6400000 in
theorem plaw_MoveHistory (A : Option Addr) (n c : Nat) (bs : List Int) (w : World) (hn : n = bs.length) (hnc : n ≤ c) (h : BS w w.heap.size A bs) (hy : BY bs) (hm : n ≤ 9223372036854775807) :
    Calls Try.prog 6 #[.slice A n c] w fun e w' => e = .returned (.bool true) ∧ Below w.heap.size w w' := by
  by_cases hs : 1048576 < n
  · clear hn hnc h hy
    go_enter Try.func6, Try.ntmps6
    go_wp2
    go_ret
    exact ⟨rfl, Below.refl _ _⟩
  have HC := Lib.hid (spec_DrawMoveHistory A n c bs w hn hnc h hy (by omega))
  clear hn hnc h hy
  go_enter Try.func6, Try.ntmps6
  go_wp2_with fail
  refine HC.out.mono ?_
  rintro e w1 ⟨A1, n1, c1, gs, E1, l1, d1, ss, y, z, rfl, ⟨hp1, hp2, hp3, hnc1, hsm, hl, hl1, hl2, hld, hx, hy1, hy2, hP, hS, hb⟩, hz1, hz2⟩
  have HN1 := Lib.hid hp1
  have HG := Lib.hid (GB.of_drawnH (by omega) hsm)
  have HL1 := Lib.hid hl
  have HX := Lib.hid hx
  have HIB := Lib.hid (HiB.of_drawn y (by omega) hx)
  have P_1 := Lib.hid (hP)
  have S_1 := Lib.hid (hS)
  have B_1 := Lib.hid (hb)
  clear hP hp1 hb HC hsm hl hx hS
  go_wp2_with fail
  obtain ⟨w2, hw2⟩ : ∃ W, W = w1.alloc (.cells #[.slice A1 n1 c1] 25) := ⟨_, rfl⟩
  have hb : Below w1.heap.size w1 w2 := by rw [hw2]; exact (Below.refl _ _).alloc (Nat.le_refl _) _
  have P_2 := Lib.hid (P_1.out.step hb)
  clear P_1
  have S_2 := Lib.hid (S_1.out.step hb)
  clear S_1
  have B_2 := Lib.hid (B_1.out.trans (hb.mono B_1.out.size))
  clear B_1
  have F_2 : Hid (As w1.heap.size (w1.heap.size + 1) (fun w' => w'.cell? ⟨w1.heap.size, 0, none⟩ = some (.slice A1 n1 c1)) w2) := by rw [hw2]; exact box_new _ _ _
  clear hb
  have hsz2 : w2.heap.size = w1.heap.size + 1 := by rw [hw2]; simp
  obtain ⟨w3, hw3⟩ : ∃ W, W = w2.alloc (.cells #[.slice E1 l1 d1, .int .i64 y] 28) := ⟨_, rfl⟩
  have hb : Below w2.heap.size w2 w3 := by rw [hw3]; exact (Below.refl _ _).alloc (Nat.le_refl _) _
  have P_3 := Lib.hid (P_2.out.step hb)
  clear P_2
  have S_3 := Lib.hid (S_2.out.step hb)
  clear S_2
  have B_3 := Lib.hid (B_2.out.trans (hb.mono B_2.out.size))
  clear B_2
  have F_3 := Lib.hid (F_2.out.step hb)
  clear F_2
  have X_3 : Hid (As w2.heap.size (w2.heap.size + 1) (fun w' => w'.cell? ⟨w2.heap.size, 0, none⟩ = some (.slice E1 l1 d1) ∧ w'.cell? ⟨w2.heap.size, 1, none⟩ = some (.int .i64 y)) w3) := by rw [hw3]; exact box2_new _ _ _ _
  clear hb
  rw [hsz2] at X_3
  rw [← hw2]
  rw [← hw3]
  clear hw2 hw3 hsz2
  have HIM := Lib.hid fun (w' : World) (h : GS w' w'.heap.size A1 gs) (h' : SS w' w'.heap.size E1 ss) => top_impl_MoveHistory gs ⟨ss, y⟩ z HG.out HIB.out A1 n1 c1 E1 l1 d1 w' HN1.out hnc1 h HL1.out h' (by omega) (by omega)
  have HSP := Lib.hid fun (w' : World) (h : GS w' w'.heap.size A1 gs) (h' : SS w' w'.heap.size E1 ss) => top_spec_MoveHistory gs ⟨ss, y⟩ z HG.out HIB.out A1 n1 c1 E1 l1 d1 w' HN1.out hnc1 h HL1.out h' (by omega) (by omega)
  have HHB := Lib.hid (moveH_HB gs ⟨ss, y⟩ z)
  have HMF := Lib.hid fun (h : moveB gs ⟨ss, y⟩ z = true) => move_facts h
  have hil := moveI_len gs ⟨ss, y⟩ z
  generalize moveH gs ⟨ss, y⟩ z = st at *
  generalize moveB gs ⟨ss, y⟩ z = b at *
  generalize moveI gs ⟨ss, y⟩ z = L at *
  obtain ⟨tt, ix⟩ := st
  have qFc := F_3.out.it
  obtain ⟨xXc, yXc⟩ := X_3.out.it
  go_wp2_with fail
  refine (HIM.out w3 P_3.out S_3.out).mono ?_
  rintro e w4 hr9
  obtain ⟨A5, n5, c5, A6, m6, c6, rfl, hn5, hS5, hm6, hI6, hb⟩ := RetHIB.parts hr9
  have HM5 := Lib.hid hn5
  have HM6 := Lib.hid hm6
  have hm6b : m6 ≤ 10 := by omega
  clear hn5 hm6 hr9 hil
  have P_4 := Lib.hid (P_3.out.step hb)
  clear P_3
  have S_4 := Lib.hid (S_3.out.step hb)
  clear S_3
  have B_4 := Lib.hid (B_3.out.trans (hb.mono B_3.out.size))
  clear B_3
  have F_4 := Lib.hid (F_3.out.step hb)
  clear F_3
  have X_4 := Lib.hid (X_3.out.step hb)
  clear X_3
  have R_4 := Lib.hid (hS5)
  clear hS5
  have J_4 := Lib.hid (hI6)
  clear hI6
  clear hb qFc xXc yXc
  have qFd := F_4.out.it
  obtain ⟨xXd, yXd⟩ := X_4.out.it
  have lF : w1.heap.size < w4.heap.size := F_4.out.le
  have lX : w1.heap.size + 1 < w4.heap.size := X_4.out.le
  go_wp2_with fail
  obtain ⟨w5, hw5⟩ : ∃ W, W = w4.alloc (.cells #[.slice A5 n5 c5, .int .i64 ix] 28) := ⟨_, rfl⟩
  have hb : Below w4.heap.size w4 w5 := by rw [hw5]; exact (Below.refl _ _).alloc (Nat.le_refl _) _
  have P_5 := Lib.hid (P_4.out.step hb)
  clear P_4
  have S_5 := Lib.hid (S_4.out.step hb)
  clear S_4
  have B_5 := Lib.hid (B_4.out.trans (hb.mono B_4.out.size))
  clear B_4
  have F_5 := Lib.hid (F_4.out.step hb)
  clear F_4
  have X_5 := Lib.hid (X_4.out.step hb)
  clear X_4
  have R_5 := Lib.hid (R_4.out.step hb)
  clear R_4
  have J_5 := Lib.hid (J_4.out.step hb)
  clear J_4
  have Y_5 : Hid (As w4.heap.size (w4.heap.size + 1) (fun w' => w'.cell? ⟨w4.heap.size, 0, none⟩ = some (.slice A5 n5 c5) ∧ w'.cell? ⟨w4.heap.size, 1, none⟩ = some (.int .i64 ix)) w5) := by rw [hw5]; exact box2_new _ _ _ _
  clear hb
  rw [← hw5]
  clear hw5 qFd xXd yXd lF lX
  have qFc := F_5.out.it
  obtain ⟨xXc, yXc⟩ := X_5.out.it
  obtain ⟨xYc, yYc⟩ := Y_5.out.it
  go_wp2_with fail
  refine (HSP.out w5 P_5.out S_5.out).mono ?_
  rintro e w6 hr9
  obtain ⟨A7, n7, c7, A8, m8, c8, rfl, hn7, hS7, hm8, hI8, hb⟩ := RetHIB.parts hr9
  have hn57 : n5 = n7 := by rw [HM5.out, hn7]
  have hm68 : m6 = m8 := by rw [HM6.out, hm8]
  subst hn57 hm68
  clear hn7 hm8 hr9
  have P_6 := Lib.hid (P_5.out.step hb)
  clear P_5
  have S_6 := Lib.hid (S_5.out.step hb)
  clear S_5
  have B_6 := Lib.hid (B_5.out.trans (hb.mono B_5.out.size))
  clear B_5
  have F_6 := Lib.hid (F_5.out.step hb)
  clear F_5
  have X_6 := Lib.hid (X_5.out.step hb)
  clear X_5
  have R_6 := Lib.hid (R_5.out.step hb)
  clear R_5
  have J_6 := Lib.hid (J_5.out.step hb)
  clear J_5
  have Y_6 := Lib.hid (Y_5.out.step hb)
  clear Y_5
  have T_6 := Lib.hid (hS7)
  clear hS7
  have K_6 := Lib.hid (hI8)
  clear hI8
  clear hb qFc xXc yXc xYc yYc
  have qFd := F_6.out.it
  obtain ⟨xXd, yXd⟩ := X_6.out.it
  obtain ⟨xYd, yYd⟩ := Y_6.out.it
  have lF : w1.heap.size < w6.heap.size := F_6.out.le
  have lX : w1.heap.size + 1 < w6.heap.size := X_6.out.le
  have lY : w4.heap.size < w6.heap.size := Y_6.out.le
  go_wp2_with fail
  obtain ⟨w7, hw7⟩ : ∃ W, W = w6.alloc (.cells #[.slice A7 n5 c7, .int .i64 ix] 28) := ⟨_, rfl⟩
  have hb : Below w6.heap.size w6 w7 := by rw [hw7]; exact (Below.refl _ _).alloc (Nat.le_refl _) _
  have P_7 := Lib.hid (P_6.out.step hb)
  clear P_6
  have S_7 := Lib.hid (S_6.out.step hb)
  clear S_6
  have B_7 := Lib.hid (B_6.out.trans (hb.mono B_6.out.size))
  clear B_6
  have F_7 := Lib.hid (F_6.out.step hb)
  clear F_6
  have X_7 := Lib.hid (X_6.out.step hb)
  clear X_6
  have R_7 := Lib.hid (R_6.out.step hb)
  clear R_6
  have J_7 := Lib.hid (J_6.out.step hb)
  clear J_6
  have Y_7 := Lib.hid (Y_6.out.step hb)
  clear Y_6
  have T_7 := Lib.hid (T_6.out.step hb)
  clear T_6
  have K_7 := Lib.hid (K_6.out.step hb)
  clear K_6
  have Z_7 : Hid (As w6.heap.size (w6.heap.size + 1) (fun w' => w'.cell? ⟨w6.heap.size, 0, none⟩ = some (.slice A7 n5 c7) ∧ w'.cell? ⟨w6.heap.size, 1, none⟩ = some (.int .i64 ix)) w7) := by rw [hw7]; exact box2_new _ _ _ _
  clear hb
  rw [← hw7]
  clear hw7 qFd xXd yXd xYd yYd lF lX lY
  have HEQ := Lib.hid fun (w' : World) (h : SS w' w'.heap.size A5 tt) (h' : SS w' w'.heap.size A7 tt) => laws_equalHistory A5 A7 n5 c5 c7 ⟨tt, ix⟩ w' HM5.out h h' HHB.out
  have HEI := Lib.hid fun (A : Option Addr) (c : Nat) (w' : World) (h : IS w' w'.heap.size A6 L) (h' : IS w' w'.heap.size A L) => laws_equalInts A6 A m6 m6 c6 c L L w' w'.heap.size (Nat.le_refl _) HM6.out HM6.out h h' (by omega) (by omega)
  rw [show decide (L = L) = true from decide_eq_true rfl] at HEI
  obtain ⟨xYe, yYe⟩ := Y_7.out.it
  obtain ⟨xZe, yZe⟩ := Z_7.out.it
  go_wp2_with fail
  refine (HEQ.out w7 R_7.out T_7.out).mono ?_
  rintro e w8 ⟨rfl, hb⟩
  have P_8 := Lib.hid (P_7.out.step hb)
  clear P_7
  have S_8 := Lib.hid (S_7.out.step hb)
  clear S_7
  have B_8 := Lib.hid (B_7.out.trans (hb.mono B_7.out.size))
  clear B_7
  have F_8 := Lib.hid (F_7.out.step hb)
  clear F_7
  have X_8 := Lib.hid (X_7.out.step hb)
  clear X_7
  have R_8 := Lib.hid (R_7.out.step hb)
  clear R_7
  have J_8 := Lib.hid (J_7.out.step hb)
  clear J_7
  have Y_8 := Lib.hid (Y_7.out.step hb)
  clear Y_7
  have T_8 := Lib.hid (T_7.out.step hb)
  clear T_7
  have K_8 := Lib.hid (K_7.out.step hb)
  clear K_7
  have Z_8 := Lib.hid (Z_7.out.step hb)
  clear Z_7
  clear hb xYe yYe xZe yZe
  obtain ⟨xYe, yYe⟩ := Y_8.out.it
  obtain ⟨xZe, yZe⟩ := Z_8.out.it
  go_wp2_with fail
  refine (HEI.out A8 c8 w8 J_8.out K_8.out).mono ?_
  rintro e w9 ⟨rfl, hb⟩
  have P_9 := Lib.hid (P_8.out.step hb)
  clear P_8
  have S_9 := Lib.hid (S_8.out.step hb)
  clear S_8
  have B_9 := Lib.hid (B_8.out.trans (hb.mono B_8.out.size))
  clear B_8
  have F_9 := Lib.hid (F_8.out.step hb)
  clear F_8
  have X_9 := Lib.hid (X_8.out.step hb)
  clear X_8
  have R_9 := Lib.hid (R_8.out.step hb)
  clear R_8
  have J_9 := Lib.hid (J_8.out.step hb)
  clear J_8
  have Y_9 := Lib.hid (Y_8.out.step hb)
  clear Y_8
  have T_9 := Lib.hid (T_8.out.step hb)
  clear T_8
  have K_9 := Lib.hid (K_8.out.step hb)
  clear K_8
  have Z_9 := Lib.hid (Z_8.out.step hb)
  clear Z_8
  clear hb xYe yYe xZe yZe
  cases b
  · skip
    obtain ⟨xYe, yYe⟩ := Y_9.out.it
    obtain ⟨xZe, yZe⟩ := Z_9.out.it
    go_wp2_with fail
    refine (HEQ.out w9 R_9.out T_9.out).mono ?_
    rintro e w10 ⟨rfl, hb⟩
    have P_10 := Lib.hid (P_9.out.step hb)
    clear P_9
    have S_10 := Lib.hid (S_9.out.step hb)
    clear S_9
    have B_10 := Lib.hid (B_9.out.trans (hb.mono B_9.out.size))
    clear B_9
    have F_10 := Lib.hid (F_9.out.step hb)
    clear F_9
    have X_10 := Lib.hid (X_9.out.step hb)
    clear X_9
    have R_10 := Lib.hid (R_9.out.step hb)
    clear R_9
    have J_10 := Lib.hid (J_9.out.step hb)
    clear J_9
    have Y_10 := Lib.hid (Y_9.out.step hb)
    clear Y_9
    have T_10 := Lib.hid (T_9.out.step hb)
    clear T_9
    have K_10 := Lib.hid (K_9.out.step hb)
    clear K_9
    have Z_10 := Lib.hid (Z_9.out.step hb)
    clear Z_9
    clear hb xYe yYe xZe yZe
    obtain ⟨xYe, yYe⟩ := Y_10.out.it
    obtain ⟨xZe, yZe⟩ := Z_10.out.it
    go_wp2_with fail
    refine (HEI.out A8 c8 w10 J_10.out K_10.out).mono ?_
    rintro e w11 ⟨rfl, hb⟩
    have P_11 := Lib.hid (P_10.out.step hb)
    clear P_10
    have S_11 := Lib.hid (S_10.out.step hb)
    clear S_10
    have B_11 := Lib.hid (B_10.out.trans (hb.mono B_10.out.size))
    clear B_10
    have F_11 := Lib.hid (F_10.out.step hb)
    clear F_10
    have X_11 := Lib.hid (X_10.out.step hb)
    clear X_10
    have R_11 := Lib.hid (R_10.out.step hb)
    clear R_10
    have J_11 := Lib.hid (J_10.out.step hb)
    clear J_10
    have Y_11 := Lib.hid (Y_10.out.step hb)
    clear Y_10
    have T_11 := Lib.hid (T_10.out.step hb)
    clear T_10
    have K_11 := Lib.hid (K_10.out.step hb)
    clear K_10
    have Z_11 := Lib.hid (Z_10.out.step hb)
    clear Z_10
    clear hb xYe yYe xZe yZe
    go_wp2
    go_ret
    exact ⟨rfl, B_11.out⟩
  · obtain ⟨k, m, rfl, hym, hk, hm, hl10, hst, hli, hmb, hmh, hmi⟩ := HMF.out (by first | rfl | trivial)
    obtain ⟨htt, hixk⟩ : tt = ss ∧ ix = (m : Int) := by simpa using hst
    subst htt hixk
    have HBK := Lib.hid fun (w' : World) (h : GS w' w'.heap.size A1 gs) (h' : SS w' w'.heap.size A5 tt) => top_impl_MoveHistory gs ⟨tt, (m : Int)⟩ (-z) HG.out HHB.out A1 n1 c1 A5 n5 c5 w' HN1.out hnc1 h HM5.out h' (by omega) (by omega)
    rw [hmb, hmh, hmi, ← hli] at HBK
    have hkl : k < l1 := by rw [HL1.out]; exact hk
    have hml : m < l1 := by rw [HL1.out]; exact hm
    have hlk : (tt.getD k []).length ≤ 1048576 := HIB.out.2.1.2 k
    have hlm : (tt.getD m []).length ≤ 1048576 := HIB.out.2.1.2 m
    have hneg : IntKind.i64.wrap (-z) = -z := Go.IntWalk.i64_in _ (by omega)
    have HLI := Lib.hid hli
    have HK := Lib.hid hk
    have HM := Lib.hid hm
    have HIB2 : Hid (HiB ⟨tt, (k : Int)⟩) := HIB.out
    clear hmb hmh hmi hst hli hym hk hm HMF HIM HSP T_9 Z_9 K_9
    have qFc := F_9.out.it
    obtain ⟨xXc, yXc⟩ := X_9.out.it
    obtain ⟨xYc, yYc⟩ := Y_9.out.it
    go_wp2_with fail
    refine (HBK.out w9 P_9.out R_9.out).mono ?_
    rintro e w10 hr9
    obtain ⟨A9, n9, c9, A10, m10, c10, rfl, hn9, hS9, hm10, hI10, hb⟩ := RetHIB.parts hr9
    have hn9l : n9 = l1 := by rw [hn9, HL1.out]
    have hm106 : m10 = m6 := by rw [hm10, HM6.out]
    subst hn9l hm106
    clear hn9 hm10 hr9
    have P_10 := Lib.hid (P_9.out.step hb)
    clear P_9
    have S_10 := Lib.hid (S_9.out.step hb)
    clear S_9
    have B_10 := Lib.hid (B_9.out.trans (hb.mono B_9.out.size))
    clear B_9
    have F_10 := Lib.hid (F_9.out.step hb)
    clear F_9
    have X_10 := Lib.hid (X_9.out.step hb)
    clear X_9
    have R_10 := Lib.hid (R_9.out.step hb)
    clear R_9
    have J_10 := Lib.hid (J_9.out.step hb)
    clear J_9
    have Y_10 := Lib.hid (Y_9.out.step hb)
    clear Y_9
    have Q_10 := Lib.hid (hS9)
    clear hS9
    have O_10 := Lib.hid (hI10)
    clear hI10
    clear hb qFc xXc yXc xYc yYc
    have qFd := F_10.out.it
    obtain ⟨xXd, yXd⟩ := X_10.out.it
    obtain ⟨xYd, yYd⟩ := Y_10.out.it
    have lF : w1.heap.size < w10.heap.size := F_10.out.le
    have lX : w1.heap.size + 1 < w10.heap.size := X_10.out.le
    have lY : w4.heap.size < w10.heap.size := Y_10.out.le
    go_wp2_with fail
    obtain ⟨w11, hw11⟩ : ∃ W, W = w10.alloc (.cells #[.slice A9 n9 c9, .int .i64 k] 28) := ⟨_, rfl⟩
    have hb : Below w10.heap.size w10 w11 := by rw [hw11]; exact (Below.refl _ _).alloc (Nat.le_refl _) _
    have P_11 := Lib.hid (P_10.out.step hb)
    clear P_10
    have S_11 := Lib.hid (S_10.out.step hb)
    clear S_10
    have B_11 := Lib.hid (B_10.out.trans (hb.mono B_10.out.size))
    clear B_10
    have F_11 := Lib.hid (F_10.out.step hb)
    clear F_10
    have X_11 := Lib.hid (X_10.out.step hb)
    clear X_10
    have R_11 := Lib.hid (R_10.out.step hb)
    clear R_10
    have J_11 := Lib.hid (J_10.out.step hb)
    clear J_10
    have Y_11 := Lib.hid (Y_10.out.step hb)
    clear Y_10
    have Q_11 := Lib.hid (Q_10.out.step hb)
    clear Q_10
    have O_11 := Lib.hid (O_10.out.step hb)
    clear O_10
    have U_11 : Hid (As w10.heap.size (w10.heap.size + 1) (fun w' => w'.cell? ⟨w10.heap.size, 0, none⟩ = some (.slice A9 n9 c9) ∧ w'.cell? ⟨w10.heap.size, 1, none⟩ = some (.int .i64 k)) w11) := by rw [hw11]; exact box2_new _ _ _ _
    clear hb
    rw [← hw11]
    clear hw11 qFd xXd yXd xYd yYd lF lX lY
    have HE2 := Lib.hid fun (w' : World) (h : SS w' w'.heap.size A9 tt) (h' : SS w' w'.heap.size E1 tt) => laws_equalHistory A9 E1 n9 c9 d1 ⟨tt, (k : Int)⟩ w' HL1.out h h' HIB2.out
    have hS0 := S_11.out
    obtain ⟨bE, oE, hE1, hbE, hcE⟩ := S_11.out (by have := HK.out; omega)
    obtain ⟨Ae, ne, ce, ee, hne, hIe⟩ := hcE k (HK.out)
    have ac_11 : Hid (Ce bE (oE + k) (.slice Ae ne ce) w11) := ⟨hbE, ee⟩
    have ai_11 : Hid (IS w11 w11.heap.size Ae (tt.getD k [])) := hIe
    have HNRe : Hid (ne = (tt.getD k []).length) := hne
    clear ee hne hIe
    obtain ⟨Ao, no, co, eo, hno, hIo⟩ := hcE m (HM.out)
    have bc_11 : Hid (Ce bE (oE + m) (.slice Ao no co) w11) := ⟨hbE, eo⟩
    have bi_11 : Hid (IS w11 w11.heap.size Ao (tt.getD m [])) := hIo
    have HNRo : Hid (no = (tt.getD m []).length) := hno
    clear eo hno hIo
    clear hcE hS0
    have HCB := Lib.hid fun (w' : World) (h : GS w' w'.heap.size A1 gs) (h1 : IS w' w'.heap.size Ae (tt.getD k [])) (h2 : IS w' w'.heap.size Ao (tt.getD m [])) => top_impl_ChangedBy gs (tt.getD k []) (tt.getD m []) HG.out hlk hlm A1 n1 c1 Ae ne ce Ao no co w' HN1.out hnc1 h HNRe.out h1 HNRo.out h2
    rw [← HLI.out] at HCB
    subst hE1
    go_wp2
    have qF0 := F_11.out.it
    obtain ⟨xX0, yX0⟩ := X_11.out.it
    obtain ⟨xY0, yY0⟩ := Y_11.out.it
    obtain ⟨xU0, yU0⟩ := U_11.out.it
    have zac0 := ac_11.out.2
    have zbc0 := bc_11.out.2
    refine wp_region_held_drew (S := fun w' => w'.cell? ⟨w1.heap.size, 0, none⟩ = some (.slice A1 n1 c1) ∧ w'.cell? ⟨w1.heap.size + 1, 0, none⟩ = some (.slice (some ⟨bE, oE, none⟩) n9 d1) ∧ w'.cell? ⟨w1.heap.size + 1, 1, none⟩ = some (.int .i64 k) ∧ w'.cell? ⟨w4.heap.size, 0, none⟩ = some (.slice A5 n5 c5) ∧ w'.cell? ⟨w4.heap.size, 1, none⟩ = some (.int .i64 m) ∧ w'.cell? ⟨w10.heap.size, 0, none⟩ = some (.slice A9 n9 c9) ∧ w'.cell? ⟨w10.heap.size, 1, none⟩ = some (.int .i64 k) ∧ w'.cell? ⟨bE, oE + k, none⟩ = some (.slice Ae ne ce) ∧ w'.cell? ⟨bE, oE + m, none⟩ = some (.slice Ao no co)) (by kernel_rfl) ⟨qF0, xX0, yX0, xY0, yY0, xU0, yU0, zac0, zbc0⟩ (fun hHeld => ?_)
    refine wpAnyH_take (i := 0) (oi := ⟨some 81, _, _, _, _, _⟩) (v := ?_) rfl (by kernel_rfl) (by kernel_rfl) (by kernel_rfl) (fun _ _ _ h => h) (Or.inl ⟨by rfl, ?_⟩) (by assumption) ?_; rotate_left; (focus (intro w hSw; (try dsimp only at hSw); go_simp; (try with_reducible rfl))); (try simp only [Act.put, List.setIfInBounds_toArray, List.set_cons_zero, List.set_cons_succ])
    refine wpAnyH_take (i := 1) (oi := ⟨some 82, _, _, _, _, _⟩) (v := ?_) rfl (by kernel_rfl) (by kernel_rfl) (by kernel_rfl) (fun _ _ _ h => h) (Or.inl ⟨by rfl, ?_⟩) (by assumption) ?_; rotate_left; (focus (intro w hSw; (try dsimp only at hSw); go_simp; (try with_reducible rfl))); (try simp only [Act.put, List.setIfInBounds_toArray, List.set_cons_zero, List.set_cons_succ])
    refine wpAnyH_take (i := 2) (oi := ⟨some 83, _, _, _, _, _⟩) (v := ?_) rfl (by kernel_rfl) (by kernel_rfl) (by kernel_rfl) (fun _ _ _ h => h) (Or.inl ⟨by rfl, ?_⟩) (by assumption) ?_; rotate_left; (focus (intro w hSw; (try dsimp only at hSw); go_simp; (try with_reducible rfl))); (try simp only [Act.put, List.setIfInBounds_toArray, List.set_cons_zero, List.set_cons_succ])
    refine wpAnyH_take (i := 3) (oi := ⟨some 84, _, _, _, _, _⟩) (v := ?_) rfl (by kernel_rfl) (by kernel_rfl) (by kernel_rfl) (fun _ _ _ h => h) (Or.inl ⟨by rfl, ?_⟩) (by assumption) ?_; rotate_left; (focus (intro w hSw; (try dsimp only at hSw); go_simp; (try with_reducible rfl))); (try simp only [Act.put, List.setIfInBounds_toArray, List.set_cons_zero, List.set_cons_succ])
    refine wpAnyH_ready (rs := [4]) (by kernel_rfl) (by simp) ?_; refine AllReadyH.cons (o := ⟨some 85, _, _, _, _, _⟩) rfl (fun K hK => ?_) AllReadyH.nil; go_simp
    go_at_call 13
    refine (HE2.out w11.drew Q_11.out S_11.out).mono ?_
    rintro e w12 ⟨rfl, hb'⟩
    have hb : Below w11.heap.size w11 w12 := below_of_drew hb'
    have P_12 := Lib.hid (P_11.out.step hb)
    clear P_11
    have S_12 := Lib.hid (S_11.out.step hb)
    clear S_11
    have B_12 := Lib.hid (B_11.out.trans (hb.mono B_11.out.size))
    clear B_11
    have F_12 := Lib.hid (F_11.out.step hb)
    clear F_11
    have X_12 := Lib.hid (X_11.out.step hb)
    clear X_11
    have R_12 := Lib.hid (R_11.out.step hb)
    clear R_11
    have J_12 := Lib.hid (J_11.out.step hb)
    clear J_11
    have Y_12 := Lib.hid (Y_11.out.step hb)
    clear Y_11
    have Q_12 := Lib.hid (Q_11.out.step hb)
    clear Q_11
    have O_12 := Lib.hid (O_11.out.step hb)
    clear O_11
    have U_12 := Lib.hid (U_11.out.step hb)
    clear U_11
    have ac_12 := Lib.hid (ac_11.out.step hb)
    clear ac_11
    have ai_12 := Lib.hid (ai_11.out.step hb)
    clear ai_11
    have bc_12 := Lib.hid (bc_11.out.step hb)
    clear bc_11
    have bi_12 := Lib.hid (bi_11.out.step hb)
    clear bi_11
    clear hb hb'
    have qF9 := F_12.out.it
    obtain ⟨xX9, yX9⟩ := X_12.out.it
    obtain ⟨xY9, yY9⟩ := Y_12.out.it
    obtain ⟨xU9, yU9⟩ := U_12.out.it
    have zac9 := ac_12.out.2
    have zbc9 := bc_12.out.2
    refine hK.out _ _ ⟨qF9, xX9, yX9, xY9, yY9, xU9, yU9, zac9, zbc9⟩ (fun hHeld => ?_); clear hK K; (try simp only [Act.put, List.setIfInBounds_toArray, List.set_cons_zero, List.set_cons_succ])
    refine wpAnyH_take (i := 5) (oi := ⟨some 86, _, _, _, _, _⟩) (v := ?_) rfl (by kernel_rfl) (by kernel_rfl) (by kernel_rfl) (fun _ _ _ h => h) (Or.inl ⟨by rfl, ?_⟩) (by assumption) ?_; rotate_left; (focus (intro w hSw; (try dsimp only at hSw); go_simp; (try with_reducible rfl))); (try simp only [Act.put, List.setIfInBounds_toArray, List.set_cons_zero, List.set_cons_succ])
    refine wpAnyH_take (i := 6) (oi := ⟨some 87, _, _, _, _, _⟩) (v := ?_) rfl (by kernel_rfl) (by kernel_rfl) (by kernel_rfl) (fun _ _ _ h => h) (Or.inl ⟨by rfl, ?_⟩) (by assumption) ?_; rotate_left; (focus (intro w hSw; (try dsimp only at hSw); go_simp; (try with_reducible rfl))); (try simp only [Act.put, List.setIfInBounds_toArray, List.set_cons_zero, List.set_cons_succ])
    refine wpAnyH_take (i := 7) (oi := ⟨some 88, _, _, _, _, _⟩) (v := ?_) rfl (by kernel_rfl) (by kernel_rfl) (by kernel_rfl) (fun _ _ _ h => h) (Or.inl ⟨by rfl, ?_⟩) (by assumption) ?_; rotate_left; (focus (intro w hSw; (try dsimp only at hSw); go_simp; (try with_reducible rfl))); (try simp only [Act.put, List.setIfInBounds_toArray, List.set_cons_zero, List.set_cons_succ])
    refine wpAnyH_take (i := 8) (oi := ⟨some 89, _, _, _, _, _⟩) (v := ?_) rfl (by kernel_rfl) (by kernel_rfl) (by kernel_rfl) (fun _ _ _ h => h) (Or.inl ⟨by rfl, ?_⟩) (by assumption) ?_; rotate_left; (focus (intro w hSw; (try dsimp only at hSw); go_simp; (try with_reducible rfl))); (try simp only [Act.put, List.setIfInBounds_toArray, List.set_cons_zero, List.set_cons_succ])
    refine wpAnyH_ready (rs := [9]) (by kernel_rfl) (by simp) ?_; refine AllReadyH.cons (o := ⟨some 90, _, _, _, _, _⟩) rfl (fun K hK => ?_) AllReadyH.nil; go_simp
    go_at_call 17
    refine (laws_equalInts A10 A6 m10 m10 c10 c6 L L w12 w12.heap.size (Nat.le_refl _) HM6.out HM6.out O_12.out J_12.out (by omega) (by omega)).mono ?_
    rintro e w13 ⟨rfl, hb⟩
    have P_13 := Lib.hid (P_12.out.step hb)
    clear P_12
    have S_13 := Lib.hid (S_12.out.step hb)
    clear S_12
    have B_13 := Lib.hid (B_12.out.trans (hb.mono B_12.out.size))
    clear B_12
    have F_13 := Lib.hid (F_12.out.step hb)
    clear F_12
    have X_13 := Lib.hid (X_12.out.step hb)
    clear X_12
    have R_13 := Lib.hid (R_12.out.step hb)
    clear R_12
    have J_13 := Lib.hid (J_12.out.step hb)
    clear J_12
    have Y_13 := Lib.hid (Y_12.out.step hb)
    clear Y_12
    have Q_13 := Lib.hid (Q_12.out.step hb)
    clear Q_12
    have O_13 := Lib.hid (O_12.out.step hb)
    clear O_12
    have U_13 := Lib.hid (U_12.out.step hb)
    clear U_12
    have ac_13 := Lib.hid (ac_12.out.step hb)
    clear ac_12
    have ai_13 := Lib.hid (ai_12.out.step hb)
    clear ai_12
    have bc_13 := Lib.hid (bc_12.out.step hb)
    clear bc_12
    have bi_13 := Lib.hid (bi_12.out.step hb)
    clear bi_12
    clear hb
    rw [show decide (L = L) = true from decide_eq_true rfl]
    have qF9 := F_13.out.it
    obtain ⟨xX9, yX9⟩ := X_13.out.it
    obtain ⟨xY9, yY9⟩ := Y_13.out.it
    obtain ⟨xU9, yU9⟩ := U_13.out.it
    have zac9 := ac_13.out.2
    have zbc9 := bc_13.out.2
    refine hK.out _ _ ⟨qF9, xX9, yX9, xY9, yY9, xU9, yU9, zac9, zbc9⟩ (fun hHeld => ?_); clear hK K; (try simp only [Act.put, List.setIfInBounds_toArray, List.set_cons_zero, List.set_cons_succ])
    refine wpAnyH_take (i := 10) (oi := ⟨some 91, _, _, _, _, _⟩) (v := ?_) rfl (by kernel_rfl) (by kernel_rfl) (by kernel_rfl) (fun _ _ _ h => h) (Or.inl ⟨by rfl, ?_⟩) (by assumption) ?_; rotate_left; (focus (intro w hSw; (try dsimp only at hSw); go_simp; (try with_reducible rfl))); (try simp only [Act.put, List.setIfInBounds_toArray, List.set_cons_zero, List.set_cons_succ])
    refine wpAnyH_take (i := 11) (oi := ⟨some 92, _, _, _, _, _⟩) (v := ?_) rfl (by kernel_rfl) (by kernel_rfl) (by kernel_rfl) (fun _ _ _ h => h) (Or.inl ⟨by rfl, ?_⟩) (by assumption) ?_; rotate_left; (focus (intro w hSw; (try dsimp only at hSw); go_simp; (try with_reducible rfl))); (try simp only [Act.put, List.setIfInBounds_toArray, List.set_cons_zero, List.set_cons_succ])
    refine wpAnyH_take (i := 12) (oi := ⟨some 93, _, _, _, _, _⟩) (v := ?_) rfl (by kernel_rfl) (by kernel_rfl) (by kernel_rfl) (fun _ _ _ h => h) (Or.inl ⟨by rfl, ?_⟩) (by assumption) ?_; rotate_left; (focus (intro w hSw; (try dsimp only at hSw); go_simp; (try with_reducible rfl))); (try simp only [Act.put, List.setIfInBounds_toArray, List.set_cons_zero, List.set_cons_succ])
    refine wpAnyH_take (i := 13) (oi := ⟨some 94, _, _, _, _, _⟩) (v := ?_) rfl (by kernel_rfl) (by kernel_rfl) (by kernel_rfl) (fun _ _ _ h => h) (Or.inl ⟨by rfl, ?_⟩) (by assumption) ?_; rotate_left; (focus (intro w hSw; (try dsimp only at hSw); go_simp; (try with_reducible rfl))); (try simp only [Act.put, List.setIfInBounds_toArray, List.set_cons_zero, List.set_cons_succ])
    refine wpAnyH_take (i := 14) (oi := ⟨some 95, _, _, _, _, _⟩) (v := ?_) rfl (by kernel_rfl) (by kernel_rfl) (by kernel_rfl) (fun _ _ _ h => h) (Or.inl ⟨by rfl, ?_⟩) (by assumption) ?_; rotate_left; (focus (intro w hSw; (try dsimp only at hSw); go_simp; (try with_reducible rfl))); (try simp only [Act.put, List.setIfInBounds_toArray, List.set_cons_zero, List.set_cons_succ])
    refine wpAnyH_take (i := 15) (oi := ⟨some 96, _, _, _, _, _⟩) (v := ?_) rfl (by kernel_rfl) (by kernel_rfl) (by kernel_rfl) (fun _ _ _ h => h) (Or.inl ⟨by rfl, ?_⟩) (by assumption) ?_; rotate_left; (focus (intro w hSw; (try dsimp only at hSw); go_simp; (try with_reducible rfl))); (try simp only [Act.put, List.setIfInBounds_toArray, List.set_cons_zero, List.set_cons_succ])
    refine wpAnyH_take (i := 16) (oi := ⟨some 97, _, _, _, _, _⟩) (v := ?_) rfl (by kernel_rfl) (by kernel_rfl) (by kernel_rfl) (fun _ _ _ h => h) (Or.inl ⟨by rfl, ?_⟩) (by assumption) ?_; rotate_left; (focus (intro w hSw; (try dsimp only at hSw); go_simp; (try with_reducible rfl))); (try simp only [Act.put, List.setIfInBounds_toArray, List.set_cons_zero, List.set_cons_succ])
    refine wpAnyH_take (i := 17) (oi := ⟨some 98, _, _, _, _, _⟩) (v := ?_) rfl (by kernel_rfl) (by kernel_rfl) (by kernel_rfl) (fun _ _ _ h => h) (Or.inl ⟨by rfl, ?_⟩) (by assumption) ?_; rotate_left; (focus (intro w hSw; (try dsimp only at hSw); go_simp; (try with_reducible rfl))); (try simp only [Act.put, List.setIfInBounds_toArray, List.set_cons_zero, List.set_cons_succ])
    refine wpAnyH_take (i := 18) (oi := ⟨some 99, _, _, _, _, _⟩) (v := ?_) rfl (by kernel_rfl) (by kernel_rfl) (by kernel_rfl) (fun _ _ _ h => h) (Or.inl ⟨by rfl, ?_⟩) (by assumption) ?_; rotate_left; (focus (intro w hSw; (try dsimp only at hSw); go_simp; (try with_reducible rfl))); (try simp only [Act.put, List.setIfInBounds_toArray, List.set_cons_zero, List.set_cons_succ])
    refine wpAnyH_take (i := 19) (oi := ⟨some 100, _, _, _, _, _⟩) (v := ?_) rfl (by kernel_rfl) (by kernel_rfl) (by kernel_rfl) (fun _ _ _ h => h) (Or.inl ⟨by rfl, ?_⟩) (by assumption) ?_; rotate_left; (focus (intro w hSw; (try dsimp only at hSw); go_simp; (try with_reducible rfl))); (try simp only [Act.put, List.setIfInBounds_toArray, List.set_cons_zero, List.set_cons_succ])
    refine wpAnyH_take (i := 20) (oi := ⟨some 101, _, _, _, _, _⟩) (v := ?_) rfl (by kernel_rfl) (by kernel_rfl) (by kernel_rfl) (fun _ _ _ h => h) (Or.inl ⟨by rfl, ?_⟩) (by assumption) ?_; rotate_left; (focus (intro w hSw; (try dsimp only at hSw); go_simp; (try with_reducible rfl))); (try simp only [Act.put, List.setIfInBounds_toArray, List.set_cons_zero, List.set_cons_succ])
    refine wpAnyH_take (i := 21) (oi := ⟨some 102, _, _, _, _, _⟩) (v := ?_) rfl (by kernel_rfl) (by kernel_rfl) (by kernel_rfl) (fun _ _ _ h => h) (Or.inl ⟨by rfl, ?_⟩) (by assumption) ?_; rotate_left; (focus (intro w hSw; (try dsimp only at hSw); go_simp; (try with_reducible rfl))); (try simp only [Act.put, List.setIfInBounds_toArray, List.set_cons_zero, List.set_cons_succ])
    refine wpAnyH_take (i := 22) (oi := ⟨some 103, _, _, _, _, _⟩) (v := ?_) rfl (by kernel_rfl) (by kernel_rfl) (by kernel_rfl) (fun _ _ _ h => h) (Or.inl ⟨by rfl, ?_⟩) (by assumption) ?_; rotate_left; (focus (intro w hSw; (try dsimp only at hSw); go_simp; (try with_reducible rfl))); (try simp only [Act.put, List.setIfInBounds_toArray, List.set_cons_zero, List.set_cons_succ])
    refine wpAnyH_take (i := 23) (oi := ⟨some 104, _, _, _, _, _⟩) (v := ?_) rfl (by kernel_rfl) (by kernel_rfl) (by kernel_rfl) (fun _ _ _ h => h) (Or.inl ⟨by rfl, ?_⟩) (by assumption) ?_; rotate_left; (focus (intro w hSw; (try dsimp only at hSw); go_simp; (try with_reducible rfl))); (try simp only [Act.put, List.setIfInBounds_toArray, List.set_cons_zero, List.set_cons_succ])
    refine wpAnyH_take (i := 24) (oi := ⟨some 105, _, _, _, _, _⟩) (v := ?_) rfl (by kernel_rfl) (by kernel_rfl) (by kernel_rfl) (fun _ _ _ h => h) (Or.inl ⟨by rfl, ?_⟩) (by assumption) ?_; rotate_left; (focus (intro w hSw; (try dsimp only at hSw); go_simp; (try with_reducible rfl))); (try simp only [Act.put, List.setIfInBounds_toArray, List.set_cons_zero, List.set_cons_succ])
    refine wpAnyH_take (i := 25) (oi := ⟨some 106, _, _, _, _, _⟩) (v := ?_) rfl (by kernel_rfl) (by kernel_rfl) (by kernel_rfl) (fun _ _ _ h => h) (Or.inl ⟨by rfl, ?_⟩) (by assumption) ?_; rotate_left; (focus (intro w hSw; (try dsimp only at hSw); go_simp; (try with_reducible rfl))); (try simp only [Act.put, List.setIfInBounds_toArray, List.set_cons_zero, List.set_cons_succ])
    refine wpAnyH_ready (rs := [26]) (by kernel_rfl) (by simp) ?_; refine AllReadyH.cons (o := ⟨some 107, _, _, _, _, _⟩) rfl (fun K hK => ?_) AllReadyH.nil; go_simp
    go_at_call 23
    refine (HCB.out w13 P_13.out ai_13.out bi_13.out).mono ?_
    rintro e w14 ⟨v, rfl, ho, hb⟩
    obtain ⟨A11, c11, rfl, hI11⟩ := OwnI.form ho
    have P_14 := Lib.hid (P_13.out.step hb)
    clear P_13
    have S_14 := Lib.hid (S_13.out.step hb)
    clear S_13
    have B_14 := Lib.hid (B_13.out.trans (hb.mono B_13.out.size))
    clear B_13
    have F_14 := Lib.hid (F_13.out.step hb)
    clear F_13
    have X_14 := Lib.hid (X_13.out.step hb)
    clear X_13
    have R_14 := Lib.hid (R_13.out.step hb)
    clear R_13
    have J_14 := Lib.hid (J_13.out.step hb)
    clear J_13
    have Y_14 := Lib.hid (Y_13.out.step hb)
    clear Y_13
    have Q_14 := Lib.hid (Q_13.out.step hb)
    clear Q_13
    have O_14 := Lib.hid (O_13.out.step hb)
    clear O_13
    have U_14 := Lib.hid (U_13.out.step hb)
    clear U_13
    have ac_14 := Lib.hid (ac_13.out.step hb)
    clear ac_13
    have ai_14 := Lib.hid (ai_13.out.step hb)
    clear ai_13
    have bc_14 := Lib.hid (bc_13.out.step hb)
    clear bc_13
    have bi_14 := Lib.hid (bi_13.out.step hb)
    clear bi_13
    clear hb
    rw [← HM6.out]
    have qF9 := F_14.out.it
    obtain ⟨xX9, yX9⟩ := X_14.out.it
    obtain ⟨xY9, yY9⟩ := Y_14.out.it
    obtain ⟨xU9, yU9⟩ := U_14.out.it
    have zac9 := ac_14.out.2
    have zbc9 := bc_14.out.2
    refine hK.out _ _ ⟨qF9, xX9, yX9, xY9, yY9, xU9, yU9, zac9, zbc9⟩ (fun hHeld => ?_); clear hK K; (try simp only [Act.put, List.setIfInBounds_toArray, List.set_cons_zero, List.set_cons_succ])
    refine wpAnyH_ready (rs := [27]) (by kernel_rfl) (by simp) ?_; refine AllReadyH.cons (o := ⟨some 108, _, _, _, _, _⟩) rfl (fun K hK => ?_) AllReadyH.nil; go_simp
    go_at_call 17
    refine (HEI.out A11 c11 w14 J_14.out hI11).mono ?_
    rintro e w15 ⟨rfl, hb⟩
    have P_15 := Lib.hid (P_14.out.step hb)
    clear P_14
    have S_15 := Lib.hid (S_14.out.step hb)
    clear S_14
    have B_15 := Lib.hid (B_14.out.trans (hb.mono B_14.out.size))
    clear B_14
    have F_15 := Lib.hid (F_14.out.step hb)
    clear F_14
    have X_15 := Lib.hid (X_14.out.step hb)
    clear X_14
    have R_15 := Lib.hid (R_14.out.step hb)
    clear R_14
    have J_15 := Lib.hid (J_14.out.step hb)
    clear J_14
    have Y_15 := Lib.hid (Y_14.out.step hb)
    clear Y_14
    have Q_15 := Lib.hid (Q_14.out.step hb)
    clear Q_14
    have O_15 := Lib.hid (O_14.out.step hb)
    clear O_14
    have U_15 := Lib.hid (U_14.out.step hb)
    clear U_14
    have ac_15 := Lib.hid (ac_14.out.step hb)
    clear ac_14
    have ai_15 := Lib.hid (ai_14.out.step hb)
    clear ai_14
    have bc_15 := Lib.hid (bc_14.out.step hb)
    clear bc_14
    have bi_15 := Lib.hid (bi_14.out.step hb)
    clear bi_14
    clear hb
    clear ho hI11
    have qF9 := F_15.out.it
    obtain ⟨xX9, yX9⟩ := X_15.out.it
    obtain ⟨xY9, yY9⟩ := Y_15.out.it
    obtain ⟨xU9, yU9⟩ := U_15.out.it
    have zac9 := ac_15.out.2
    have zbc9 := bc_15.out.2
    refine hK.out _ _ ⟨qF9, xX9, yX9, xY9, yY9, xU9, yU9, zac9, zbc9⟩ (fun hHeld => ?_); clear hK K; (try simp only [Act.put, List.setIfInBounds_toArray, List.set_cons_zero, List.set_cons_succ])
    refine wpAnyH_take (i := 28) (oi := ⟨some 109, _, _, _, _, _⟩) (v := ?_) rfl (by kernel_rfl) (by kernel_rfl) (by kernel_rfl) (fun _ _ _ h => h) (Or.inl ⟨by rfl, ?_⟩) (by assumption) ?_; rotate_left; (focus (intro w hSw; (try dsimp only at hSw); go_simp; (try with_reducible rfl))); (try simp only [Act.put, List.setIfInBounds_toArray, List.set_cons_zero, List.set_cons_succ])
    refine wpAnyH_take (i := 29) (oi := ⟨some 2, _, _, _, _, _⟩) (v := ?_) rfl (by kernel_rfl) (by kernel_rfl) (by kernel_rfl) (fun _ _ _ h => h) (Or.inl ⟨by rfl, ?_⟩) (by assumption) ?_; rotate_left; (focus (intro w hSw; (try dsimp only at hSw); go_simp; (try with_reducible rfl))); (try simp only [Act.put, List.setIfInBounds_toArray, List.set_cons_zero, List.set_cons_succ])
    refine wpAnyH_done (by kernel_rfl) ?_ _
    go_wp2
    go_ret
    exact ⟨rfl, B_15.out⟩
end Go.Proofs.Ytfooafnfdeofoaa
