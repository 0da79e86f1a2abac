/- laws.FnWriteEager returns true for all bytes, and writes nothing that was there. (Made by qwe.py.) -/
import Derived.Test.YtgakgmkonmgblaaQWriteEagerTwice
import Derived.Test.YtgakgmkonmgblaaR27
import Derived.Test.YtgakgmkonmgblaaAe
import Derived.Deep.RegionHeld3

namespace Go.Proofs.Ytgakgmkonmgblaa
set_option linter.unusedSimpArgs false
set_option linter.unusedVariables false
open Go.RowKit

set_option maxRecDepth 100000 in
set_option maxHeartbeats 6400000 in
theorem plaw_WriteEager (A : Option Addr) (n c : Nat) (bs : List Int) (w : World) (hn : n = bs.length) (hnc : n ≤ c) (h : BS w w.heap.size A bs) (hy : BY bs) (hm : n ≤ 9223372036854775807) :
    Calls Try.prog 3 #[.slice A n c] w fun e w' => e = .returned (.bool true) ∧ Below w.heap.size w w' := by
  by_cases hs : 1048576 < n
  · clear hn hnc h hy
    go_enter Try.func3, Try.ntmps3
    go_wp2
    go_ret
    exact ⟨rfl, Below.refl _ _⟩
  have HC := Lib.hid (spec_DrawWriteEager A n c bs w hn hnc h hy (by omega))
  clear hn hnc h hy
  go_enter Try.func3, Try.ntmps3
  go_wp2_with fail
  refine HC.out.mono ?_
  rintro e w1 ⟨A1, n1, c1, gs, A2, m2, c2, E2, p2, e2, st, AN, mN, cN, xs, AV, cV, ys, rfl, hp1, hp2, hp3, hnc1, hsm, hm, hp, hem, hmx, hmy, hm3, hcn, hcv, hP, hE, hX, hY, hb⟩
  have HN1 := Lib.hid hp1
  have HG := Lib.hid (GB.of_drawn (by omega) hsm)
  have HM2 := Lib.hid hm
  have HP2 := Lib.hid hp
  have HEB := Lib.hid hem.eb
  have HMX := Lib.hid hmx
  have HMY := Lib.hid hmy
  have C1 : Hid (TW w A1 A2 E2 AN AV gs st xs ys w1) := ⟨hP, hE, hX, hY, hb⟩
  have hvl : st.vs.length ≤ 11 := hem.1
  have hm11 : m2 ≤ 11 := by omega
  have HVN : Hid (validE gs st = true → m2 = n1) := fun h => by have := (validE_parts gs st h).2.1; omega
  have HIM := Lib.hid fun (w' : World) (h : TW w A1 A2 E2 AN AV gs st xs ys w') => top_impl_WriteEager gs st xs ys HG.out HEB.out (by omega) (by omega) A1 n1 c1 A2 m2 c2 E2 p2 e2 AN mN cN AV mN cV w' hp1 hnc1 h.g hm hp h.s hmx hcn h.x hmy hcv h.y
  have HSP := Lib.hid fun (w' : World) (h : TW w A1 A2 E2 AN AV gs st xs ys w') => top_spec_WriteEager gs st xs ys HG.out HEB.out (by omega) (by omega) A1 n1 c1 A2 m2 c2 E2 p2 e2 AN mN cN AV mN cV w' hp1 hnc1 h.g hm hp h.s hmx hcn h.x hmy hcv h.y
  have HVE := Lib.hid fun (w' : World) (h : TW w A1 A2 E2 AN AV gs st xs ys w') => impl_ValidEager A1 A2 E2 n1 c1 m2 c2 p2 e2 gs st w' w'.heap.size (Nat.le_refl _) hp1 hnc1 hm hp h.g h.s HG.out HEB.out
  have heb := writeF_EB gs st xs ys
  have HCE := Lib.hid fun (w' : World) (h : TW w A1 A2 E2 AN AV gs st xs ys w') => top_impl_CellsOf gs st HG.out HEB.out A1 n1 c1 A2 m2 c2 E2 p2 e2 w' hp1 hnc1 h.g hm hp h.s
  have HST := Lib.hid fun (C : List Int) (A9 : Option Addr) (m9 d9 : Nat) (w' : World) (h : GS w' w'.heap.size A1 gs) (hl : C.length ≤ 1000) (h1 : m9 = C.length) (h' : IS w' w'.heap.size A9 C) => top_impl_StartEager gs C HG.out (by omega) A1 n1 c1 A9 m9 d9 w' hp1 hnc1 h h1 h'
  have HVF := Lib.hid fun (A3 : Option Addr) (m3 c3 : Nat) (E3 : Option Addr) (e3 : Nat) (w' : World) (h : GS w' w'.heap.size A1 gs) (h1 : m3 = (writeF gs st xs ys).vs.length) (h2 : m3 = (writeF gs st xs ys).rs.length) (h3 : ES w' w'.heap.size A3 E3 (writeF gs st xs ys)) => impl_ValidEager A1 A3 E3 n1 c1 m3 c3 m3 e3 gs (writeF gs st xs ys) w' w'.heap.size (Nat.le_refl _) hp1 hnc1 h1 h2 h h3 HG.out (writeF_EB gs st xs ys)
  have heb := writeF_EB gs st xs ys
  have HTW : Hid (wrtB gs st xs ys = true → startF gs (wrC (cellsF gs st) xs ys mN) = writeF gs st xs ys ∧ validE gs (writeF gs st xs ys) = true ∧ (writeF gs st xs ys).vs.length = gs.length ∧ (cellsF gs st).length = gs.length ∧ ∀ k, k < mN → ∃ q : Nat, xs.getD k 0 = q ∧ q < n1) := fun h => by
    obtain ⟨f1, f2, f3, f4, f5⟩ := write_facts h
    have hw : gwB gs xs ys = true := by unfold wrtB at h; rw [Bool.and_eq_true] at h; exact h.2
    have hvs : validE gs (writeF gs st xs ys) = true := by rw [f4]; exact start_valid gs _ f3
    have hcl : (cellsF gs st).length = gs.length := ((validC_iff gs _).1 (by have := f2; unfold okC at this; rw [Bool.and_eq_true] at this; exact this.2)).1
    refine ⟨by rw [hmx]; exact f4.symm, hvs, (validE_parts gs _ hvs).2.1, hcl, fun k hk => ?_⟩
    obtain ⟨q, e, hq, -⟩ := isC_at ((gw_parts hw).2.2.2.2 k (by omega))
    exact ⟨q, e, by omega⟩
  have HNO : Hid (wrtB gs st xs ys = false → (writeF gs st xs ys).vs.length = 0) := fun h => by unfold writeF; rw [h]; rfl
  have HVW : Hid (validE gs st = false → wrtB gs st xs ys = false) := fun h => by unfold wrtB; rw [h]; rfl
  have hll := writeR_len gs st xs ys
  have HEF := Lib.hid heb
  clear hP hp1 hb HC hsm hm hp hE hX hY hmx hmy hvl hem heb
  generalize hvf : validE gs (writeF gs st xs ys) = vf at *
  clear hvf
  generalize writeF gs st xs ys = F at *
  generalize writeR gs st xs ys = L at *
  generalize wrtB gs st xs ys = u at *
  generalize cellsF gs st = CF at *
  generalize validE gs st = v at *
  go_wp2_with fail
  obtain ⟨w2, hw2⟩ : ∃ W, W = (w1.alloc (.cells #[.slice A1 n1 c1] 25)).alloc (.cells #[.slice A2 m2 c2, .slice E2 p2 e2] 29) := ⟨_, rfl⟩
  have hb : Below w1.heap.size w1 w2 := by rw [hw2]; exact ((Below.refl _ _).alloc (Nat.le_refl _) _).alloc (by simp) _
  have C2 := Lib.hid (C1.out.step hb)
  have G2 : Hid (Bx w1.heap.size [.slice A1 n1 c1] w2) := by rw [hw2]; exact (Bx.start w1 #[.slice A1 n1 c1] _).alloc _
  have T2 : Hid (Bx (w1.heap.size + 1) [.slice A2 m2 c2, .slice E2 p2 e2] w2) := by
    rw [hw2]
    have h1 := Bx.start (w1.alloc (.cells #[.slice A1 n1 c1] 25)) #[.slice A2 m2 c2, .slice E2 p2 e2] 29
    simp only [World.size_alloc] at h1
    exact h1
  rw [← hw2]
  clear hb hw2 C1
  have q0 := G2.out.c 0 _ rfl
  have q1 := T2.out.c 0 _ rfl
  have q2 := T2.out.c 1 _ rfl
  go_wp2_with fail
  refine (HIM.out w2 C2.out).mono ?_
  intro e w3 hr
  obtain ⟨A3, n3, c3, E3, e3, R3, r3, d3, rfl, hn3, hp3, hr3, hS3, hI3, hb⟩ := hr.parts
  have C3 := Lib.hid (C2.out.step hb)
  have G3 := Lib.hid (G2.out.step hb)
  have T3 := Lib.hid (T2.out.step hb)
  have HN3 := Lib.hid hn3
  have HP3 := Lib.hid hp3
  have HR3 := Lib.hid hr3
  have hb2 : Below w3.heap.size w3 (w3.alloc (.cells #[.slice A3 n3 c3, .slice E3 n3 e3] 29)) := (Below.refl _ _).alloc (Nat.le_refl _) _
  have O4 := Lib.hid (Bx.start w3 #[.slice A3 n3 c3, .slice E3 n3 e3] 29)
  have C4 := Lib.hid (C3.out.step hb2)
  have G4 := Lib.hid (G3.out.step hb2)
  have T4 := Lib.hid (T3.out.step hb2)
  have S4 := Lib.hid (hS3.step hb2)
  have I4 := Lib.hid (hI3.step hb2)
  clear hr hb hb2 hn3 hp3 hr3 hS3 hI3 q0 q1 q2 C2 G2 T2 C3 G3 T3
  obtain ⟨w4, hw4⟩ : ∃ W, W = w3.alloc (.cells #[.slice A3 n3 c3, .slice E3 n3 e3] 29) := ⟨_, rfl⟩
  rw [← hw4] at O4 C4 G4 T4 S4 I4
  have q0 := G4.out.c 0 _ rfl
  have q1 := T4.out.c 0 _ rfl
  have q2 := T4.out.c 1 _ rfl
  go_upto_region 5 with fail
  rw [← hw4]
  clear hw4
  go_wp2_with fail
  refine (HSP.out w4 C4.out).mono ?_
  intro e w5 hr
  obtain ⟨A5, n5, c5, E5, e5, R5, r5, d5, rfl, hn5, hp5, hr5, hS5, hI5, hb⟩ := hr.parts
  obtain rfl : n3 = n5 := by have := HN3.out; omega
  obtain rfl : r3 = r5 := by have := HR3.out; omega
  clear q0 q1 q2
  have C5 := Lib.hid (C4.out.step hb)
  have G5 := Lib.hid (G4.out.step hb)
  have T5 := Lib.hid (T4.out.step hb)
  have O5 := Lib.hid (O4.out.step hb)
  have S5 := Lib.hid (S4.out.step hb)
  have I5 := Lib.hid (I4.out.step hb)
  clear C4 G4 T4 O4 S4 I4
  have hb2 : Below w5.heap.size w5 (w5.alloc (.cells #[.slice A5 n3 c5, .slice E5 n3 e5] 29)) := (Below.refl _ _).alloc (Nat.le_refl _) _
  have Q6 := Lib.hid (Bx.start w5 #[.slice A5 n3 c5, .slice E5 n3 e5] 29)
  have Z6 := Lib.hid (hS5.step hb2)
  have J6 := Lib.hid (hI5.step hb2)
  have C6 := Lib.hid (C5.out.step hb2)
  have G6 := Lib.hid (G5.out.step hb2)
  have T6 := Lib.hid (T5.out.step hb2)
  have O6 := Lib.hid (O5.out.step hb2)
  have S6 := Lib.hid (S5.out.step hb2)
  have I6 := Lib.hid (I5.out.step hb2)
  clear C5 G5 T5 O5 S5 I5
  clear hr hb hb2 hn5 hp5 hr5 hS5 hI5
  obtain ⟨w6, hw6⟩ : ∃ W, W = w5.alloc (.cells #[.slice A5 n3 c5, .slice E5 n3 e5] 29) := ⟨_, rfl⟩
  rw [← hw6] at C6 G6 T6 O6 S6 I6 Q6 Z6 J6
  go_upto_region 6 with fail
  rw [← hw6]
  clear hw6
  have hll9 : r3 ≤ 2000000 := by have := HR3.out; omega
  have o0 := O6.out.c 0 _ rfl
  have o1 := O6.out.c 1 _ rfl
  have z0 := Q6.out.c 0 _ rfl
  have z1 := Q6.out.c 1 _ rfl
  go_wp2_with fail
  refine (laws_equalEager A3 E3 A5 E5 _ c3 _ e3 c5 e5 F w6 HN3.out HP3.out S6.out Z6.out HEF.out).mono ?_
  rintro e w7 ⟨rfl, hb⟩
  clear o0 o1 z0 z1
  have C7 := Lib.hid (C6.out.step hb)
  have G7 := Lib.hid (G6.out.step hb)
  have T7 := Lib.hid (T6.out.step hb)
  have O7 := Lib.hid (O6.out.step hb)
  have S7 := Lib.hid (S6.out.step hb)
  have I7 := Lib.hid (I6.out.step hb)
  have Q7 := Lib.hid (Q6.out.step hb)
  have Z7 := Lib.hid (Z6.out.step hb)
  have J7 := Lib.hid (J6.out.step hb)
  clear C6 G6 T6 O6 S6 I6 Q6 Z6 J6
  clear hb
  have HEQ := Lib.hid (laws_equalInts R3 R5 r3 r3 d3 d5 L L w7 w7.heap.size (Nat.le_refl _) HR3.out HR3.out I7.out J7.out hll9 hll9)
  go_wp2_with fail
  refine HEQ.out.mono ?_
  rintro e w8 ⟨he, hb⟩
  obtain rfl : e = .returned (.bool true) := by rw [he]; simp
  clear he
  have C8 := Lib.hid (C7.out.step hb)
  have G8 := Lib.hid (G7.out.step hb)
  have T8 := Lib.hid (T7.out.step hb)
  have O8 := Lib.hid (O7.out.step hb)
  have S8 := Lib.hid (S7.out.step hb)
  have I8 := Lib.hid (I7.out.step hb)
  have Q8 := Lib.hid (Q7.out.step hb)
  have Z8 := Lib.hid (Z7.out.step hb)
  have J8 := Lib.hid (J7.out.step hb)
  clear C7 G7 T7 O7 S7 I7 Q7 Z7 J7
  clear hb HEQ
  have g0 := G8.out.c 0 _ rfl
  have t0 := T8.out.c 0 _ rfl
  have t1 := T8.out.c 1 _ rfl
  go_wp2_with fail
  refine (HVE.out w8 C8.out).mono ?_
  rintro e w9 ⟨rfl, hb⟩
  clear g0 t0 t1
  have C9 := Lib.hid (C8.out.step hb)
  have G9 := Lib.hid (G8.out.step hb)
  have T9 := Lib.hid (T8.out.step hb)
  have O9 := Lib.hid (O8.out.step hb)
  have S9 := Lib.hid (S8.out.step hb)
  have I9 := Lib.hid (I8.out.step hb)
  have Q9 := Lib.hid (Q8.out.step hb)
  have Z9 := Lib.hid (Z8.out.step hb)
  have J9 := Lib.hid (J8.out.step hb)
  clear C8 G8 T8 O8 S8 I8 Q8 Z8 J8
  clear hb
  cases v
  · have hx := HVW.out (by first | rfl | trivial)
    have o0 := O9.out.c 0 _ rfl
    have o1 := O9.out.c 1 _ rfl
    have z0 := Q9.out.c 0 _ rfl
    have z1 := Q9.out.c 1 _ rfl
    go_wp2_with fail
    refine (laws_equalEager A3 E3 A5 E5 _ c3 _ e3 c5 e5 F w9 HN3.out HP3.out S9.out Z9.out HEF.out).mono ?_
    rintro e w10 ⟨rfl, hb⟩
    clear o0 o1 z0 z1
    have C10 := Lib.hid (C9.out.step hb)
    have G10 := Lib.hid (G9.out.step hb)
    have T10 := Lib.hid (T9.out.step hb)
    have O10 := Lib.hid (O9.out.step hb)
    have S10 := Lib.hid (S9.out.step hb)
    have I10 := Lib.hid (I9.out.step hb)
    have Q10 := Lib.hid (Q9.out.step hb)
    have Z10 := Lib.hid (Z9.out.step hb)
    have J10 := Lib.hid (J9.out.step hb)
    clear C9 G9 T9 O9 S9 I9 Q9 Z9 J9
    clear hb
    have HEQ := Lib.hid (laws_equalInts R3 R5 r3 r3 d3 d5 L L w10 w10.heap.size (Nat.le_refl _) HR3.out HR3.out I10.out J10.out hll9 hll9)
    go_wp2_with fail
    refine HEQ.out.mono ?_
    rintro e w11 ⟨he, hb⟩
    obtain rfl : e = .returned (.bool true) := by rw [he]; simp
    clear he
    have C11 := Lib.hid (C10.out.step hb)
    have G11 := Lib.hid (G10.out.step hb)
    have T11 := Lib.hid (T10.out.step hb)
    have O11 := Lib.hid (O10.out.step hb)
    have S11 := Lib.hid (S10.out.step hb)
    have I11 := Lib.hid (I10.out.step hb)
    have Q11 := Lib.hid (Q10.out.step hb)
    have Z11 := Lib.hid (Z10.out.step hb)
    have J11 := Lib.hid (J10.out.step hb)
    clear C10 G10 T10 O10 S10 I10 Q10 Z10 J10
    clear hb HEQ
    go_wp2
    go_ret
    exact ⟨rfl, C11.out.b⟩
  · have hmn := HVN.out (by first | rfl | trivial)
    cases u
    · have hn0 := HNO.out (by first | rfl | trivial)
      have hn3 := HN3.out
      have hz3 : n3 = 0 := by omega
      have hne : ((n3 : Int) != (m2 : Int)) = true := by rw [bne_iff_ne]; omega
      clear hn0 hn3 hz3 hmn
      have o0 := O9.out.c 0 _ rfl
      have o1 := O9.out.c 1 _ rfl
      have t0 := T9.out.c 0 _ rfl
      have t1 := T9.out.c 1 _ rfl
      go_upto_region 7 with fail
      clear o0 o1 t0 t1
      have o0 := O9.out.c 0 _ rfl
      have o1 := O9.out.c 1 _ rfl
      have z0 := Q9.out.c 0 _ rfl
      have z1 := Q9.out.c 1 _ rfl
      go_wp2_with fail
      refine (laws_equalEager A3 E3 A5 E5 _ c3 _ e3 c5 e5 F w9 HN3.out HP3.out S9.out Z9.out HEF.out).mono ?_
      rintro e w10 ⟨rfl, hb⟩
      clear o0 o1 z0 z1
      have C10 := Lib.hid (C9.out.step hb)
      have G10 := Lib.hid (G9.out.step hb)
      have T10 := Lib.hid (T9.out.step hb)
      have O10 := Lib.hid (O9.out.step hb)
      have S10 := Lib.hid (S9.out.step hb)
      have I10 := Lib.hid (I9.out.step hb)
      have Q10 := Lib.hid (Q9.out.step hb)
      have Z10 := Lib.hid (Z9.out.step hb)
      have J10 := Lib.hid (J9.out.step hb)
      clear C9 G9 T9 O9 S9 I9 Q9 Z9 J9
      clear hb
      have HEQ := Lib.hid (laws_equalInts R3 R5 r3 r3 d3 d5 L L w10 w10.heap.size (Nat.le_refl _) HR3.out HR3.out I10.out J10.out hll9 hll9)
      go_wp2_with fail
      refine HEQ.out.mono ?_
      rintro e w11 ⟨he, hb⟩
      obtain rfl : e = .returned (.bool true) := by rw [he]; simp
      clear he
      have C11 := Lib.hid (C10.out.step hb)
      have G11 := Lib.hid (G10.out.step hb)
      have T11 := Lib.hid (T10.out.step hb)
      have O11 := Lib.hid (O10.out.step hb)
      have S11 := Lib.hid (S10.out.step hb)
      have I11 := Lib.hid (I10.out.step hb)
      have Q11 := Lib.hid (Q10.out.step hb)
      have Z11 := Lib.hid (Z10.out.step hb)
      have J11 := Lib.hid (J10.out.step hb)
      clear C10 G10 T10 O10 S10 I10 Q10 Z10 J10
      clear hb HEQ
      go_wp2
      go_ret
      exact ⟨rfl, C11.out.b⟩
    · obtain ⟨k1, k2, k3, k4, k5⟩ := HTW.out (by first | rfl | trivial)
      subst k2
      have hn3 := HN3.out
      have hz3 : n3 = m2 := by have := HN1.out; omega
      have hne : ((n3 : Int) != (m2 : Int)) = false := by rw [hz3]; simp
      have hn1p : ((n1 : Int) == 0) = false := by rw [beq_eq_false_iff_ne]; omega
      have hcl : CF.length = n1 := by have := HN1.out; omega
      have K1 := Lib.hid k1
      have K5 := Lib.hid k5
      have HCL := Lib.hid hcl
      clear hn3 hz3 hmn k1 k3 k4 k5 hcl
      have o0 := O9.out.c 0 _ rfl
      have o1 := O9.out.c 1 _ rfl
      have g0 := G9.out.c 0 _ rfl
      have t0 := T9.out.c 0 _ rfl
      have t1 := T9.out.c 1 _ rfl
      go_upto_region 10 with fail
      refine wp_region_held_drew (S := fun w' => w'.cell? ⟨w1.heap.size, 0, none⟩ = some (.slice A1 n1 c1) ∧ (w'.cell? ⟨w1.heap.size + 1, 0, none⟩ = some (.slice A2 m2 c2) ∧ w'.cell? ⟨w1.heap.size + 1, 1, none⟩ = some (.slice E2 p2 e2)) ∧ w'.cell? ⟨w3.heap.size, 0, none⟩ = some (.slice A3 n3 c3) ∧ w'.cell? ⟨w3.heap.size, 1, none⟩ = some (.slice E3 n3 e3)) (by kernel_rfl) ⟨g0, ⟨t0, t1⟩, o0, o1⟩ (fun hHeld => ?_)
      refine wpAnyH_take (i := 0) (oi := ⟨some 81, _, _, _, _, _⟩) (v := ?_) rfl (by kernel_rfl) (by kernel_rfl) (by kernel_rfl) (fun _ _ _ h => h) (Or.inl ⟨by rfl, ?_⟩) (by assumption) ?_; rotate_left; (focus (intro w hSw; (try dsimp only at hSw); go_simp; (try with_reducible rfl))); (try simp only [Act.put, List.setIfInBounds_toArray, List.set_cons_zero, List.set_cons_succ])
      refine wpAnyH_take (i := 1) (oi := ⟨some 82, _, _, _, _, _⟩) (v := ?_) rfl (by kernel_rfl) (by kernel_rfl) (by kernel_rfl) (fun _ _ _ h => h) (Or.inl ⟨by rfl, ?_⟩) (by assumption) ?_; rotate_left; (focus (intro w hSw; (try dsimp only at hSw); go_simp; (try with_reducible rfl))); (try simp only [Act.put, List.setIfInBounds_toArray, List.set_cons_zero, List.set_cons_succ])
      refine wpAnyH_take (i := 2) (oi := ⟨some 83, _, _, _, _, _⟩) (v := ?_) rfl (by kernel_rfl) (by kernel_rfl) (by kernel_rfl) (fun _ _ _ h => h) (Or.inl ⟨by rfl, ?_⟩) (by assumption) ?_; rotate_left; (focus (intro w hSw; (try dsimp only at hSw); go_simp; (try with_reducible rfl))); (try simp only [Act.put, List.setIfInBounds_toArray, List.set_cons_zero, List.set_cons_succ])
      refine wpAnyH_take (i := 3) (oi := ⟨some 84, _, _, _, _, _⟩) (v := ?_) rfl (by kernel_rfl) (by kernel_rfl) (by kernel_rfl) (fun _ _ _ h => h) (Or.inl ⟨by rfl, ?_⟩) (by assumption) ?_; rotate_left; (focus (intro w hSw; (try dsimp only at hSw); go_simp; (try with_reducible rfl))); (try simp only [Act.put, List.setIfInBounds_toArray, List.set_cons_zero, List.set_cons_succ])
      refine wpAnyH_take (i := 5) (oi := ⟨some 86, _, _, _, _, _⟩) (v := ?_) rfl (by kernel_rfl) (by kernel_rfl) (by kernel_rfl) (fun _ _ _ h => h) (Or.inl ⟨by rfl, ?_⟩) (by assumption) ?_; rotate_left; (focus (intro w hSw; (try dsimp only at hSw); go_simp; (try with_reducible rfl))); (try simp only [Act.put, List.setIfInBounds_toArray, List.set_cons_zero, List.set_cons_succ])
      refine wpAnyH_take (i := 6) (oi := ⟨some 87, _, _, _, _, _⟩) (v := ?_) rfl (by kernel_rfl) (by kernel_rfl) (by kernel_rfl) (fun _ _ _ h => h) (Or.inl ⟨by rfl, ?_⟩) (by assumption) ?_; rotate_left; (focus (intro w hSw; (try dsimp only at hSw); go_simp; (try with_reducible rfl))); (try simp only [Act.put, List.setIfInBounds_toArray, List.set_cons_zero, List.set_cons_succ])
      refine wpAnyH_ready (rs := [4]) (by kernel_rfl) (by simp) ?_; refine AllReadyH.cons (o := ⟨some 85, _, _, _, _, _⟩) rfl (fun K hK => ?_) AllReadyH.nil; go_simp
      go_at_call 13
      have C9d := C9.out.step ((Below.refl _ w9).drew)
      refine (HCE.out w9.drew C9d).mono ?_
      rintro e w10 ⟨v10, rfl, ho, hb'⟩
      have hb : Below w9.heap.size w9 w10 := below_of_drew hb'
      obtain ⟨A10, c10, rfl, hI10⟩ := OwnI.at_ ho HCL.out
      clear o0 o1 g0 t0 t1
      have C10 := Lib.hid (C9.out.step hb)
      have G10 := Lib.hid (G9.out.step hb)
      have T10 := Lib.hid (T9.out.step hb)
      have O10 := Lib.hid (O9.out.step hb)
      have S10 := Lib.hid (S9.out.step hb)
      have I10 := Lib.hid (I9.out.step hb)
      have Q10 := Lib.hid (Q9.out.step hb)
      have Z10 := Lib.hid (Z9.out.step hb)
      have J10 := Lib.hid (J9.out.step hb)
      clear C9 G9 T9 O9 S9 I9 Q9 Z9 J9
      clear hb hb' ho C9d
      have o0 := O10.out.c 0 _ rfl
      have o1 := O10.out.c 1 _ rfl
      have g0 := G10.out.c 0 _ rfl
      have t0 := T10.out.c 0 _ rfl
      have t1 := T10.out.c 1 _ rfl
      refine hK.out _ _ ⟨g0, ⟨t0, t1⟩, o0, o1⟩ (fun hHeld => ?_); clear hK K; (try simp only [Act.put, List.setIfInBounds_toArray, List.set_cons_zero, List.set_cons_succ])
      refine wpAnyH_ready (rs := [7]) (by kernel_rfl) (by simp) ?_; refine AllReadyH.cons (o := ⟨some 88, _, _, _, _, _⟩) rfl (fun K hK => ?_) AllReadyH.nil; go_simp
      go_at_call 12
      refine (laws_written A10 AN AV n1 c10 mN cN cV CF xs ys w10 HCL.out.symm (by omega) (by omega) HMX.out HMY.out (by omega) K5.out hI10 C10.out.x C10.out.y).mono ?_
      rintro e w11 ⟨g11, c11, rfl, ho, hb⟩
      have hI11 : IS w11 w11.heap.size (some ⟨g11, 0, none⟩) (wrC CF xs ys mN) := ints_of_own (by rw [wrC_len]; exact HCL.out.symm) ho
      clear o0 o1 g0 t0 t1 hI10
      have C11 := Lib.hid (C10.out.step hb)
      have G11 := Lib.hid (G10.out.step hb)
      have T11 := Lib.hid (T10.out.step hb)
      have O11 := Lib.hid (O10.out.step hb)
      have S11 := Lib.hid (S10.out.step hb)
      have I11 := Lib.hid (I10.out.step hb)
      have Q11 := Lib.hid (Q10.out.step hb)
      have Z11 := Lib.hid (Z10.out.step hb)
      have J11 := Lib.hid (J10.out.step hb)
      clear C10 G10 T10 O10 S10 I10 Q10 Z10 J10
      clear hb ho
      have o0 := O11.out.c 0 _ rfl
      have o1 := O11.out.c 1 _ rfl
      have g0 := G11.out.c 0 _ rfl
      have t0 := T11.out.c 0 _ rfl
      have t1 := T11.out.c 1 _ rfl
      refine hK.out _ _ ⟨g0, ⟨t0, t1⟩, o0, o1⟩ (fun hHeld => ?_); clear hK K; (try simp only [Act.put, List.setIfInBounds_toArray, List.set_cons_zero, List.set_cons_succ])
      refine wpAnyH_ready (rs := [8]) (by kernel_rfl) (by simp) ?_; refine AllReadyH.cons (o := ⟨some 89, _, _, _, _, _⟩) rfl (fun K hK => ?_) AllReadyH.nil; go_simp
      go_at_call 11
      have HSX := Lib.hid (HST.out (wrC CF xs ys mN) (some ⟨g11, 0, none⟩) n1 c11 w11 C11.out.g (by rw [wrC_len]; have := HCL.out; omega) (by rw [wrC_len]; exact HCL.out.symm) hI11)
      rw [K1.out] at HSX
      refine HSX.out.mono ?_
      rintro e w12 ⟨A12, m12, c12, E12, p12, e12, rfl, ho, hb⟩
      obtain rfl : n3 = m12 := by have := HN3.out; have := ho.1; omega
      obtain rfl : n3 = p12 := by have := HP3.out; have := ho.2.1; omega
      have hE12 : ES w12 w12.heap.size A12 E12 F := ho.reads
      clear o0 o1 g0 t0 t1 hI11 HSX
      have C12 := Lib.hid (C11.out.step hb)
      have G12 := Lib.hid (G11.out.step hb)
      have T12 := Lib.hid (T11.out.step hb)
      have O12 := Lib.hid (O11.out.step hb)
      have S12 := Lib.hid (S11.out.step hb)
      have I12 := Lib.hid (I11.out.step hb)
      have Q12 := Lib.hid (Q11.out.step hb)
      have Z12 := Lib.hid (Z11.out.step hb)
      have J12 := Lib.hid (J11.out.step hb)
      clear C11 G11 T11 O11 S11 I11 Q11 Z11 J11
      clear hb ho
      have o0 := O12.out.c 0 _ rfl
      have o1 := O12.out.c 1 _ rfl
      have g0 := G12.out.c 0 _ rfl
      have t0 := T12.out.c 0 _ rfl
      have t1 := T12.out.c 1 _ rfl
      refine hK.out _ _ ⟨g0, ⟨t0, t1⟩, o0, o1⟩ (fun hHeld => ?_); clear hK K; (try simp only [Act.put, List.setIfInBounds_toArray, List.set_cons_zero, List.set_cons_succ])
      refine wpAnyH_ready (rs := [9]) (by kernel_rfl) (by simp) ?_; refine AllReadyH.cons (o := ⟨some 90, _, _, _, _, _⟩) rfl (fun K hK => ?_) AllReadyH.nil; go_simp
      go_at_call 8
      refine (laws_equalEager A3 E3 A12 E12 _ c3 _ e3 c12 e12 F w12 HN3.out HP3.out S12.out hE12 HEF.out).mono ?_
      rintro e w13 ⟨rfl, hb⟩
      clear o0 o1 g0 t0 t1 hE12
      have C13 := Lib.hid (C12.out.step hb)
      have G13 := Lib.hid (G12.out.step hb)
      have T13 := Lib.hid (T12.out.step hb)
      have O13 := Lib.hid (O12.out.step hb)
      have S13 := Lib.hid (S12.out.step hb)
      have I13 := Lib.hid (I12.out.step hb)
      have Q13 := Lib.hid (Q12.out.step hb)
      have Z13 := Lib.hid (Z12.out.step hb)
      have J13 := Lib.hid (J12.out.step hb)
      clear C12 G12 T12 O12 S12 I12 Q12 Z12 J12
      clear hb
      have o0 := O13.out.c 0 _ rfl
      have o1 := O13.out.c 1 _ rfl
      have g0 := G13.out.c 0 _ rfl
      have t0 := T13.out.c 0 _ rfl
      have t1 := T13.out.c 1 _ rfl
      refine hK.out _ _ ⟨g0, ⟨t0, t1⟩, o0, o1⟩ (fun hHeld => ?_); clear hK K; (try simp only [Act.put, List.setIfInBounds_toArray, List.set_cons_zero, List.set_cons_succ])
      refine wpAnyH_take (i := 10) (oi := ⟨some 91, _, _, _, _, _⟩) (v := ?_) rfl (by kernel_rfl) (by kernel_rfl) (by kernel_rfl) (fun _ _ _ h => h) (Or.inl ⟨by rfl, ?_⟩) (by assumption) ?_; rotate_left; (focus (intro w hSw; (try dsimp only at hSw); go_simp; (try with_reducible rfl))); (try simp only [Act.put, List.setIfInBounds_toArray, List.set_cons_zero, List.set_cons_succ])
      refine wpAnyH_take (i := 11) (oi := ⟨some 92, _, _, _, _, _⟩) (v := ?_) rfl (by kernel_rfl) (by kernel_rfl) (by kernel_rfl) (fun _ _ _ h => h) (Or.inl ⟨by rfl, ?_⟩) (by assumption) ?_; rotate_left; (focus (intro w hSw; (try dsimp only at hSw); go_simp; (try with_reducible rfl))); (try simp only [Act.put, List.setIfInBounds_toArray, List.set_cons_zero, List.set_cons_succ])
      refine wpAnyH_take (i := 12) (oi := ⟨some 93, _, _, _, _, _⟩) (v := ?_) rfl (by kernel_rfl) (by kernel_rfl) (by kernel_rfl) (fun _ _ _ h => h) (Or.inl ⟨by rfl, ?_⟩) (by assumption) ?_; rotate_left; (focus (intro w hSw; (try dsimp only at hSw); go_simp; (try with_reducible rfl))); (try simp only [Act.put, List.setIfInBounds_toArray, List.set_cons_zero, List.set_cons_succ])
      refine wpAnyH_ready (rs := [13]) (by kernel_rfl) (by simp) ?_; refine AllReadyH.cons (o := ⟨some 94, _, _, _, _, _⟩) rfl (fun K hK => ?_) AllReadyH.nil; go_simp
      go_at_call 10
      refine (HVF.out A3 n3 c3 E3 e3 w13 C13.out.g HN3.out HP3.out S13.out).mono ?_
      rintro e w14 ⟨rfl, hb⟩
      clear o0 o1 g0 t0 t1
      have C14 := Lib.hid (C13.out.step hb)
      have G14 := Lib.hid (G13.out.step hb)
      have T14 := Lib.hid (T13.out.step hb)
      have O14 := Lib.hid (O13.out.step hb)
      have S14 := Lib.hid (S13.out.step hb)
      have I14 := Lib.hid (I13.out.step hb)
      have Q14 := Lib.hid (Q13.out.step hb)
      have Z14 := Lib.hid (Z13.out.step hb)
      have J14 := Lib.hid (J13.out.step hb)
      clear C13 G13 T13 O13 S13 I13 Q13 Z13 J13
      clear hb
      have o0 := O14.out.c 0 _ rfl
      have o1 := O14.out.c 1 _ rfl
      have g0 := G14.out.c 0 _ rfl
      have t0 := T14.out.c 0 _ rfl
      have t1 := T14.out.c 1 _ rfl
      refine hK.out _ _ ⟨g0, ⟨t0, t1⟩, o0, o1⟩ (fun hHeld => ?_); clear hK K; (try simp only [Act.put, List.setIfInBounds_toArray, List.set_cons_zero, List.set_cons_succ])
      refine wpAnyH_take (i := 14) (oi := ⟨some 95, _, _, _, _, _⟩) (v := ?_) rfl (by kernel_rfl) (by kernel_rfl) (by kernel_rfl) (fun _ _ _ h => h) (Or.inl ⟨by rfl, ?_⟩) (by assumption) ?_; rotate_left; (focus (intro w hSw; (try dsimp only at hSw); go_simp; (try with_reducible rfl))); (try simp only [Act.put, List.setIfInBounds_toArray, List.set_cons_zero, List.set_cons_succ])
      refine wpAnyH_take (i := 15) (oi := ⟨some 2, _, _, _, _, _⟩) (v := ?_) rfl (by kernel_rfl) (by kernel_rfl) (by kernel_rfl) (fun _ _ _ h => h) (Or.inl ⟨by rfl, ?_⟩) (by assumption) ?_; rotate_left; (focus (intro w hSw; (try dsimp only at hSw); go_simp; (try with_reducible rfl))); (try simp only [Act.put, List.setIfInBounds_toArray, List.set_cons_zero, List.set_cons_succ])
      refine wpAnyH_done (by kernel_rfl) ?_ _
      go_wp2
      go_ret
      exact ⟨rfl, C14.out.b⟩
end Go.Proofs.Ytgakgmkonmgblaa
