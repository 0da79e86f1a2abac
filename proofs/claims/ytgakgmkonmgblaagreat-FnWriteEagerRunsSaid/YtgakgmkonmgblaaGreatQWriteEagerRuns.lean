/- laws.FnWriteEagerRuns returns true for all bytes, and writes nothing that was there. (Made by qwr.py.) -/
import Derived.Test.YtgakgmkonmgblaaGreatR26
import Derived.Test.YtgakgmkonmgblaaGreatZ4
import Derived.Test.YtgakgmkonmgblaaGreatT44
import Derived.Test.YtgakgmkonmgblaaGreatR27
import Derived.Test.YtgakgmkonmgblaaGreatM47
import Derived.Test.YtgakgmkonmgblaaGreatM44
import Derived.Test.YtgakgmkonmgblaaGreatM45
import Derived.Test.YtgakgmkonmgblaaGreatT41
import Derived.Deep.RegionHeld3

-- WANT run_store_func
namespace Go.Proofs.YtgakgmkonmgblaaGreat
set_option linter.unusedSimpArgs false
set_option linter.unusedVariables false
open Go.RowKit

theorem RetEW.parts {w w' : World} {F : Eg} {L : List Int} {e : Ending} (h : RetEW w F L e w') : ∃ A n c E ec R r d, e = .returned (.tuple #[.agg #[.slice A n c, .slice E n ec], .slice R r d]) ∧ n = F.vs.length ∧ n = F.rs.length ∧ r = L.length ∧ ES w' w'.heap.size A E F ∧ IS w' w'.heap.size R L ∧ Below w.heap.size w w' := by
  obtain ⟨A, n, c, E, ec, R, r, d, U, ch, he, hn, hF, h0, h2, hb⟩ := h
  obtain ⟨A', m', c', e1, e2, e3⟩ := hF.at_ 2 (by omega)
  rw [h2] at e1
  cases e1
  have hr : r = L.length := by simpa [lenOf] using e2
  exact ⟨A, n, c, E, ec, R, r, d, he, hn, hF.rl, hr, (hF.own h0).reads, ints_of_own hr (by simpa [rowOf] using e3), hb⟩
/-- What the law's memory keeps. -/
structure TW (W0 : World) (A1 A2 E2 AN AV : Option Addr) (gs : List Nd) (st : Eg) (xs ys : List Int) (w : World) : Prop where
  g : GS w w.heap.size A1 gs
  s : ES w w.heap.size A2 E2 st
  x : IS w w.heap.size AN xs
  y : IS w w.heap.size AV ys
  b : Below W0.heap.size W0 w
theorem TW.step {W0 w w' : World} {A1 A2 E2 AN AV : Option Addr} {gs : List Nd} {st : Eg} {xs ys : List Int} (h : TW W0 A1 A2 E2 AN AV gs st xs ys w) (hb : Below w.heap.size w w') : TW W0 A1 A2 E2 AN AV gs st xs ys w' :=
  ⟨h.g.step hb, h.s.step hb, h.x.step hb, h.y.step hb, h.b.trans (hb.mono h.b.size)⟩

set_option maxRecDepth 100000 in
set_option maxHeartbeats 6400000 in
theorem plaw_WriteEagerRuns (A : Option Addr) (n c : Nat) (bs : List Int) (w : World) (hn : n = bs.length) (hnc : n ≤ c) (h : BS w w.heap.size A bs) (hy : BY bs) (hm : n ≤ 9223372036854775807) :
    Calls Tryz.prog 3 #[.slice A n c] w fun e w' => e = .returned (.bool true) ∧ Below w.heap.size w w' := by
  by_cases hs : 1048576 < n
  · clear hn hnc h hy
    go_enter Tryz.func3, Tryz.ntmps3
    go_wp2
    go_ret
    exact ⟨rfl, Below.refl _ _⟩
  have HC := Lib.hid (spec_DrawWriteEager A n c bs w hn hnc h hy (by omega))
  clear hn hnc h hy
  go_enter Tryz.func3, Tryz.ntmps3
  go_wp2_with fail
  refine HC.out.mono ?_
  rintro e w1 ⟨A1, n1, c1, gs, A2, m2, c2, E2, p2, e2, st, AN, mN, cN, xs, AV, cV, ys, rfl, hp1, hp2, hp3, hnc1, hsm, hm, hp, hem, hmx, hmy, hm3, hcn, hcv, hP, hE, hX, hY, hb⟩
  have HN1 := Lib.hid hp1
  have HG := Lib.hid (GB.of_drawn (by omega) hsm)
  have HM2 := Lib.hid hm
  have HP2 := Lib.hid hp
  have HEB := Lib.hid hem.eb
  have HMX := Lib.hid hmx
  have HMY := Lib.hid hmy
  have C1 : Hid (TW w A1 A2 E2 AN AV gs st xs ys w1) := ⟨hP, hE, hX, hY, hb⟩
  have hvl : st.vs.length ≤ 11 := hem.1
  have hm11 : m2 ≤ 11 := by omega
  have HVN : Hid (validE gs st = true → m2 = n1) := fun h => by have := (validE_parts gs st h).2.1; omega
  have HIM := Lib.hid fun (w' : World) (h : TW w A1 A2 E2 AN AV gs st xs ys w') => top_impl_WriteEager gs st xs ys HG.out HEB.out (by omega) (by omega) A1 n1 c1 A2 m2 c2 E2 p2 e2 AN mN cN AV mN cV w' hp1 hnc1 h.g hm hp h.s hmx hcn h.x hmy hcv h.y
  have HSP := Lib.hid fun (w' : World) (h : TW w A1 A2 E2 AN AV gs st xs ys w') => top_spec_WriteEager gs st xs ys HG.out HEB.out (by omega) (by omega) A1 n1 c1 A2 m2 c2 E2 p2 e2 AN mN cN AV mN cV w' hp1 hnc1 h.g hm hp h.s hmx hcn h.x hmy hcv h.y
  have HVE := Lib.hid fun (w' : World) (h : TW w A1 A2 E2 AN AV gs st xs ys w') => impl_ValidEager A1 A2 E2 n1 c1 m2 c2 p2 e2 gs st w' w'.heap.size (Nat.le_refl _) hp1 hnc1 hm hp h.g h.s HG.out HEB.out
  have heb := writeF_EB gs st xs ys
  have HCE := Lib.hid fun (w' : World) (h : TW w A1 A2 E2 AN AV gs st xs ys w') => top_impl_CellsOf gs st HG.out HEB.out A1 n1 c1 A2 m2 c2 E2 p2 e2 w' hp1 hnc1 h.g hm hp h.s
  have HMR := Lib.hid fun (C D : List Int) (A7 : Option Addr) (m7 d7 : Nat) (A8 : Option Addr) (m8 d8 : Nat) (w' : World) (h : GS w' w'.heap.size A1 gs) (hc : C.length ≤ 1000) (hd : D.length ≤ 1000) (h1 : m7 = C.length) (h1' : IS w' w'.heap.size A7 C) (h2 : m8 = D.length) (h2' : IS w' w'.heap.size A8 D) => top_impl_MustRun gs C D HG.out (by omega) (by omega) A1 n1 c1 A7 m7 d7 A8 m8 d8 w' hp1 hnc1 h h1 h1' h2 h2'
  have HMA := Lib.hid fun (w' : World) (h : TW w A1 A2 E2 AN AV gs st xs ys w') => top_impl_MayRun gs xs HG.out (by omega) A1 n1 c1 AN mN cN w' hp1 hnc1 h.g hmx hcn h.x
  have heb := writeF_EB gs st xs ys
  have hmrl := mrF_len gs xs
  have HTW : Hid (wrtB gs st xs ys = true → mustF gs (cellsF gs st) (wrC (cellsF gs st) xs ys mN) = writeR gs st xs ys ∧ (∀ j, j + 1 < (writeR gs st xs ys).length → (writeR gs st xs ys).getD j 0 < (writeR gs st xs ys).getD (j + 1) 0) ∧ (writeF gs st xs ys).vs.length = gs.length ∧ (cellsF gs st).length = gs.length ∧ (∀ k, k < mN → ∃ q : Nat, xs.getD k 0 = q ∧ q < n1) ∧ ∀ x ∈ writeR gs st xs ys, x ∈ mrF gs xs) := fun h => by
    obtain ⟨f1, f2, f3, f4, f5⟩ := write_facts h
    have hw : gwB gs xs ys = true := by unfold wrtB at h; rw [Bool.and_eq_true] at h; exact h.2
    have hvs : validE gs (writeF gs st xs ys) = true := by rw [f4]; exact start_valid gs _ f3
    have hcl : (cellsF gs st).length = gs.length := ((validC_iff gs _).1 (by have := f2; unfold okC at this; rw [Bool.and_eq_true] at this; exact this.2)).1
    refine ⟨by rw [hmx]; exact f5.symm, fun j hj => ?_, (validE_parts gs _ hvs).2.1, hcl, fun k hk => ?_, runs_in h⟩
    · rw [f5] at hj ⊢
      exact must_asc gs _ _ j hj
    obtain ⟨q, e, hq, -⟩ := isC_at ((gw_parts hw).2.2.2.2 k (by omega))
    exact ⟨q, e, by omega⟩
  have HNO : Hid (wrtB gs st xs ys = false → (writeF gs st xs ys).vs.length = 0) := fun h => by unfold writeF; rw [h]; rfl
  have HVW : Hid (validE gs st = false → wrtB gs st xs ys = false) := fun h => by unfold wrtB; rw [h]; rfl
  have hll := writeR_len gs st xs ys
  have HEF := Lib.hid heb
  clear hP hp1 hb HC hsm hm hp hE hX hY hmx hmy hvl hem heb
  generalize mrF gs xs = MR at *
  obtain ⟨mr, hmr⟩ : ∃ m : Nat, m = MR.length := ⟨_, rfl⟩
  have hmr9 : mr ≤ 2000000 := by omega
  have HMRL := Lib.hid hmr
  clear hmr hmrl
  generalize writeF gs st xs ys = F at *
  generalize writeR gs st xs ys = L at *
  generalize wrtB gs st xs ys = u at *
  generalize cellsF gs st = CF at *
  generalize validE gs st = v at *
  go_wp2_with fail
  obtain ⟨w2, hw2⟩ : ∃ W, W = (w1.alloc (.cells #[.slice A1 n1 c1] 25)).alloc (.cells #[.slice A2 m2 c2, .slice E2 p2 e2] 29) := ⟨_, rfl⟩
  have hb : Below w1.heap.size w1 w2 := by rw [hw2]; exact ((Below.refl _ _).alloc (Nat.le_refl _) _).alloc (by simp) _
  have C2 := Lib.hid (C1.out.step hb)
  have G2 : Hid (Bx w1.heap.size [.slice A1 n1 c1] w2) := by rw [hw2]; exact (Bx.start w1 #[.slice A1 n1 c1] _).alloc _
  have T2 : Hid (Bx (w1.heap.size + 1) [.slice A2 m2 c2, .slice E2 p2 e2] w2) := by
    rw [hw2]
    have h1 := Bx.start (w1.alloc (.cells #[.slice A1 n1 c1] 25)) #[.slice A2 m2 c2, .slice E2 p2 e2] 29
    simp only [World.size_alloc] at h1
    exact h1
  rw [← hw2]
  clear hb hw2 C1
  have q0 := G2.out.c 0 _ rfl
  have q1 := T2.out.c 0 _ rfl
  have q2 := T2.out.c 1 _ rfl
  go_wp2_with fail
  refine (HIM.out w2 C2.out).mono ?_
  intro e w3 hr
  obtain ⟨A3, n3, c3, E3, e3, R3, r3, d3, rfl, hn3, hp3, hr3, hS3, hI3, hb⟩ := hr.parts
  have C3 := Lib.hid (C2.out.step hb)
  have G3 := Lib.hid (G2.out.step hb)
  have T3 := Lib.hid (T2.out.step hb)
  have HN3 := Lib.hid hn3
  have HP3 := Lib.hid hp3
  have HR3 := Lib.hid hr3
  have hb2 : Below w3.heap.size w3 (w3.alloc (.cells #[.slice A3 n3 c3, .slice E3 n3 e3] 29)) := (Below.refl _ _).alloc (Nat.le_refl _) _
  have O4 := Lib.hid (Bx.start w3 #[.slice A3 n3 c3, .slice E3 n3 e3] 29)
  have C4 := Lib.hid (C3.out.step hb2)
  have G4 := Lib.hid (G3.out.step hb2)
  have T4 := Lib.hid (T3.out.step hb2)
  have S4 := Lib.hid (hS3.step hb2)
  have I4 := Lib.hid (hI3.step hb2)
  clear hr hb hb2 hn3 hp3 hr3 hS3 hI3 q0 q1 q2 C2 G2 T2 C3 G3 T3
  obtain ⟨w4, hw4⟩ : ∃ W, W = w3.alloc (.cells #[.slice A3 n3 c3, .slice E3 n3 e3] 29) := ⟨_, rfl⟩
  rw [← hw4] at O4 C4 G4 T4 S4 I4
  have q0 := G4.out.c 0 _ rfl
  have q1 := T4.out.c 0 _ rfl
  have q2 := T4.out.c 1 _ rfl
  go_upto_region 5 with fail
  rw [← hw4]
  clear hw4
  go_wp2_with fail
  refine (HSP.out w4 C4.out).mono ?_
  intro e w5 hr
  obtain ⟨A5, n5, c5, E5, e5, R5, r5, d5, rfl, hn5, hp5, hr5, hS5, hI5, hb⟩ := hr.parts
  obtain rfl : n3 = n5 := by have := HN3.out; omega
  obtain rfl : r3 = r5 := by have := HR3.out; omega
  clear q0 q1 q2
  have C5 := Lib.hid (C4.out.step hb)
  have G5 := Lib.hid (G4.out.step hb)
  have T5 := Lib.hid (T4.out.step hb)
  have O5 := Lib.hid (O4.out.step hb)
  have S5 := Lib.hid (S4.out.step hb)
  have I5 := Lib.hid (I4.out.step hb)
  clear C4 G4 T4 O4 S4 I4
  have hb2 : Below w5.heap.size w5 (w5.alloc (.cells #[.slice A5 n3 c5, .slice E5 n3 e5] 29)) := (Below.refl _ _).alloc (Nat.le_refl _) _
  have Q6 := Lib.hid (Bx.start w5 #[.slice A5 n3 c5, .slice E5 n3 e5] 29)
  have Z6 := Lib.hid (hS5.step hb2)
  have J6 := Lib.hid (hI5.step hb2)
  have C6 := Lib.hid (C5.out.step hb2)
  have G6 := Lib.hid (G5.out.step hb2)
  have T6 := Lib.hid (T5.out.step hb2)
  have O6 := Lib.hid (O5.out.step hb2)
  have S6 := Lib.hid (S5.out.step hb2)
  have I6 := Lib.hid (I5.out.step hb2)
  clear C5 G5 T5 O5 S5 I5
  clear hr hb hb2 hn5 hp5 hr5 hS5 hI5
  obtain ⟨w6, hw6⟩ : ∃ W, W = w5.alloc (.cells #[.slice A5 n3 c5, .slice E5 n3 e5] 29) := ⟨_, rfl⟩
  rw [← hw6] at C6 G6 T6 O6 S6 I6 Q6 Z6 J6
  go_upto_region 6 with fail
  rw [← hw6]
  clear hw6
  have hll9 : r3 ≤ 2000000 := by have := HR3.out; omega
  have o0 := O6.out.c 0 _ rfl
  have o1 := O6.out.c 1 _ rfl
  have z0 := Q6.out.c 0 _ rfl
  have z1 := Q6.out.c 1 _ rfl
  go_wp2_with fail
  refine (laws_equalEager A3 E3 A5 E5 _ c3 _ e3 c5 e5 F w6 HN3.out HP3.out S6.out Z6.out HEF.out).mono ?_
  rintro e w7 ⟨rfl, hb⟩
  clear o0 o1 z0 z1
  have C7 := Lib.hid (C6.out.step hb)
  have G7 := Lib.hid (G6.out.step hb)
  have T7 := Lib.hid (T6.out.step hb)
  have O7 := Lib.hid (O6.out.step hb)
  have S7 := Lib.hid (S6.out.step hb)
  have I7 := Lib.hid (I6.out.step hb)
  have Q7 := Lib.hid (Q6.out.step hb)
  have Z7 := Lib.hid (Z6.out.step hb)
  have J7 := Lib.hid (J6.out.step hb)
  clear C6 G6 T6 O6 S6 I6 Q6 Z6 J6
  clear hb
  have HEQ := Lib.hid (laws_equalInts R3 R5 r3 r3 d3 d5 L L w7 w7.heap.size (Nat.le_refl _) HR3.out HR3.out I7.out J7.out hll9 hll9)
  go_wp2_with fail
  refine HEQ.out.mono ?_
  rintro e w8 ⟨he, hb⟩
  obtain rfl : e = .returned (.bool true) := by rw [he]; simp
  clear he
  have C8 := Lib.hid (C7.out.step hb)
  have G8 := Lib.hid (G7.out.step hb)
  have T8 := Lib.hid (T7.out.step hb)
  have O8 := Lib.hid (O7.out.step hb)
  have S8 := Lib.hid (S7.out.step hb)
  have I8 := Lib.hid (I7.out.step hb)
  have Q8 := Lib.hid (Q7.out.step hb)
  have Z8 := Lib.hid (Z7.out.step hb)
  have J8 := Lib.hid (J7.out.step hb)
  clear C7 G7 T7 O7 S7 I7 Q7 Z7 J7
  clear hb HEQ
  have g0 := G8.out.c 0 _ rfl
  have t0 := T8.out.c 0 _ rfl
  have t1 := T8.out.c 1 _ rfl
  go_wp2_with fail
  refine (HVE.out w8 C8.out).mono ?_
  rintro e w9 ⟨rfl, hb⟩
  clear g0 t0 t1
  have C9 := Lib.hid (C8.out.step hb)
  have G9 := Lib.hid (G8.out.step hb)
  have T9 := Lib.hid (T8.out.step hb)
  have O9 := Lib.hid (O8.out.step hb)
  have S9 := Lib.hid (S8.out.step hb)
  have I9 := Lib.hid (I8.out.step hb)
  have Q9 := Lib.hid (Q8.out.step hb)
  have Z9 := Lib.hid (Z8.out.step hb)
  have J9 := Lib.hid (J8.out.step hb)
  clear C8 G8 T8 O8 S8 I8 Q8 Z8 J8
  clear hb
  cases v
  · have hx := HVW.out (by first | rfl | trivial)
    have o0 := O9.out.c 0 _ rfl
    have o1 := O9.out.c 1 _ rfl
    have z0 := Q9.out.c 0 _ rfl
    have z1 := Q9.out.c 1 _ rfl
    go_wp2_with fail
    refine (laws_equalEager A3 E3 A5 E5 _ c3 _ e3 c5 e5 F w9 HN3.out HP3.out S9.out Z9.out HEF.out).mono ?_
    rintro e w10 ⟨rfl, hb⟩
    clear o0 o1 z0 z1
    have C10 := Lib.hid (C9.out.step hb)
    have G10 := Lib.hid (G9.out.step hb)
    have T10 := Lib.hid (T9.out.step hb)
    have O10 := Lib.hid (O9.out.step hb)
    have S10 := Lib.hid (S9.out.step hb)
    have I10 := Lib.hid (I9.out.step hb)
    have Q10 := Lib.hid (Q9.out.step hb)
    have Z10 := Lib.hid (Z9.out.step hb)
    have J10 := Lib.hid (J9.out.step hb)
    clear C9 G9 T9 O9 S9 I9 Q9 Z9 J9
    clear hb
    have HEQ := Lib.hid (laws_equalInts R3 R5 r3 r3 d3 d5 L L w10 w10.heap.size (Nat.le_refl _) HR3.out HR3.out I10.out J10.out hll9 hll9)
    go_wp2_with fail
    refine HEQ.out.mono ?_
    rintro e w11 ⟨he, hb⟩
    obtain rfl : e = .returned (.bool true) := by rw [he]; simp
    clear he
    have C11 := Lib.hid (C10.out.step hb)
    have G11 := Lib.hid (G10.out.step hb)
    have T11 := Lib.hid (T10.out.step hb)
    have O11 := Lib.hid (O10.out.step hb)
    have S11 := Lib.hid (S10.out.step hb)
    have I11 := Lib.hid (I10.out.step hb)
    have Q11 := Lib.hid (Q10.out.step hb)
    have Z11 := Lib.hid (Z10.out.step hb)
    have J11 := Lib.hid (J10.out.step hb)
    clear C10 G10 T10 O10 S10 I10 Q10 Z10 J10
    clear hb HEQ
    go_wp2
    go_ret
    exact ⟨rfl, C11.out.b⟩
  · have hmn := HVN.out (by first | rfl | trivial)
    cases u
    · have hn0 := HNO.out (by first | rfl | trivial)
      have hn3 := HN3.out
      have hz3 : n3 = 0 := by omega
      have hne : ((n3 : Int) != (m2 : Int)) = true := by rw [bne_iff_ne]; omega
      clear hn0 hn3 hz3 hmn
      have o0 := O9.out.c 0 _ rfl
      have o1 := O9.out.c 1 _ rfl
      have t0 := T9.out.c 0 _ rfl
      have t1 := T9.out.c 1 _ rfl
      go_upto_region 7 with fail
      clear o0 o1 t0 t1
      have o0 := O9.out.c 0 _ rfl
      have o1 := O9.out.c 1 _ rfl
      have z0 := Q9.out.c 0 _ rfl
      have z1 := Q9.out.c 1 _ rfl
      go_wp2_with fail
      refine (laws_equalEager A3 E3 A5 E5 _ c3 _ e3 c5 e5 F w9 HN3.out HP3.out S9.out Z9.out HEF.out).mono ?_
      rintro e w10 ⟨rfl, hb⟩
      clear o0 o1 z0 z1
      have C10 := Lib.hid (C9.out.step hb)
      have G10 := Lib.hid (G9.out.step hb)
      have T10 := Lib.hid (T9.out.step hb)
      have O10 := Lib.hid (O9.out.step hb)
      have S10 := Lib.hid (S9.out.step hb)
      have I10 := Lib.hid (I9.out.step hb)
      have Q10 := Lib.hid (Q9.out.step hb)
      have Z10 := Lib.hid (Z9.out.step hb)
      have J10 := Lib.hid (J9.out.step hb)
      clear C9 G9 T9 O9 S9 I9 Q9 Z9 J9
      clear hb
      have HEQ := Lib.hid (laws_equalInts R3 R5 r3 r3 d3 d5 L L w10 w10.heap.size (Nat.le_refl _) HR3.out HR3.out I10.out J10.out hll9 hll9)
      go_wp2_with fail
      refine HEQ.out.mono ?_
      rintro e w11 ⟨he, hb⟩
      obtain rfl : e = .returned (.bool true) := by rw [he]; simp
      clear he
      have C11 := Lib.hid (C10.out.step hb)
      have G11 := Lib.hid (G10.out.step hb)
      have T11 := Lib.hid (T10.out.step hb)
      have O11 := Lib.hid (O10.out.step hb)
      have S11 := Lib.hid (S10.out.step hb)
      have I11 := Lib.hid (I10.out.step hb)
      have Q11 := Lib.hid (Q10.out.step hb)
      have Z11 := Lib.hid (Z10.out.step hb)
      have J11 := Lib.hid (J10.out.step hb)
      clear C10 G10 T10 O10 S10 I10 Q10 Z10 J10
      clear hb HEQ
      go_wp2
      go_ret
      exact ⟨rfl, C11.out.b⟩
    · obtain ⟨k1, k2, k3, k4, k5, k6⟩ := HTW.out (by first | rfl | trivial)
      have hn3 := HN3.out
      have hz3 : n3 = m2 := by have := HN1.out; omega
      have hne : ((n3 : Int) != (m2 : Int)) = false := by rw [hz3]; simp
      have hn1p : ((n1 : Int) == 0) = false := by rw [beq_eq_false_iff_ne]; omega
      have hcl : CF.length = n1 := by have := HN1.out; omega
      have K1 := Lib.hid k1
      have K2 := Lib.hid k2
      have K5 := Lib.hid k5
      have K6 := Lib.hid k6
      have HCL := Lib.hid hcl
      clear hn3 hz3 hmn k1 k2 k3 k4 k5 k6 hcl
      have o0 := O9.out.c 0 _ rfl
      have o1 := O9.out.c 1 _ rfl
      have g0 := G9.out.c 0 _ rfl
      have t0 := T9.out.c 0 _ rfl
      have t1 := T9.out.c 1 _ rfl
      go_upto_region 10 with fail
      go_wp2_with fail
      refine (HCE.out w9 C9.out).mono ?_
      rintro e w10 ⟨v10, rfl, ho, hb⟩
      obtain ⟨A10, c10, rfl, hI10⟩ := OwnI.at_ ho HCL.out
      clear o0 o1 g0 t0 t1 O9 S9 Q9 Z9 J9 T9
      have C10 := Lib.hid (C9.out.step hb)
      have G10 := Lib.hid (G9.out.step hb)
      have I10 := Lib.hid (I9.out.step hb)
      clear C9 G9 I9
      have P10 := Lib.hid hI10
      clear hb ho hI10
      have g0 := G10.out.c 0 _ rfl
      go_upto_region 11 with fail
      refine wp_region_held_drew (S := fun w' => w'.cell? ⟨w1.heap.size, 0, none⟩ = some (.slice A1 n1 c1)) (by kernel_rfl) g0 (fun hHeld => ?_)
      clear hHeld g0
      obtain ⟨w11, hw11⟩ : ∃ W : World, W = w10.drew := ⟨_, rfl⟩
      have hb : Below w10.heap.size w10 w11 := by rw [hw11]; exact (Below.refl _ _).drew
      rw [← hw11]
      clear hw11
      have C11 := Lib.hid (C10.out.step hb)
      have G11 := Lib.hid (G10.out.step hb)
      have I11 := Lib.hid (I10.out.step hb)
      have P11 := Lib.hid (P10.out.step hb)
      clear C10 G10 I10 P10
      clear hb
      have g0 := G11.out.c 0 _ rfl
      have hHeld : w11.cell? ⟨w1.heap.size, 0, none⟩ = some (.slice A1 n1 c1) := g0
      refine wpAnyH_take (i := 0) (oi := ⟨some 85, _, _, _, _, _⟩) (v := ?_) rfl (by kernel_rfl) (by kernel_rfl) (by kernel_rfl) (fun _ _ _ h => h) (Or.inl ⟨by rfl, ?_⟩) (by assumption) ?_; rotate_left; (focus (intro w hSw; (try dsimp only at hSw); go_simp; (try with_reducible rfl))); (try simp only [Act.put, List.setIfInBounds_toArray, List.set_cons_zero, List.set_cons_succ])
      refine wpAnyH_take (i := 1) (oi := ⟨some 86, _, _, _, _, _⟩) (v := ?_) rfl (by kernel_rfl) (by kernel_rfl) (by kernel_rfl) (fun _ _ _ h => h) (Or.inl ⟨by rfl, ?_⟩) (by assumption) ?_; rotate_left; (focus (intro w hSw; (try dsimp only at hSw); go_simp; (try with_reducible rfl))); (try simp only [Act.put, List.setIfInBounds_toArray, List.set_cons_zero, List.set_cons_succ])
      refine wpAnyH_take (i := 2) (oi := ⟨some 87, _, _, _, _, _⟩) (v := ?_) rfl (by kernel_rfl) (by kernel_rfl) (by kernel_rfl) (fun _ _ _ h => h) (Or.inl ⟨by rfl, ?_⟩) (by assumption) ?_; rotate_left; (focus (intro w hSw; (try dsimp only at hSw); go_simp; (try with_reducible rfl))); (try simp only [Act.put, List.setIfInBounds_toArray, List.set_cons_zero, List.set_cons_succ])
      refine wpAnyH_take (i := 3) (oi := ⟨some 88, _, _, _, _, _⟩) (v := ?_) rfl (by kernel_rfl) (by kernel_rfl) (by kernel_rfl) (fun _ _ _ h => h) (Or.inl ⟨by rfl, ?_⟩) (by assumption) ?_; rotate_left; (focus (intro w hSw; (try dsimp only at hSw); go_simp; (try with_reducible rfl))); (try simp only [Act.put, List.setIfInBounds_toArray, List.set_cons_zero, List.set_cons_succ])
      refine wpAnyH_take (i := 4) (oi := ⟨some 89, _, _, _, _, _⟩) (v := ?_) rfl (by kernel_rfl) (by kernel_rfl) (by kernel_rfl) (fun _ _ _ h => h) (Or.inl ⟨by rfl, ?_⟩) (by assumption) ?_; rotate_left; (focus (intro w hSw; (try dsimp only at hSw); go_simp; (try with_reducible rfl))); (try simp only [Act.put, List.setIfInBounds_toArray, List.set_cons_zero, List.set_cons_succ])
      refine wpAnyH_take (i := 5) (oi := ⟨some 90, _, _, _, _, _⟩) (v := ?_) rfl (by kernel_rfl) (by kernel_rfl) (by kernel_rfl) (fun _ _ _ h => h) (Or.inl ⟨by rfl, ?_⟩) (by assumption) ?_; rotate_left; (focus (intro w hSw; (try dsimp only at hSw); go_simp; (try with_reducible rfl))); (try simp only [Act.put, List.setIfInBounds_toArray, List.set_cons_zero, List.set_cons_succ])
      refine wpAnyH_ready (rs := [6]) (by kernel_rfl) (by simp) ?_; refine AllReadyH.cons (o := ⟨some 91, _, _, _, _, _⟩) rfl (fun K hK => ?_) AllReadyH.nil; go_simp
      go_at_call 13
      refine (laws_written A10 AN AV n1 c10 mN cN cV CF xs ys w11 HCL.out.symm (by omega) (by omega) HMX.out HMY.out (by omega) K5.out P11.out C11.out.x C11.out.y).mono ?_
      rintro e w12 ⟨g12, c12, rfl, ho, hb⟩
      have hI12 : IS w12 w12.heap.size (some ⟨g12, 0, none⟩) (wrC CF xs ys mN) := ints_of_own (by rw [wrC_len]; exact HCL.out.symm) ho
      clear g0
      have C12 := Lib.hid (C11.out.step hb)
      have G12 := Lib.hid (G11.out.step hb)
      have I12 := Lib.hid (I11.out.step hb)
      have P12 := Lib.hid (P11.out.step hb)
      clear C11 G11 I11 P11
      clear hb ho
      have g0 := G12.out.c 0 _ rfl
      refine hK.out _ _ g0 (fun hHeld => ?_); clear hK K; (try simp only [Act.put, List.setIfInBounds_toArray, List.set_cons_zero, List.set_cons_succ])
      refine wpAnyH_ready (rs := [7]) (by kernel_rfl) (by simp) ?_; refine AllReadyH.cons (o := ⟨some 92, _, _, _, _, _⟩) rfl (fun K hK => ?_) AllReadyH.nil; go_simp
      go_at_call 12
      have HSX := Lib.hid (HMR.out CF (wrC CF xs ys mN) A10 n1 c10 (some ⟨g12, 0, none⟩) n1 c12 w12 C12.out.g (by have := HCL.out; omega) (by rw [wrC_len]; have := HCL.out; omega) HCL.out.symm P12.out (by rw [wrC_len]; exact HCL.out.symm) hI12)
      rw [K1.out] at HSX
      refine HSX.out.mono ?_
      rintro e w13 ⟨v13, rfl, ho, hb⟩
      obtain ⟨A13, c13, rfl, hI13⟩ := OwnI.at_ ho HR3.out.symm
      clear g0 hI12 HSX
      have C13 := Lib.hid (C12.out.step hb)
      have G13 := Lib.hid (G12.out.step hb)
      have I13 := Lib.hid (I12.out.step hb)
      have P13 := Lib.hid (P12.out.step hb)
      clear C12 G12 I12 P12
      have N13 := Lib.hid hI13
      clear hb ho hI13
      have g0 := G13.out.c 0 _ rfl
      refine hK.out _ _ g0 (fun hHeld => ?_); clear hK K; (try simp only [Act.put, List.setIfInBounds_toArray, List.set_cons_zero, List.set_cons_succ])
      refine wpAnyH_ready (rs := [8]) (by kernel_rfl) (by simp) ?_; refine AllReadyH.cons (o := ⟨some 93, _, _, _, _, _⟩) rfl (fun K hK => ?_) AllReadyH.nil; go_simp
      go_at_call 9
      have HEQ := Lib.hid (laws_equalInts R3 A13 r3 r3 d3 c13 L L w13 w13.heap.size (Nat.le_refl _) HR3.out HR3.out I13.out N13.out hll9 hll9)
      refine HEQ.out.mono ?_
      rintro e w14 ⟨he, hb⟩
      obtain rfl : e = .returned (.bool true) := by rw [he]; simp
      clear he g0
      have C14 := Lib.hid (C13.out.step hb)
      have G14 := Lib.hid (G13.out.step hb)
      have I14 := Lib.hid (I13.out.step hb)
      have P14 := Lib.hid (P13.out.step hb)
      have N14 := Lib.hid (N13.out.step hb)
      clear C13 G13 I13 P13 N13
      clear hb HEQ
      have g0 := G14.out.c 0 _ rfl
      refine hK.out _ _ g0 (fun hHeld => ?_); clear hK K; (try simp only [Act.put, List.setIfInBounds_toArray, List.set_cons_zero, List.set_cons_succ])
      refine wpAnyH_take (i := 9) (oi := ⟨some 94, _, _, _, _, _⟩) (v := ?_) rfl (by kernel_rfl) (by kernel_rfl) (by kernel_rfl) (fun _ _ _ h => h) (Or.inl ⟨by rfl, ?_⟩) (by assumption) ?_; rotate_left; (focus (intro w hSw; (try dsimp only at hSw); go_simp; (try with_reducible rfl))); (try simp only [Act.put, List.setIfInBounds_toArray, List.set_cons_zero, List.set_cons_succ])
      refine wpAnyH_take (i := 10) (oi := ⟨some 95, _, _, _, _, _⟩) (v := ?_) rfl (by kernel_rfl) (by kernel_rfl) (by kernel_rfl) (fun _ _ _ h => h) (Or.inl ⟨by rfl, ?_⟩) (by assumption) ?_; rotate_left; (focus (intro w hSw; (try dsimp only at hSw); go_simp; (try with_reducible rfl))); (try simp only [Act.put, List.setIfInBounds_toArray, List.set_cons_zero, List.set_cons_succ])
      refine wpAnyH_ready (rs := [11]) (by kernel_rfl) (by simp) ?_; refine AllReadyH.cons (o := ⟨some 96, _, _, _, _, _⟩) rfl (fun K hK => ?_) AllReadyH.nil; go_simp
      go_at_call 14
      refine (laws_ascends R3 r3 d3 L w14 w14.heap.size (Nat.le_refl _) HR3.out I14.out hll9 K2.out).mono ?_
      rintro e w15 ⟨rfl, hb⟩
      clear g0
      have C15 := Lib.hid (C14.out.step hb)
      have G15 := Lib.hid (G14.out.step hb)
      have I15 := Lib.hid (I14.out.step hb)
      have P15 := Lib.hid (P14.out.step hb)
      have N15 := Lib.hid (N14.out.step hb)
      clear C14 G14 I14 P14 N14
      clear hb
      have g0 := G15.out.c 0 _ rfl
      refine hK.out _ _ g0 (fun hHeld => ?_); clear hK K; (try simp only [Act.put, List.setIfInBounds_toArray, List.set_cons_zero, List.set_cons_succ])
      refine wpAnyH_take (i := 12) (oi := ⟨some 97, _, _, _, _, _⟩) (v := ?_) rfl (by kernel_rfl) (by kernel_rfl) (by kernel_rfl) (fun _ _ _ h => h) (Or.inl ⟨by rfl, ?_⟩) (by assumption) ?_; rotate_left; (focus (intro w hSw; (try dsimp only at hSw); go_simp; (try with_reducible rfl))); (try simp only [Act.put, List.setIfInBounds_toArray, List.set_cons_zero, List.set_cons_succ])
      refine wpAnyH_take (i := 13) (oi := ⟨some 98, _, _, _, _, _⟩) (v := ?_) rfl (by kernel_rfl) (by kernel_rfl) (by kernel_rfl) (fun _ _ _ h => h) (Or.inl ⟨by rfl, ?_⟩) (by assumption) ?_; rotate_left; (focus (intro w hSw; (try dsimp only at hSw); go_simp; (try with_reducible rfl))); (try simp only [Act.put, List.setIfInBounds_toArray, List.set_cons_zero, List.set_cons_succ])
      refine wpAnyH_take (i := 14) (oi := ⟨some 99, _, _, _, _, _⟩) (v := ?_) rfl (by kernel_rfl) (by kernel_rfl) (by kernel_rfl) (fun _ _ _ h => h) (Or.inl ⟨by rfl, ?_⟩) (by assumption) ?_; rotate_left; (focus (intro w hSw; (try dsimp only at hSw); go_simp; (try with_reducible rfl))); (try simp only [Act.put, List.setIfInBounds_toArray, List.set_cons_zero, List.set_cons_succ])
      refine wpAnyH_take (i := 15) (oi := ⟨some 100, _, _, _, _, _⟩) (v := ?_) rfl (by kernel_rfl) (by kernel_rfl) (by kernel_rfl) (fun _ _ _ h => h) (Or.inl ⟨by rfl, ?_⟩) (by assumption) ?_; rotate_left; (focus (intro w hSw; (try dsimp only at hSw); go_simp; (try with_reducible rfl))); (try simp only [Act.put, List.setIfInBounds_toArray, List.set_cons_zero, List.set_cons_succ])
      refine wpAnyH_take (i := 16) (oi := ⟨some 101, _, _, _, _, _⟩) (v := ?_) rfl (by kernel_rfl) (by kernel_rfl) (by kernel_rfl) (fun _ _ _ h => h) (Or.inl ⟨by rfl, ?_⟩) (by assumption) ?_; rotate_left; (focus (intro w hSw; (try dsimp only at hSw); go_simp; (try with_reducible rfl))); (try simp only [Act.put, List.setIfInBounds_toArray, List.set_cons_zero, List.set_cons_succ])
      refine wpAnyH_ready (rs := [17]) (by kernel_rfl) (by simp) ?_; refine AllReadyH.cons (o := ⟨some 102, _, _, _, _, _⟩) rfl (fun K hK => ?_) AllReadyH.nil; go_simp
      go_at_call 16
      refine (HMA.out w15 C15.out).mono ?_
      rintro e w16 ⟨v16, rfl, ho, hb⟩
      obtain ⟨A16, c16, rfl, hI16⟩ := OwnI.at_ ho HMRL.out.symm
      clear g0
      have C16 := Lib.hid (C15.out.step hb)
      have G16 := Lib.hid (G15.out.step hb)
      have I16 := Lib.hid (I15.out.step hb)
      have P16 := Lib.hid (P15.out.step hb)
      have N16 := Lib.hid (N15.out.step hb)
      clear C15 G15 I15 P15 N15
      clear hb ho
      have g0 := G16.out.c 0 _ rfl
      refine hK.out _ _ g0 (fun hHeld => ?_); clear hK K; (try simp only [Act.put, List.setIfInBounds_toArray, List.set_cons_zero, List.set_cons_succ])
      refine wpAnyH_ready (rs := [18]) (by kernel_rfl) (by simp) ?_; refine AllReadyH.cons (o := ⟨some 103, _, _, _, _, _⟩) rfl (fun K hK => ?_) AllReadyH.nil; go_simp
      go_at_call 15
      refine (within_g R3 A16 r3 d3 mr c16 L MR w16 HR3.out I16.out hll9 HMRL.out hI16 hmr9 K6.out).mono ?_
      rintro e w17 ⟨rfl, hb⟩
      clear g0 hI16
      have C17 := Lib.hid (C16.out.step hb)
      have G17 := Lib.hid (G16.out.step hb)
      have I17 := Lib.hid (I16.out.step hb)
      have P17 := Lib.hid (P16.out.step hb)
      have N17 := Lib.hid (N16.out.step hb)
      clear C16 G16 I16 P16 N16
      clear hb
      have g0 := G17.out.c 0 _ rfl
      refine hK.out _ _ g0 (fun hHeld => ?_); clear hK K; (try simp only [Act.put, List.setIfInBounds_toArray, List.set_cons_zero, List.set_cons_succ])
      refine wpAnyH_take (i := 19) (oi := ⟨some 104, _, _, _, _, _⟩) (v := ?_) rfl (by kernel_rfl) (by kernel_rfl) (by kernel_rfl) (fun _ _ _ h => h) (Or.inl ⟨by rfl, ?_⟩) (by assumption) ?_; rotate_left; (focus (intro w hSw; (try dsimp only at hSw); go_simp; (try with_reducible rfl))); (try simp only [Act.put, List.setIfInBounds_toArray, List.set_cons_zero, List.set_cons_succ])
      refine wpAnyH_take (i := 20) (oi := ⟨some 2, _, _, _, _, _⟩) (v := ?_) rfl (by kernel_rfl) (by kernel_rfl) (by kernel_rfl) (fun _ _ _ h => h) (Or.inl ⟨by rfl, ?_⟩) (by assumption) ?_; rotate_left; (focus (intro w hSw; (try dsimp only at hSw); go_simp; (try with_reducible rfl))); (try simp only [Act.put, List.setIfInBounds_toArray, List.set_cons_zero, List.set_cons_succ])
      refine wpAnyH_done (by kernel_rfl) ?_ _
      go_wp2
      go_ret
      exact ⟨rfl, C17.out.b⟩
end Go.Proofs.YtgakgmkonmgblaaGreat
