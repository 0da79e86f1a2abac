/- The standing contracts of MoveHistory. (Made by j7.py.) -/
import Derived.Test.YtlliomnfbgdpfaaJ6
import Derived.Test.YtlliomnfbgdpfaaS7

namespace Go.Proofs.Ytlliomnfbgdpfaa
set_option linter.unusedSimpArgs false
set_option linter.unusedVariables false
open Go.RowKit

def moveB (gs : List Nd) (st : Hi) (y : Int) : Bool := validHi gs st && rng y (-10) 10 && rng (st.ix + y) 0 (st.ss.length - 1)
def moveH (gs : List Nd) (st : Hi) (y : Int) : Hi := if moveB gs st y then ⟨st.ss, st.ix + y⟩ else ⟨[], 0⟩
def moveI (gs : List Nd) (st : Hi) (y : Int) : List Int := if moveB gs st y then chgF gs (st.ss.getD st.ix.toNat []) (st.ss.getD (st.ix + y).toNat []) else []

theorem moveI_len (gs : List Nd) (st : Hi) (y : Int) : (moveI gs st y).length ≤ 10 := by
  unfold moveI
  split
  · exact chgF_len _ _ _
  · simp
theorem moveH_HB (gs : List Nd) (st : Hi) (y : Int) : HiB (moveH gs st y) := by
  unfold moveH
  cases h : moveB gs st y
  · exact HiB.of_hsz (by simp [hsz])
  · simp only [if_true]
    unfold moveB at h
    simp only [Bool.and_eq_true] at h
    obtain ⟨hg, h1, h10, h0, hl, hc⟩ := validHi_parts h.1.1
    have hgl := (validG_parts gs hg).1
    have hb : ∀ x ∈ st.ss, x.length ≤ 10 := by
      intro x hm
      obtain ⟨k, hk, rfl⟩ := List.getElem_of_mem hm
      have := (validC_parts gs _ (hc k hk)).1
      rw [List.getD_eq_getElem?_getD, List.getElem?_eq_getElem hk] at this
      simp at this; omega
    have hs := sum_le_mul _ 10 hb
    exact HiB.of_hsz (by unfold hsz; dsimp only; omega)

/-- Returns a history, numbers and whether there are some, in fresh blocks: those of the numbers lie behind. -/
def RetHIB (w : World) (st : Hi) (xs : List Int) (b : Bool) (e : Ending) (w' : World) : Prop := ∃ (A : Option Addr) (n c : Nat) (A' : Option Addr) (m' c' mid : Nat), e = .returned (.tuple #[.agg #[.slice A n c, .int .i64 st.ix], .slice A' m' c', .bool b]) ∧ m' = xs.length ∧ OwH w.heap.size mid A n c st w' ∧ OwR mid w'.heap.size 3 1 (.slice A' m' c') m' (xs.map (Value.int .i64)) w' ∧ w.heap.size ≤ mid ∧ mid ≤ w'.heap.size ∧ Below w.heap.size w w'
theorem RetHIB.nil {w w' : World} (hb : Below w.heap.size w w') : RetHIB w ⟨[], 0⟩ [] false (.returned (.tuple #[.agg #[.slice none 0 0, .int .i64 0], .slice none 0 0, .bool false])) w' := ⟨_, _, _, _, _, _, w'.heap.size, rfl, rfl, OwH.nil _ _ _, OwR.nil _ _ _ _ _, hb.size, Nat.le_refl _, hb⟩


set_option maxRecDepth 100000 in
set_option maxHeartbeats 3200000 in
theorem top_spec_MoveHistory (gs : List Nd) (st : Hi) (y : Int) (hG : GB gs) (hH : HiB st) : ∀ (A : Option Addr) (n c : Nat) (A1 : Option Addr) (m c1 : Nat) (w : World), n = gs.length → n ≤ c → GS w w.heap.size A gs → m = st.ss.length → HiS w w.heap.size A1 st → -9223372036854775808 ≤ y → y ≤ 9223372036854775807 →
    Calls Try.prog 26 #[.agg #[.slice A n c], .agg #[.slice A1 m c1, .int .i64 st.ix], .int .i64 y] w fun e w' => RetHIB w (moveH gs st y) (moveI gs st y) (moveB gs st y) e w' := by
  intro A n c A1 m c1 w hn hnc h hm h1 hy0 hy1
  have H := Lib.hid h
  have HI := Lib.hid h1
  have HV := Lib.hid fun (w' : World) (hB : w.heap.size ≤ w'.heap.size) (h : GS w' w.heap.size A gs) (h' : HiS w' w.heap.size A1 st) => spec_validHistory A A1 n c m c1 gs st w' w.heap.size hB hn hm h h' hG hH
  have HCH := Lib.hid fun (w' : World) (hB : w.heap.size ≤ w'.heap.size) (h : HiS w' w.heap.size A1 st) => spec_copyHistory A1 m c1 st w' w.heap.size hB hm h hH
  have HCG := Lib.hid fun (xs ys : List Int) (hL : xs.length ≤ 1048576) (hL2 : ys.length ≤ 1048576) (B1 : Option Addr) (p1 d1 : Nat) (B2 : Option Addr) (p2 d2 : Nat) (w' : World) (h : GS w' w'.heap.size A gs) (h1 : p1 = xs.length) (h2 : IS w' w'.heap.size B1 xs) (h3 : p2 = ys.length) (h4 : IS w' w'.heap.size B2 ys) => top_spec_ChangedBy gs xs ys hG hL hL2 A n c B1 p1 d1 B2 p2 d2 w' hn hnc h h1 h2 h3 h4
  have hHb : moveB gs st y = (validHi gs st && rng y (-10) 10 && rng (st.ix + y) 0 (st.ss.length - 1)) := rfl
  have hHf : moveH gs st y = if moveB gs st y then ⟨st.ss, st.ix + y⟩ else ⟨[], 0⟩ := rfl
  have hHi : moveI gs st y = if moveB gs st y then chgF gs (st.ss.getD st.ix.toNat []) (st.ss.getD (st.ix + y).toNat []) else [] := rfl
  have HVP := Lib.hid (fun hv : validHi gs st = true => validHi_parts hv)
  have HSB := Lib.hid hH.2.1.2
  rw [hHf, hHi]
  generalize moveB gs st y = b at *
  generalize hv : validHi gs st = v at *
  have HM := Lib.hid hm
  obtain ⟨ss, ix⟩ := st
  dsimp only at *
  generalize hD : chgF gs (ss.getD ix.toNat []) (ss.getD (ix + y).toNat []) = D at *
  clear hHf hHi h h1 hn hm hG hH hv
  obtain ⟨W3, hW3⟩ : ∃ W, W = ((w.alloc (.cells #[.slice A n c] 33)).alloc (.cells #[.slice A1 m c1, .int .i64 ix] 35)).alloc (.cells #[.slice none 0 0, .int .i64 0] 35) := ⟨_, rfl⟩
  have hb3 : Below w.heap.size w W3 := by rw [hW3]; exact (((Below.refl _ _).alloc (Nat.le_refl _) _).alloc (by simp) _).alloc (by simp; try omega) _
  have hs3 : w.heap.size + 3 ≤ W3.heap.size := by rw [hW3]; simp
  have hx0 : Bx w.heap.size [.slice A n c] W3 := by rw [hW3]; exact ((Bx.start w _ _).alloc _).alloc _
  have hx1 : Bx (w.heap.size + 1) [.slice A1 m c1, .int .i64 ix] W3 := by rw [hW3]; have := (Bx.start (w.alloc (.cells #[.slice A n c] 33)) #[.slice A1 m c1, .int .i64 ix] 35).alloc (.cells #[.slice none 0 0, .int .i64 0] 35); simpa using this
  have hx2 : Bx (w.heap.size + 2) [.slice none 0 0, .int .i64 0] W3 := by rw [hW3]; have := Bx.start ((w.alloc (.cells #[.slice A n c] 33)).alloc (.cells #[.slice A1 m c1, .int .i64 ix] 35)) #[.slice none 0 0, .int .i64 0] 35; simpa using this
  have HG3 := Lib.hid (H.out.below hb3 (Nat.le_refl _))
  have HI3 := Lib.hid (show HiS W3 w.heap.size A1 ⟨ss, ix⟩ from SS.below HI.out hb3 (Nat.le_refl _))
  have HV3 := Lib.hid (HV.out W3 (by omega) HG3.out HI3.out)
  rw [hW3] at HV3
  have HW3 := Lib.hid hW3
  have HB3 := Lib.hid hb3
  have X0 := Lib.hid hx0
  have X1 := Lib.hid hx1
  have X2 := Lib.hid hx2
  clear hW3 hb3 hx0 hx1 hx2 HV H HI
  cases v
  · simp only [Bool.false_and] at hHb
    subst hHb
    go_enter Try.func26, Try.ntmps26
    go_wp2_with fail
    refine HV3.out.mono ?_
    rw [← HW3.out]
    rintro e w4 ⟨rfl, hb⟩
    have Y2 := X2.out.step hb
    have r1 := Y2.c 0 _ rfl
    have r2 := Y2.c 1 _ rfl
    have g1 := Y2.f 0
    have g2 := Y2.f 1
    have hs4 := hb.size
    have HB4 := Lib.hid (HB3.out.trans (hb.mono (by omega)))
    clear hb Y2
    go_wp2
    refine bodyPost_ret (v := .tuple #[.agg #[.slice none 0 0, .int .i64 0], .slice none 0 0, .bool false]) (by simp [results, Try.results26, go_sem, r1, r2]) rfl ?_
    exact RetHIB.nil ((HB4.out.setCell (by simp; omega) _).setCell (by simp; omega) _)

  · obtain ⟨-, hl1, hl10, hi0, hi1, hvs⟩ := HVP.out rfl
    obtain ⟨j, rfl⟩ : ∃ j : Nat, ix = (j : Int) := ⟨ix.toNat, by omega⟩
    have hjm : j < m := by have := HM.out; omega
    have hm10 : m ≤ 10 := by have := HM.out; omega
    have HIR := Lib.hid fun (w' : World) => spec_inRange y (-10) 10 w'
    have HIQ := Lib.hid fun (w' : World) => spec_inRange ((j : Int) + y) 0 ((m : Int) - 1) w'
    have hrr : rng ((j : Int) + y) 0 ((ss.length : Int) - 1) = rng ((j : Int) + y) 0 ((m : Int) - 1) := by rw [HM.out]
    rw [hrr] at hHb
    have hwy : IntKind.i64.wrap ((m : Int) - 1) = (m : Int) - 1 := by rw [IntKind.wrap_i64]; omega
    by_cases hr1 : -10 ≤ y ∧ y ≤ 10
    case neg =>
      have e1 : rng y (-10) 10 = false := by simp only [rng, decide_eq_false_iff_not]; omega
      rw [e1] at hHb HIR
      simp only [Bool.and_false, Bool.false_and] at hHb
      subst hHb
      clear hrr e1
      go_enter Try.func26, Try.ntmps26
      go_wp2_with fail
      refine HV3.out.mono ?_
      rw [← HW3.out]
      rintro e w4 ⟨rfl, hb⟩
      have Y2 := X2.out.step hb
      have r1 := Y2.c 0 _ rfl
      have r2 := Y2.c 1 _ rfl
      have g1 := Y2.f 0
      have g2 := Y2.f 1
      have hs4 := hb.size
      have HB4 := Lib.hid (HB3.out.trans (hb.mono (by omega)))
      clear hb Y2
      go_wp2_with fail
      refine (HIR.out _).mono ?_
      rintro e w5 ⟨rfl, rfl⟩
      go_wp2
      refine bodyPost_ret (v := .tuple #[.agg #[.slice none 0 0, .int .i64 0], .slice none 0 0, .bool false]) (by simp [results, Try.results26, go_sem, r1, r2]) rfl ?_
      exact RetHIB.nil ((HB4.out.setCell (by simp; omega) _).setCell (by simp; omega) _)
    obtain ⟨hy2, hy3⟩ := hr1
    have e1 : rng y (-10) 10 = true := by simp only [rng, decide_eq_true_eq]; omega
    have hwr : IntKind.i64.wrap ((j : Int) + y) = (j : Int) + y := by rw [IntKind.wrap_i64]; omega
    rw [e1] at hHb HIR
    by_cases hr2 : 0 ≤ (j : Int) + y ∧ (j : Int) + y ≤ (m : Int) - 1
    case neg =>
      have e2 : rng ((j : Int) + y) 0 ((m : Int) - 1) = false := by simp only [rng, decide_eq_false_iff_not]; omega
      rw [e2] at hHb HIQ
      simp only [Bool.and_false] at hHb
      subst hHb
      clear hrr e1 e2
      go_enter Try.func26, Try.ntmps26
      go_wp2_with fail
      refine HV3.out.mono ?_
      rw [← HW3.out]
      rintro e w4 ⟨rfl, hb⟩
      have Y1 := X1.out.step hb
      have a1 := Y1.c 0 _ rfl
      have a2 := Y1.c 1 _ rfl
      have Y2 := X2.out.step hb
      have r1 := Y2.c 0 _ rfl
      have r2 := Y2.c 1 _ rfl
      have g1 := Y2.f 0
      have g2 := Y2.f 1
      have hs4 := hb.size
      have HB4 := Lib.hid (HB3.out.trans (hb.mono (by omega)))
      clear hb Y2 Y1
      go_wp2_with fail
      refine (HIR.out _).mono ?_
      rintro e w5 ⟨rfl, rfl⟩
      go_wp2_with fail
      refine (HIQ.out _).mono ?_
      rintro e w5 ⟨rfl, rfl⟩
      go_wp2
      refine bodyPost_ret (v := .tuple #[.agg #[.slice none 0 0, .int .i64 0], .slice none 0 0, .bool false]) (by simp [results, Try.results26, go_sem, r1, r2]) rfl ?_
      exact RetHIB.nil ((HB4.out.setCell (by simp; omega) _).setCell (by simp; omega) _)
    obtain ⟨hr3, hr4⟩ := hr2
    have e2 : rng ((j : Int) + y) 0 ((m : Int) - 1) = true := by simp only [rng, decide_eq_true_eq]; omega
    rw [e2] at hHb HIQ
    simp only [Bool.and_true] at hHb
    subst hHb
    obtain ⟨k, hk⟩ : ∃ k : Nat, (j : Int) + y = (k : Int) := ⟨((j : Int) + y).toNat, by omega⟩
    have hkm : k < m := by omega
    have hwr2 : IntKind.i64.wrap ((j : Int) + y) = (k : Int) := hwr.trans hk
    clear hwr
    rw [hk] at HIQ ⊢
    have htj : (j : Int).toNat = j := by simp
    have htk : (k : Int).toNat = k := by simp
    have HK := Lib.hid hk
    have HCGD := Lib.hid fun (B1 : Option Addr) (p1 d1 : Nat) (B2 : Option Addr) (p2 d2 : Nat) (w' : World) (h : GS w' w'.heap.size A gs) (h1 : p1 = (ss.getD j []).length) (h2 : IS w' w'.heap.size B1 (ss.getD j [])) (h3 : p2 = (ss.getD k []).length) (h4 : IS w' w'.heap.size B2 (ss.getD k [])) => HCG.out (ss.getD j []) (ss.getD k []) (HSB.out j) (HSB.out k) B1 p1 d1 B2 p2 d2 w' h h1 h2 h3 h4
    have hDD : chgF gs (ss.getD j []) (ss.getD k []) = D := by rw [← hD, hk]; simp
    rw [hDD] at HCGD
    clear hrr e1 e2 hk hy2 hy3 hr3 hr4 hi1 HCG hDD hD hvs htj htk

    go_enter Try.func26, Try.ntmps26
    go_wp2_with fail
    refine HV3.out.mono ?_
    rw [← HW3.out]
    rintro e w4 ⟨rfl, hb⟩
    have hs4 := hb.size
    have Y0 := Lib.hid (X0.out.step hb)
    have Y1 := Lib.hid (X1.out.step hb)
    have Y2 := Lib.hid (X2.out.step hb)
    have HB4 := Lib.hid (HB3.out.trans (hb.mono (by omega)))
    have HG4 := Lib.hid (HG3.out.below hb (by omega))
    have HI4 := Lib.hid (show SS w4 w.heap.size A1 ss from SS.below HI3.out hb (by omega))
    have a1 := Y1.out.c 0 _ rfl
    have a2 := Y1.out.c 1 _ rfl
    clear hb X0 X1 X2 HB3 HG3 HI3 HV3
    go_wp2_with fail
    refine (HIR.out _).mono ?_
    rintro e w5 ⟨rfl, rfl⟩
    go_wp2_with fail
    refine (HIQ.out _).mono ?_
    rintro e w5 ⟨rfl, rfl⟩
    go_wp2_with fail
    refine (HCH.out _ (by omega) HI4.out).mono ?_
    rintro e w5 ⟨A5, n5, c5, rfl, ho5, hb5⟩
    have hn5 : n5 = m := ho5.1.trans HM.out.symm
    subst hn5
    have hs5 := hb5.size
    have HO5 := Lib.hid (OwSS.mono (lo' := w.heap.size + 3) ho5 (by omega) (Nat.le_refl _))
    have p2 := (Y1.out.step hb5).c 1 _ rfl
    have hsz5 : w.heap.size + 1 < w5.heap.size := by omega
    obtain ⟨W6, hW6⟩ : ∃ W, W = w5.alloc (.cells #[.slice A5 n5 c5, .int .i64 k] 35) := ⟨_, rfl⟩
    have hb6 : Below w4.heap.size w4 W6 := by rw [hW6]; exact hb5.alloc hs5 _
    have hb56 : Below w5.heap.size w5 W6 := by rw [hW6]; exact (Below.refl _ _).alloc (Nat.le_refl _) _
    have hs6 : W6.heap.size = w5.heap.size + 1 := by rw [hW6]; simp
    have Z6 : Hid (Bx w5.heap.size [.slice A5 n5 c5, .int .i64 k] W6) := by rw [hW6]; exact Bx.start w5 _ _
    have Z0 := Lib.hid (Y0.out.step hb6)
    have Z1 := Lib.hid (Y1.out.step hb6)
    have Z2 := Lib.hid (Y2.out.step hb6)
    have HB6 := Lib.hid (HB4.out.trans (hb6.mono (by omega)))
    have HG6 := Lib.hid ((HG4.out.below hb6 (by omega)).more (B' := W6.heap.size) (by omega))
    have HO6 := Lib.hid (OwSS.loc _ _ _ _ _ _ _ HO5.out fun q _ hq => hb56.block q hq)
    obtain ⟨b1, o1, hA1, hb1, hcs⟩ := HI4.out (by have := HM.out; omega)
    subst hA1
    obtain ⟨Bj, nj, cj, e1, e2, e3⟩ := hcs j (by have := HM.out; omega)
    obtain ⟨Bk, nk, ck, g1, g2, g3⟩ := hcs k (by have := HM.out; omega)
    have HE1 := Lib.hid e1
    have HG1 := Lib.hid g1
    have HNJ := Lib.hid e2
    have HNK := Lib.hid g2
    have HIJ := Lib.hid e3
    have HIK := Lib.hid g3
    clear hcs e1 e2 e3 g1 g2 g3
    have HJ6 := Lib.hid ((HIJ.out.below hb6 (by omega)).more (B' := W6.heap.size) (by omega))
    have HK6 := Lib.hid ((HIK.out.below hb6 (by omega)).more (B' := W6.heap.size) (by omega))
    have q1 := (hb6.cell (p := ⟨b1, o1 + j, none⟩) (by simp; omega)).trans HE1.out
    have q2 := (hb6.cell (p := ⟨b1, o1 + k, none⟩) (by simp; omega)).trans HG1.out
    have HW6 := Lib.hid hW6
    have HQ6 := Lib.hid (And.intro q1 q2)
    clear ho5 hb5 hb6 hb56 HO5 Y0 Y1 Y2 HB4 HG4 HI4 a1 a2 HIJ HIK HE1 HG1 hW6 q1 q2
    go_upto_region 5 with fail
    rw [← HW6.out]
    clear p2
    have z0 := Z0.out.c 0 _ rfl
    have z1 := Z1.out.c 0 _ rfl
    have z2 := Z1.out.c 1 _ rfl
    have z3 := Z6.out.c 0 _ rfl
    have z4 := Z6.out.c 1 _ rfl
    have z5 := HQ6.out.1
    have z6 := HQ6.out.2
    have hjk : j < n5 := by omega
    refine wp_region_held_drew (S := fun w' => w'.cell? ⟨w.heap.size, 0, none⟩ = some (.slice A n c) ∧ w'.cell? ⟨w.heap.size + 1, 0, none⟩ = some (.slice (some ⟨b1, o1, none⟩) n5 c1) ∧ w'.cell? ⟨w.heap.size + 1, 1, none⟩ = some (.int .i64 j) ∧ w'.cell? ⟨w5.heap.size, 0, none⟩ = some (.slice A5 n5 c5) ∧ w'.cell? ⟨w5.heap.size, 1, none⟩ = some (.int .i64 k) ∧ w'.cell? ⟨b1, o1 + j, none⟩ = some (.slice Bj nj cj) ∧ w'.cell? ⟨b1, o1 + k, none⟩ = some (.slice Bk nk ck)) (by kernel_rfl) ⟨z0, z1, z2, z3, z4, z5, z6⟩ (fun hHeld => ?_)
    refine wpAnyH_take (i := 0) (oi := ⟨some 39, _, _, _, _, _⟩) (v := ?_) rfl (by kernel_rfl) (by kernel_rfl) (by kernel_rfl) (fun _ _ _ h => h) (Or.inl ⟨by rfl, ?_⟩) (by assumption) ?_; rotate_left; (focus (intro w hSw; (try dsimp only at hSw); go_simp; (try with_reducible rfl))); (try simp only [Act.put, List.setIfInBounds_toArray, List.set_cons_zero, List.set_cons_succ])
    refine wpAnyH_take (i := 1) (oi := ⟨some 40, _, _, _, _, _⟩) (v := ?_) rfl (by kernel_rfl) (by kernel_rfl) (by kernel_rfl) (fun _ _ _ h => h) (Or.inl ⟨by rfl, ?_⟩) (by assumption) ?_; rotate_left; (focus (intro w hSw; (try dsimp only at hSw); go_simp; (try with_reducible rfl))); (try simp only [Act.put, List.setIfInBounds_toArray, List.set_cons_zero, List.set_cons_succ])
    refine wpAnyH_take (i := 2) (oi := ⟨some 41, _, _, _, _, _⟩) (v := ?_) rfl (by kernel_rfl) (by kernel_rfl) (by kernel_rfl) (fun _ _ _ h => h) (Or.inl ⟨by rfl, ?_⟩) (by assumption) ?_; rotate_left; (focus (intro w hSw; (try dsimp only at hSw); go_simp; (try with_reducible rfl))); (try simp only [Act.put, List.setIfInBounds_toArray, List.set_cons_zero, List.set_cons_succ])
    refine wpAnyH_take (i := 3) (oi := ⟨some 42, _, _, _, _, _⟩) (v := ?_) rfl (by kernel_rfl) (by kernel_rfl) (by kernel_rfl) (fun _ _ _ h => h) (Or.inl ⟨by rfl, ?_⟩) (by assumption) ?_; rotate_left; (focus (intro w hSw; (try dsimp only at hSw); go_simp; (try with_reducible rfl))); (try simp only [Act.put, List.setIfInBounds_toArray, List.set_cons_zero, List.set_cons_succ])
    refine wpAnyH_take (i := 4) (oi := ⟨some 43, _, _, _, _, _⟩) (v := ?_) rfl (by kernel_rfl) (by kernel_rfl) (by kernel_rfl) (fun _ _ _ h => h) (Or.inl ⟨by rfl, ?_⟩) (by assumption) ?_; rotate_left; (focus (intro w hSw; (try dsimp only at hSw); go_simp; (try with_reducible rfl))); (try simp only [Act.put, List.setIfInBounds_toArray, List.set_cons_zero, List.set_cons_succ])
    refine wpAnyH_take (i := 5) (oi := ⟨some 44, _, _, _, _, _⟩) (v := ?_) rfl (by kernel_rfl) (by kernel_rfl) (by kernel_rfl) (fun _ _ _ h => h) (Or.inl ⟨by rfl, ?_⟩) (by assumption) ?_; rotate_left; (focus (intro w hSw; (try dsimp only at hSw); go_simp; (try with_reducible rfl))); (try simp only [Act.put, List.setIfInBounds_toArray, List.set_cons_zero, List.set_cons_succ])
    refine wpAnyH_take (i := 6) (oi := ⟨some 45, _, _, _, _, _⟩) (v := ?_) rfl (by kernel_rfl) (by kernel_rfl) (by kernel_rfl) (fun _ _ _ h => h) (Or.inl ⟨by rfl, ?_⟩) (by assumption) ?_; rotate_left; (focus (intro w hSw; (try dsimp only at hSw); go_simp; (try with_reducible rfl))); (try simp only [Act.put, List.setIfInBounds_toArray, List.set_cons_zero, List.set_cons_succ])
    refine wpAnyH_take (i := 7) (oi := ⟨some 46, _, _, _, _, _⟩) (v := ?_) rfl (by kernel_rfl) (by kernel_rfl) (by kernel_rfl) (fun _ _ _ h => h) (Or.inl ⟨by rfl, ?_⟩) (by assumption) ?_; rotate_left; (focus (intro w hSw; (try dsimp only at hSw); go_simp; (try with_reducible rfl))); (try simp only [Act.put, List.setIfInBounds_toArray, List.set_cons_zero, List.set_cons_succ])
    refine wpAnyH_take (i := 8) (oi := ⟨some 47, _, _, _, _, _⟩) (v := ?_) rfl (by kernel_rfl) (by kernel_rfl) (by kernel_rfl) (fun _ _ _ h => h) (Or.inl ⟨by rfl, ?_⟩) (by assumption) ?_; rotate_left; (focus (intro w hSw; (try dsimp only at hSw); go_simp; (try with_reducible rfl))); (try simp only [Act.put, List.setIfInBounds_toArray, List.set_cons_zero, List.set_cons_succ])
    refine wpAnyH_take (i := 9) (oi := ⟨some 48, _, _, _, _, _⟩) (v := ?_) rfl (by kernel_rfl) (by kernel_rfl) (by kernel_rfl) (fun _ _ _ h => h) (Or.inl ⟨by rfl, ?_⟩) (by assumption) ?_; rotate_left; (focus (intro w hSw; (try dsimp only at hSw); go_simp; (try with_reducible rfl))); (try simp only [Act.put, List.setIfInBounds_toArray, List.set_cons_zero, List.set_cons_succ])
    refine wpAnyH_take (i := 10) (oi := ⟨some 49, _, _, _, _, _⟩) (v := ?_) rfl (by kernel_rfl) (by kernel_rfl) (by kernel_rfl) (fun _ _ _ h => h) (Or.inl ⟨by rfl, ?_⟩) (by assumption) ?_; rotate_left; (focus (intro w hSw; (try dsimp only at hSw); go_simp; (try with_reducible rfl))); (try simp only [Act.put, List.setIfInBounds_toArray, List.set_cons_zero, List.set_cons_succ])
    refine wpAnyH_take (i := 11) (oi := ⟨some 50, _, _, _, _, _⟩) (v := ?_) rfl (by kernel_rfl) (by kernel_rfl) (by kernel_rfl) (fun _ _ _ h => h) (Or.inl ⟨by rfl, ?_⟩) (by assumption) ?_; rotate_left; (focus (intro w hSw; (try dsimp only at hSw); go_simp; (try with_reducible rfl))); (try simp only [Act.put, List.setIfInBounds_toArray, List.set_cons_zero, List.set_cons_succ])
    refine wpAnyH_take (i := 12) (oi := ⟨some 51, _, _, _, _, _⟩) (v := ?_) rfl (by kernel_rfl) (by kernel_rfl) (by kernel_rfl) (fun _ _ _ h => h) (Or.inl ⟨by rfl, ?_⟩) (by assumption) ?_; rotate_left; (focus (intro w hSw; (try dsimp only at hSw); go_simp; (try with_reducible rfl))); (try simp only [Act.put, List.setIfInBounds_toArray, List.set_cons_zero, List.set_cons_succ])
    refine wpAnyH_take (i := 13) (oi := ⟨some 52, _, _, _, _, _⟩) (v := ?_) rfl (by kernel_rfl) (by kernel_rfl) (by kernel_rfl) (fun _ _ _ h => h) (Or.inl ⟨by rfl, ?_⟩) (by assumption) ?_; rotate_left; (focus (intro w hSw; (try dsimp only at hSw); go_simp; (try with_reducible rfl))); (try simp only [Act.put, List.setIfInBounds_toArray, List.set_cons_zero, List.set_cons_succ])
    refine wpAnyH_ready (rs := [14]) (by kernel_rfl) (by simp) ?_; refine AllReadyH.cons (o := ⟨some 53, _, _, _, _, _⟩) rfl (fun K hK => ?_) AllReadyH.nil; go_simp
    go_at_call 50
    refine (HCGD.out Bj nj cj Bk nk ck W6.drew HG6.out HNJ.out HJ6.out HNK.out HK6.out).mono ?_
    rintro e w7 ⟨v7, rfl, ho7', hb7'⟩
    have hb7 : Below W6.heap.size W6 w7 := below_of_drew hb7'
    have ho7 : OwnI w7 W6.heap.size v7 D := ho7'
    obtain ⟨A7, c7, rfl, _⟩ := OwnI.form ho7
    have hs7 := hb7.size
    have U0 := Lib.hid (Z0.out.step hb7)
    have U1 := Lib.hid (Z1.out.step hb7)
    have U2 := Lib.hid (Z2.out.step hb7)
    have U6 := Lib.hid (Z6.out.step hb7)
    have HB7 := Lib.hid (HB6.out.trans (hb7.mono (by omega)))
    have HO7 := Lib.hid (OwSS.loc _ _ _ _ _ _ _ HO6.out fun q _ hq => hb7.block q (by omega))
    have HD7 : Hid (OwR w5.heap.size w7.heap.size 3 1 (.slice A7 D.length c7) D.length (D.map (Value.int .i64)) w7) := ⟨own_mono ho7 (by omega), fun q hq => (ho7.lt q hq).2⟩
    have HQ7 := Lib.hid (And.intro ((hb7.cell (p := ⟨b1, o1 + j, none⟩) (by simp; omega)).trans z5) ((hb7.cell (p := ⟨b1, o1 + k, none⟩) (by simp; omega)).trans z6))
    clear z0 z1 z2 z3 z4 z5 z6 ho7 ho7' hb7 hb7' Z0 Z1 Z2 Z6 HB6 HO6 HG6 HJ6 HK6 HQ6
    have z0 := U0.out.c 0 _ rfl
    have z1 := U1.out.c 0 _ rfl
    have z2 := U1.out.c 1 _ rfl
    have z3 := U6.out.c 0 _ rfl
    have z4 := U6.out.c 1 _ rfl
    have z5 := HQ7.out.1
    have z6 := HQ7.out.2
    have y0 := U2.out.c 0 _ rfl
    have y1 := U2.out.c 1 _ rfl
    have y2 := U2.out.f 0
    have y3 := U2.out.f 1
    refine hK.out _ _ ⟨z0, z1, z2, z3, z4, z5, z6⟩ (fun hHeld => ?_); clear hK K; (try simp only [Act.put, List.setIfInBounds_toArray, List.set_cons_zero, List.set_cons_succ])
    refine wpAnyH_ready (rs := [15]) (by kernel_rfl) (by simp) ?_; refine AllReadyH.cons (o := ⟨none, _, _, _, _, _⟩) rfl (fun K hK => ?_) AllReadyH.nil; go_simp
    obtain ⟨W8, hW8⟩ : ∃ W, W = (w7.setCell ⟨w.heap.size + 2, 0, none⟩ (.slice A5 n5 c5)).setCell ⟨w.heap.size + 2, 1, none⟩ (.int .i64 k) := ⟨_, rfl⟩
    have ne0 : ∀ (o : Nat), b1 ≠ w.heap.size + 2 := fun _ => by omega
    have t0 : W8.cell? ⟨w.heap.size, 0, none⟩ = some (.slice A n c) := by rw [hW8]; exact ((U0.out.other _ (by simp) _).other _ (by simp) _).c 0 _ rfl
    have t1 : W8.cell? ⟨w.heap.size + 1, 0, none⟩ = some (.slice (some ⟨b1, o1, none⟩) n5 c1) := by rw [hW8]; exact ((U1.out.other _ (by simp) _).other _ (by simp) _).c 0 _ rfl
    have t2 : W8.cell? ⟨w.heap.size + 1, 1, none⟩ = some (.int .i64 j) := by rw [hW8]; exact ((U1.out.other _ (by simp) _).other _ (by simp) _).c 1 _ rfl
    have t3 : W8.cell? ⟨w5.heap.size, 0, none⟩ = some (.slice A5 n5 c5) := by rw [hW8]; exact ((U6.out.other _ (by simp; omega) _).other _ (by simp; omega) _).c 0 _ rfl
    have t4 : W8.cell? ⟨w5.heap.size, 1, none⟩ = some (.int .i64 k) := by rw [hW8]; exact ((U6.out.other _ (by simp; omega) _).other _ (by simp; omega) _).c 1 _ rfl
    have t5 : W8.cell? ⟨b1, o1 + j, none⟩ = some (.slice Bj nj cj) := by rw [hW8, World.cell?_setCell_other _ _ _ _ (by simp; try omega), World.cell?_setCell_other _ _ _ _ (by simp; try omega)]; exact z5
    have t6 : W8.cell? ⟨b1, o1 + k, none⟩ = some (.slice Bk nk ck) := by rw [hW8, World.cell?_setCell_other _ _ _ _ (by simp; try omega), World.cell?_setCell_other _ _ _ _ (by simp; try omega)]; exact z6
    have HR8 : Hid (Bx (w.heap.size + 2) [.slice A5 n5 c5, .int .i64 k] W8) := by rw [hW8]; exact (U2.out.set 0 (by simp) _).set 1 (by simp) _
    have HO8 : Hid (OwSS (w.heap.size + 3) w5.heap.size (.slice A5 n5 c5) n5 ss W8) := by rw [hW8]; exact (HO7.out.setCell (by simp) _).setCell (by simp) _
    have HD8 : Hid (OwR w5.heap.size w7.heap.size 3 1 (.slice A7 D.length c7) D.length (D.map (Value.int .i64)) W8) := by
      rw [hW8]
      exact ⟨ownsRow_setCell_below (ownsRow_setCell_below HD7.out.1 (by simp; omega) _) (by simp; omega) _, HD7.out.2⟩
    have HB8 : Hid (Below w.heap.size w W8) := by rw [hW8]; exact (HB7.out.setCell (by simp) _).setCell (by simp) _
    have hs8 : W8.heap.size = w7.heap.size := by rw [hW8]; simp [World.setCell]
    rw [← hW8]
    clear hW8 U0 U1 U2 U6 HO7 HD7 HB7 z0 z1 z2 z3 z4 z5 z6 y0 y1 y2 y3 HQ7
    refine hK.out _ _ ⟨t0, t1, t2, t3, t4, t5, t6⟩ (fun hHeld => ?_); clear hK K; (try simp only [Act.put, List.setIfInBounds_toArray, List.set_cons_zero, List.set_cons_succ])
    refine wpAnyH_ready (rs := [16]) (by kernel_rfl) (by simp) ?_; refine AllReadyH.cons (o := ⟨some 7, _, _, _, _, _⟩) rfl (fun K hK => ?_) AllReadyH.nil; go_simp
    refine hK.out _ _ ⟨t0, t1, t2, t3, t4, t5, t6⟩ (fun hHeld => ?_); clear hK K; (try simp only [Act.put, List.setIfInBounds_toArray, List.set_cons_zero, List.set_cons_succ])
    refine wpAnyH_ready (rs := [17]) (by kernel_rfl) (by simp) ?_; refine AllReadyH.cons (o := ⟨some 8, _, _, _, _, _⟩) rfl (fun K hK => ?_) AllReadyH.nil; go_simp
    refine hK.out _ _ ⟨t0, t1, t2, t3, t4, t5, t6⟩ (fun hHeld => ?_); clear hK K; (try simp only [Act.put, List.setIfInBounds_toArray, List.set_cons_zero, List.set_cons_succ])
    refine wpAnyH_done (by kernel_rfl) ?_ _
    have x0 := HR8.out.c 0 _ rfl
    have x1 := HR8.out.c 1 _ rfl
    go_wp2
    refine bodyPost_ret (v := .tuple #[.agg #[.slice A5 n5 c5, .int .i64 k], .slice A7 D.length c7, .bool true]) (by simp [results, Try.results26, go_sem, x0, x1]) rfl ?_
    have ho := HO8.out.mono (lo' := w.heap.size) (hi' := w5.heap.size) (by omega) (Nat.le_refl _)
    have hd : OwR w5.heap.size W8.heap.size 3 1 (.slice A7 D.length c7) D.length (D.map (Value.int .i64)) W8 := by rw [hs8]; exact HD8.out
    exact ⟨A5, n5, c5, A7, D.length, c7, w5.heap.size, rfl, rfl, ho, hd, by omega, by omega, HB8.out⟩


set_option maxRecDepth 100000 in
set_option maxHeartbeats 3200000 in
theorem top_impl_MoveHistory (gs : List Nd) (st : Hi) (y : Int) (hG : GB gs) (hH : HiB st) : ∀ (A : Option Addr) (n c : Nat) (A1 : Option Addr) (m c1 : Nat) (w : World), n = gs.length → n ≤ c → GS w w.heap.size A gs → m = st.ss.length → HiS w w.heap.size A1 st → -9223372036854775808 ≤ y → y ≤ 9223372036854775807 →
    Calls Try.prog 27 #[.agg #[.slice A n c], .agg #[.slice A1 m c1, .int .i64 st.ix], .int .i64 y] w fun e w' => RetHIB w (moveH gs st y) (moveI gs st y) (moveB gs st y) e w' := by
  intro A n c A1 m c1 w hn hnc h hm h1 hy0 hy1
  have H := Lib.hid h
  have HI := Lib.hid h1
  have HV := Lib.hid fun (w' : World) (hB : w.heap.size ≤ w'.heap.size) (h : GS w' w.heap.size A gs) (h' : HiS w' w.heap.size A1 st) => impl_ValidHistory A A1 n c m c1 gs st w' w.heap.size hB hn hnc hm h h' hG hH
  have HCH := Lib.hid fun (w' : World) (hB : w.heap.size ≤ w'.heap.size) (h : HiS w' w.heap.size A1 st) => impl_copyStates A1 m c1 st.ss w' w.heap.size hB hm h hH.2.1
  have HCG := Lib.hid fun (xs ys : List Int) (hL : xs.length ≤ 1048576) (hL2 : ys.length ≤ 1048576) (B1 : Option Addr) (p1 d1 : Nat) (B2 : Option Addr) (p2 d2 : Nat) (w' : World) (h : GS w' w'.heap.size A gs) (h1 : p1 = xs.length) (h2 : IS w' w'.heap.size B1 xs) (h3 : p2 = ys.length) (h4 : IS w' w'.heap.size B2 ys) => top_impl_ChangedBy gs xs ys hG hL hL2 A n c B1 p1 d1 B2 p2 d2 w' hn hnc h h1 h2 h3 h4
  have hHb : moveB gs st y = (validHi gs st && rng y (-10) 10 && rng (st.ix + y) 0 (st.ss.length - 1)) := rfl
  have hHf : moveH gs st y = if moveB gs st y then ⟨st.ss, st.ix + y⟩ else ⟨[], 0⟩ := rfl
  have hHi : moveI gs st y = if moveB gs st y then chgF gs (st.ss.getD st.ix.toNat []) (st.ss.getD (st.ix + y).toNat []) else [] := rfl
  have HVP := Lib.hid (fun hv : validHi gs st = true => validHi_parts hv)
  have HSB := Lib.hid hH.2.1.2
  rw [hHf, hHi]
  generalize moveB gs st y = b at *
  generalize hv : validHi gs st = v at *
  have HM := Lib.hid hm
  obtain ⟨ss, ix⟩ := st
  dsimp only at *
  generalize hD : chgF gs (ss.getD ix.toNat []) (ss.getD (ix + y).toNat []) = D at *
  clear hHf hHi h h1 hn hm hG hH hv
  obtain ⟨W3, hW3⟩ : ∃ W, W = ((w.alloc (.cells #[.slice A n c] 33)).alloc (.cells #[.slice A1 m c1, .int .i64 ix] 35)).alloc (.cells #[.slice none 0 0, .int .i64 0] 35) := ⟨_, rfl⟩
  have hb3 : Below w.heap.size w W3 := by rw [hW3]; exact (((Below.refl _ _).alloc (Nat.le_refl _) _).alloc (by simp) _).alloc (by simp; try omega) _
  have hs3 : w.heap.size + 3 ≤ W3.heap.size := by rw [hW3]; simp
  have hx0 : Bx w.heap.size [.slice A n c] W3 := by rw [hW3]; exact ((Bx.start w _ _).alloc _).alloc _
  have hx1 : Bx (w.heap.size + 1) [.slice A1 m c1, .int .i64 ix] W3 := by rw [hW3]; have := (Bx.start (w.alloc (.cells #[.slice A n c] 33)) #[.slice A1 m c1, .int .i64 ix] 35).alloc (.cells #[.slice none 0 0, .int .i64 0] 35); simpa using this
  have hx2 : Bx (w.heap.size + 2) [.slice none 0 0, .int .i64 0] W3 := by rw [hW3]; have := Bx.start ((w.alloc (.cells #[.slice A n c] 33)).alloc (.cells #[.slice A1 m c1, .int .i64 ix] 35)) #[.slice none 0 0, .int .i64 0] 35; simpa using this
  have HG3 := Lib.hid (H.out.below hb3 (Nat.le_refl _))
  have HI3 := Lib.hid (show HiS W3 w.heap.size A1 ⟨ss, ix⟩ from SS.below HI.out hb3 (Nat.le_refl _))
  have HV3 := Lib.hid (HV.out W3 (by omega) HG3.out HI3.out)
  rw [hW3] at HV3
  have HW3 := Lib.hid hW3
  have HB3 := Lib.hid hb3
  have X0 := Lib.hid hx0
  have X1 := Lib.hid hx1
  have X2 := Lib.hid hx2
  clear hW3 hb3 hx0 hx1 hx2 HV H HI
  cases v
  · simp only [Bool.false_and] at hHb
    subst hHb
    go_enter Try.func27, Try.ntmps27
    go_wp2_with fail
    refine HV3.out.mono ?_
    rw [← HW3.out]
    rintro e w4 ⟨rfl, hb⟩
    have Y2 := X2.out.step hb
    have r1 := Y2.c 0 _ rfl
    have r2 := Y2.c 1 _ rfl
    have g1 := Y2.f 0
    have g2 := Y2.f 1
    have hs4 := hb.size
    have HB4 := Lib.hid (HB3.out.trans (hb.mono (by omega)))
    clear hb Y2
    go_wp2
    refine bodyPost_ret (v := .tuple #[.agg #[.slice none 0 0, .int .i64 0], .slice none 0 0, .bool false]) (by simp [results, Try.results27, go_sem, r1, r2]) rfl ?_
    exact RetHIB.nil ((HB4.out.setCell (by simp; omega) _).setCell (by simp; omega) _)

  · obtain ⟨-, hl1, hl10, hi0, hi1, hvs⟩ := HVP.out rfl
    obtain ⟨j, rfl⟩ : ∃ j : Nat, ix = (j : Int) := ⟨ix.toNat, by omega⟩
    have hjm : j < m := by have := HM.out; omega
    have hm10 : m ≤ 10 := by have := HM.out; omega
    have hrr : (rng y (-10) 10 && rng ((j : Int) + y) 0 ((ss.length : Int) - 1)) = rng (IntKind.i64.wrap ((j : Int) + y)) 0 ((m : Int) - 1) := by
      rw [← HM.out, Bool.eq_iff_iff]
      simp only [rng, Bool.and_eq_true, decide_eq_true_eq, IntKind.wrap_i64]
      omega
    rw [Bool.true_and, hrr] at hHb
    have HWR := Lib.hid (show IntKind.i64.wrap ((j : Int) + y) = ((j : Int) + y + 9223372036854775808) % 18446744073709551616 - 9223372036854775808 from IntKind.wrap_i64 _)
    generalize hz : IntKind.i64.wrap ((j : Int) + y) = z at *
    have HIQ := Lib.hid fun (w' : World) => impl_inRange z ((m : Int) - 1) w'
    have hwy : IntKind.i64.wrap ((m : Int) - 1) = (m : Int) - 1 := by rw [IntKind.wrap_i64]; omega
    by_cases hr2 : 0 ≤ z ∧ z ≤ (m : Int) - 1
    case neg =>
      have e2 : rng z 0 ((m : Int) - 1) = false := by simp only [rng, decide_eq_false_iff_not]; omega
      rw [e2] at hHb HIQ
      subst hHb
      clear hrr e2
      go_enter Try.func27, Try.ntmps27
      go_wp2_with fail
      refine HV3.out.mono ?_
      rw [← HW3.out]
      rintro e w4 ⟨rfl, hb⟩
      have hs4 := hb.size
      have Y0 := Lib.hid (X0.out.step hb)
      have Y1 := Lib.hid (X1.out.step hb)
      have Y2 := Lib.hid (X2.out.step hb)
      have HB4 := Lib.hid (HB3.out.trans (hb.mono (by omega)))
      have HG4 := Lib.hid (HG3.out.below hb (by omega))
      have HI4 := Lib.hid (show SS w4 w.heap.size A1 ss from SS.below HI3.out hb (by omega))
      have a1 := Y1.out.c 0 _ rfl
      have a2 := Y1.out.c 1 _ rfl
      clear hb X0 X1 X2 HB3 HG3 HI3 HV3
      have r1 := Y2.out.c 0 _ rfl
      have r2 := Y2.out.c 1 _ rfl
      have g1 := Y2.out.f 0
      have g2 := Y2.out.f 1
      go_wp2_with fail
      refine (HIQ.out _).mono ?_
      rintro e w5 ⟨rfl, rfl⟩
      go_wp2
      refine bodyPost_ret (v := .tuple #[.agg #[.slice none 0 0, .int .i64 0], .slice none 0 0, .bool false]) (by simp [results, Try.results27, go_sem, r1, r2]) rfl ?_
      exact RetHIB.nil ((HB4.out.setCell (by simp; omega) _).setCell (by simp; omega) _)
    obtain ⟨hr3, hr4⟩ := hr2
    have e2 : rng z 0 ((m : Int) - 1) = true := by simp only [rng, decide_eq_true_eq]; omega
    rw [e2] at hHb HIQ
    subst hHb
    obtain ⟨k, hzk⟩ : ∃ k : Nat, z = (k : Int) := ⟨z.toNat, by omega⟩
    subst hzk
    have hk : (j : Int) + y = (k : Int) := by have := HWR.out; omega
    have hkm : k < m := by omega
    rw [hk]
    have hDD : chgF gs (ss.getD j []) (ss.getD k []) = D := by rw [← hD, hk]; simp
    have HCGD := Lib.hid fun (B1 : Option Addr) (p1 d1 : Nat) (B2 : Option Addr) (p2 d2 : Nat) (w' : World) (h : GS w' w'.heap.size A gs) (h1 : p1 = (ss.getD j []).length) (h2 : IS w' w'.heap.size B1 (ss.getD j [])) (h3 : p2 = (ss.getD k []).length) (h4 : IS w' w'.heap.size B2 (ss.getD k [])) => HCG.out (ss.getD j []) (ss.getD k []) (HSB.out j) (HSB.out k) B1 p1 d1 B2 p2 d2 w' h h1 h2 h3 h4
    rw [hDD] at HCGD
    clear hrr e2 hk hr3 hr4 hi1 HCG hDD hD hvs HWR hy0 hy1

    go_enter Try.func27, Try.ntmps27
    go_wp2_with fail
    refine HV3.out.mono ?_
    rw [← HW3.out]
    rintro e w4 ⟨rfl, hb⟩
    have hs4 := hb.size
    have Y0 := Lib.hid (X0.out.step hb)
    have Y1 := Lib.hid (X1.out.step hb)
    have Y2 := Lib.hid (X2.out.step hb)
    have HB4 := Lib.hid (HB3.out.trans (hb.mono (by omega)))
    have HG4 := Lib.hid (HG3.out.below hb (by omega))
    have HI4 := Lib.hid (show SS w4 w.heap.size A1 ss from SS.below HI3.out hb (by omega))
    have a1 := Y1.out.c 0 _ rfl
    have a2 := Y1.out.c 1 _ rfl
    clear hb X0 X1 X2 HB3 HG3 HI3 HV3
    go_wp2_with fail
    refine (HIQ.out _).mono ?_
    rintro e w5 ⟨rfl, rfl⟩
    go_upto_region 6 with fail
    obtain ⟨b1, o1, hA1, hb1, hcs⟩ := HI4.out (by have := HM.out; omega)
    subst hA1
    obtain ⟨Bj, nj, cj, e1, e2, e3⟩ := hcs j (by have := HM.out; omega)
    obtain ⟨Bk, nk, ck, g1, g2, g3⟩ := hcs k (by have := HM.out; omega)
    have HE1 := Lib.hid e1
    have HG1 := Lib.hid g1
    have HNJ := Lib.hid e2
    have HNK := Lib.hid g2
    have HIJ := Lib.hid e3
    have HIK := Lib.hid g3
    clear hcs e1 e2 e3 g1 g2 g3
    have q1 := HE1.out
    have q2 := HG1.out
    have hjk : j < m := by omega
    have z0 := Y0.out.c 0 _ rfl
    refine wp_region_held_drew (S := fun w' => w'.cell? ⟨w.heap.size, 0, none⟩ = some (.slice A n c) ∧ w'.cell? ⟨w.heap.size + 1, 0, none⟩ = some (.slice (some ⟨b1, o1, none⟩) m c1) ∧ w'.cell? ⟨w.heap.size + 1, 1, none⟩ = some (.int .i64 j) ∧ w'.cell? ⟨b1, o1 + j, none⟩ = some (.slice Bj nj cj) ∧ w'.cell? ⟨b1, o1 + k, none⟩ = some (.slice Bk nk ck)) (by kernel_rfl) ⟨z0, a1, a2, q1, q2⟩ (fun hHeld => ?_)
    refine wpAnyH_take (i := 0) (oi := ⟨some 27, _, _, _, _, _⟩) (v := ?_) rfl (by kernel_rfl) (by kernel_rfl) (by kernel_rfl) (fun _ _ _ h => h) (Or.inl ⟨by rfl, ?_⟩) (by assumption) ?_; rotate_left; (focus (intro w hSw; (try dsimp only at hSw); go_simp; (try with_reducible rfl))); (try simp only [Act.put, List.setIfInBounds_toArray, List.set_cons_zero, List.set_cons_succ])
    refine wpAnyH_take (i := 1) (oi := ⟨some 28, _, _, _, _, _⟩) (v := ?_) rfl (by kernel_rfl) (by kernel_rfl) (by kernel_rfl) (fun _ _ _ h => h) (Or.inl ⟨by rfl, ?_⟩) (by assumption) ?_; rotate_left; (focus (intro w hSw; (try dsimp only at hSw); go_simp; (try with_reducible rfl))); (try simp only [Act.put, List.setIfInBounds_toArray, List.set_cons_zero, List.set_cons_succ])
    refine wpAnyH_take (i := 3) (oi := ⟨some 30, _, _, _, _, _⟩) (v := ?_) rfl (by kernel_rfl) (by kernel_rfl) (by kernel_rfl) (fun _ _ _ h => h) (Or.inl ⟨by rfl, ?_⟩) (by assumption) ?_; rotate_left; (focus (intro w hSw; (try dsimp only at hSw); go_simp; (try with_reducible rfl))); (try simp only [Act.put, List.setIfInBounds_toArray, List.set_cons_zero, List.set_cons_succ])
    refine wpAnyH_take (i := 5) (oi := ⟨some 32, _, _, _, _, _⟩) (v := ?_) rfl (by kernel_rfl) (by kernel_rfl) (by kernel_rfl) (fun _ _ _ h => h) (Or.inl ⟨by rfl, ?_⟩) (by assumption) ?_; rotate_left; (focus (intro w hSw; (try dsimp only at hSw); go_simp; (try with_reducible rfl))); (try simp only [Act.put, List.setIfInBounds_toArray, List.set_cons_zero, List.set_cons_succ])
    refine wpAnyH_take (i := 6) (oi := ⟨some 33, _, _, _, _, _⟩) (v := ?_) rfl (by kernel_rfl) (by kernel_rfl) (by kernel_rfl) (fun _ _ _ h => h) (Or.inl ⟨by rfl, ?_⟩) (by assumption) ?_; rotate_left; (focus (intro w hSw; (try dsimp only at hSw); go_simp; (try with_reducible rfl))); (try simp only [Act.put, List.setIfInBounds_toArray, List.set_cons_zero, List.set_cons_succ])
    refine wpAnyH_take (i := 7) (oi := ⟨some 34, _, _, _, _, _⟩) (v := ?_) rfl (by kernel_rfl) (by kernel_rfl) (by kernel_rfl) (fun _ _ _ h => h) (Or.inl ⟨by rfl, ?_⟩) (by assumption) ?_; rotate_left; (focus (intro w hSw; (try dsimp only at hSw); go_simp; (try with_reducible rfl))); (try simp only [Act.put, List.setIfInBounds_toArray, List.set_cons_zero, List.set_cons_succ])
    refine wpAnyH_take (i := 8) (oi := ⟨some 35, _, _, _, _, _⟩) (v := ?_) rfl (by kernel_rfl) (by kernel_rfl) (by kernel_rfl) (fun _ _ _ h => h) (Or.inl ⟨by rfl, ?_⟩) (by assumption) ?_; rotate_left; (focus (intro w hSw; (try dsimp only at hSw); go_simp; (try with_reducible rfl))); (try simp only [Act.put, List.setIfInBounds_toArray, List.set_cons_zero, List.set_cons_succ])
    refine wpAnyH_take (i := 9) (oi := ⟨some 36, _, _, _, _, _⟩) (v := ?_) rfl (by kernel_rfl) (by kernel_rfl) (by kernel_rfl) (fun _ _ _ h => h) (Or.inl ⟨by rfl, ?_⟩) (by assumption) ?_; rotate_left; (focus (intro w hSw; (try dsimp only at hSw); go_simp; (try with_reducible rfl))); (try simp only [Act.put, List.setIfInBounds_toArray, List.set_cons_zero, List.set_cons_succ])
    refine wpAnyH_take (i := 10) (oi := ⟨some 37, _, _, _, _, _⟩) (v := ?_) rfl (by kernel_rfl) (by kernel_rfl) (by kernel_rfl) (fun _ _ _ h => h) (Or.inl ⟨by rfl, ?_⟩) (by assumption) ?_; rotate_left; (focus (intro w hSw; (try dsimp only at hSw); go_simp; (try with_reducible rfl))); (try simp only [Act.put, List.setIfInBounds_toArray, List.set_cons_zero, List.set_cons_succ])
    refine wpAnyH_take (i := 11) (oi := ⟨some 38, _, _, _, _, _⟩) (v := ?_) rfl (by kernel_rfl) (by kernel_rfl) (by kernel_rfl) (fun _ _ _ h => h) (Or.inl ⟨by rfl, ?_⟩) (by assumption) ?_; rotate_left; (focus (intro w hSw; (try dsimp only at hSw); go_simp; (try with_reducible rfl))); (try simp only [Act.put, List.setIfInBounds_toArray, List.set_cons_zero, List.set_cons_succ])
    refine wpAnyH_take (i := 12) (oi := ⟨some 39, _, _, _, _, _⟩) (v := ?_) rfl (by kernel_rfl) (by kernel_rfl) (by kernel_rfl) (fun _ _ _ h => h) (Or.inl ⟨by rfl, ?_⟩) (by assumption) ?_; rotate_left; (focus (intro w hSw; (try dsimp only at hSw); go_simp; (try with_reducible rfl))); (try simp only [Act.put, List.setIfInBounds_toArray, List.set_cons_zero, List.set_cons_succ])
    refine wpAnyH_take (i := 13) (oi := ⟨some 40, _, _, _, _, _⟩) (v := ?_) rfl (by kernel_rfl) (by kernel_rfl) (by kernel_rfl) (fun _ _ _ h => h) (Or.inl ⟨by rfl, ?_⟩) (by assumption) ?_; rotate_left; (focus (intro w hSw; (try dsimp only at hSw); go_simp; (try with_reducible rfl))); (try simp only [Act.put, List.setIfInBounds_toArray, List.set_cons_zero, List.set_cons_succ])
    refine wpAnyH_take (i := 14) (oi := ⟨some 41, _, _, _, _, _⟩) (v := ?_) rfl (by kernel_rfl) (by kernel_rfl) (by kernel_rfl) (fun _ _ _ h => h) (Or.inl ⟨by rfl, ?_⟩) (by assumption) ?_; rotate_left; (focus (intro w hSw; (try dsimp only at hSw); go_simp; (try with_reducible rfl))); (try simp only [Act.put, List.setIfInBounds_toArray, List.set_cons_zero, List.set_cons_succ])
    refine wpAnyH_take (i := 15) (oi := ⟨some 42, _, _, _, _, _⟩) (v := ?_) rfl (by kernel_rfl) (by kernel_rfl) (by kernel_rfl) (fun _ _ _ h => h) (Or.inl ⟨by rfl, ?_⟩) (by assumption) ?_; rotate_left; (focus (intro w hSw; (try dsimp only at hSw); go_simp; (try with_reducible rfl))); (try simp only [Act.put, List.setIfInBounds_toArray, List.set_cons_zero, List.set_cons_succ])
    refine wpAnyH_take (i := 16) (oi := ⟨some 43, _, _, _, _, _⟩) (v := ?_) rfl (by kernel_rfl) (by kernel_rfl) (by kernel_rfl) (fun _ _ _ h => h) (Or.inl ⟨by rfl, ?_⟩) (by assumption) ?_; rotate_left; (focus (intro w hSw; (try dsimp only at hSw); go_simp; (try with_reducible rfl))); (try simp only [Act.put, List.setIfInBounds_toArray, List.set_cons_zero, List.set_cons_succ])
    refine wpAnyH_ready (rs := [2]) (by kernel_rfl) (by simp) ?_; refine AllReadyH.cons (o := ⟨some 29, _, _, _, _, _⟩) rfl (fun K hK => ?_) AllReadyH.nil; go_simp
    go_at_call 43
    refine (HCH.out w4.drew (by show w.heap.size ≤ w4.heap.size; omega) HI4.out).mono ?_
    rintro e w5 ⟨v5, rfl, ho5', hb5'⟩
    have hb5 : Below w4.heap.size w4 w5 := below_of_drew hb5'
    have ho5 : OwSS w4.heap.size w5.heap.size v5 ss.length ss w5 := ho5'
    rw [← HM.out] at ho5
    obtain ⟨A5, c5, rfl⟩ := ho5.form
    have hs5 := hb5.size
    have Z0 := Lib.hid (Y0.out.step hb5)
    have Z1 := Lib.hid (Y1.out.step hb5)
    have Z2 := Lib.hid (Y2.out.step hb5)
    have HB5 := Lib.hid (HB4.out.trans (hb5.mono (by omega)))
    have HG5 := Lib.hid ((HG4.out.below hb5 (by omega)).more (B' := w5.heap.size) (by omega))
    have HJ5 := Lib.hid ((HIJ.out.below hb5 (by omega)).more (B' := w5.heap.size) (by omega))
    have HK5 := Lib.hid ((HIK.out.below hb5 (by omega)).more (B' := w5.heap.size) (by omega))
    have HQ5 := Lib.hid (And.intro ((hb5.cell (p := ⟨b1, o1 + j, none⟩) (by simp; omega)).trans q1) ((hb5.cell (p := ⟨b1, o1 + k, none⟩) (by simp; omega)).trans q2))
    have HO5 := Lib.hid (ho5.mono (lo' := w.heap.size + 3) (by omega) (Nat.le_refl _))
    clear ho5 ho5' hb5 hb5' Y0 Y1 Y2 HB4 HG4 HI4 a1 a2 z0 q1 q2 HIJ HIK HE1 HG1
    have z0 := Z0.out.c 0 _ rfl
    have a1 := Z1.out.c 0 _ rfl
    have a2 := Z1.out.c 1 _ rfl
    have q1 := HQ5.out.1
    have q2 := HQ5.out.2
    refine hK.out _ _ ⟨z0, a1, a2, q1, q2⟩ (fun hHeld => ?_); clear hK K; (try simp only [Act.put, List.setIfInBounds_toArray, List.set_cons_zero, List.set_cons_succ])
    refine wpAnyH_take (i := 4) (oi := ⟨some 31, _, _, _, _, _⟩) (v := ?_) rfl (by kernel_rfl) (by kernel_rfl) (by kernel_rfl) (fun _ _ _ h => h) (Or.inl ⟨by rfl, ?_⟩) (by assumption) ?_; rotate_left; (focus (intro w hSw; (try dsimp only at hSw); go_simp; (try with_reducible rfl))); (try simp only [Act.put, List.setIfInBounds_toArray, List.set_cons_zero, List.set_cons_succ])
    refine wpAnyH_ready (rs := [17]) (by kernel_rfl) (by simp) ?_; refine AllReadyH.cons (o := ⟨some 44, _, _, _, _, _⟩) rfl (fun K hK => ?_) AllReadyH.nil; go_simp
    go_at_call 51
    refine (HCGD.out Bj nj cj Bk nk ck w5 HG5.out HNJ.out HJ5.out HNK.out HK5.out).mono ?_
    rintro e w7 ⟨v7, rfl, ho7, hb7⟩
    obtain ⟨A7, c7, rfl, _⟩ := OwnI.form ho7
    have hs7 := hb7.size
    have U0 := Lib.hid (Z0.out.step hb7)
    have U1 := Lib.hid (Z1.out.step hb7)
    have U2 := Lib.hid (Z2.out.step hb7)
    have HB7 := Lib.hid (HB5.out.trans (hb7.mono (by omega)))
    have HO7 := Lib.hid (OwSS.loc _ _ _ _ _ _ _ HO5.out fun q _ hq => hb7.block q (by omega))
    have HD7 : Hid (OwR w5.heap.size w7.heap.size 3 1 (.slice A7 D.length c7) D.length (D.map (Value.int .i64)) w7) := ⟨ho7, fun q hq => (ho7.lt q hq).2⟩
    have HQ7 := Lib.hid (And.intro ((hb7.cell (p := ⟨b1, o1 + j, none⟩) (by simp; omega)).trans q1) ((hb7.cell (p := ⟨b1, o1 + k, none⟩) (by simp; omega)).trans q2))
    clear z0 a1 a2 q1 q2 ho7 hb7 Z0 Z1 Z2 HB5 HO5 HG5 HJ5 HK5 HQ5
    have z0 := U0.out.c 0 _ rfl
    have a1 := U1.out.c 0 _ rfl
    have a2 := U1.out.c 1 _ rfl
    have q1 := HQ7.out.1
    have q2 := HQ7.out.2
    have y0 := U2.out.c 0 _ rfl
    have y1 := U2.out.c 1 _ rfl
    have y2 := U2.out.f 0
    have y3 := U2.out.f 1
    refine hK.out _ _ ⟨z0, a1, a2, q1, q2⟩ (fun hHeld => ?_); clear hK K; (try simp only [Act.put, List.setIfInBounds_toArray, List.set_cons_zero, List.set_cons_succ])
    refine wpAnyH_ready (rs := [18]) (by kernel_rfl) (by simp) ?_; refine AllReadyH.cons (o := ⟨none, _, _, _, _, _⟩) rfl (fun K hK => ?_) AllReadyH.nil; go_simp
    obtain ⟨W8, hW8⟩ : ∃ W, W = (w7.setCell ⟨w.heap.size + 2, 0, none⟩ (.slice A5 m c5)).setCell ⟨w.heap.size + 2, 1, none⟩ (.int .i64 k) := ⟨_, rfl⟩
    have t0 : W8.cell? ⟨w.heap.size, 0, none⟩ = some (.slice A n c) := by rw [hW8]; exact ((U0.out.other _ (by simp) _).other _ (by simp) _).c 0 _ rfl
    have t1 : W8.cell? ⟨w.heap.size + 1, 0, none⟩ = some (.slice (some ⟨b1, o1, none⟩) m c1) := by rw [hW8]; exact ((U1.out.other _ (by simp) _).other _ (by simp) _).c 0 _ rfl
    have t2 : W8.cell? ⟨w.heap.size + 1, 1, none⟩ = some (.int .i64 j) := by rw [hW8]; exact ((U1.out.other _ (by simp) _).other _ (by simp) _).c 1 _ rfl
    have t5 : W8.cell? ⟨b1, o1 + j, none⟩ = some (.slice Bj nj cj) := by rw [hW8, World.cell?_setCell_other _ _ _ _ (by simp; try omega), World.cell?_setCell_other _ _ _ _ (by simp; try omega)]; exact q1
    have t6 : W8.cell? ⟨b1, o1 + k, none⟩ = some (.slice Bk nk ck) := by rw [hW8, World.cell?_setCell_other _ _ _ _ (by simp; try omega), World.cell?_setCell_other _ _ _ _ (by simp; try omega)]; exact q2
    have HR8 : Hid (Bx (w.heap.size + 2) [.slice A5 m c5, .int .i64 k] W8) := by rw [hW8]; exact (U2.out.set 0 (by simp) _).set 1 (by simp) _
    have HO8 : Hid (OwSS (w.heap.size + 3) w5.heap.size (.slice A5 m c5) m ss W8) := by rw [hW8]; exact (HO7.out.setCell (by simp) _).setCell (by simp) _
    have HD8 : Hid (OwR w5.heap.size w7.heap.size 3 1 (.slice A7 D.length c7) D.length (D.map (Value.int .i64)) W8) := by
      rw [hW8]
      exact ⟨ownsRow_setCell_below (ownsRow_setCell_below HD7.out.1 (by simp; omega) _) (by simp; omega) _, HD7.out.2⟩
    have HB8 : Hid (Below w.heap.size w W8) := by rw [hW8]; exact (HB7.out.setCell (by simp) _).setCell (by simp) _
    have hs8 : W8.heap.size = w7.heap.size := by rw [hW8]; simp [World.setCell]
    rw [← hW8]
    clear hW8 U0 U1 U2 HO7 HD7 HB7 z0 a1 a2 q1 q2 y0 y1 y2 y3 HQ7
    refine hK.out _ _ ⟨t0, t1, t2, t5, t6⟩ (fun hHeld => ?_); clear hK K; (try simp only [Act.put, List.setIfInBounds_toArray, List.set_cons_zero, List.set_cons_succ])
    refine wpAnyH_ready (rs := [19]) (by kernel_rfl) (by simp) ?_; refine AllReadyH.cons (o := ⟨some 7, _, _, _, _, _⟩) rfl (fun K hK => ?_) AllReadyH.nil; go_simp
    refine hK.out _ _ ⟨t0, t1, t2, t5, t6⟩ (fun hHeld => ?_); clear hK K; (try simp only [Act.put, List.setIfInBounds_toArray, List.set_cons_zero, List.set_cons_succ])
    refine wpAnyH_ready (rs := [20]) (by kernel_rfl) (by simp) ?_; refine AllReadyH.cons (o := ⟨some 8, _, _, _, _, _⟩) rfl (fun K hK => ?_) AllReadyH.nil; go_simp
    refine hK.out _ _ ⟨t0, t1, t2, t5, t6⟩ (fun hHeld => ?_); clear hK K; (try simp only [Act.put, List.setIfInBounds_toArray, List.set_cons_zero, List.set_cons_succ])
    refine wpAnyH_done (by kernel_rfl) ?_ _
    have x0 := HR8.out.c 0 _ rfl
    have x1 := HR8.out.c 1 _ rfl
    go_wp2
    refine bodyPost_ret (v := .tuple #[.agg #[.slice A5 m c5, .int .i64 k], .slice A7 D.length c7, .bool true]) (by simp [results, Try.results27, go_sem, x0, x1]) rfl ?_
    have ho := HO8.out.mono (lo' := w.heap.size) (hi' := w5.heap.size) (by omega) (Nat.le_refl _)
    have hd : OwR w5.heap.size W8.heap.size 3 1 (.slice A7 D.length c7) D.length (D.map (Value.int .i64)) W8 := by rw [hs8]; exact HD8.out
    exact ⟨A5, m, c5, A7, D.length, c7, w5.heap.size, rfl, rfl, ho, hd, by omega, by omega, HB8.out⟩

end Go.Proofs.Ytlliomnfbgdpfaa
