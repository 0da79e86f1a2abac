/- What the laws on writing an eager machine draw: a graph, a state, nodes and values. -/
import Derived.Test.YtgakgmkonmgblaaGreatA9

namespace Go.Proofs.YtgakgmkonmgblaaGreat
set_option linter.unusedSimpArgs false
set_option linter.unusedVariables false
open Go.RowKit

-- WANT AS AB cells block size below OwG loc ncap nodes ESL es own_keep IS of_own below_set0 below_set0H drew Bx other set alloc step start more EM GB EB small of_small as2 as3 tch As turn it box_new graph_start own_ncap row_form below_of_drew keepB
/-- Returns a graph, an eager state, nodes and values that lie in memory. -/
def DrGEW (w : World) (e : Ending) (w' : World) : Prop :=
  ∃ (A : Option Addr) (n c : Nat) (gs : List Nd) (A2 : Option Addr) (m c2 : Nat) (E : Option Addr) (p e2 : Nat) (st : Eg) (AN : Option Addr) (mN cN : Nat) (xs : List Int) (AV : Option Addr) (cV : Nat) (ys : List Int), e = .returned (.tuple #[.agg #[.slice A n c], .agg #[.slice A2 m c2, .slice E p e2], .slice AN mN cN, .slice AV mN cV]) ∧ n = gs.length ∧ 2 ≤ n ∧ n ≤ 10 ∧ n ≤ c ∧ (∀ j, (gs.getD j default).ps.length ≤ 40) ∧ m = st.vs.length ∧ p = st.rs.length ∧ EM st ∧ mN = xs.length ∧ mN = ys.length ∧ mN ≤ 3 ∧ mN ≤ cN ∧ mN ≤ cV ∧ GS w' w'.heap.size A gs ∧ ES w' w'.heap.size A2 E st ∧ IS w' w'.heap.size AN xs ∧ IS w' w'.heap.size AV ys ∧ Below w.heap.size w w'

theorem Bx.keepC {b : Nat} {vs : List Value} {w w' : World} (h : Bx b vs w) (e : w'.heap[b]? = w.heap[b]?) (hs : w.heap.size ≤ w'.heap.size) : Bx b vs w' :=
  ⟨Nat.lt_of_lt_of_le h.lt hs, fun j v hv => (World.cell?_of_block (w := w) (a := ⟨b, j, none⟩) e).trans (h.c j v hv), fun j => (World.frozen?_of_block (w := w) (a := ⟨b, j, none⟩) e).trans (h.f j)⟩

set_option maxRecDepth 100000 in
set_option maxHeartbeats 3200000 in
theorem spec_DrawWriteEager (A : Option Addr) (n c : Nat) (bs : List Int) (w : World) (hn : n = bs.length) (hnc : n ≤ c) (h : BS w w.heap.size A bs) (hy : BY bs) (hs : n ≤ 1048576) :
    Calls Tryz.prog 5 #[.slice A n c] w fun e w' => DrGEW w e w' := by
  have h1 : BS ((w.alloc (.cells #[.slice none 0 0] 25)).alloc (.cells #[.slice none 0 0, .slice none 0 0] 29)) w.heap.size A bs := h.keep fun p hp => (World.cell?_alloc_lt (w.alloc (.cells #[.slice none 0 0] 25)) (.cells #[.slice none 0 0, .slice none 0 0] 29) p (by simp; omega)).trans (World.cell?_alloc_lt w _ p (by omega))
  have HC := Lib.hid (spec_newReader A n c bs _ w.heap.size (by simp; omega) hn hnc h1 hy hs)
  have HB0 : Hid (As w.heap.size (w.heap.size + 2) (AB w.heap.size) ((w.alloc (.cells #[.slice none 0 0] 25)).alloc (.cells #[.slice none 0 0, .slice none 0 0] 29))) := ⟨⟨by go_simp, by go_simp, by go_simp, by go_simp, by go_simp, by go_simp⟩, by simp, AB.loc _⟩
  have HE0 := Lib.hid (((Below.refl w.heap.size w).alloc (Nat.le_refl _) (.cells #[.slice none 0 0] 25)).alloc (by simp) (.cells #[.slice none 0 0, .slice none 0 0] 29))
  clear hn hnc h h1 hy hs
  go_enter Tryz.func5, Tryz.ntmps5
  go_wp2_with fail
  refine HC.out.mono ?_
  rintro e w1 ⟨g, A1, n1, c1, ds, rfl, hn1, hn2, hy1, hr, hg, hb⟩
  have hg2 : w.heap.size + 2 ≤ g := by simpa using hg
  have hl1 : w.heap.size + 2 ≤ w1.heap.size := by have := hb.size; simpa using this
  have HB1 := Lib.hid (HB0.out.step hb)
  have HE1 := Lib.hid (HE0.out.trans (hb.mono (by simp; omega)))
  have hgl := hr.lt
  have hby := hy1
  have HNN := Lib.hid hn1
  have HS := Lib.hid (eagerOf_any g A1 n1 c1 ds 0 w1 hr hn1 hy1 hn2 (by omega))
  clear hn1 hr hb HC hy1 HB0 HE0
  go_wp2_with fail
  refine HS.out.mono ?_
  rintro e w2 ⟨V, k, gs, A2, m2, c2, E2, p2, e2, st, rfl, hk2, hk10, hsm, hm, hp, hem, hO, hE, hr2, ht⟩
  obtain ⟨A3, c3, rfl⟩ := hO.form
  have hz := ht.size
  have HB2 := Lib.hid (HB1.out.turn ht (.inr (by omega)))
  have HE2 := Lib.hid (HE1.out.trans (ht.below (B := w.heap.size) (by omega) (by omega)))
  have HO2 : Hid (As w1.heap.size w2.heap.size (OwG w1.heap.size w2.heap.size (.slice A3 k c3) k gs) w2) := graph_start hO
  have HEs := Lib.hid hE
  have HM := Lib.hid hm
  have HP := Lib.hid hp
  have HR2 := Lib.hid hr2
  clear ht hO hE hm hp hr2 HS HB1 HE1
  go_wp2_with fail
  obtain ⟨w3, hw3⟩ : ∃ W, W = (w2.alloc (.cells #[.slice A3 k c3] 25)).alloc (.cells #[.slice A2 m2 c2, .slice E2 p2 e2] 29) := ⟨_, rfl⟩
  rw [← hw3]
  have hb3 : Below w2.heap.size w2 w3 := by rw [hw3]; exact ((Below.refl _ _).alloc (Nat.le_refl _) _).alloc (by simp) _
  have hz3 : w2.heap.size + 2 = w3.heap.size := by rw [hw3]; simp
  have X7 : Hid (Bx w2.heap.size [.slice A3 k c3] w3) := by rw [hw3]; exact (Bx.start w2 #[.slice A3 k c3] _).alloc _
  have X8 : Hid (Bx (w2.heap.size + 1) [.slice A2 m2 c2, .slice E2 p2 e2] w3) := by
    rw [hw3]
    have h1 := Bx.start (w2.alloc (.cells #[.slice A3 k c3] 25)) #[.slice A2 m2 c2, .slice E2 p2 e2] 29
    simp only [World.size_alloc] at h1
    exact h1
  have HO3 := Lib.hid (HO2.out.step hb3)
  have HB3 := Lib.hid (HB2.out.step hb3)
  have HR3 := Lib.hid (HR2.out.step hb3)
  have HE3 := Lib.hid (HE2.out.trans (hb3.mono (by omega)))
  have HEs3 := Lib.hid ((ESL.loc _ _ _ _ _ _ _ HEs.out fun b _ hx => hb3.block b hx))
  clear hb3 HO2 HB2 HR2 HE2 hw3 HEs
  refine (someWrites_any g A1 n1 c1 ds _ A3 k c3 w1.heap.size w2.heap.size gs w3 HR3.out HNN.out hby hn2 (by omega) HO3.out (by omega) (by omega) hk10).mono ?_
  rintro e w4 ⟨vN, vV, xs, ys, rfl, hxy, hx3, hxk, hoN, hoV, hr4, hf4⟩
  have ht4 := hf4.tch
  have hz4 := ht4.size
  obtain ⟨AN, cN, rfl⟩ := row_form' hoN
  obtain ⟨AV, cV, rfl⟩ := row_form' hoV
  have hnc := own_ncap hoN
  have hnd := own_ncap hoV
  rw [← hxy] at hoV hnd
  rw [← hxy]
  obtain ⟨m, hmx⟩ : ∃ m, m = xs.length := ⟨_, rfl⟩
  rw [← hmx] at hoN hoV hx3 hnc hnd hxy
  rw [← hmx]
  have HMX := Lib.hid hmx
  have HMY := Lib.hid hxy
  have HO4 := Lib.hid (HO3.out.turn ht4 (.inl (by omega)))
  have HB4 := Lib.hid (HB3.out.turn ht4 (.inr (by omega)))
  have HE4 := Lib.hid (HE3.out.trans (ht4.below (B := w.heap.size) (by omega) (by omega)))
  have HEs4 := Lib.hid ((ESL.loc _ _ _ _ _ _ _ HEs3.out fun b hx1 hx2 => ht4.block b (by omega) (by omega)))
  have x7 := X7.out.keepC (ht4.block w2.heap.size (by omega) (by omega)) ht4.size
  have x8 := X8.out.keepC (ht4.block (w2.heap.size + 1) (by omega) (by omega)) ht4.size
  have HN4 := Lib.hid hoN
  have HV4 := Lib.hid hoV
  have p7 := x7.c 0 _ rfl
  have p8 := x8.c 0 _ rfl
  have p9 := x8.c 1 _ rfl
  obtain ⟨k0, k1, k2⟩ := AS.cells (x := .slice A3 k c3) (a := .slice A2 m2 c2) (b := .slice E2 p2 e2) HB4.out.it
  unfold AS at k0 k1 k2
  have K0 := Lib.hid k0
  have K1 := Lib.hid k1
  have K2 := Lib.hid k2
  obtain ⟨r0, r1, r2, r3, r4, r5⟩ := HB4.out.it
  clear hr4 hf4 ht4 HO3 HB3 HE3 HR3 HEs3 hoN hoV hmx hxy x7 x8 X7 X8 k0 k1 k2
  go_wp2
  go_region
  go_wp2
  have k0 := K0.out
  have k1 := K1.out
  have k2 := K2.out
  refine bodyPost_ret (v := .tuple #[.agg #[.slice A3 k c3], .agg #[.slice A2 m2 c2, .slice E2 p2 e2], .slice AN m cN, .slice AV m cV]) (by simp [results, Tryz.results5, go_sem, k0, k1, k2]) rfl ?_
  have hblk : ∀ b, w.heap.size + 2 ≤ b → (AS w.heap.size (.slice A3 k c3) (.slice A2 m2 c2) (.slice E2 p2 e2) w4).heap[b]? = w4.heap[b]? := fun b x => AS.block _ _ _ _ _ b (.inl (by omega))
  have h3 := OwG.loc _ _ _ _ _ _ _ HO4.out.it fun b x _ => hblk b (by omega)
  have h4 := (ESL.loc _ _ _ _ _ _ _ HEs4.out fun b x _ => hblk b (by omega)).es
  have h5 := own_keep HN4.out (w' := AS w.heap.size (.slice A3 k c3) (.slice A2 m2 c2) (.slice E2 p2 e2) w4) fun b x y => hblk b (by omega)
  have h6 := own_keep HV4.out (w' := AS w.heap.size (.slice A3 k c3) (.slice A2 m2 c2) (.slice E2 p2 e2) w4) fun b x y => hblk b (by omega)
  have hsz := AS.size w.heap.size (.slice A3 k c3) (.slice A2 m2 c2) (.slice E2 p2 e2) w4
  exact (show DrGEW w _ (AS w.heap.size (.slice A3 k c3) (.slice A2 m2 c2) (.slice E2 p2 e2) w4).drew from ⟨A3, k, c3, gs, A2, m2, c2, E2, p2, e2, st, AN, m, cN, xs, AV, cV, ys, rfl, h3.1, hk2, hk10, h3.ncap, hsm, HM.out, HP.out, hem, HMX.out, HMY.out, hx3, hnc, hnd, h3.nodes.more (w := (AS w.heap.size (.slice A3 k c3) (.slice A2 m2 c2) (.slice E2 p2 e2) w4)) (by show w2.heap.size ≤ (AS w.heap.size (.slice A3 k c3) (.slice A2 m2 c2) (.slice E2 p2 e2) w4).heap.size; rw [hsz]; omega), h4.more (w := (AS w.heap.size (.slice A3 k c3) (.slice A2 m2 c2) (.slice E2 p2 e2) w4)) (by show w2.heap.size ≤ (AS w.heap.size (.slice A3 k c3) (.slice A2 m2 c2) (.slice E2 p2 e2) w4).heap.size; rw [hsz]; omega), IS.of_own (w := (AS w.heap.size (.slice A3 k c3) (.slice A2 m2 c2) (.slice E2 p2 e2) w4)) h5, IS.of_own (w := (AS w.heap.size (.slice A3 k c3) (.slice A2 m2 c2) (.slice E2 p2 e2) w4)) h6, (HE4.out.trans (AS.below _ _ _ _ w4)).drew⟩)
end Go.Proofs.YtgakgmkonmgblaaGreat
