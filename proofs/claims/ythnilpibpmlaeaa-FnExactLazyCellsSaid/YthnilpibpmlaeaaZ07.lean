/- Texts put together: M9 E4 E5 E6 T5 T11a T11b. -/
import Derived.Test.YthnilpibpmlaeaaZ06
import Derived.RegionTactic
import Derived.BigQuiet
/- Plain facts on states of the lazy machine: the program's own order of tests. -/
namespace Go.Proofs.Ythnilpibpmlaeaa
set_option linter.unusedSimpArgs false
set_option linter.unusedVariables false

def fitF (gs : List Nd) (st : Lz) (i : Nat) : Bool :=
  if st.cs.getD i 0 == 0 then asRun gs st i && cleanR st.cs (st.rs.getD i [])
  else if st.cs.getD i 0 == 1 then !((gs.getD i default).k == 0) && asRun gs st i
  else if st.cs.getD i 0 == 2 then !((gs.getD i default).k == 0) && (apartL (st.rs.getD i []) && inL (st.rs.getD i []) (mayF (gs.getD i default).ps))
  else false
def allF (gs : List Nd) (st : Lz) : Bool := decide (∀ i, i < gs.length → fitF gs st i = true)
theorem allF_bad (gs : List Nd) (st : Lz) (i : Nat) (hi : i < gs.length) (h : fitF gs st i = false) : allF gs st = false := by
  unfold allF
  rw [decide_eq_false_iff_not]
  intro hh
  rw [hh i hi] at h
  cases h
theorem allF_fin (gs : List Nd) (st : Lz) (h : ∀ i, i < gs.length → fitF gs st i = true) : allF gs st = true := by
  unfold allF
  exact decide_eq_true h

theorem fitF_col (gs : List Nd) (st : Lz) (i : Nat) (hg : validG gs = true) (hi : i < gs.length) : fitF gs st i = (rng (st.cs.getD i 0) 0 2 && colOK gs st i) := by
  have hn := (validG_parts gs hg).2 i hi
  unfold fitF colOK
  cases hk : ((gs.getD i default).k == 0)
  · have hmf : mayF (gs.getD i default).ps = mayR (gs.getD i default).ps := by
      unfold mayF
      rw [(nodeOK_formula gs i hn hk).1]; rfl
    rw [hmf]
    by_cases h0 : st.cs.getD i 0 = 0
    · rw [h0]; simp [rng]
    · by_cases h1 : st.cs.getD i 0 = 1
      · rw [h1]; simp [rng]
      · by_cases h2 : st.cs.getD i 0 = 2
        · rw [h2]; simp [rng]
        · have hr : rng (st.cs.getD i 0) 0 2 = false := by
            unfold rng
            rw [decide_eq_false_iff_not]; omega
          have e0 : (st.cs.getD i 0 == 0) = false := by simpa using h0
          have e1 : (st.cs.getD i 0 == 1) = false := by simpa using h1
          have e2 : (st.cs.getD i 0 == 2) = false := by simpa using h2
          rw [hr, e0, e1, e2]; simp
  · have ha : asRun gs st i = decide ((st.rs.getD i []).length = 0) := by
      unfold asRun valE depF
      rw [hk]
      simp only [if_true, beq_self_eq_true, Bool.true_and]
      rw [decide_eq_decide]
      constructor
      · intro e; rw [← e]; rfl
      · intro e; exact (List.eq_nil_of_length_eq_zero e).symm
    rw [ha]
    simp only [if_true]
    by_cases h0 : st.cs.getD i 0 = 0
    · rw [h0]
      by_cases hl : (st.rs.getD i []).length = 0
      · rw [List.eq_nil_of_length_eq_zero hl]; simp [rng, cleanR]
      · rw [decide_eq_false hl]; simp
    · have e0 : (st.cs.getD i 0 == 0) = false := by simpa using h0
      rw [e0]; simp

theorem allF_eq (gs : List Nd) (st : Lz) (hg : validG gs = true) (hl : st.cs.length = gs.length) : allF gs st = (allR st.cs 0 2 && allL gs st) := by
  by_cases h : ∀ i, i < gs.length → fitF gs st i = true
  · rw [allF_fin gs st h]
    have hh : ∀ i, i < gs.length → rng (st.cs.getD i 0) 0 2 = true ∧ colOK gs st i = true := fun i hi => by
      have := h i hi
      rw [fitF_col gs st i hg hi, Bool.and_eq_true] at this
      exact this
    rw [allR_true st.cs 0 2 fun k hk => (hh k (by omega)).1, allL_fin gs st fun i hi => (hh i hi).2]; rfl
  · have : ∃ i, i < gs.length ∧ fitF gs st i = false := by
      apply Classical.byContradiction
      intro hc
      apply h
      intro i hi
      cases hf : fitF gs st i
      · exact absurd ⟨i, hi, hf⟩ hc
      · rfl
    obtain ⟨i, hi, hf⟩ := this
    rw [allF_bad gs st i hi hf]
    rw [fitF_col gs st i hg hi, Bool.and_eq_false_iff] at hf
    rcases hf with hf | hf
    · have : allR st.cs 0 2 = false := by
        unfold allR
        exact all_bad st.cs _ i (by omega) hf
      rw [this]; rfl
    · rw [allL_bad gs st i hi hf, Bool.and_false]
/-- What a node reads is what its run reads, if it is as if it had run. -/
theorem asRun_reads (gs : List Nd) (st : Lz) (i : Nat) (h : asRun gs st i = true) : st.rs.getD i [] = depF gs st.vs i := by
  unfold asRun at h
  rw [Bool.and_eq_true] at h
  exact (of_decide_eq_true h.2).symm
end Go.Proofs.Ythnilpibpmlaeaa

/- States of the lazy machine: the laws' own copies, sizes, comparisons and marks. -/
namespace Go.Proofs.Ythnilpibpmlaeaa
set_option linter.unusedSimpArgs false
set_option linter.unusedVariables false
open Go.RowKit

set_option maxHeartbeats 1600000 in
theorem laws_szLazy (A E C : Option Addr) (n c en ec m d : Nat) (st : Lz) (l : Int) (w : World) (B : Nat) (hB : B ≤ w.heap.size) (hn : n = st.vs.length) (he : en = st.rs.length) (hc : m = st.cs.length) (h : LS3 w B A E C st) (hl0 : 0 ≤ l) (hl : l ≤ 2000000) (hm : n ≤ 9223372036854775807) (hem : en ≤ 9223372036854775807) (hcm : m ≤ 9223372036854775807) (hp : ∀ j, (st.rs.getD j []).length ≤ 9223372036854775807) :
    Calls Try.prog 8 #[.agg #[.slice A n c, .slice E en ec, .slice C m d], .int .i64 l] w fun e w' => e = .returned (.int .i64 (leftOf l (lsz st))) ∧ Below w.heap.size w w' := by
  have H := Lib.hid h.2.1
  have HC1 := Lib.hid fun (w : World) => laws_szIntS A n c l w hl0 hl hm
  have hls : lsz st = st.vs.length + (st.rs.length + (st.rs.map List.length).sum) + st.cs.length := rfl
  by_cases h1 : (n : Int) ≤ l
  case neg =>
    rw [leftOf_no h1] at HC1
    have hL : leftOf l (lsz st) = -1 := by unfold leftOf; rw [if_neg (by rw [hls]; omega)]
    rw [hL]
    clear h hn he hc hp hL hls
    go_enter Try.func8, Try.ntmps8
    go_wp2_with fail
    refine (HC1.out _).mono ?_
    rintro e w1 ⟨rfl, hb⟩
    go_wp2
    go_ret
    exact ⟨rfl, ((Below.refl _ _).alloc (Nat.le_refl _) _).trans (hb.mono (by simp))⟩
  rw [leftOf_ok h1] at HC1
  have HC2 := Lib.hid fun (w : World) (hB : B ≤ w.heap.size) (h : SS w B E st.rs) => laws_szIntSS E en ec st.rs (l - n) w B hB he h (by omega) (by omega) hem hp
  obtain ⟨z, hz⟩ : ∃ z : Nat, z = st.rs.length + (st.rs.map List.length).sum := ⟨_, rfl⟩
  rw [← hz] at HC2 hls
  by_cases h2 : (z : Int) ≤ l - n
  case neg =>
    rw [leftOf_no h2] at HC2
    have hL : leftOf l (lsz st) = -1 := by unfold leftOf; rw [if_neg (by rw [hls]; omega)]
    rw [hL]
    have hq1 : ¬ l - n < 0 := by omega
    clear h hn he hc hp hL hls hz
    go_enter Try.func8, Try.ntmps8
    go_wp2_with fail
    refine (HC1.out _).mono ?_
    rintro e w1 ⟨rfl, hb⟩
    have q1 : w1.cell? ⟨w.heap.size, 1, none⟩ = some (.slice E en ec) := (hb.cell (p := ⟨w.heap.size, 1, none⟩) (by simp)).trans (by go_simp)
    have hs1 : w.heap.size < w1.heap.size := by have := hb.size; simp at this; omega
    go_wp2_with fail
    refine (HC2.out _ (by omega) ((H.out.alloc hB _).below hb (by simp; omega))).mono ?_
    rintro e w2 ⟨rfl, hb2⟩
    go_wp2
    go_ret
    exact ⟨rfl, (((Below.refl _ _).alloc (Nat.le_refl _) _).trans (hb.mono (by simp))).trans (hb2.mono (by omega))⟩
  rw [leftOf_ok h2] at HC2
  have HC3 := Lib.hid fun (w : World) => laws_szIntS C m d (l - n - z) w (by omega) (by omega) hcm
  have hL : leftOf l (lsz st) = leftOf (l - n - z) m := by unfold leftOf; rw [hls]; split <;> split <;> omega
  rw [hL]
  have hL2 : leftOf (l - n - z) m = -1 ∨ 0 ≤ leftOf (l - n - z) m := by unfold leftOf; split <;> omega
  generalize leftOf (l - n - z) m = L at *
  have hq1 : ¬ l - n < 0 := by omega
  have hq2 : ¬ l - n - z < 0 := by omega
  clear h hn he hc hp hL hls hz
  rcases hL2 with rfl | hL2
  all_goals
    go_enter Try.func8, Try.ntmps8
    go_wp2_with fail
    refine (HC1.out _).mono ?_
    rintro e w1 ⟨rfl, hb⟩
    have q1 : w1.cell? ⟨w.heap.size, 1, none⟩ = some (.slice E en ec) := (hb.cell (p := ⟨w.heap.size, 1, none⟩) (by simp)).trans (by go_simp)
    have q1b : w1.cell? ⟨w.heap.size, 2, none⟩ = some (.slice C m d) := (hb.cell (p := ⟨w.heap.size, 2, none⟩) (by simp)).trans (by go_simp)
    have hs1 : w.heap.size < w1.heap.size := by have := hb.size; simp at this; omega
    go_wp2_with fail
    refine (HC2.out _ (by omega) ((H.out.alloc hB _).below hb (by simp; omega))).mono ?_
    rintro e w2 ⟨rfl, hb2⟩
    have q2 : w2.cell? ⟨w.heap.size, 2, none⟩ = some (.slice C m d) := (hb2.cell (p := ⟨w.heap.size, 2, none⟩) (by show w.heap.size < w1.heap.size; omega)).trans q1b
    have hB2 := (((Below.refl w.heap.size w).alloc (Nat.le_refl _) (.cells #[.slice A n c, .slice E en ec, .slice C m d] 28)).trans (hb.mono (by simp))).trans (hb2.mono (by omega))
    go_wp2_with fail
    refine (HC3.out _).mono ?_
    rintro e w3 ⟨rfl, hb3⟩
    go_wp2
    go_ret
    exact ⟨rfl, hB2.trans (hb3.mono hB2.size)⟩

set_option maxHeartbeats 1600000 in
theorem laws_eqLazy (A E C A' E' C' : Option Addr) (n c en ec m d n' c' en' ec' m' d' : Nat) (st st' : Lz) (w : World) (B : Nat) (hB : B ≤ w.heap.size) (hn : n = st.vs.length) (he : en = st.rs.length) (hm : m = st.cs.length) (hn' : n' = st'.vs.length) (he' : en' = st'.rs.length) (hm' : m' = st'.cs.length) (h : LS3 w B A E C st) (h' : LS3 w B A' E' C' st') (hb1 : LB st) (hb2 : LB st') :
    Calls Try.prog 14 #[.agg #[.slice A n c, .slice E en ec, .slice C m d], .agg #[.slice A' n' c', .slice E' en' ec', .slice C' m' d']] w fun e w' => e = .returned (.bool (decide (st = st'))) ∧ Below w.heap.size w w' := by
  have hd : decide (st = st') = (decide (st.vs = st'.vs) && (decide (st.rs = st'.rs) && decide (st.cs = st'.cs))) := by
    obtain ⟨a, b, k⟩ := st
    obtain ⟨a', b', k'⟩ := st'
    by_cases h1 : a = a' <;> by_cases h2 : b = b' <;> by_cases h3 : k = k' <;> simp [h1, h2, h3]
  rw [hd]
  have HC1 := Lib.hid fun (w : World) (hB : B ≤ w.heap.size) (h : IS w B A st.vs) (h' : IS w B A' st'.vs) => laws_eqIntS A A' n n' c c' st.vs st'.vs w B hB hn hn' h h' (by have := hb1.1; omega) (by have := hb2.1; omega)
  have HC2 := Lib.hid fun (w : World) (hB : B ≤ w.heap.size) (h : SS w B E st.rs) (h' : SS w B E' st'.rs) => laws_eqIntSS E E' en en' ec ec' st.rs st'.rs w B hB he he' h h' hb1.2.1 hb2.2.1
  have HC3 := Lib.hid fun (w : World) (hB : B ≤ w.heap.size) (h : IS w B C st.cs) (h' : IS w B C' st'.cs) => laws_eqIntS C C' m m' d d' st.cs st'.cs w B hB hm hm' h h' (by have := hb1.2.2.2.2.2; omega) (by have := hb2.2.2.2.2.2; omega)
  have HA := Lib.hid ((h.alloc hB (.cells #[.slice A n c, .slice E en ec, .slice C m d] 36)).alloc (by simp; omega) (.cells #[.slice A' n' c', .slice E' en' ec', .slice C' m' d'] 36))
  have HA' := Lib.hid ((h'.alloc hB (.cells #[.slice A n c, .slice E en ec, .slice C m d] 36)).alloc (by simp; omega) (.cells #[.slice A' n' c', .slice E' en' ec', .slice C' m' d'] 36))
  have hB0 : Below w.heap.size w ((w.alloc (.cells #[.slice A n c, .slice E en ec, .slice C m d] 36)).alloc (.cells #[.slice A' n' c', .slice E' en' ec', .slice C' m' d'] 36)) := ((Below.refl _ _).alloc (Nat.le_refl _) _).alloc (by simp) _
  generalize decide (st.vs = st'.vs) = b1 at *
  generalize decide (st.rs = st'.rs) = b2 at *
  generalize decide (st.cs = st'.cs) = b3 at *
  clear hd hn he hm hn' he' hm' h h' hb1 hb2
  cases b1
  · go_enter Try.func14, Try.ntmps14
    go_wp2_with fail
    refine (HC1.out _ (by simp; omega) HA.out.1 HA'.out.1).mono ?_
    rintro e w1 ⟨rfl, hb⟩
    go_wp2
    go_ret
    exact ⟨rfl, hB0.trans (hb.mono hB0.size)⟩
  · cases b2
    · go_enter Try.func14, Try.ntmps14
      go_wp2_with fail
      refine (HC1.out _ (by simp; omega) HA.out.1 HA'.out.1).mono ?_
      rintro e w1 ⟨rfl, hb⟩
      have q1 : w1.cell? ⟨w.heap.size, 1, none⟩ = some (.slice E en ec) := (hb.cell (p := ⟨w.heap.size, 1, none⟩) (by simp; omega)).trans (by go_simp)
      have q2 : w1.cell? ⟨w.heap.size + 1, 1, none⟩ = some (.slice E' en' ec') := (hb.cell (p := ⟨w.heap.size + 1, 1, none⟩) (by simp)).trans (by go_simp)
      have HS := Lib.hid (HA.out.2.1.below hb (by simp; omega))
      have HS' := Lib.hid (HA'.out.2.1.below hb (by simp; omega))
      have hB1 := hB0.trans (hb.mono hB0.size)
      go_wp2_with fail
      refine (HC2.out _ (Nat.le_trans hB hB1.size) HS.out HS'.out).mono ?_
      rintro e w2 ⟨rfl, hb2⟩
      go_wp2
      go_ret
      exact ⟨rfl, hB1.trans (hb2.mono hB1.size)⟩
    · cases b3
      all_goals
        go_enter Try.func14, Try.ntmps14
        go_wp2_with fail
        refine (HC1.out _ (by simp; omega) HA.out.1 HA'.out.1).mono ?_
        rintro e w1 ⟨rfl, hb⟩
        have q1 : w1.cell? ⟨w.heap.size, 1, none⟩ = some (.slice E en ec) := (hb.cell (p := ⟨w.heap.size, 1, none⟩) (by simp; omega)).trans (by go_simp)
        have q2 : w1.cell? ⟨w.heap.size + 1, 1, none⟩ = some (.slice E' en' ec') := (hb.cell (p := ⟨w.heap.size + 1, 1, none⟩) (by simp)).trans (by go_simp)
        have q3 : w1.cell? ⟨w.heap.size, 2, none⟩ = some (.slice C m d) := (hb.cell (p := ⟨w.heap.size, 2, none⟩) (by simp; omega)).trans (by go_simp)
        have q4 : w1.cell? ⟨w.heap.size + 1, 2, none⟩ = some (.slice C' m' d') := (hb.cell (p := ⟨w.heap.size + 1, 2, none⟩) (by simp)).trans (by go_simp)
        have HS := Lib.hid (HA.out.2.1.below hb (by simp; omega))
        have HS' := Lib.hid (HA'.out.2.1.below hb (by simp; omega))
        have HT := Lib.hid (HA.out.2.2.below hb (by simp; omega))
        have HT' := Lib.hid (HA'.out.2.2.below hb (by simp; omega))
        have hB1 := hB0.trans (hb.mono hB0.size)
        have hs1 : w.heap.size + 2 ≤ w1.heap.size := by have := hb.size; simp at this; omega
        go_wp2_with fail
        refine (HC2.out _ (Nat.le_trans hB hB1.size) HS.out HS'.out).mono ?_
        rintro e w2 ⟨rfl, hb2⟩
        have q5 := (hb2.cell (p := ⟨w.heap.size, 2, none⟩) (by show w.heap.size < w1.heap.size; omega)).trans q3
        have q6 := (hb2.cell (p := ⟨w.heap.size + 1, 2, none⟩) (by show w.heap.size + 1 < w1.heap.size; omega)).trans q4
        have hB2 := hB1.trans (hb2.mono hB1.size)
        have HT2 := Lib.hid (HT.out.below hb2 (Nat.le_trans hB hB1.size))
        have HT2' := Lib.hid (HT'.out.below hb2 (Nat.le_trans hB hB1.size))
        go_wp2_with fail
        refine (HC3.out _ (Nat.le_trans hB hB2.size) HT2.out HT2'.out).mono ?_
        rintro e w3 ⟨rfl, hb3⟩
        go_wp2
        go_ret
        exact ⟨rfl, hB2.trans (hb3.mono hB2.size)⟩
end Go.Proofs.Ythnilpibpmlaeaa

/- States of the lazy machine: the laws' own copies and marks. -/
namespace Go.Proofs.Ythnilpibpmlaeaa
set_option linter.unusedSimpArgs false
set_option linter.unusedVariables false
open Go.RowKit

/-- The three cells of a box. -/
structure Bx3 (b : Nat) (x y z : Value) (w : World) : Prop where
  lt : b < w.heap.size
  c0 : w.cell? ⟨b, 0, none⟩ = some x
  c1 : w.cell? ⟨b, 1, none⟩ = some y
  c2 : w.cell? ⟨b, 2, none⟩ = some z
  f : ∀ j, w.frozen? ⟨b, j, none⟩ = false
theorem Bx3.step {b : Nat} {x y z : Value} {w w' : World} {C : Nat} (h : Bx3 b x y z w) (hb : Below C w w') (hC : b < C) : Bx3 b x y z w' :=
  ⟨Nat.lt_of_lt_of_le h.lt hb.size, (hb.cell (p := ⟨b, 0, none⟩) hC).trans h.c0, (hb.cell (p := ⟨b, 1, none⟩) hC).trans h.c1, (hb.cell (p := ⟨b, 2, none⟩) hC).trans h.c2, fun j => (hb.frozen (p := ⟨b, j, none⟩) hC).trans (h.f j)⟩
theorem Bx3.other {b g j : Nat} {x y z u : Value} {w : World} (h : Bx3 b x y z w) (hg : b ≠ g) : Bx3 b x y z (w.setCell ⟨g, j, none⟩ u) := by
  have k (i : Nat) : (w.setCell ⟨g, j, none⟩ u).cell? ⟨b, i, none⟩ = w.cell? ⟨b, i, none⟩ := World.cell?_setCell_other _ _ _ _ (by intro e; cases e; exact hg rfl)
  exact ⟨by simpa [World.setCell] using h.lt, (k 0).trans h.c0, (k 1).trans h.c1, (k 2).trans h.c2, fun i => (World.frozen?_setCell _ _ _ _).trans (h.f i)⟩
theorem Bx3.set0 {b : Nat} {x y z u : Value} {w : World} (h : Bx3 b x y z w) : Bx3 b u y z (w.setCell ⟨b, 0, none⟩ u) :=
  ⟨by simpa [World.setCell] using h.lt, World.cell?_setCell_same _ _ _ h.c0, (World.cell?_setCell_other _ _ _ _ (by simp)).trans h.c1, (World.cell?_setCell_other _ _ _ _ (by simp)).trans h.c2, fun i => (World.frozen?_setCell _ _ _ _).trans (h.f i)⟩
theorem Bx3.set1 {b : Nat} {x y z u : Value} {w : World} (h : Bx3 b x y z w) : Bx3 b x u z (w.setCell ⟨b, 1, none⟩ u) :=
  ⟨by simpa [World.setCell] using h.lt, (World.cell?_setCell_other _ _ _ _ (by simp)).trans h.c0, World.cell?_setCell_same _ _ _ h.c1, (World.cell?_setCell_other _ _ _ _ (by simp)).trans h.c2, fun i => (World.frozen?_setCell _ _ _ _).trans (h.f i)⟩
theorem box3_start (w : World) (x y z : Value) (t : TypeId) : Bx3 w.heap.size x y z (w.alloc (.cells #[x, y, z] t)) :=
  ⟨by simp, by go_simp, by go_simp, by go_simp, fun j => by go_simp⟩
theorem Bx3.alloc {b : Nat} {x y z : Value} {w : World} (h : Bx3 b x y z w) (o : Obj) : Bx3 b x y z (w.alloc o) := h.step ((Below.refl w.heap.size w).alloc (Nat.le_refl _) o) h.lt

set_option maxRecDepth 100000 in
set_option maxHeartbeats 1600000 in
theorem laws_toLazy (A E C : Option Addr) (n c en ec m d : Nat) (st : Lz) (w : World) (B : Nat) (hB : B ≤ w.heap.size) (hn : n = st.vs.length) (he : en = st.rs.length) (hm : m = st.cs.length) (h : LS3 w B A E C st) (hb : LB st) :
    Calls Try.prog 11 #[.agg #[.slice A n c, .slice E en ec, .slice C m d]] w fun e w' => RetL w st e w' := by
  have hn1 : n ≤ 2000000 := by have := hb.1; omega
  have hm1 : m ≤ 2000000 := by have := hb.2.2.2.2.2; omega
  have HC1 := Lib.hid fun (w : World) (hB : B ≤ w.heap.size) (h : IS w B A st.vs) => laws_toIntS A n c st.vs w B hB hn h hn1
  have HC2 := Lib.hid fun (w : World) (hB : B ≤ w.heap.size) (h : SS w B E st.rs) => laws_toIntSS E en ec st.rs w B hB he h hb.2.1
  have HC3 := Lib.hid fun (w : World) (hB : B ≤ w.heap.size) (h : IS w B C st.cs) => laws_toIntS C m d st.cs w B hB hm h hm1
  have HN := Lib.hid hn
  have HE := Lib.hid he
  have HM := Lib.hid hm
  have HL := Lib.hid ((((h.alloc hB (.cells #[.slice A n c, .slice E en ec, .slice C m d] 28)).alloc (by simp; omega) (.cells #[.slice none 0 0, .slice none 0 0, .slice none 0 0] 36)).alloc (by simp; omega) (.cells #[.slice none 0 0, .slice none 0 0, .slice none 0 0] 36)))
  have hB0 : Below w.heap.size w (((w.alloc (.cells #[.slice A n c, .slice E en ec, .slice C m d] 28)).alloc (.cells #[.slice none 0 0, .slice none 0 0, .slice none 0 0] 36)).alloc (.cells #[.slice none 0 0, .slice none 0 0, .slice none 0 0] 36)) := (((Below.refl _ _).alloc (Nat.le_refl _) _).alloc (by simp) _).alloc (by simp; omega) _
  have X0 := Lib.hid (((box3_start w (.slice A n c) (.slice E en ec) (.slice C m d) 28).alloc (.cells #[.slice none 0 0, .slice none 0 0, .slice none 0 0] 36)).alloc (.cells #[.slice none 0 0, .slice none 0 0, .slice none 0 0] 36))
  have X1 := Lib.hid ((box3_start (w.alloc (.cells #[.slice A n c, .slice E en ec, .slice C m d] 28)) (.slice none 0 0) (.slice none 0 0) (.slice none 0 0) 36).alloc (.cells #[.slice none 0 0, .slice none 0 0, .slice none 0 0] 36))
  have X2 := Lib.hid (box3_start ((w.alloc (.cells #[.slice A n c, .slice E en ec, .slice C m d] 28)).alloc (.cells #[.slice none 0 0, .slice none 0 0, .slice none 0 0] 36)) (.slice none 0 0) (.slice none 0 0) (.slice none 0 0) 36)
  clear hn he hm h hb
  go_enter Try.func11, Try.ntmps11
  go_wp2_with fail
  generalize hW0 : (((w.alloc (.cells #[.slice A n c, .slice E en ec, .slice C m d] 28)).alloc (.cells #[.slice none 0 0, .slice none 0 0, .slice none 0 0] 36)).alloc (.cells #[.slice none 0 0, .slice none 0 0, .slice none 0 0] 36)) = W0 at *
  have hw0 : W0.heap.size = w.heap.size + 3 := by rw [← hW0]; simp
  have hw0a : w.heap.size + 3 ≤ W0.heap.size := by omega
  have hw0b : W0.heap.size ≤ w.heap.size + 3 := by omega
  clear hW0 hw0
  refine (HC1.out W0 (Nat.le_trans hB hB0.size) HL.out.1).mono ?_
  rintro e w1 ⟨rfl, ho1, hb1⟩
  simp only [World.size_alloc] at X1 X2
  have hs1 := hb1.size
  have Y0 := Lib.hid (X0.out.step hb1 (by omega))
  have Y1 := Lib.hid (X1.out.step hb1 (by omega))
  have Y2 := Lib.hid (X2.out.step hb1 (by omega))
  have hlt1 : W0.heap.size < w1.heap.size := (ho1.lt _ rfl).2
  have c1 := Y0.out.c1
  have d0 := Y2.out.c0
  have d1 := Y2.out.f 0
  obtain ⟨V1, hV1⟩ : ∃ V : Value, V = .slice (some ⟨W0.heap.size, 0, none⟩) n n := ⟨_, rfl⟩
  obtain ⟨w2, hw2⟩ : ∃ w2 : World, w2 = w1.setCell ⟨w.heap.size + 1 + 1, 0, none⟩ V1 := ⟨_, rfl⟩
  have hs2 : w2.heap.size = w1.heap.size := by rw [hw2]; simp [World.setCell]
  have hbA : Below w.heap.size w w2 := by rw [hw2]; exact (hB0.trans (hb1.mono (by omega))).setCell (by simp; omega) _
  have HL2 := Lib.hid (show LS3 w2 B A E C st from by rw [hw2]; exact (HL.out.below hb1 (by omega)).setCell (by omega) _)
  have Z0 := Lib.hid (show Bx3 _ _ _ _ w2 from by rw [hw2]; exact Y0.out.other (by omega))
  have Z1 := Lib.hid (show Bx3 _ _ _ _ w2 from by rw [hw2]; exact Y1.out.other (by omega))
  have Z2 := Lib.hid (show Bx3 _ V1 _ _ w2 from by rw [hw2]; exact Y2.out.set0)
  have ho2 := ownsRow_setCell_below ho1 (a := ⟨w.heap.size + 1 + 1, 0, none⟩) (by simp; omega) V1
  rw [← hw2] at ho2
  have HO := Lib.hid ho2
  have HV := Lib.hid hV1
  have HB2 := Lib.hid hbA
  have hw2' : w.heap.size + 3 ≤ w2.heap.size := by omega
  have hlt2 : W0.heap.size < w2.heap.size := by omega
  clear hb1 ho1 ho2 X0 X1 X2 Y0 Y1 Y2 HL HC1 hbA
  go_wp2_with fail
  rw [← hV1, ← hw2]
  clear hw2 hV1 c1 d0 d1
  refine (HC2.out w2 (by omega) HL2.out.2.1).mono ?_
  rintro e w3 ⟨v3, rfl, ho3, hb3⟩
  rw [← HE.out] at ho3
  obtain ⟨A3, c3, rfl⟩ := ho3.form
  have hs3 := hb3.size
  have Y0 := Lib.hid (Z0.out.step hb3 (by omega))
  have Y1 := Lib.hid (Z1.out.step hb3 (by omega))
  have Y2 := Lib.hid (Z2.out.step hb3 (by omega))
  have c2 := Y0.out.c2
  have d0 := Y2.out.c1
  have d1 := Y2.out.f 1
  obtain ⟨V3, hV3⟩ : ∃ V : Value, V = .slice A3 en c3 := ⟨_, rfl⟩
  obtain ⟨w4, hw4⟩ : ∃ w4 : World, w4 = w3.setCell ⟨w.heap.size + 1 + 1, 1, none⟩ V3 := ⟨_, rfl⟩
  have hs4 : w4.heap.size = w3.heap.size := by rw [hw4]; simp [World.setCell]
  have HB4 : Hid (Below w.heap.size w w4) := by rw [hw4]; exact (HB2.out.trans (hb3.mono (by omega))).setCell (by simp; omega) _
  have HL4 := Lib.hid (show LS3 w4 B A E C st from by rw [hw4]; exact (HL2.out.below hb3 (by omega)).setCell (by omega) _)
  have Q0 := Lib.hid (show Bx3 _ _ _ _ w4 from by rw [hw4]; exact Y0.out.other (by omega))
  have Q1 := Lib.hid (show Bx3 _ _ _ _ w4 from by rw [hw4]; exact Y1.out.other (by omega))
  have Q2 := Lib.hid (show Bx3 _ V1 V3 _ w4 from by rw [hw4]; exact Y2.out.set1)
  have ho4 := ownsRow_setCell_below (own_below HO.out hb3) (a := ⟨w.heap.size + 1 + 1, 1, none⟩) (by simp; omega) V3
  rw [← hw4] at ho4
  have ho4s : OwSS w2.heap.size w3.heap.size (.slice A3 en c3) en st.rs w4 := by rw [hw4]; exact OwSS.loc _ _ _ _ _ _ _ ho3 fun k hk _ => Below.heap_setCell _ _ _ _ (by simp; omega)
  have HO4 := Lib.hid ho4
  have HS4 := Lib.hid ho4s
  have HV3 := Lib.hid hV3
  clear hb3 ho3 ho4 ho4s Y0 Y1 Y2 Z0 Z1 Z2 HL2 HC2 HO HB2
  go_wp2_with fail
  rw [← hV3, ← hw4]
  clear hw4 hV3 c2 d0 d1
  refine (HC3.out w4 (by omega) HL4.out.2.2).mono ?_
  rintro e w5 ⟨rfl, ho5, hb5⟩
  have hs5 := hb5.size
  have R1 := Lib.hid (Q1.out.step hb5 (by omega))
  have R2 := Lib.hid (Q2.out.step hb5 (by omega))
  have d0 := R2.out.c0
  have d1 := R2.out.c1
  have d2 := R2.out.c2
  have f2 := R2.out.f 2
  have e0 := R1.out.c0
  have e1 := R1.out.c1
  have e2 := R1.out.c2
  have g0 := R1.out.f 0
  have g1 := R1.out.f 1
  have g2 := R1.out.f 2
  rw [HV.out] at d0
  rw [HV3.out] at d1
  have hlt5 := ho5.lt _ rfl
  have HOL : Hid (OwL (w.heap.size + 1 + 1 + 1) w5.heap.size (some ⟨W0.heap.size, 0, none⟩) n n A3 en c3 (some ⟨w4.heap.size, 0, none⟩) m m st w5) := by
    have r1 := own_below HO4.out hb5
    try rw [HV.out] at r1
    have r2 := OwSS.loc _ _ _ _ _ _ _ HS4.out fun k _ hk => hb5.block k (by omega)
    refine OwL.join (mid := w2.heap.size) (mid2 := w4.heap.size) ⟨own_mono r1 (by omega), fun k hk => by cases hk; exact hlt2⟩ HN.out (by rw [hs4]; exact r2) ⟨ho5, fun k hk => (ho5.lt k hk).2⟩ HM.out (by omega) (by omega) hs5
  have HB5 := Lib.hid (HB4.out.trans (hb5.mono (by omega)))
  clear hb5 ho5 Q0 Q1 Q2 R1 R2 HL4 HC3 HO4 HS4 HB4 hlt5
  go_wp2
  refine bodyPost_ret (v := .agg #[.slice (some ⟨W0.heap.size, 0, none⟩) n n, .slice A3 en c3, .slice (some ⟨w4.heap.size, 0, none⟩) m m]) (by simp [results, Try.results11, go_sem, d0, d1, d2, e0, e1, e2]) rfl ?_
  have o1 := HOL.out.setCell (a := ⟨w.heap.size + 1 + 1, 2, none⟩) (by simp) (.slice (some ⟨w3.heap.size, 0, none⟩) m m)
  have o2 := o1.setCell (a := ⟨w.heap.size + 1, 0, none⟩) (by simp) (.slice (some ⟨W0.heap.size, 0, none⟩) n n)
  have o3 := o2.setCell (a := ⟨w.heap.size + 1, 1, none⟩) (by simp) (.slice A3 en c3)
  have o4 := o3.setCell (a := ⟨w.heap.size + 1, 2, none⟩) (by simp) (.slice (some ⟨w3.heap.size, 0, none⟩) m m)
  refine ⟨_, _, _, _, _, _, _, _, _, rfl, ?_, (((HB5.out.setCell (by simp; omega) _).setCell (by simp) _).setCell (by simp) _).setCell (by simp) _⟩
  refine o4.mono (lo' := w.heap.size) (by omega) ?_
  simp [World.setCell]

set_option maxRecDepth 100000 in
set_option maxHeartbeats 1600000 in
theorem mark_lazy (lo hi : Nat) (A : Option Addr) (n c : Nat) (E : Option Addr) (en ec : Nat) (C : Option Addr) (m d : Nat) (st : Lz) (k : Int) (w : World) (h : As lo hi (OwL lo hi A n c E en ec C m d st) w) (hb : LB st) (hk : 0 ≤ k) (hk' : k ≤ 562949953421312) :
    Calls Try.prog 21 #[.agg #[.slice A n c, .slice E en ec, .slice C m d], .int .i64 k] w fun e w' => MkS lo hi (MkL lo hi A n c E en ec C m d st k) w (k + (((rowsL st).map List.length).sum : Nat)) e w' := by
  have h2 := h.alloc (.cells #[.slice A n c, .slice E en ec, .slice C m d] 36)
  have hle0 := h.le
  obtain ⟨hn, hen, hm, us, hr, hss⟩ := h2.it
  have hul : us.length = en := by have := hr.1.1; omega
  have hr0 : OwR lo hi 3 1 (.slice A n c) n (st.vs.map (Value.int .i64)) (w.alloc (.cells #[.slice A n c, .slice E en ec, .slice C m d] 36)) := h2.it.row0
  have hn1 : n ≤ 2000000 := by have := hb.1; omega
  have hm1 : m ≤ 2000000 := by have := hb.2.2.2.2.2; omega
  have HM0 := Lib.hid (laws_markIntS lo n _ _ k _ hr0.1 hk (by omega) hn1)
  have hrl : (rowsL st).length = 1 + en + 1 := by unfold rowsL; simp; omega
  have hsum : ((rowsL st).map List.length).sum = offOf (rowsL st) (1 + en) + m := by
    have h1 := offOf_succ (rowsL st) (1 + en) (by omega)
    rw [← offOf_all, hrl, h1]
    have : lenOf (rowsL st) (1 + en) = m := by unfold lenOf; rw [Nat.add_comm, hen, rowsL_last, hm]
    omega
  have hoff1 : offOf (rowsL st) 1 = n := by unfold offOf rowsL; simp [hn]
  have hin0 := hss.congr (cont' := mkTo (rowsL st) k 0) (fun j _ => by rw [mkTo_zero])
  have hidx : ∀ j, j < en → (Value.slice A n c :: (us ++ [.slice C m d]))[1 + j]? = us[j]? := fun j hj => by rw [Nat.add_comm, List.getElem?_cons_succ, List.getElem?_append_left (by omega)]
  have hidl : (Value.slice A n c :: (us ++ [.slice C m d]))[1 + en]? = some (.slice C m d) := by rw [Nat.add_comm, List.getElem?_cons_succ, ← hul]; simp
  have hvl : (Value.slice A n c :: (us ++ [.slice C m d])).length = (rowsL st).length := by rw [hrl]; simp; omega
  have hlenl : m = lenOf (rowsL st) (1 + en) := by unfold lenOf; rw [Nat.add_comm, hen, rowsL_last, hm]
  have HIN0 := Lib.hid hin0
  have HR := Lib.hid hr
  have HSUM := Lib.hid hsum
  have HOFF := Lib.hid hoff1
  have HN := Lib.hid hn
  have HEN := Lib.hid hen
  have HM := Lib.hid hm
  have HLB := Lib.hid hb
  have HIDX := Lib.hid hidx
  have HIDL := Lib.hid hidl
  have HVL := Lib.hid hvl
  have HLL := Lib.hid hlenl
  have HRL := Lib.hid hrl
  have hl0 : n = lenOf (rowsL st) 0 := by unfold lenOf rowsL; simp [hn]
  have HL0 := Lib.hid hl0
  have hoffb : (offOf (rowsL st) (1 + en) : Int) + m ≤ 1048576 := by have := hb.2.2.2.2.1; omega
  clear h hr hss hin0 hsum hoff1 hn hen hm hb hul hr0 h2 hidx hidl hvl hlenl hrl hl0
  go_enter Try.func21, Try.ntmps21
  go_wp2_with fail
  refine HM0.out.mono ?_
  rintro e w1 hmk
  have he := hmk.1
  have HS1 := Lib.hid (HIN0.out.mark (J := 0) (A := A) (m := n) (c := c) rfl HL0.out (by simpa [offOf] using hmk))
  have HR1 : Hid (OwR lo hi 25 1 (.slice E en ec) en us w1) := by
    obtain ⟨A0, m0, c0, r1, _, r3⟩ := HIN0.out.row 0 (by simp)
    simp only [List.getElem?_cons_zero, Option.some.injEq, Value.slice.injEq] at r1
    obtain ⟨rfl, rfl, rfl⟩ := r1
    exact ⟨HR.out.1.kept hmk.2.2 (blocks_ne HR.out.1 r3.1 ints_ne_int.symm), HR.out.2⟩
  have HT1 : Hid (Tch lo hi w w1) := (Tch.of_below ((Below.refl _ _).alloc (Nat.le_refl _) _)).trans (Tch.of_grown hmk.2.2 fun q hq => HIN0.out.lt 0 _ q rfl hq)
  have hbx : w1.heap[w.heap.size]? = (w.alloc (.cells #[.slice A n c, .slice E en ec, .slice C m d] 36)).heap[w.heap.size]? := hmk.2.2.block w.heap.size (by simp) fun hq => by
    have hx := HIN0.out.lt 0 _ w.heap.size rfl hq.symm
    omega
  have q1 : w1.cell? ⟨w.heap.size, 1, none⟩ = some (.slice E en ec) := (World.cell?_of_block (a := ⟨w.heap.size, 1, none⟩) hbx).trans (by go_simp)
  have q2 : w1.cell? ⟨w.heap.size, 2, none⟩ = some (.slice C m d) := (World.cell?_of_block (a := ⟨w.heap.size, 2, none⟩) hbx).trans (by go_simp)
  have hw1 : w.heap.size < w1.heap.size := by have := hmk.2.2.size; simp at this; omega
  rw [Nat.mul_one] at he
  subst he
  clear hmk HM0 HIN0 HR hbx
  have HC := Lib.hid (laws_markRows lo hi en 1 (.slice E en ec) us (.slice A n c :: (us ++ [.slice C m d])) (rowsL st) k (k + n) w1 (by rw [HOFF.out]) HR1.out HIDX.out HVL.out (by rw [HRL.out]; omega) HS1.out HLB.out.2.2.1 HLB.out.2.2.2.2.1 hk hk')
  go_wp2_with fail
  refine HC.out.mono ?_
  rintro e w2 ⟨he, hr2, hs2, ht2⟩
  subst he
  have HR2 := Lib.hid hr2
  have HS2 := Lib.hid hs2
  have HT2 := Lib.hid (HT1.out.trans ht2)
  have q3 : w2.cell? ⟨w.heap.size, 2, none⟩ = some (.slice C m d) := (World.cell?_of_block (a := ⟨w.heap.size, 2, none⟩) (ht2.block w.heap.size hw1 (.inr hle0))).trans q2
  obtain ⟨A9, m9, c9, r1, r2, r3⟩ := hs2.row (1 + en) (by rw [HVL.out, HRL.out]; omega)
  rw [HIDL.out] at r1
  cases r1
  have HRC := Lib.hid r3.1
  clear hr2 hs2 ht2 HC r2 r3 HS1 HR1 HT1
  obtain ⟨o, ho⟩ : ∃ o : Nat, o = offOf (rowsL st) (1 + en) := ⟨_, rfl⟩
  have HO := Lib.hid ho
  rw [← ho] at hoffb
  rw [← ho]
  clear ho
  have HM2 := Lib.hid (laws_markIntS lo m _ _ (k + o) w2 HRC.out (by omega) (by omega) hm1)
  go_wp2_with fail
  refine HM2.out.mono ?_
  rintro e w3 hmk
  have he := hmk.1
  rw [HO.out] at hmk
  have HS3 := Lib.hid (HS2.out.mark (J := 1 + en) (A := C) (m := m) (c := d) HIDL.out HLL.out hmk)
  have HR3 : Hid (OwR lo hi 25 1 (.slice E en ec) en us w3) := ⟨HR2.out.1.kept hmk.2.2 (blocks_ne HR2.out.1 HRC.out ints_ne_int.symm), HR2.out.2⟩
  have HT3 : Hid (Tch lo hi w w3) := HT2.out.trans (Tch.of_grown hmk.2.2 fun q hq => HS2.out.lt (1 + en) _ q HIDL.out hq)
  rw [Nat.mul_one] at he
  subst he
  clear hmk HM2
  go_wp2
  go_ret
  refine ⟨ret_i (by rw [HSUM.out, HO.out]; omega), ⟨⟨HN.out, HEN.out, HM.out, us, HR3.out, HS3.out.congr fun j hj => ?_⟩, ?_, MkL.loc _ _ _ _ _ _ _ _ _ _ _ _ _⟩, HT3.out⟩
  · try unfold mkTo
    rw [if_pos (by rw [HVL.out, HRL.out] at hj; omega)]
  · have := HT3.out.size
    omega
end Go.Proofs.Ythnilpibpmlaeaa

/- States of the lazy machine: the laws' marks of their own and of others, and rows that have room. -/
namespace Go.Proofs.Ythnilpibpmlaeaa
set_option linter.unusedSimpArgs false
set_option linter.unusedVariables false
open Go.RowKit

/-- The first lists at E have room for what they hold. -/
def SC (w : World) (E : Option Addr) (en : Nat) : Prop := ∀ b off, E = some ⟨b, off, none⟩ → ∀ j, j < en → ∀ A' n c, w.cell? ⟨b, off + j, none⟩ = some (.slice A' n c) → n ≤ c
/-- A state that is read, the lists of which have room. -/
def LS4 (w : World) (B : Nat) (A E C : Option Addr) (e : Lz) : Prop := LS3 w B A E C e ∧ SC w E e.rs.length

section
variable {w w' : World} {B B' D lo hi n c en ec m d : Nat} {A E C : Option Addr} {e : Lz} {st : Lz}
theorem LS4.keep (h : LS4 w B A E C e) (hk : ∀ p : Addr, p.block < B → w'.cell? p = w.cell? p) : LS4 w' B A E C e := by
  refine ⟨h.1.keep hk, fun b off hE j hj A' n c hc => h.2 b off hE j hj A' n c ?_⟩
  obtain ⟨b', off', e', hb', _⟩ := h.1.2.1 (by omega)
  rw [hE] at e'
  cases e'
  rw [← hk _ hb']
  exact hc
theorem LS4.more (h : LS4 w B A E C e) (hB : B ≤ B') : LS4 w B' A E C e := ⟨h.1.more hB, h.2⟩
theorem LS4.below (h : LS4 w B A E C e) (hb : Below D w w') (hC : B ≤ D) : LS4 w' B A E C e := h.keep fun _ hp => hb.cell (Nat.lt_of_lt_of_le hp hC)
theorem LS4.alloc (h : LS4 w B A E C e) (hB : B ≤ w.heap.size) (o : Obj) : LS4 (w.alloc o) B A E C e := h.keep fun p hp => World.cell?_alloc_lt w o p (by omega)

theorem own_ncap {base e' size n c : Nat} {A : Option Addr} {xs : List Value} (h : w.ownsRow base e' size (.slice A n c) n xs) : n ≤ c := by
  rcases h.2 with ⟨hv, h0⟩ | ⟨g, cap, cur, hv, _, _, h1, _⟩
  · omega
  · simp only [Value.slice.injEq] at hv
    obtain ⟨_, _, rfl⟩ := hv
    exact h1
theorem OwSS.caps {xss : List (List Int)} (h : OwSS lo hi (.slice E n c) n xss w) : SC w E n := by
  obtain ⟨h0, us, h1, h2⟩ := h
  intro b off hE j hj A' m d hc
  subst hE
  have hul : us.length = n := by have := h1.1.1; omega
  obtain ⟨A'', m', c', r1, r2, r3⟩ := h2.row j (by omega)
  rcases h1.1.2 with ⟨hv, hz⟩ | ⟨g, cap, cur, hv, _⟩
  · omega
  · simp only [Value.slice.injEq, Option.some.injEq, Addr.mk.injEq, and_true, true_and] at hv
    obtain ⟨⟨rfl, rfl⟩, rfl⟩ := hv
    have h3 := h1.1.cellAt j (by omega)
    rw [Nat.zero_add, h3, r1] at hc
    cases hc
    exact own_ncap r3.1
theorem As.lazy4 (h : As lo hi (OwL lo hi A n c E en ec C m d st) w) : LS4 w w.heap.size A E C st := by
  refine ⟨h.lazy, ?_⟩
  have := h.it.lists.caps
  rw [h.it.2.1] at this
  exact this
end

set_option maxRecDepth 100000 in
set_option maxHeartbeats 1600000 in
theorem held_lazy (lo hi : Nat) (A : Option Addr) (n c : Nat) (E : Option Addr) (en ec : Nat) (C : Option Addr) (m d : Nat) (st : Lz) (k : Int) (w : World) (h : As lo hi (MkL lo hi A n c E en ec C m d st k) w) (hb : LB st) (hk : 0 ≤ k) (hk' : k ≤ 562949953421312) :
    Calls Try.prog 22 #[.agg #[.slice A n c, .slice E en ec, .slice C m d], .int .i64 k] w fun e w' => e = .returned (.int .i64 (k + (((rowsL st).map List.length).sum : Nat))) ∧ Below w.heap.size w w' := by
  have h2 := h.alloc (.cells #[.slice A n c, .slice E en ec, .slice C m d] 36)
  obtain ⟨hn, hen, hm, us, hr, hss⟩ := h2.it
  have hul : us.length = en := by have := hr.1.1; omega
  have hn1 : n ≤ 2000000 := by have := hb.1; omega
  have hm1 : m ≤ 2000000 := by have := hb.2.2.2.2.2; omega
  have hrl : (rowsL st).length = 1 + en + 1 := by unfold rowsL; simp; omega
  have hlenl : m = lenOf (rowsL st) (1 + en) := by unfold lenOf; rw [Nat.add_comm, hen, rowsL_last, hm]
  have hsum : ((rowsL st).map List.length).sum = offOf (rowsL st) (1 + en) + m := by
    have h1 := offOf_succ (rowsL st) (1 + en) (by omega)
    rw [← offOf_all, hrl, h1]
    omega
  have hoff1 : offOf (rowsL st) 1 = n := by unfold offOf rowsL; simp [hn]
  have hidx : ∀ j, j < en → (Value.slice A n c :: (us ++ [.slice C m d]))[1 + j]? = us[j]? := fun j hj => by rw [Nat.add_comm, List.getElem?_cons_succ, List.getElem?_append_left (by omega)]
  have hidl : (Value.slice A n c :: (us ++ [.slice C m d]))[1 + en]? = some (.slice C m d) := by rw [Nat.add_comm, List.getElem?_cons_succ, ← hul]; simp
  have hvl : (Value.slice A n c :: (us ++ [.slice C m d])).length = (rowsL st).length := by rw [hrl]; simp; omega
  have hr0 : OwR lo hi 3 1 (.slice A n c) n (mks k n) (w.alloc (.cells #[.slice A n c, .slice E en ec, .slice C m d] 36)) := by
    obtain ⟨A', m', c', r1, r2, r3⟩ := hss.row 0 (by simp)
    simp only [List.getElem?_cons_zero, Option.some.injEq, Value.slice.injEq] at r1
    obtain ⟨rfl, rfl, rfl⟩ := r1
    rw [← r2] at r3
    simpa [offOf] using r3
  have hrC : OwR lo hi 3 1 (.slice C m d) m (mks (k + offOf (rowsL st) (1 + en)) m) (w.alloc (.cells #[.slice A n c, .slice E en ec, .slice C m d] 36)) := by
    obtain ⟨A', m', c', r1, r2, r3⟩ := hss.row (1 + en) (by rw [hvl, hrl]; omega)
    rw [hidl] at r1
    cases r1
    rw [← hlenl] at r3
    exact r3
  have HM0 := Lib.hid (laws_heldIntS lo n _ k _ hr0.1 hk (by omega) hn1)
  have HRC := Lib.hid hrC
  have HSS := Lib.hid hss
  have HR := Lib.hid hr
  have HSUM := Lib.hid hsum
  have HOFF := Lib.hid hoff1
  have HEN := Lib.hid hen
  have HLB := Lib.hid hb
  have HIDX := Lib.hid hidx
  have HVL := Lib.hid hvl
  have HRL := Lib.hid hrl
  have hoffb : (offOf (rowsL st) (1 + en) : Int) + m ≤ 1048576 := by have := hb.2.2.2.2.1; omega
  clear h hr hss hsum hoff1 hn hen hm hb hul hr0 hrC h2 hidx hidl hvl hrl hlenl
  go_enter Try.func22, Try.ntmps22
  go_wp2_with fail
  refine HM0.out.mono ?_
  rintro e w1 ⟨rfl, hb⟩
  have q1 : w1.cell? ⟨w.heap.size, 1, none⟩ = some (.slice E en ec) := (hb.cell (p := ⟨w.heap.size, 1, none⟩) (by simp)).trans (by go_simp)
  have q2 : w1.cell? ⟨w.heap.size, 2, none⟩ = some (.slice C m d) := (hb.cell (p := ⟨w.heap.size, 2, none⟩) (by simp)).trans (by go_simp)
  have hnn : ¬ k + (n : Int) < 0 := by omega
  have hw1 : w.heap.size < w1.heap.size := by have := hb.size; simp at this; omega
  have HR1 : Hid (OwR lo hi 25 1 (.slice E en ec) en us w1) := ⟨own_below HR.out.1 hb, HR.out.2⟩
  have HS1 : Hid (SSk lo hi (.slice A n c :: (us ++ [.slice C m d])) (lenOf (rowsL st)) (fun j => mks (k + offOf (rowsL st) j) (lenOf (rowsL st) j)) w1) :=
    ⟨fun j hj => by obtain ⟨A', m, c', r1, r2, r3⟩ := HSS.out.row j hj; exact ⟨A', m, c', r1, r2, r3.step hb⟩, HSS.out.apart⟩
  have HC := Lib.hid (laws_heldRows lo hi en 1 (.slice E en ec) us (.slice A n c :: (us ++ [.slice C m d])) (rowsL st) k (k + n) w1 (by rw [HOFF.out]) HR1.out HIDX.out HVL.out (by rw [HRL.out]; omega) HS1.out HLB.out.2.2.1 HLB.out.2.2.2.2.1 hk hk')
  have HRC1 := Lib.hid (show OwR lo hi 3 1 (.slice C m d) m (mks (k + offOf (rowsL st) (1 + en)) m) w1 from ⟨own_below HRC.out.1 hb, HRC.out.2⟩)
  have HB1 := Lib.hid (((Below.refl w.heap.size w).alloc (Nat.le_refl _) (.cells #[.slice A n c, .slice E en ec, .slice C m d] 36)).trans (hb.mono (by simp)))
  clear hb HM0 HSS HR HR1 HS1 HRC
  go_wp2_with fail
  refine HC.out.mono ?_
  rintro e w2 ⟨he, hb2⟩
  subst he
  have q3 : w2.cell? ⟨w.heap.size, 2, none⟩ = some (.slice C m d) := (hb2.cell (p := ⟨w.heap.size, 2, none⟩) hw1).trans q2
  have HRC2 := Lib.hid (show OwR lo hi 3 1 (.slice C m d) m (mks (k + offOf (rowsL st) (1 + en)) m) w2 from ⟨own_below HRC1.out.1 hb2, HRC1.out.2⟩)
  have HB2 := Lib.hid (HB1.out.trans (hb2.mono (Nat.le_of_lt hw1)))
  obtain ⟨o, ho⟩ : ∃ o : Nat, o = offOf (rowsL st) (1 + en) := ⟨_, rfl⟩
  have HO := Lib.hid ho
  rw [← ho]
  rw [← ho] at HRC2 hoffb
  have ho' : ¬ k + (o : Int) < 0 := by omega
  clear ho hb2 HRC1 HB1 HC
  have HM2 := Lib.hid (laws_heldIntS lo m _ (k + o) w2 HRC2.out.1 (by omega) (by omega) hm1)
  go_wp2_with fail
  refine HM2.out.mono ?_
  rintro e w3 ⟨rfl, hb3⟩
  go_wp2
  go_ret
  exact ⟨ret_i (by rw [HSUM.out, HO.out]; omega), HB2.out.trans (hb3.mono HB2.out.size)⟩

theorem markw_lazy (lo hi : Nat) (A : Option Addr) (n c : Nat) (E : Option Addr) (en ec : Nat) (C : Option Addr) (m d : Nat) (st : Lz) (k : Int) (w : World) (h : As lo hi (OwL lo hi A n c E en ec C m d st) w) (hb : LB st) (hk : 0 ≤ k) (hk' : k ≤ 562949953421312) :
    Calls Try.prog 21 #[.agg #[.slice A n c, .slice E en ec, .slice C m d], .int .i64 k] w fun e w' => MkW lo hi w k (k + 6000000000000) e w' := by
  refine (mark_lazy lo hi A n c E en ec C m d st k w h hb hk hk').mono ?_
  rintro e w' ⟨he, _, ht⟩
  have := hb.2.2.2.2.1
  exact ⟨_, he, by omega, by omega, ht⟩
end Go.Proofs.Ythnilpibpmlaeaa

/- The standing contracts of ChangedBy. -/
namespace Go.Proofs.Ythnilpibpmlaeaa
set_option linter.unusedSimpArgs false
set_option linter.unusedVariables false
open Go.RowKit

def chgB (gs : List Nd) (xs ys : List Int) : Bool := validG gs && validC gs xs && validC gs ys
def chgF (gs : List Nd) (xs ys : List Int) : List Int := if chgB gs xs ys then diffTo (mean gs xs) (mean gs ys) gs.length else []

theorem chgF_len (gs : List Nd) (xs ys : List Int) : (chgF gs xs ys).length ≤ 10 := by
  unfold chgF
  cases h : chgB gs xs ys
  · simp
  · simp only [if_true]
    unfold chgB at h
    simp only [Bool.and_eq_true] at h
    have := diffTo_len (mean gs xs) (mean gs ys) gs.length
    have := (validG_parts gs h.1.1).1
    omega

set_option maxRecDepth 100000 in
set_option maxHeartbeats 1600000 in
theorem spec_differing (A A' : Option Addr) (n c c' : Nat) (a b : List Int) (w : World) (B : Nat) (hB : B ≤ w.heap.size) (hn : n = a.length) (hm : n = b.length) (h : IS w B A a) (h' : IS w B A' b) (hs : n ≤ 2000000) :
    Calls Try.prog 84 #[.slice A n c, .slice A' n c'] w fun e w' => RetI w (diffTo a b n) e w' := by
  obtain ⟨i0, hi, hz0, hz1, hz2⟩ := info_parts info_int
  have H := Lib.hid h
  have H' := Lib.hid h'
  have HN := Lib.hid hn
  have HM := Lib.hid hm
  clear hn h hm h'
  go_enter Try.func84, Try.ntmps84
  go_wp2
  go_loopw [5, 6] (fun v i wr => ∃ k : Nat, k ≤ n ∧ i = .int .i64 k ∧ Hid (OwnI wr w.heap.size v (diffTo a b k)) ∧ Below w.heap.size w wr) (fun _ i _ => n - (intOf i).toNat)
  case atStart =>
    refine ⟨0, Nat.zero_le _, rfl, ?_, (Below.refl _ _).alloc (Nat.le_refl _) _⟩
    have := World.ownsRow_lit (e := 3) (size := 1) (base := w.heap.size) w #[] 0 (Nat.le_refl _) (by unfold maxLen; omega) rfl
    simpa [OwnI, Hid, diffTo] using this
  case round =>
    obtain ⟨k, hk, rfl, HO, hb⟩ := hrel
    by_cases hlt : k < n
    · obtain ⟨b1, off1, rfl, hb1, hc1⟩ := H.out (by have := HN.out; omega)
      obtain ⟨b2, off2, rfl, hb2, hc2⟩ := H'.out (by have := HM.out; omega)
      have c1 := (hb.cell (p := ⟨b1, off1 + k, none⟩) (by simp; omega)).trans (hc1 k (by have := HN.out; omega))
      have c2 := (hb.cell (p := ⟨b2, off2 + k, none⟩) (by simp; omega)).trans (hc2 k (by have := HM.out; omega))
      clear hc1 hc2
      have HST := Lib.hid (diffTo_step a b k)
      have hdl := diffTo_len a b k
      generalize a.getD k 0 = x at *
      generalize b.getD k 0 = y at *
      generalize diffTo a b k = D at *
      have hwr : w.heap.size ≤ wr.heap.size := hb.size
      cases hxy : (x == y)
      · have hne : (x != y) = true := by simp [bne, hxy]
        rw [hxy] at HST
        clear hxy
        go_wp2
        go_region
        go_wp2_with (at_builtin; refine wpList_append_own _ rfl _ _ 25 rfl w.heap.size 3 i0 (.int .i64 0) 1 8 Try.underlying25 hi hz0 hz1 hz2 rfl (by decide) _ _ _ rfl (HO.out.drew.alloc _) ⟨_, 0, none⟩ 1 1 [.int .i64 k] rfl rfl (cell_one_new _ _ _) ?c2 ?c3 ?c4 ?c5 ?_)
        case c2 => first | rfl | (intro u hu; simp at hu; subst hu; rfl)
        case c3 => unfold maxLen; omega
        case c4 => omega
        case c5 => first | omega | (simp; omega)
        intro v' w3 hown' hgrow _
        have hpos := (HO.out.drew.alloc (.cells #[.int .i64 k] 3)).lt
        have HO' : Hid (OwnI w3 w.heap.size v' (diffTo a b (k + 1))) := by
          rw [HST.out]
          simpa [OwnI, Hid] using hown'
        have HB' := Lib.hid ((hb.drew.alloc hwr (.cells #[.int .i64 k] 3)).grown hgrow (by first | (simp; omega) | omega) (fun q hq => (hpos q hq).1))
        clear hown' hgrow hpos
        go_wp2
        go_roundw
        case rel => exact ⟨k + 1, by omega, by go_num, HO'.out, HB'.out⟩
        case measure => simp [intOf]; omega
      · have hne : (x != y) = false := by simp [bne, hxy]
        rw [hxy] at HST
        clear hxy
        go_wp2
        go_region
        go_wp2
        go_roundw
        case rel => exact ⟨k + 1, by omega, by go_num, by rw [HST.out]; have := HO.out.drew; simpa [OwnI, Hid] using this, hb.drew⟩
        case measure => simp [intOf]; omega
    · obtain rfl : k = n := by omega
      go_wp2
      go_ret
      exact ⟨_, rfl, HO.out, hb⟩

/-- The first numbers for which something holds. -/
def nwTo (P : Nat → Bool) (n : Nat) : List Int := ((List.range n).filter P).map fun i : Nat => (i : Int)
theorem nwTo_step (P : Nat → Bool) (k : Nat) : nwTo P (k + 1) = nwTo P k ++ (if P k then [(k : Int)] else []) := by
  unfold nwTo
  rw [List.range_succ, List.filter_append, List.map_append]
  congr 1
  cases h : P k <;> simp [h]
theorem nwTo_len (P : Nat → Bool) (k : Nat) : (nwTo P k).length ≤ k := by
  unfold nwTo
  rw [List.length_map]
  have := List.length_filter_le P (List.range k)
  simpa using this
theorem nwTo_diff (a b : List Int) (k : Nat) : nwTo (fun i => !(a.getD i 0 == b.getD i 0)) k = diffTo a b k := rfl

set_option maxRecDepth 100000 in
set_option maxHeartbeats 1600000 in
theorem impl_nodesWhere2 (K : FuncId) (cap cap2 : Value) (P : Nat → Bool) (I : World → Prop) (A : Option Addr) (n c : Nat) (hs : n ≤ 2000000)
    (hI : ∀ w w' : World, I w → Below w.heap.size w w' → I w') (hcf : ∀ (q : Nat) (w : World), (callFunc K #[.int .i64 q, cap, cap2]).run Try.prog w = .ok (.enter K #[.int .i64 q, cap, cap2]) w)
    (hP : ∀ (q : Nat) (w : World), q < n → I w → Calls Try.prog K #[.int .i64 q, cap, cap2] w fun e w' => e = .returned (.bool (P q)) ∧ Below w.heap.size w w') (w : World) (h : I w) :
    Calls Try.prog 47 #[.agg #[.slice A n c], .func (.func K) #[] #[cap, cap2]] w fun e w' => RetI w (nwTo P n) e w' := by
  obtain ⟨i0, hi, hz0, hz1, hz2⟩ := info_parts info_int
  have HI := Lib.hid hI
  have HP := Lib.hid hP
  have H := Lib.hid h
  have HCF := Lib.hid hcf
  clear hI hP h hcf
  go_enter Try.func47, Try.ntmps47
  go_wp2
  go_loopw [5, 10] (fun v i wr => ∃ k : Nat, k ≤ n ∧ i = .int .i64 k ∧ Hid (OwnI wr (w.heap.size + 1) v (nwTo P k)) ∧ Below (w.heap.size + 1) (w.alloc (.cells #[.slice A n c] 34)) wr) (fun _ i _ => n - (intOf i).toNat)
  case atStart => exact ⟨0, Nat.zero_le _, rfl, World.ownsRow_nil _ _ _ _, Below.refl _ _⟩
  case round =>
    obtain ⟨k, hk, rfl, HO, hbr⟩ := hrel
    have hwr : w.heap.size + 1 ≤ wr.heap.size := by have := hbr.size; simpa using this
    by_cases hlt : k < n
    · have HST := Lib.hid (nwTo_step P k)
      have hdl := nwTo_len P k
      have HIR := Lib.hid (HI.out _ _ H.out (((Below.refl _ _).alloc (Nat.le_refl _) _).trans (hbr.mono (by omega))))
      have HPK := Lib.hid fun (w' : World) (h : I w') => HP.out k w' hlt h
      have hcf := HCF.out k
      generalize nwTo P k = D at *
      generalize P k = p at *
      cases p
      · go_wp2_with fail
        refine (HPK.out _ HIR.out).mono ?_
        rintro e w2 ⟨rfl, hb2⟩
        go_wp2
        go_roundw
        case rel => exact ⟨k + 1, by omega, by go_num, by rw [HST.out]; simpa [OwnI, Hid] using own_below HO.out hb2, hbr.trans (hb2.mono hwr)⟩
        case measure => simp [intOf]; omega
      · go_wp2_with fail
        refine (HPK.out _ HIR.out).mono ?_
        rintro e w2 ⟨rfl, hb2⟩
        have HO2 := Lib.hid (own_below HO.out hb2)
        have hbr2 := hbr.trans (hb2.mono hwr)
        have hw2 : w.heap.size + 1 ≤ w2.heap.size := by have := hb2.size; omega
        clear hcf
        go_wp2_with (at_builtin; refine wpList_append_own _ rfl _ _ 25 rfl (w.heap.size + 1) 3 i0 (.int .i64 0) 1 8 Try.underlying25 hi hz0 hz1 hz2 rfl (by decide) _ _ _ rfl (HO2.out.alloc _) ⟨_, 0, none⟩ 1 1 [.int .i64 k] rfl rfl (cell_one_new _ _ _) ?c2 ?c3 ?c4 ?c5 ?_)
        case c2 => first | rfl | (intro u hu; simp at hu; subst hu; rfl)
        case c3 => unfold maxLen; omega
        case c4 => omega
        case c5 => first | omega | (simp; omega)
        intro v' w3 hown' hgrow _
        have hpos := (HO2.out.alloc (.cells #[.int .i64 k] 3)).lt
        have HO' : Hid (OwnI w3 (w.heap.size + 1) v' (nwTo P (k + 1))) := by
          rw [HST.out]
          simpa [OwnI, Hid] using hown'
        have HB' := Lib.hid ((hbr2.alloc hw2 (.cells #[.int .i64 k] 3)).grown hgrow (by first | (simp; omega) | omega) (fun q hq => (hpos q hq).1))
        clear hown' hgrow hpos
        go_wp2
        go_roundw
        case rel => exact ⟨k + 1, by omega, by go_num, HO'.out, HB'.out⟩
        case measure => simp [intOf]; omega
    · obtain rfl : k = n := by omega
      go_wp2
      go_ret
      exact ⟨_, rfl, own_mono HO.out (by omega), ((Below.refl _ _).alloc (Nat.le_refl _) _).trans (hbr.mono (by omega))⟩

end Go.Proofs.Ythnilpibpmlaeaa

/- The standing contracts of ValidEager. -/
namespace Go.Proofs.Ythnilpibpmlaeaa
set_option linter.unusedSimpArgs false
set_option linter.unusedVariables false
open Go.RowKit

set_option maxHeartbeats 800000 in
theorem spec_sameInts (A A' : Option Addr) (n n' c c' : Nat) (a b : List Int) (w : World) (B : Nat) (hB : B ≤ w.heap.size) (hn : n = a.length) (hn' : n' = b.length) (h : IS w B A a) (h' : IS w B A' b) (hs : n ≤ 2000000) (hs' : n' ≤ 2000000) :
    Calls Try.prog 71 #[.slice A n c, .slice A' n' c'] w fun e w' => e = .returned (.bool (decide (a = b))) ∧ Below w.heap.size w w' := by
  by_cases hl : n = n'
  · have hne : ((n : Int) != (n' : Int)) = false := by simp [hl]
    subst hl
    have HC := Lib.hid (spec_differing A A' n c c' a b w B hB hn hn' h h' hs)
    have HD := Lib.hid (diffTo_same a b n hn hn')
    have hd0 := diffTo_len a b n
    generalize diffTo a b n = D at *
    generalize decide (a = b) = r at *
    clear hn hn' h h'
    go_enter Try.func71, Try.ntmps71
    go_wp2_with fail
    refine HC.out.mono ?_
    rintro e w1 ⟨v, rfl, ho, hb⟩
    obtain ⟨A1, c1, rfl, _⟩ := OwnI.form ho
    have hd := HD.out
    cases r
    · have h0 : ((D.length : Int) == 0) = false := by simp at hd ⊢; omega
      clear ho hd
      go_wp2
      go_ret
      exact ⟨rfl, hb⟩
    · have h0 : ((D.length : Int) == 0) = true := by simp at hd ⊢; omega
      clear ho hd
      go_wp2
      go_ret
      exact ⟨rfl, hb⟩
  · have hne : ((n : Int) != (n' : Int)) = true := by simp; omega
    have hf : decide (a = b) = false := by rw [decide_eq_false_iff_not]; rintro rfl; omega
    rw [hf]
    clear hl hn hn' h h' hf
    go_enter Try.func71, Try.ntmps71
    go_wp2
    go_ret
    exact ⟨rfl, Below.refl _ _⟩

set_option maxHeartbeats 800000 in
theorem slices_Equal (A A' : Option Addr) (n n' c c' : Nat) (a b : List Int) (w : World) (B : Nat) (hB : B ≤ w.heap.size) (hn : n = a.length) (hn' : n' = b.length) (h : IS w B A a) (h' : IS w B A' b) (hs : n ≤ 2000000) (hs' : n' ≤ 2000000) :
    Calls Try.prog 76 #[.slice A n c, .slice A' n' c'] w fun e w' => e = .returned (.bool (decide (a = b))) ∧ Below w.heap.size w w' := by
  by_cases hl : n = n'
  · have hne : ((n : Int) != (n' : Int)) = false := by simp [hl]
    have HL := Lib.hid hl
    have HN := Lib.hid hn
    have HN' := Lib.hid hn'
    have H := Lib.hid h
    have H' := Lib.hid h'
    clear hl hn hn' h h'
    go_enter Try.func76, Try.ntmps76
    go_wp2
    go_loopw [13] (fun i wr => ∃ k : Nat, k ≤ n ∧ i = .int .i64 k ∧ Hid (∀ j, j < k → a.getD j 0 = b.getD j 0) ∧ Below w.heap.size w wr) (fun i _ => n - (intOf i).toNat)
    case atStart => exact ⟨0, Nat.zero_le _, rfl, fun j hj => by omega, Below.refl _ _⟩
    case round =>
      obtain ⟨k, hk, rfl, HT, hb⟩ := hrel
      by_cases hlt : k < n
      · have hlt' : k < n' := by have := HL.out; omega
        obtain ⟨b1, off, rfl, hbB, hc⟩ := H.out (by have := HN.out; omega)
        obtain ⟨b2, off', rfl, hbB', hc'⟩ := H'.out (by have := HN'.out; omega)
        have d1 := hc k (by have := HN.out; omega)
        have d2 := hc' k (by have := HN'.out; omega)
        have e1 := (hb.cell (p := ⟨b1, off + k, none⟩) (by simp; omega)).trans d1
        have e2 := (hb.cell (p := ⟨b2, off' + k, none⟩) (by simp; omega)).trans d2
        clear hc hc' d1 d2 H H'
        have HNE : Hid (a.getD k 0 ≠ b.getD k 0 → decide (a = b) = false) := fun hh => by rw [decide_eq_false_iff_not]; rintro rfl; exact hh rfl
        have HEQ : Hid (a.getD k 0 = b.getD k 0 → ∀ j, j < k + 1 → a.getD j 0 = b.getD j 0) := fun hh j hj => by
          rcases Nat.lt_or_ge j k with h1 | h1
          · exact HT.out j h1
          · obtain rfl : j = k := by omega
            exact hh
        generalize a.getD k 0 = x at *
        generalize b.getD k 0 = y at *
        cases hxy : (x == y)
        · have hne2 : (x != y) = true := by simp [bne, hxy]
          have HF := Lib.hid (HNE.out (by simpa using hxy))
          clear hxy
          go_wp2
          go_region
          go_wp2
          go_ret
          exact ⟨ret_b HF.out.symm, hb.drew⟩
        · have hne2 : (x != y) = false := by simp [bne, hxy]
          have HF := Lib.hid (HEQ.out (by simpa using hxy))
          clear hxy
          go_wp2
          go_region
          go_wp2
          go_roundw
          case rel => exact ⟨k + 1, by omega, by go_num, HF.out, hb.drew⟩
          case measure => simp [intOf]; omega
      · obtain rfl : k = n := by omega
        go_wp2
        go_ret
        refine ⟨ret_b ?_, hb⟩
        symm
        apply decide_eq_true
        have h1 := HN.out
        have h2 := HN'.out
        have h3 := HL.out
        apply List.ext_getElem (by omega)
        intro j hj hj'
        have := HT.out j (by omega)
        simpa [List.getD, hj, hj'] using this
  · have hne : ((n : Int) != (n' : Int)) = true := by simp; omega
    have hf : decide (a = b) = false := by rw [decide_eq_false_iff_not]; rintro rfl; omega
    rw [hf]
    clear hl hn hn' h h' hf
    go_enter Try.func76, Try.ntmps76
    go_wp2
    go_ret
    exact ⟨rfl, Below.refl _ _⟩

end Go.Proofs.Ythnilpibpmlaeaa

/- The standing contracts of ValidEager, the program's. -/
namespace Go.Proofs.Ythnilpibpmlaeaa
set_option linter.unusedSimpArgs false
set_option linter.unusedVariables false
open Go.RowKit

/-- Returns a number and a fresh list of numbers. -/
def RetVI (w : World) (x : Int) (xs : List Int) (e : Ending) (w' : World) : Prop := ∃ v, e = .returned (.tuple #[.int .i64 x, v]) ∧ OwnI w' w.heap.size v xs ∧ Below w.heap.size w w'

set_option maxRecDepth 100000 in
set_option maxHeartbeats 1600000 in
theorem impl_runOf (A A' : Option Addr) (n c m c' : Nat) (gs : List Nd) (vs : List Int) (i : Nat) (w : World) (B : Nat) (hB : B ≤ w.heap.size) (hn : n = gs.length) (hm : m = vs.length) (h : GS w B A gs) (h' : IS w B A' vs) (hvg : validG gs = true) (hl : vs.length = gs.length) (hr : allR vs 0 999 = true) (hi : i < n) :
    Calls Try.prog 75 #[.agg #[.slice A n c], .slice A' m c', .int .i64 i] w fun e w' => RetVI w (valE gs vs i) (depF gs vs i) e w' := by
  have hn10 : n ≤ 10 := by rw [hn]; exact (validG_parts gs hvg).1

  have hvl : valE gs vs i = if (gs.getD i default).k == 0 then vs.getD i 0 else (whole (gs.getD i default).ps).ev vs := rfl
  have hdl : depF gs vs i = if (gs.getD i default).k == 0 then [] else firsts ((whole (gs.getD i default).ps).rds vs) := rfl
  have hce := eager_canEv gs vs i hvg hl hr (by omega)
  obtain ⟨b, off, rfl, hbB, c0, A1, n1, c1, c2, hn1', hps⟩ := h.at_ i (by omega)
  have him : i < m := by omega
  obtain ⟨b2, off2, rfl, hbB2, hcx⟩ := h' (by omega)
  have d0 := hcx i (by omega)
  have HI := Lib.hid h'
  have HPS := Lib.hid hps
  have z2 : b < w.heap.size := by omega
  have z3 : b2 < w.heap.size := by omega
  rw [hvl, hdl]
  clear hvl hdl h hcx hps hn hvg hl hr h'
  generalize gs.getD i default = d at *
  generalize vs.getD i 0 = x at *
  cases hd : (d.k == 0)
  · have hce' := hce hd
    obtain ⟨hv1, hvo, hl10, hea⟩ := canEv_parts d.ps vs hce'
    obtain ⟨hg, h1, h12⟩ := validF_good d.ps hv1
    have hvf : valF d.ps vs = (whole d.ps).ev vs := by unfold valF; rw [hce']; rfl
    have hrf : readF d.ps vs = firsts ((whole d.ps).rds vs) := by unfold readF; rw [hce']; rfl
    have HVAL := Lib.hid fun (w' : World) (hB : B ≤ w'.heap.size) (h : PS w' B A1 d.ps) (h' : IS w' B (some ⟨b2, off2, none⟩) vs) => impl_ValueOf A1 (some ⟨b2, off2, none⟩) n1 c1 m c' d.ps vs B hn1' hm (by omega) (by omega) w' hB h h'
    have HRD := Lib.hid fun (w' : World) (hB : B ≤ w'.heap.size) (h : PS w' B A1 d.ps) (h' : IS w' B (some ⟨b2, off2, none⟩) vs) => impl_ReadsOf A1 (some ⟨b2, off2, none⟩) n1 c1 m c' d.ps vs B hn1' hm (by omega) (by omega) w' hB h h'
    rw [hvf, hce'] at HVAL
    rw [hrf] at HRD
    simp only [Bool.false_eq_true, if_false]
    generalize (whole d.ps).ev vs = X at *
    generalize firsts ((whole d.ps).rds vs) = F at *
    clear hce hce' hv1 hvo hl10 hea hg h1 h12 hvf hrf hn1' hm
    go_enter Try.func75, Try.ntmps75
    go_wp2_with fail
    refine (HVAL.out _ (by simp; omega) ((HPS.out.alloc hB _).alloc (by simp; omega) _) ((HI.out.alloc hB _).alloc (by simp; omega) _)).mono ?_
    rintro e w1 ⟨rfl, hb⟩
    have q1 : w1.cell? ⟨w.heap.size + 1, 1, none⟩ = some (.slice A1 n1 c1) := (hb.cell (p := ⟨w.heap.size + 1, 1, none⟩) (by simp)).trans (by go_simp)
    have hB1 : Below w.heap.size w w1 := (((Below.refl _ _).alloc (Nat.le_refl _) _).alloc (by simp) _).trans (hb.mono (by simp; omega))
    have HPS1 := Lib.hid (HPS.out.below hB1 hB)
    have HI1 := Lib.hid (HI.out.below hB1 hB)
    have hl1 : w.heap.size + 2 ≤ w1.heap.size := by have := hb.size; simp at this; omega
    clear hb HPS HI HVAL
    go_wp2_with fail
    refine (HRD.out _ (by omega) HPS1.out HI1.out).mono ?_
    rintro e w2 ⟨v, rfl, ho, hb2⟩
    go_wp2
    go_ret2
    exact ⟨v, rfl, own_mono ho (by omega), hB1.trans (hb2.mono (by omega))⟩
  · simp only [if_true]
    clear hce hn1' hm HI HPS
    go_enter Try.func75, Try.ntmps75
    go_wp2
    go_ret2
    exact ⟨_, rfl, World.ownsRow_nil _ _ _ _, ((Below.refl _ _).alloc (Nat.le_refl _) _).alloc (by simp) _⟩

end Go.Proofs.Ythnilpibpmlaeaa
