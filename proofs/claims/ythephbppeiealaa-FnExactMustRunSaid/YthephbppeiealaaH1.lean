/- Words for lists of lists of numbers: as they read, of the call's own, marked; comparisons and marks. -/
import Derived.Test.YthephbppeiealaaG7
import Derived.StillTailTactics
namespace Go.Proofs.Ythephbppeiealaa
set_option linter.unusedSimpArgs false
set_option linter.unusedVariables false
open Go.RowKit

/-- The slice at A reads as the lists xss; all of it lies below block B. -/
def SS (w : World) (B : Nat) (A : Option Addr) (xss : List (List Int)) : Prop :=
  0 < xss.length → ∃ b off, A = some ⟨b, off, none⟩ ∧ b < B ∧ ∀ j, j < xss.length → ∃ A' n c, w.cell? ⟨b, off + j, none⟩ = some (.slice A' n c) ∧ n = (xss.getD j []).length ∧ IS w B A' (xss.getD j [])

section
variable {w w' : World} {B B' C : Nat} {A : Option Addr} {xss : List (List Int)}
theorem SS.keep (h : SS w B A xss) (hk : ∀ p : Addr, p.block < B → w'.cell? p = w.cell? p) : SS w' B A xss := by
  intro hn
  obtain ⟨b, off, e, hb, hc⟩ := h hn
  refine ⟨b, off, e, hb, fun j hj => ?_⟩
  obtain ⟨A', n, c, h1, h2, h3⟩ := hc j hj
  exact ⟨A', n, c, (hk _ hb).trans h1, h2, h3.keep hk⟩
theorem SS.more (h : SS w B A xss) (hB : B ≤ B') : SS w B' A xss := by
  intro hn
  obtain ⟨b, off, e, hb, hc⟩ := h hn
  refine ⟨b, off, e, by omega, fun j hj => ?_⟩
  obtain ⟨A', n, c, h1, h2, h3⟩ := hc j hj
  exact ⟨A', n, c, h1, h2, h3.more hB⟩
theorem SS.below (h : SS w B A xss) (hb : Below C w w') (hC : B ≤ C) : SS w' B A xss := h.keep fun _ hp => hb.cell (Nat.lt_of_lt_of_le hp hC)
theorem SS.alloc (h : SS w B A xss) (hB : B ≤ w.heap.size) (o : Obj) : SS (w.alloc o) B A xss := h.keep fun p hp => World.cell?_alloc_lt w o p (by omega)
theorem SS.nil (w : World) (B : Nat) (A : Option Addr) : SS w B A [] := fun h => absurd h (by simp)
end
theorem SS.step {A : Option Addr} {xss : List (List Int)} {wk wl : World} (h : SS wk wk.heap.size A xss) (hb : Below wk.heap.size wk wl) : SS wl wl.heap.size A xss := (h.below hb (Nat.le_refl _)).more hb.size
theorem SS.loc (B : Nat) (A : Option Addr) (xss : List (List Int)) : Loc 0 B fun w => SS w B A xss :=
  fun w w' h hk => h.keep fun p hp => World.cell?_of_block (hk p.block (Nat.zero_le _) hp)

/-- No more lists, and no longer ones, than a million. -/
def SB (xss : List (List Int)) : Prop := xss.length ≤ 1048576 ∧ ∀ j, (xss.getD j []).length ≤ 1048576

/-- The rows vs lie in blocks of their own and have contents cont. -/
structure SSk (lo hi : Nat) (vs : List Value) (lens : Nat → Nat) (cont : Nat → List Value) (w : World) : Prop where
  row : ∀ j, j < vs.length → ∃ A m c, vs[j]? = some (.slice A m c) ∧ m = lens j ∧ OwR lo hi 3 1 (.slice A m c) m (cont j) w
  apart : ∀ (i j : Nat) (v u : Value) (k : Nat), i ≠ j → vs[i]? = some v → vs[j]? = some u → v.ownBlock = some k → u.ownBlock ≠ some k

theorem SSk.keep {lo hi : Nat} {vs : List Value} {lens : Nat → Nat} {cont : Nat → List Value} {w w' : World} (h : SSk lo hi vs lens cont w) (hk : ∀ k, lo ≤ k → k < hi → w'.heap[k]? = w.heap[k]?) : SSk lo hi vs lens cont w' :=
  ⟨fun j hj => by obtain ⟨A, m, c, h1, h2, h3⟩ := h.row j hj; exact ⟨A, m, c, h1, h2, h3.keep hk⟩, h.apart⟩
theorem SSk.mono {lo hi lo' hi' : Nat} {vs : List Value} {lens : Nat → Nat} {cont : Nat → List Value} {w : World} (h : SSk lo hi vs lens cont w) (h1 : lo' ≤ lo) (h2 : hi ≤ hi') : SSk lo' hi' vs lens cont w :=
  ⟨fun j hj => by obtain ⟨A, m, c, e1, e2, e3⟩ := h.row j hj; exact ⟨A, m, c, e1, e2, e3.mono h1 h2⟩, h.apart⟩
/-- A row of another kind was written to. -/
theorem SSk.grown {lo hi : Nat} {vs : List Value} {lens : Nat → Nat} {cont : Nat → List Value} {w w' : World} {row : Option Nat} (h : SSk lo hi vs lens cont w) (hg : w.grownBy w' row) (hr : ∀ (j : Nat) (v : Value), vs[j]? = some v → v.ownBlock = none ∨ v.ownBlock ≠ row) : SSk lo hi vs lens cont w' :=
  ⟨fun j hj => by obtain ⟨A, m, c, h1, h2, h3⟩ := h.row j hj; exact ⟨A, m, c, h1, h2, h3.1.kept hg (hr j _ h1), h3.2⟩, h.apart⟩
theorem SSk.ne {lo hi lo' : Nat} {vs : List Value} {lens : Nat → Nat} {cont : Nat → List Value} {w : World} {e : TypeId} {size n : Nat} {u : Value} {xs : List Value} (h : SSk lo hi vs lens cont w) (hu : w.ownsRow lo' e size u n xs) (he : (3 : TypeId) ≠ e) : ∀ (j : Nat) (v : Value), vs[j]? = some v → v.ownBlock = none ∨ v.ownBlock ≠ u.ownBlock := by
  intro j v hv
  have hj : j < vs.length := by
    rcases Nat.lt_or_ge j vs.length with h1 | h1
    · exact h1
    · rw [List.getElem?_eq_none h1] at hv; cases hv
  obtain ⟨A, m, c, h1, h2, h3⟩ := h.row j hj
  rw [h1] at hv
  cases hv
  exact blocks_ne h3.1 hu he
theorem SSk.lt {lo hi : Nat} {vs : List Value} {lens : Nat → Nat} {cont : Nat → List Value} {w : World} (h : SSk lo hi vs lens cont w) : ∀ (j : Nat) (v : Value) (k : Nat), vs[j]? = some v → v.ownBlock = some k → lo ≤ k ∧ k < hi := by
  intro j v k hv hk
  have hj : j < vs.length := by
    rcases Nat.lt_or_ge j vs.length with h1 | h1
    · exact h1
    · rw [List.getElem?_eq_none h1] at hv; cases hv
  obtain ⟨A, m, c, h1, h2, h3⟩ := h.row j hj
  rw [h1] at hv
  cases hv
  exact ⟨(h3.1.lt k hk).1, h3.2 k hk⟩
/-- One row more, or another one in its place: it lies in new blocks. -/
theorem SSk.put {lo hi hi' : Nat} {vs vs' : List Value} {lens lens' : Nat → Nat} {cont cont' : Nat → List Value} {w : World} {A : Option Addr} {m c : Nat} (h : SSk lo hi vs lens cont w) (k : Nat) (hk : vs'[k]? = some (.slice A m c)) (hl : ∀ j, j ≠ k → vs'[j]? = vs[j]?)
    (hlen : ∀ j, j < vs'.length → j ≠ k → j < vs.length) (hm : m = lens' k) (hc : ∀ j, j ≠ k → lens' j = lens j ∧ cont' j = cont j) (hr : OwR hi hi' 3 1 (.slice A m c) m (cont' k) w) (h1 : lo ≤ hi) (h2 : hi ≤ hi') : SSk lo hi' vs' lens' cont' w := by
  refine ⟨fun j hj => ?_, fun i j v u q hij hi' hj' hv hu => ?_⟩
  · by_cases e : j = k
    · subst e
      exact ⟨A, m, c, hk, hm, hr.mono h1 (Nat.le_refl _)⟩
    · obtain ⟨A', m', c', e1, e2, e3⟩ := h.row j (hlen j hj e)
      obtain ⟨e4, e5⟩ := hc j e
      exact ⟨A', m', c', by rw [hl j e]; exact e1, by rw [e4]; exact e2, by rw [e5]; exact e3.mono (Nat.le_refl _) h2⟩
  · by_cases e : i = k
    · subst e
      rw [hk] at hi'
      cases hi'
      have a1 := (hr.1.lt q hv).1
      rw [hl j (fun e => hij e.symm)] at hj'
      have a2 := (h.lt j u q hj' hu).2
      omega
    · by_cases e' : j = k
      · subst e'
        rw [hk] at hj'
        cases hj'
        have a1 := (hr.1.lt q hu).1
        rw [hl i e] at hi'
        have a2 := (h.lt i v q hi' hv).2
        omega
      · rw [hl i e] at hi'
        rw [hl j e'] at hj'
        exact h.apart i j v u q hij hi' hj' hv hu

def lenOf (xss : List (List Int)) (j : Nat) : Nat := (xss.getD j []).length
def rowOf (xss : List (List Int)) (j : Nat) : List Value := (xss.getD j []).map (Value.int .i64)
def offOf (xss : List (List Int)) (j : Nat) : Nat := ((xss.take j).map List.length).sum

theorem offOf_succ (xss : List (List Int)) (j : Nat) (h : j < xss.length) : offOf xss (j + 1) = offOf xss j + lenOf xss j := by
  unfold offOf lenOf
  rw [List.take_succ_eq_append_getElem h, List.map_append, List.sum_append]
  simp [List.getD, h]
theorem offOf_all (xss : List (List Int)) : offOf xss xss.length = (xss.map List.length).sum := by unfold offOf; rw [List.take_of_length_le (Nat.le_refl _)]
theorem offOf_le (xss : List (List Int)) (j : Nat) : offOf xss j ≤ (xss.map List.length).sum := by
  have : (xss.map List.length).sum = offOf xss j + ((xss.drop j).map List.length).sum := by
    unfold offOf
    rw [← List.sum_append, ← List.map_append, List.take_append_drop]
  omega

/-- Lists of numbers of the call's own. -/
def OwSS (lo hi : Nat) (v : Value) (n : Nat) (xss : List (List Int)) (w : World) : Prop :=
  n = xss.length ∧ ∃ vs, OwR lo hi 25 1 v n vs w ∧ SSk lo hi vs (lenOf xss) (rowOf xss) w
/-- The same, marked from k on. -/
def MkSS (lo hi : Nat) (v : Value) (n : Nat) (xss : List (List Int)) (k : Int) (w : World) : Prop :=
  n = xss.length ∧ ∃ vs, OwR lo hi 25 1 v n vs w ∧ SSk lo hi vs (lenOf xss) (fun j => mks (k + offOf xss j) (lenOf xss j)) w

theorem OwSS.loc (lo hi : Nat) (v : Value) (n : Nat) (xss : List (List Int)) : Loc lo hi (OwSS lo hi v n xss) := by
  rintro w w' ⟨h0, vs, h1, h2⟩ hk
  exact ⟨h0, vs, h1.keep hk, h2.keep hk⟩
theorem MkSS.loc (lo hi : Nat) (v : Value) (n : Nat) (xss : List (List Int)) (k : Int) : Loc lo hi (MkSS lo hi v n xss k) := by
  rintro w w' ⟨h0, vs, h1, h2⟩ hk
  exact ⟨h0, vs, h1.keep hk, h2.keep hk⟩
theorem OwSS.mono {lo hi lo' hi' n : Nat} {v : Value} {xss : List (List Int)} {w : World} (h : OwSS lo hi v n xss w) (h1 : lo' ≤ lo) (h2 : hi ≤ hi') : OwSS lo' hi' v n xss w := by
  obtain ⟨h0, vs, e1, e2⟩ := h
  exact ⟨h0, vs, e1.mono h1 h2, e2.mono h1 h2⟩
theorem OwSS.form {lo hi n : Nat} {v : Value} {xss : List (List Int)} {w : World} (h : OwSS lo hi v n xss w) : ∃ A c, v = .slice A n c := by
  obtain ⟨_, xs, h1, _⟩ := h
  exact own_form h1.1
theorem OwSS.lists {lo hi n c : Nat} {A : Option Addr} {xss : List (List Int)} {w : World} (h : OwSS lo hi (.slice A n c) n xss w) : SS w hi A xss := by
  obtain ⟨h0, vs, h1, h2⟩ := h
  intro hn
  rcases h1.1.2 with ⟨_, hz⟩ | ⟨g, cap, cur, hv, _⟩
  · omega
  · have hg := h1.2 g (by rw [hv]; rfl)
    simp only [Value.slice.injEq] at hv
    obtain ⟨rfl, _, rfl⟩ := hv
    have hvl : vs.length = n := by have := h1.1.1; omega
    refine ⟨g, 0, rfl, hg, fun j hj => ?_⟩
    obtain ⟨A', m, c', e1, e2, e3⟩ := h2.row j (by omega)
    refine ⟨A', m, c', ?_, e2, e3.ints⟩
    rw [Nat.zero_add, h1.1.cellAt _ (by omega)]; exact e1
theorem lists_start {lo n : Nat} {v : Value} {xss : List (List Int)} {w : World} (h : OwSS lo w.heap.size v n xss w) : As lo w.heap.size (OwSS lo w.heap.size v n xss) w := ⟨h, Nat.le_refl _, OwSS.loc _ _ _ _ _⟩
theorem As.lists {lo hi n c : Nat} {A : Option Addr} {xss : List (List Int)} {w : World} (h : As lo hi (OwSS lo hi (.slice A n c) n xss) w) : SS w w.heap.size A xss := h.it.lists.more h.le

theorem ints_ne_int : (3 : TypeId) ≠ 25 := by decide

set_option maxRecDepth 100000 in
set_option maxHeartbeats 1600000 in
theorem laws_eqIntSS (A A' : Option Addr) (n n' c c' : Nat) (xss yss : List (List Int)) (w : World) (B : Nat) (hB : B ≤ w.heap.size) (hn : n = xss.length) (hn' : n' = yss.length) (h : SS w B A xss) (h' : SS w B A' yss) (hb1 : SB xss) (hb2 : SB yss) :
    Calls Try.prog 70 #[.slice A n c, .slice A' n' c'] w fun e w' => e = .returned (.bool (decide (xss = yss))) ∧ Below w.heap.size w w' := by
  have hm1 : n ≤ 1048576 := by rw [hn]; exact hb1.1
  have hm2 : n' ≤ 1048576 := by rw [hn']; exact hb2.1
  by_cases hl : n = n'
  · have hne : ((n : Int) != (n' : Int)) = false := by simp [hl]
    have HL := Lib.hid hl
    have HN := Lib.hid hn
    have HN' := Lib.hid hn'
    have H := Lib.hid h
    have H' := Lib.hid h'
    have HB1 := Lib.hid hb1
    have HB2 := Lib.hid hb2
    clear hl hn hn' h h' hb1 hb2
    go_enter Try.func70, Try.ntmps70
    go_wp2
    go_loopw [5] (fun i wr => ∃ k : Nat, k ≤ n ∧ i = .int .i64 k ∧ Hid (xss.take k = yss.take k) ∧ Below w.heap.size w wr) (fun i _ => n - (intOf i).toNat)
    case atStart => exact ⟨0, Nat.zero_le _, rfl, by simp [Hid], Below.refl _ _⟩
    case round =>
      obtain ⟨k, hk, rfl, HT, hb⟩ := hrel
      by_cases hlt : k < n
      · obtain ⟨b, off, rfl, hbB, hc⟩ := H.out (by have := HN.out; omega)
        obtain ⟨b', off', rfl, hbB', hc'⟩ := H'.out (by have := HN'.out; have := HL.out; omega)
        obtain ⟨A1, n1, c1, c2, hn1', hps⟩ := hc k (by have := HN.out; omega)
        obtain ⟨A2, n2, d1, d2, hn2', hqs⟩ := hc' k (by have := HN'.out; have := HL.out; omega)
        have hx1 := HB1.out.2 k
        have hx2 := HB2.out.2 k
        clear hc hc' H H'
        have hlt' : k < n' := by have := HL.out; omega
        have b1 := (hb.cell (p := ⟨b, off + k, none⟩) (by simp; omega)).trans c2
        have e1 := (hb.cell (p := ⟨b', off' + k, none⟩) (by simp; omega)).trans d2
        have HPS := Lib.hid (hps.below hb hB)
        have HQS := Lib.hid (hqs.below hb hB)
        clear c2 d2 hps hqs
        have hpd : xss.getD k [] = xss.getD k default := rfl
        have hqd : yss.getD k [] = yss.getD k default := rfl
        rw [hpd] at *
        rw [hqd] at *
        clear hpd hqd
        generalize hp : xss.getD k default = p at *
        generalize hq : yss.getD k default = q at *
        have HP := Lib.hid hp
        have HQ := Lib.hid hq
        have HN1 := Lib.hid hn1'
        have HN2 := Lib.hid hn2'
        have hy1 : n1 ≤ 2000000 := by omega
        have hy2 : n2 ≤ 2000000 := by omega
        have HEQ := Lib.hid fun (w' : World) (hB : B ≤ w'.heap.size) (h : IS w' B A1 p) (h' : IS w' B A2 q) => laws_eqIntS A1 A2 n1 n2 c1 d1 p q w' B hB HN1.out HN2.out h h' hy1 hy2
        obtain ⟨r, hr⟩ : ∃ r : Bool, r = decide (p = q) := ⟨_, rfl⟩
        rw [← hr] at HEQ
        have HR := Lib.hid hr
        clear hp hq hn1' hn2' hx1 hx2 hr
        go_wp2
        go_still_tail 8, (by kernel_rfl)
        go_wp2_with fail
        refine (HEQ.out wr.drew (Nat.le_trans hB hb.size) HPS.out HQS.out).mono ?_
        rintro e w1 ⟨rfl, hb1⟩
        cases r
        · go_wp2
          go_ret
          refine ⟨ret_b ?_, hb.drew.trans (hb1.mono hb.size)⟩
          have hne : xss.getD k default ≠ yss.getD k default := by
            rw [HP.out, HQ.out]; exact of_decide_eq_false HR.out.symm
          simp [getD_ne xss yss k hne]
        · have he : xss.getD k default = yss.getD k default := by
            rw [HP.out, HQ.out]; exact of_decide_eq_true HR.out.symm
          have hts := take_step xss yss k (by have := HN.out; omega) (by have := HN'.out; omega) HT.out he
          have HTS := Lib.hid hts
          clear he hts
          go_wp2
          go_roundw
          case rel => exact ⟨k + 1, by omega, by go_num, HTS.out, hb.drew.trans (hb1.mono hb.size)⟩
          case measure => simp [intOf]; omega
      · go_wp2
        go_ret
        refine ⟨ret_b ?_, hb⟩
        have hkn : k = n := by omega
        have := take_all_eq xss yss n HN.out (HL.out.trans HN'.out) (by rw [← hkn]; exact HT.out)
        simp [this]
  · have hne : ((n : Int) != (n' : Int)) = true := by simp; omega
    have hf : decide (xss = yss) = false := by
      rw [decide_eq_false_iff_not]; rintro rfl; omega
    rw [hf]
    clear hl hn hn' h h' hf hb1 hb2
    go_enter Try.func70, Try.ntmps70
    go_wp2
    go_ret
    exact ⟨rfl, Below.refl _ _⟩

theorem SSk.mark {lo hi : Nat} {vs : List Value} {xss : List (List Int)} {k : Int} {w w' : World} {e : Ending} {A : Option Addr} {m c J : Nat} (h : SSk lo hi vs (lenOf xss) (fun j => if j < J then mks (k + offOf xss j) (lenOf xss j) else rowOf xss j) w) (hJ : vs[J]? = some (.slice A m c)) (hml : m = lenOf xss J)
    (hm : Marked w lo 3 1 (.slice A m c) m (k + offOf xss J) e w') : SSk lo hi vs (lenOf xss) (fun j => if j < J + 1 then mks (k + offOf xss j) (lenOf xss j) else rowOf xss j) w' := by
  refine ⟨fun j hj => ?_, h.apart⟩
  obtain ⟨A', m', c', e1, e2, e3⟩ := h.row j hj
  by_cases ej : j = J
  · subst ej
    rw [hJ] at e1
    cases e1
    refine ⟨A, m, c, hJ, hml, ?_, e3.2⟩
    rw [if_pos (by omega), ← hml]
    have := hm.2.1
    rwa [Nat.mul_one] at this
  · refine ⟨A', m', c', e1, e2, ?_, e3.2⟩
    have hne : (Value.slice A' m' c').ownBlock = none ∨ (Value.slice A' m' c').ownBlock ≠ (Value.slice A m c).ownBlock := by
      cases hb : (Value.slice A' m' c').ownBlock with
      | none => exact .inl rfl
      | some q => exact .inr fun e => h.apart j J _ _ q ej e1 hJ hb e.symm
    have := e3.1.kept hm.2.2 hne
    have hif : (if j < J + 1 then mks (k + offOf xss j) (lenOf xss j) else rowOf xss j) = (if j < J then mks (k + offOf xss j) (lenOf xss j) else rowOf xss j) := by
      by_cases h1 : j < J
      · rw [if_pos (by omega), if_pos h1]
      · rw [if_neg (by omega), if_neg h1]
    rw [hif]
    exact this

set_option maxRecDepth 100000 in
set_option maxHeartbeats 1600000 in
theorem laws_markIntSS (lo hi n : Nat) (v : Value) (xss : List (List Int)) (k : Int) (w : World) (h : OwSS lo hi v n xss w) (hsb : SB xss) (htot : (xss.map List.length).sum ≤ 1048576) (hhi : hi ≤ w.heap.size) (hk : 0 ≤ k) (hk' : k ≤ 562949953421312) :
    Calls Try.prog 77 #[v, .int .i64 k] w fun e w' => MkS lo hi (MkSS lo hi v n xss k) w (k + ((xss.map List.length).sum : Nat)) e w' := by
  obtain ⟨hn, vs, hrow, hin⟩ := h
  have hnb : n ≤ 1048576 := by rw [hn]; exact hsb.1
  have hvl : vs.length = n := by have := hrow.1.1; omega
  have hin0 : SSk lo hi vs (lenOf xss) (fun j => if j < 0 then mks (k + offOf xss j) (lenOf xss j) else rowOf xss j) w := by simpa using hin
  have HN := Lib.hid hn
  have HVL := Lib.hid hvl
  have HIN := Lib.hid hin0
  have HSB := Lib.hid hsb
  rcases hrow.1.2 with ⟨hv, hz⟩ | ⟨g, cap, cur, hv, hbg, hgh, hrest⟩
  · subst hv
    subst hz
    have hx : xss = [] := List.eq_nil_of_length_eq_zero hn.symm
    subst hx
    have HROW := Lib.hid hrow
    clear hrow hin hin0 hn hvl
    go_enter Try.func77, Try.ntmps77
    go_wp2
    go_loopw [5, 1] (fun i u wr => i = .int .i64 0 ∧ u = .int .i64 k ∧ wr = w) (fun i _ _ => 0)
    case atStart => exact ⟨rfl, rfl, rfl⟩
    case round =>
      obtain ⟨rfl, rfl, rfl⟩ := hrel
      go_wp2
      go_ret
      exact ⟨by simp, ⟨⟨rfl, vs, HROW.out, ⟨fun j hj => by have := HVL.out; omega, HIN.out.apart⟩⟩, hhi, MkSS.loc _ _ _ _ _ _⟩, Tch.refl _ _ _⟩
  · subst hv
    have hglo : lo ≤ g := hbg
    have hghi : g < hi := hrow.2 g rfl
    have HROW := Lib.hid hrow
    clear hrow hin hin0 hn hvl hgh hrest hsb hbg
    go_enter Try.func77, Try.ntmps77
    go_wp2
    go_loopw [5, 1] (fun i u wr => ∃ j : Nat, j ≤ n ∧ i = .int .i64 j ∧ u = .int .i64 (k + offOf xss j) ∧ Hid (OwR lo hi 25 1 (.slice (some ⟨g, 0, none⟩) n cap) n vs wr) ∧ Hid (SSk lo hi vs (lenOf xss) (fun i => if i < j then mks (k + offOf xss i) (lenOf xss i) else rowOf xss i) wr) ∧ Hid (Tch lo hi w wr)) (fun i _ _ => n - (intOf i).toNat)
    case atStart => exact ⟨0, by omega, rfl, by simp [offOf], HROW.out, HIN.out, Tch.refl _ _ _⟩
    case round =>
      obtain ⟨j, hj, rfl, rfl, HR, HS, HT⟩ := hrel
      by_cases hlt : j < n
      · obtain ⟨A, m, c, e1, e2, e3⟩ := HS.out.row j (by have := HVL.out; omega)
        have u0 := (HR.out.1.cellAt j (by omega)).trans e1
        have hmb : m ≤ 1048576 := by rw [e2]; exact HSB.out.2 j
        have hoff := offOf_succ xss j (by have := HN.out; omega)
        have hol := offOf_le xss j
        rw [← e2] at hoff
        have E1 := Lib.hid e1
        have E2 := Lib.hid e2
        have E3 := Lib.hid e3.1
        have HO := Lib.hid hoff
        obtain ⟨o, ho⟩ : ∃ o : Nat, o = offOf xss j := ⟨_, rfl⟩
        rw [← ho] at hol
        have hob : (o : Int) ≤ 1048576 := by omega
        have HOO := Lib.hid ho
        rw [← ho]
        clear e1 e2 e3 hoff ho hol
        go_wp2_with fail
        refine (laws_markIntS lo m _ _ (k + o) _ E3.out (by omega) (by omega) (by omega)).mono ?_
        rintro e w1 hm
        rw [HOO.out] at hm
        have he := hm.1
        have HS2 := Lib.hid (HS.out.mark E1.out E2.out hm)
        have HR2 : Hid (OwR lo hi 25 1 (.slice (some ⟨g, 0, none⟩) n cap) n vs w1) := ⟨HR.out.1.kept hm.2.2 (blocks_ne HR.out.1 E3.out ints_ne_int.symm), HR.out.2⟩
        have hlt3 := E3.out.lt
        have hr3 := (HS.out.lt j _ · E1.out)
        have HT2 : Hid (Tch lo hi w w1) := HT.out.trans (Tch.of_grown hm.2.2 fun q hq => hr3 q hq)
        have hen : k + (offOf xss j : Int) + ((m * 1 : Nat) : Int) = k + (offOf xss (j + 1) : Nat) := by rw [HO.out]; omega
        rw [hen] at he
        subst he
        clear hm hlt3 hr3 hen
        obtain ⟨o2, ho2⟩ : ∃ o2 : Nat, o2 = offOf xss (j + 1) := ⟨_, rfl⟩
        have HO2 := Lib.hid ho2
        rw [← ho2]
        clear ho2
        go_wp2
        go_roundw
        case rel => exact ⟨j + 1, by omega, by go_num, by rw [HO2.out], HR2.out, HS2.out, HT2.out⟩
        case measure => simp [intOf]; omega
      · obtain rfl : j = n := by omega
        obtain ⟨o, ho⟩ : ∃ o : Nat, o = offOf xss j := ⟨_, rfl⟩
        have HOO := Lib.hid ho
        rw [← ho]
        clear ho
        go_wp2
        go_ret
        refine ⟨?_, ⟨⟨HN.out, vs, HR.out, ?_⟩, Nat.le_trans hhi HT.out.size, MkSS.loc _ _ _ _ _ _⟩, HT.out⟩
        · have hnn := HN.out
          have hoo := HOO.out
          rw [hnn, offOf_all] at hoo
          simp [← hoo]
        · refine ⟨fun i hi => ?_, HS.out.apart⟩
          obtain ⟨A, m, c, e1, e2, e3⟩ := HS.out.row i hi
          rw [if_pos (by have := HVL.out; omega)] at e3
          exact ⟨A, m, c, e1, e2, e3⟩

set_option maxRecDepth 100000 in
set_option maxHeartbeats 1600000 in
theorem laws_heldIntSS (lo hi n : Nat) (v : Value) (xss : List (List Int)) (k : Int) (w : World) (h : MkSS lo hi v n xss k w) (hsb : SB xss) (htot : (xss.map List.length).sum ≤ 1048576) (hk : 0 ≤ k) (hk' : k ≤ 562949953421312) :
    Calls Try.prog 78 #[v, .int .i64 k] w fun e w' => e = .returned (.int .i64 (k + ((xss.map List.length).sum : Nat))) ∧ Below w.heap.size w w' := by
  obtain ⟨hn, vs, hrow, hin⟩ := h
  have hnb : n ≤ 1048576 := by rw [hn]; exact hsb.1
  have hvl : vs.length = n := by have := hrow.1.1; omega
  have HN := Lib.hid hn
  have HVL := Lib.hid hvl
  have HIN := Lib.hid hin
  have HSB := Lib.hid hsb
  rcases hrow.1.2 with ⟨hv, hz⟩ | ⟨g, cap, cur, hv, hbg, hgh, hrest⟩
  · subst hv
    subst hz
    have hx : xss = [] := List.eq_nil_of_length_eq_zero hn.symm
    subst hx
    clear hrow hin hn hvl
    go_enter Try.func78, Try.ntmps78
    go_wp2
    go_loopw [5, 1] (fun i u wr => i = .int .i64 0 ∧ u = .int .i64 k ∧ wr = w) (fun i _ _ => 0)
    case atStart => exact ⟨rfl, rfl, rfl⟩
    case round =>
      obtain ⟨rfl, rfl, rfl⟩ := hrel
      go_wp2
      go_ret
      exact ⟨by simp, Below.refl _ _⟩
  · subst hv
    have HROW := Lib.hid hrow
    clear hrow hin hn hvl hgh hrest hsb hbg
    go_enter Try.func78, Try.ntmps78
    go_wp2
    go_loopw [5, 1] (fun i u wr => ∃ j : Nat, j ≤ n ∧ i = .int .i64 j ∧ u = .int .i64 (k + offOf xss j) ∧ Below w.heap.size w wr) (fun i _ _ => n - (intOf i).toNat)
    case atStart => exact ⟨0, by omega, rfl, by simp [offOf], Below.refl _ _⟩
    case round =>
      obtain ⟨j, hj, rfl, rfl, hb⟩ := hrel
      by_cases hlt : j < n
      · obtain ⟨A, m, c, e1, e2, e3⟩ := HIN.out.row j (by have := HVL.out; omega)
        have u0 := ((own_below HROW.out.1 hb).cellAt j (by omega)).trans e1
        have hmb : m ≤ 1048576 := by rw [e2]; exact HSB.out.2 j
        have hoff := offOf_succ xss j (by have := HN.out; omega)
        have hol := offOf_le xss j
        rw [← e2] at hoff e3
        have E3 := Lib.hid (own_below e3.1 hb)
        have HO := Lib.hid hoff
        obtain ⟨o, ho⟩ : ∃ o : Nat, o = offOf xss j := ⟨_, rfl⟩
        rw [← ho] at hol E3 HO
        have hob : (o : Int) ≤ 1048576 := by omega
        rw [← ho]
        clear e1 e2 e3 hoff ho hol
        go_wp2_with fail
        refine (laws_heldIntS lo m _ (k + o) _ E3.out (by omega) (by omega) (by omega)).mono ?_
        rintro e w1 ⟨rfl, hb1⟩
        have hen : k + (o : Int) + (m : Int) = k + (offOf xss (j + 1) : Nat) := by rw [HO.out]; omega
        rw [hen]
        obtain ⟨o2, ho2⟩ : ∃ o2 : Nat, o2 = offOf xss (j + 1) := ⟨_, rfl⟩
        have HO2 := Lib.hid ho2
        rw [← ho2]
        clear ho2 hen
        have hpos : 0 ≤ k + (o2 : Int) := by omega
        go_wp2
        go_roundw
        case rel => exact ⟨j + 1, by omega, by go_num, by rw [HO2.out], hb.trans (hb1.mono hb.size)⟩
        case measure => simp [intOf]; omega
      · obtain rfl : j = n := by omega
        obtain ⟨o, ho⟩ : ∃ o : Nat, o = offOf xss j := ⟨_, rfl⟩
        have HOO := Lib.hid ho
        rw [← ho]
        clear ho
        go_wp2
        go_ret
        have hnn := HN.out
        have hoo := HOO.out
        rw [hnn, offOf_all] at hoo
        exact ⟨by simp [← hoo], hb⟩

/-- Returns lists of numbers in fresh blocks. -/
def RetSS (w : World) (xss : List (List Int)) (e : Ending) (w' : World) : Prop := ∃ v, e = .returned v ∧ OwSS w.heap.size w'.heap.size v xss.length xss w' ∧ Below w.heap.size w w'
theorem OwSS.nil (lo hi : Nat) (w : World) : OwSS lo hi (.slice none 0 0) 0 [] w := ⟨rfl, [], OwR.nil _ _ _ _ _, ⟨fun j hj => by simp at hj, fun i j v u k _ h => by simp at h⟩⟩
theorem RetSS.nil {w w' : World} (hb : Below w.heap.size w w') : RetSS w [] (.returned (.slice none 0 0)) w' := ⟨_, rfl, OwSS.nil _ _ _, hb⟩

theorem mark_lists (lo hi n : Nat) (v : Value) (xss : List (List Int)) (k : Int) (w : World) (h : As lo hi (OwSS lo hi v n xss) w) (hsb : SB xss) (htot : (xss.map List.length).sum ≤ 1048576) (hk : 0 ≤ k) (hk' : k ≤ 562949953421312) :
    Calls Try.prog 77 #[v, .int .i64 k] w fun e w' => MkS lo hi (MkSS lo hi v n xss k) w (k + ((xss.map List.length).sum : Nat)) e w' :=
  laws_markIntSS lo hi n v xss k w h.it hsb htot h.le hk hk'
theorem held_lists (lo hi n : Nat) (v : Value) (xss : List (List Int)) (k : Int) (w : World) (h : As lo hi (MkSS lo hi v n xss k) w) (hsb : SB xss) (htot : (xss.map List.length).sum ≤ 1048576) (hk : 0 ≤ k) (hk' : k ≤ 562949953421312) :
    Calls Try.prog 78 #[v, .int .i64 k] w fun e w' => e = .returned (.int .i64 (k + ((xss.map List.length).sum : Nat))) ∧ Below w.heap.size w w' :=
  laws_heldIntSS lo hi n v xss k w h.it hsb htot hk hk'
end Go.Proofs.Ythephbppeiealaa
