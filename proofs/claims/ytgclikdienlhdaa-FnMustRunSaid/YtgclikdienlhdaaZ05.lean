/- Texts put together: H1 T9 E1 E2 M6 T12 T5 T11a T11b T11. -/
import Derived.Test.YtgclikdienlhdaaZ04
import Derived.StillTailTactics
import Derived.Deep.RegionHeld3
import Derived.Deep.AppendLies
import Derived.RegionTactic
import Derived.BigQuiet
/- Words for lists of lists of numbers: as they read, of the call's own, marked; comparisons and marks. -/
namespace Go.Proofs.Ytgclikdienlhdaa
set_option linter.unusedSimpArgs false
set_option linter.unusedVariables false
open Go.RowKit

/-- The slice at A reads as the lists xss; all of it lies below block B. -/
def SS (w : World) (B : Nat) (A : Option Addr) (xss : List (List Int)) : Prop :=
  0 < xss.length → ∃ b off, A = some ⟨b, off, none⟩ ∧ b < B ∧ ∀ j, j < xss.length → ∃ A' n c, w.cell? ⟨b, off + j, none⟩ = some (.slice A' n c) ∧ n = (xss.getD j []).length ∧ IS w B A' (xss.getD j [])

section
variable {w w' : World} {B B' C : Nat} {A : Option Addr} {xss : List (List Int)}
theorem SS.keep (h : SS w B A xss) (hk : ∀ p : Addr, p.block < B → w'.cell? p = w.cell? p) : SS w' B A xss := by
  intro hn
  obtain ⟨b, off, e, hb, hc⟩ := h hn
  refine ⟨b, off, e, hb, fun j hj => ?_⟩
  obtain ⟨A', n, c, h1, h2, h3⟩ := hc j hj
  exact ⟨A', n, c, (hk _ hb).trans h1, h2, h3.keep hk⟩
theorem SS.more (h : SS w B A xss) (hB : B ≤ B') : SS w B' A xss := by
  intro hn
  obtain ⟨b, off, e, hb, hc⟩ := h hn
  refine ⟨b, off, e, by omega, fun j hj => ?_⟩
  obtain ⟨A', n, c, h1, h2, h3⟩ := hc j hj
  exact ⟨A', n, c, h1, h2, h3.more hB⟩
theorem SS.below (h : SS w B A xss) (hb : Below C w w') (hC : B ≤ C) : SS w' B A xss := h.keep fun _ hp => hb.cell (Nat.lt_of_lt_of_le hp hC)
theorem SS.alloc (h : SS w B A xss) (hB : B ≤ w.heap.size) (o : Obj) : SS (w.alloc o) B A xss := h.keep fun p hp => World.cell?_alloc_lt w o p (by omega)
theorem SS.nil (w : World) (B : Nat) (A : Option Addr) : SS w B A [] := fun h => absurd h (by simp)
end
theorem SS.step {A : Option Addr} {xss : List (List Int)} {wk wl : World} (h : SS wk wk.heap.size A xss) (hb : Below wk.heap.size wk wl) : SS wl wl.heap.size A xss := (h.below hb (Nat.le_refl _)).more hb.size
theorem SS.loc (B : Nat) (A : Option Addr) (xss : List (List Int)) : Loc 0 B fun w => SS w B A xss :=
  fun w w' h hk => h.keep fun p hp => World.cell?_of_block (hk p.block (Nat.zero_le _) hp)

/-- No more lists, and no longer ones, than a million. -/
def SB (xss : List (List Int)) : Prop := xss.length ≤ 1048576 ∧ ∀ j, (xss.getD j []).length ≤ 1048576

/-- The rows vs lie in blocks of their own and have contents cont. -/
structure SSk (lo hi : Nat) (vs : List Value) (lens : Nat → Nat) (cont : Nat → List Value) (w : World) : Prop where
  row : ∀ j, j < vs.length → ∃ A m c, vs[j]? = some (.slice A m c) ∧ m = lens j ∧ OwR lo hi 3 1 (.slice A m c) m (cont j) w
  apart : ∀ (i j : Nat) (v u : Value) (k : Nat), i ≠ j → vs[i]? = some v → vs[j]? = some u → v.ownBlock = some k → u.ownBlock ≠ some k

theorem SSk.keep {lo hi : Nat} {vs : List Value} {lens : Nat → Nat} {cont : Nat → List Value} {w w' : World} (h : SSk lo hi vs lens cont w) (hk : ∀ k, lo ≤ k → k < hi → w'.heap[k]? = w.heap[k]?) : SSk lo hi vs lens cont w' :=
  ⟨fun j hj => by obtain ⟨A, m, c, h1, h2, h3⟩ := h.row j hj; exact ⟨A, m, c, h1, h2, h3.keep hk⟩, h.apart⟩
theorem SSk.mono {lo hi lo' hi' : Nat} {vs : List Value} {lens : Nat → Nat} {cont : Nat → List Value} {w : World} (h : SSk lo hi vs lens cont w) (h1 : lo' ≤ lo) (h2 : hi ≤ hi') : SSk lo' hi' vs lens cont w :=
  ⟨fun j hj => by obtain ⟨A, m, c, e1, e2, e3⟩ := h.row j hj; exact ⟨A, m, c, e1, e2, e3.mono h1 h2⟩, h.apart⟩
/-- A row of another kind was written to. -/
theorem SSk.grown {lo hi : Nat} {vs : List Value} {lens : Nat → Nat} {cont : Nat → List Value} {w w' : World} {row : Option Nat} (h : SSk lo hi vs lens cont w) (hg : w.grownBy w' row) (hr : ∀ (j : Nat) (v : Value), vs[j]? = some v → v.ownBlock = none ∨ v.ownBlock ≠ row) : SSk lo hi vs lens cont w' :=
  ⟨fun j hj => by obtain ⟨A, m, c, h1, h2, h3⟩ := h.row j hj; exact ⟨A, m, c, h1, h2, h3.1.kept hg (hr j _ h1), h3.2⟩, h.apart⟩
theorem SSk.ne {lo hi lo' : Nat} {vs : List Value} {lens : Nat → Nat} {cont : Nat → List Value} {w : World} {e : TypeId} {size n : Nat} {u : Value} {xs : List Value} (h : SSk lo hi vs lens cont w) (hu : w.ownsRow lo' e size u n xs) (he : (3 : TypeId) ≠ e) : ∀ (j : Nat) (v : Value), vs[j]? = some v → v.ownBlock = none ∨ v.ownBlock ≠ u.ownBlock := by
  intro j v hv
  have hj : j < vs.length := by
    rcases Nat.lt_or_ge j vs.length with h1 | h1
    · exact h1
    · rw [List.getElem?_eq_none h1] at hv; cases hv
  obtain ⟨A, m, c, h1, h2, h3⟩ := h.row j hj
  rw [h1] at hv
  cases hv
  exact blocks_ne h3.1 hu he
theorem SSk.lt {lo hi : Nat} {vs : List Value} {lens : Nat → Nat} {cont : Nat → List Value} {w : World} (h : SSk lo hi vs lens cont w) : ∀ (j : Nat) (v : Value) (k : Nat), vs[j]? = some v → v.ownBlock = some k → lo ≤ k ∧ k < hi := by
  intro j v k hv hk
  have hj : j < vs.length := by
    rcases Nat.lt_or_ge j vs.length with h1 | h1
    · exact h1
    · rw [List.getElem?_eq_none h1] at hv; cases hv
  obtain ⟨A, m, c, h1, h2, h3⟩ := h.row j hj
  rw [h1] at hv
  cases hv
  exact ⟨(h3.1.lt k hk).1, h3.2 k hk⟩
/-- One row more, or another one in its place: it lies in new blocks. -/
theorem SSk.put {lo hi hi' : Nat} {vs vs' : List Value} {lens lens' : Nat → Nat} {cont cont' : Nat → List Value} {w : World} {A : Option Addr} {m c : Nat} (h : SSk lo hi vs lens cont w) (k : Nat) (hk : vs'[k]? = some (.slice A m c)) (hl : ∀ j, j ≠ k → vs'[j]? = vs[j]?)
    (hlen : ∀ j, j < vs'.length → j ≠ k → j < vs.length) (hm : m = lens' k) (hc : ∀ j, j ≠ k → lens' j = lens j ∧ cont' j = cont j) (hr : OwR hi hi' 3 1 (.slice A m c) m (cont' k) w) (h1 : lo ≤ hi) (h2 : hi ≤ hi') : SSk lo hi' vs' lens' cont' w := by
  refine ⟨fun j hj => ?_, fun i j v u q hij hi' hj' hv hu => ?_⟩
  · by_cases e : j = k
    · subst e
      exact ⟨A, m, c, hk, hm, hr.mono h1 (Nat.le_refl _)⟩
    · obtain ⟨A', m', c', e1, e2, e3⟩ := h.row j (hlen j hj e)
      obtain ⟨e4, e5⟩ := hc j e
      exact ⟨A', m', c', by rw [hl j e]; exact e1, by rw [e4]; exact e2, by rw [e5]; exact e3.mono (Nat.le_refl _) h2⟩
  · by_cases e : i = k
    · subst e
      rw [hk] at hi'
      cases hi'
      have a1 := (hr.1.lt q hv).1
      rw [hl j (fun e => hij e.symm)] at hj'
      have a2 := (h.lt j u q hj' hu).2
      omega
    · by_cases e' : j = k
      · subst e'
        rw [hk] at hj'
        cases hj'
        have a1 := (hr.1.lt q hu).1
        rw [hl i e] at hi'
        have a2 := (h.lt i v q hi' hv).2
        omega
      · rw [hl i e] at hi'
        rw [hl j e'] at hj'
        exact h.apart i j v u q hij hi' hj' hv hu

def lenOf (xss : List (List Int)) (j : Nat) : Nat := (xss.getD j []).length
def rowOf (xss : List (List Int)) (j : Nat) : List Value := (xss.getD j []).map (Value.int .i64)
def offOf (xss : List (List Int)) (j : Nat) : Nat := ((xss.take j).map List.length).sum

theorem offOf_succ (xss : List (List Int)) (j : Nat) (h : j < xss.length) : offOf xss (j + 1) = offOf xss j + lenOf xss j := by
  unfold offOf lenOf
  rw [List.take_succ_eq_append_getElem h, List.map_append, List.sum_append]
  simp [List.getD, h]
theorem offOf_all (xss : List (List Int)) : offOf xss xss.length = (xss.map List.length).sum := by unfold offOf; rw [List.take_of_length_le (Nat.le_refl _)]
theorem offOf_le (xss : List (List Int)) (j : Nat) : offOf xss j ≤ (xss.map List.length).sum := by
  have : (xss.map List.length).sum = offOf xss j + ((xss.drop j).map List.length).sum := by
    unfold offOf
    rw [← List.sum_append, ← List.map_append, List.take_append_drop]
  omega

/-- Lists of numbers of the call's own. -/
def OwSS (lo hi : Nat) (v : Value) (n : Nat) (xss : List (List Int)) (w : World) : Prop :=
  n = xss.length ∧ ∃ vs, OwR lo hi 26 1 v n vs w ∧ SSk lo hi vs (lenOf xss) (rowOf xss) w
/-- The same, marked from k on. -/
def MkSS (lo hi : Nat) (v : Value) (n : Nat) (xss : List (List Int)) (k : Int) (w : World) : Prop :=
  n = xss.length ∧ ∃ vs, OwR lo hi 26 1 v n vs w ∧ SSk lo hi vs (lenOf xss) (fun j => mks (k + offOf xss j) (lenOf xss j)) w

theorem OwSS.loc (lo hi : Nat) (v : Value) (n : Nat) (xss : List (List Int)) : Loc lo hi (OwSS lo hi v n xss) := by
  rintro w w' ⟨h0, vs, h1, h2⟩ hk
  exact ⟨h0, vs, h1.keep hk, h2.keep hk⟩
theorem MkSS.loc (lo hi : Nat) (v : Value) (n : Nat) (xss : List (List Int)) (k : Int) : Loc lo hi (MkSS lo hi v n xss k) := by
  rintro w w' ⟨h0, vs, h1, h2⟩ hk
  exact ⟨h0, vs, h1.keep hk, h2.keep hk⟩
theorem OwSS.mono {lo hi lo' hi' n : Nat} {v : Value} {xss : List (List Int)} {w : World} (h : OwSS lo hi v n xss w) (h1 : lo' ≤ lo) (h2 : hi ≤ hi') : OwSS lo' hi' v n xss w := by
  obtain ⟨h0, vs, e1, e2⟩ := h
  exact ⟨h0, vs, e1.mono h1 h2, e2.mono h1 h2⟩
theorem OwSS.form {lo hi n : Nat} {v : Value} {xss : List (List Int)} {w : World} (h : OwSS lo hi v n xss w) : ∃ A c, v = .slice A n c := by
  obtain ⟨_, xs, h1, _⟩ := h
  exact own_form h1.1
theorem OwSS.lists {lo hi n c : Nat} {A : Option Addr} {xss : List (List Int)} {w : World} (h : OwSS lo hi (.slice A n c) n xss w) : SS w hi A xss := by
  obtain ⟨h0, vs, h1, h2⟩ := h
  intro hn
  rcases h1.1.2 with ⟨_, hz⟩ | ⟨g, cap, cur, hv, _⟩
  · omega
  · have hg := h1.2 g (by rw [hv]; rfl)
    simp only [Value.slice.injEq] at hv
    obtain ⟨rfl, _, rfl⟩ := hv
    have hvl : vs.length = n := by have := h1.1.1; omega
    refine ⟨g, 0, rfl, hg, fun j hj => ?_⟩
    obtain ⟨A', m, c', e1, e2, e3⟩ := h2.row j (by omega)
    refine ⟨A', m, c', ?_, e2, e3.ints⟩
    rw [Nat.zero_add, h1.1.cellAt _ (by omega)]; exact e1
theorem lists_start {lo n : Nat} {v : Value} {xss : List (List Int)} {w : World} (h : OwSS lo w.heap.size v n xss w) : As lo w.heap.size (OwSS lo w.heap.size v n xss) w := ⟨h, Nat.le_refl _, OwSS.loc _ _ _ _ _⟩
theorem As.lists {lo hi n c : Nat} {A : Option Addr} {xss : List (List Int)} {w : World} (h : As lo hi (OwSS lo hi (.slice A n c) n xss) w) : SS w w.heap.size A xss := h.it.lists.more h.le

theorem ints_ne_int : (3 : TypeId) ≠ 26 := by decide

theorem SSk.mark {lo hi : Nat} {vs : List Value} {xss : List (List Int)} {k : Int} {w w' : World} {e : Ending} {A : Option Addr} {m c J : Nat} (h : SSk lo hi vs (lenOf xss) (fun j => if j < J then mks (k + offOf xss j) (lenOf xss j) else rowOf xss j) w) (hJ : vs[J]? = some (.slice A m c)) (hml : m = lenOf xss J)
    (hm : Marked w lo 3 1 (.slice A m c) m (k + offOf xss J) e w') : SSk lo hi vs (lenOf xss) (fun j => if j < J + 1 then mks (k + offOf xss j) (lenOf xss j) else rowOf xss j) w' := by
  refine ⟨fun j hj => ?_, h.apart⟩
  obtain ⟨A', m', c', e1, e2, e3⟩ := h.row j hj
  by_cases ej : j = J
  · subst ej
    rw [hJ] at e1
    cases e1
    refine ⟨A, m, c, hJ, hml, ?_, e3.2⟩
    rw [if_pos (by omega), ← hml]
    have := hm.2.1
    rwa [Nat.mul_one] at this
  · refine ⟨A', m', c', e1, e2, ?_, e3.2⟩
    have hne : (Value.slice A' m' c').ownBlock = none ∨ (Value.slice A' m' c').ownBlock ≠ (Value.slice A m c).ownBlock := by
      cases hb : (Value.slice A' m' c').ownBlock with
      | none => exact .inl rfl
      | some q => exact .inr fun e => h.apart j J _ _ q ej e1 hJ hb e.symm
    have := e3.1.kept hm.2.2 hne
    have hif : (if j < J + 1 then mks (k + offOf xss j) (lenOf xss j) else rowOf xss j) = (if j < J then mks (k + offOf xss j) (lenOf xss j) else rowOf xss j) := by
      by_cases h1 : j < J
      · rw [if_pos (by omega), if_pos h1]
      · rw [if_neg (by omega), if_neg h1]
    rw [hif]
    exact this

/-- Returns lists of numbers in fresh blocks. -/
def RetSS (w : World) (xss : List (List Int)) (e : Ending) (w' : World) : Prop := ∃ v, e = .returned v ∧ OwSS w.heap.size w'.heap.size v xss.length xss w' ∧ Below w.heap.size w w'
theorem OwSS.nil (lo hi : Nat) (w : World) : OwSS lo hi (.slice none 0 0) 0 [] w := ⟨rfl, [], OwR.nil _ _ _ _ _, ⟨fun j hj => by simp at hj, fun i j v u k _ h => by simp at h⟩⟩
theorem RetSS.nil {w w' : World} (hb : Below w.heap.size w w') : RetSS w [] (.returned (.slice none 0 0)) w' := ⟨_, rfl, OwSS.nil _ _ _, hb⟩

end Go.Proofs.Ytgclikdienlhdaa

/- The standing contracts of DepsOf. -/
namespace Go.Proofs.Ytgclikdienlhdaa
set_option linter.unusedSimpArgs false
set_option linter.unusedVariables false
open Go.RowKit

/-- What a node reads with some values. -/
def depF (gs : List Nd) (vs : List Int) (i : Nat) : List Int := if (gs.getD i default).k == 0 then [] else firsts ((whole (gs.getD i default).ps).rds vs)
def depTo (gs : List Nd) (vs : List Int) (k : Nat) : List (List Int) := (List.range k).map (depF gs vs)
def depsF (gs : List Nd) (xs : List Int) : List (List Int) := if okC gs xs then depTo gs (mean gs xs) gs.length else []

theorem depTo_len (gs : List Nd) (vs : List Int) (k : Nat) : (depTo gs vs k).length = k := by simp [depTo]
theorem depTo_succ (gs : List Nd) (vs : List Int) (k : Nat) : depTo gs vs (k + 1) = depTo gs vs k ++ [depF gs vs k] := by simp [depTo, List.range_succ]
theorem depTo_at (gs : List Nd) (vs : List Int) (k j : Nat) (h : j < k) : (depTo gs vs k).getD j [] = depF gs vs j := by simp [depTo, List.getD, h]

theorem depF_bd (gs : List Nd) (xs : List Int) (h : okC gs xs = true) (i : Nat) (hi : i < gs.length) : (depF gs (mean gs xs) i).length ≤ 10 := by
  obtain ⟨hg, hc⟩ := okC_parts gs xs h
  unfold depF
  cases hk : ((gs.getD i default).k == 0)
  · simp only [Bool.false_eq_true, if_false]
    have hv := (nodeOK_formula gs i ((validG_parts gs hg).2 i hi) hk).1
    have hok := whole_ok _ (mean gs xs).length hv (by rw [mean_len]; exact each_ahead gs i gs.length hg hi hk (by omega))
    have h10 := (validG_parts gs hg).1
    refine Nat.le_trans (firsts_bd _ (mean gs xs).length ?_) (by rw [mean_len]; exact h10)
    intro x hx
    exact rds_lt _ _ _ hok x hx
  · simp

theorem depsF_len (gs : List Nd) (xs : List Int) : SB (depsF gs xs) ∧ ((depsF gs xs).map List.length).sum ≤ 1048576 := by
  unfold depsF
  cases h : okC gs xs
  · exact ⟨⟨by simp, fun j => by simp [List.getD]⟩, by simp⟩
  · simp only [if_true]
    have h10 := (validG_parts gs (okC_parts gs xs h).1).1
    have hb : ∀ j, j < gs.length → (depF gs (mean gs xs) j).length ≤ 10 := fun j hj => depF_bd gs xs h j hj
    refine ⟨⟨by rw [depTo_len]; omega, fun j => ?_⟩, ?_⟩
    · by_cases hj : j < gs.length
      · rw [depTo_at _ _ _ _ hj]; have := hb j hj; omega
      · rw [show (depTo gs (mean gs xs) gs.length).getD j [] = [] by
          have : (depTo gs (mean gs xs) gs.length).length ≤ j := by rw [depTo_len]; omega
          simp [List.getD, List.getElem?_eq_none this]]
        simp
    · have : ∀ k, k ≤ gs.length → ((depTo gs (mean gs xs) k).map List.length).sum ≤ k * 10 := by
        intro k
        induction k with
        | zero => intro _; simp [depTo]
        | succ k ih =>
          intro hk
          rw [depTo_succ, List.map_append, List.sum_append]
          have h1 := ih (by omega)
          have h2 := hb k (by omega)
          simp
          omega
      have := this gs.length (Nat.le_refl _)
      omega

theorem OwSS.snoc {base k : Nat} {v v' : Value} {xss : List (List Int)} {D : List Int} {A : Option Addr} {m c : Nat} {wr w5 w6 : World} {vs : List Value} {o : Obj} (hrow : wr.ownsRow base 26 1 v k vs) (hss : SSk base wr.heap.size vs (lenOf xss) (rowOf xss) wr) (hk : k = xss.length) (hb : Below wr.heap.size wr w5)
    (hd : w5.ownsRow wr.heap.size 3 1 (.slice A m c) m (D.map (Value.int .i64))) (hm : m = D.length) (happ : w6.ownsRow base 26 1 v' (k + 1) (vs ++ [.slice A m c])) (hgrow : (w5.alloc o).grownBy w6 v.ownBlock) (hbs : base ≤ wr.heap.size) : OwSS base w6.heap.size v' (k + 1) (xss ++ [D]) w6 := by
  have hvl : vs.length = k := by have := hrow.1; omega
  have hrow5 := (own_below hrow hb).alloc o
  have hss5 : SSk base wr.heap.size vs (lenOf xss) (rowOf xss) (w5.alloc o) := (hss.keep fun q _ hq => hb.block q hq).keep fun q _ hq => Below.heap_alloc _ _ _ (Nat.lt_of_lt_of_le hq hb.size)
  have hss6 : SSk base wr.heap.size vs (lenOf xss) (rowOf xss) w6 := hss5.grown hgrow (hss5.ne hrow5 ints_ne_int)
  have hd6 : w6.ownsRow wr.heap.size 3 1 (.slice A m c) m (D.map (Value.int .i64)) := (hd.alloc o).kept hgrow (blocks_ne (hd.alloc o) hrow5 ints_ne_int)
  refine ⟨by rw [List.length_append, hk]; rfl, vs ++ [.slice A m c], OwR.start happ, ?_⟩
  refine hss6.put (hi' := w6.heap.size) (lens' := lenOf (xss ++ [D])) (cont' := rowOf (xss ++ [D])) (A := A) (m := m) (c := c) k ?_ ?_ ?_ ?_ ?_ ?_ hbs ?_
  · rw [List.getElem?_append_right (by omega), hvl, Nat.sub_self]; rfl
  · intro j hj
    rcases Nat.lt_or_ge j vs.length with h1 | h1
    · rw [List.getElem?_append_left h1]
    · rw [List.getElem?_eq_none h1, List.getElem?_eq_none (by simp; omega)]
  · intro j hj hjk; simp at hj; omega
  · rw [hm]; unfold lenOf; simp [List.getD, hk]
  · intro j hj
    have : (xss ++ [D]).getD j [] = xss.getD j [] := by
      rcases Nat.lt_or_ge j xss.length with h1 | h1
      · simp [List.getD, List.getElem?_append_left h1]
      · rw [List.getD, List.getElem?_eq_none (by simp; omega), List.getD, List.getElem?_eq_none h1]
    unfold lenOf rowOf
    rw [this]
    exact ⟨rfl, rfl⟩
  · refine ⟨?_, fun q hq => (hd6.lt q hq).2⟩
    have : rowOf (xss ++ [D]) k = D.map (Value.int .i64) := by unfold rowOf; simp [List.getD, hk]
    rw [this]; exact hd6
  · have h1 := hgrow.size; simp at h1; have := hb.size; omega

set_option maxRecDepth 100000 in
set_option maxHeartbeats 1600000 in
theorem spec_deps (A A' : Option Addr) (n c m c' : Nat) (gs : List Nd) (vs : List Int) (i : Nat) (w : World) (B : Nat) (hB : B ≤ w.heap.size) (hn : n = gs.length) (hm : m = vs.length) (hmn : m = n) (h : GS w B A gs) (h' : IS w B A' vs) (hv : validG gs = true) (hvo : VOK vs) (hi : i < n) :
    Calls Try.prog 59 #[.agg #[.slice A n c], .slice A' m c', .int .i64 i] w fun e w' => RetI w (depF gs vs i) e w' := by
  have h10 := (validG_parts gs hv).1
  have hn10 : n ≤ 10 := by omega
  obtain ⟨b, off, rfl, hbB, c0, A1, n1, c1, c2, hn1', hps⟩ := h.at_ i (by omega)
  have hde : depF gs vs i = if (gs.getD i default).k == 0 then [] else firsts ((whole (gs.getD i default).ps).rds vs) := rfl
  have hnd := (validG_parts gs hv).2 i (by omega)
  have hfm := nodeOK_formula gs i hnd
  have hea := each_ahead gs i m hv (by omega)
  rw [hde]
  clear hde hnd h
  generalize gs.getD i default = d at *
  have hbw : b < w.heap.size := by omega
  cases hd : (d.k == 0)
  · obtain ⟨hvf, _⟩ := hfm hd
    obtain ⟨hg, h1, h12⟩ := validF_good d.ps hvf
    have he := hea hd (by omega)
    have HRUN := Lib.hid fun (w' : World) (hB : B ≤ w'.heap.size) (h : PS w' B A1 d.ps) (h' : IS w' B A' vs) => spec_run A1 A' n1 c1 m c' d.ps vs B hn1' hm hg he hvo (by omega) (by omega) (by omega) w' hB h h'
    generalize firsts ((whole d.ps).rds vs) = R at *
    generalize (whole d.ps).ev vs = E at *
    have HPS := Lib.hid hps
    have HI := Lib.hid h'
    have hlt : i < n := hi
    clear hfm hea hvf hg h1 h12 he hn1' hps h' hn hm hmn h10 hv hvo
    show Calls _ _ _ _ fun e w' => RetI w R e w'
    go_enter Try.func59, Try.ntmps59
    go_wp2_with fail
    refine (HRUN.out _ (by simp; omega) (HPS.out.alloc hB _) (HI.out.alloc hB _)).mono ?_
    rintro e w1 ⟨v, rfl, ho, hb⟩
    go_wp2
    go_ret
    exact ⟨v, by simp, own_mono ho.1 (by simp), ((Below.refl _ _).alloc (Nat.le_refl _) _).trans (hb.mono (by simp))⟩
  · clear hfm hea hn1' hps h' hn hm hmn h10 hv hvo
    show Calls _ _ _ _ fun e w' => RetI w [] e w'
    have hml : 0 ≤ maxLen := Nat.zero_le _
    go_enter Try.func59, Try.ntmps59
    go_wp2
    go_ret
    exact retI_lit ((Below.refl _ _).alloc (Nat.le_refl _) _) _ _ 0 rfl hml rfl _ (by simp)

theorem info_ints1 : (Try.prog.info? 26).map (fun i => (i.zero, i.size, i.bytes)) = some (some (.slice none 0 0), 1, 24) := by kernel_rfl

/-- What the first nodes read, and nothing for the others. -/
def dmix (gs : List Nd) (vs : List Int) (n k : Nat) : List (List Int) := depTo gs vs k ++ List.replicate (n - k) []
theorem dmix_len (gs : List Nd) (vs : List Int) (n k : Nat) (h : k ≤ n) : (dmix gs vs n k).length = n := by unfold dmix; rw [List.length_append, depTo_len, List.length_replicate]; omega
theorem dmix_all (gs : List Nd) (vs : List Int) (n : Nat) : dmix gs vs n n = depTo gs vs n := by unfold dmix; simp
theorem dmix_at (gs : List Nd) (vs : List Int) (n k : Nat) (h : k < n) : (dmix gs vs n (k + 1)).getD k [] = depF gs vs k := by
  have := depTo_len gs vs k
  unfold dmix
  rw [depTo_succ]
  simp [List.getD, List.getElem?_append, this]
theorem dmix_other (gs : List Nd) (vs : List Int) (n k j : Nat) (h : k < n) (hj : j ≠ k) : (dmix gs vs n (k + 1)).getD j [] = (dmix gs vs n k).getD j [] := by
  have h1 := depTo_len gs vs k
  unfold dmix
  rw [depTo_succ]
  rcases Nat.lt_or_ge j k with h2 | h2
  · simp [List.getD, List.getElem?_append, h1, h2, show j < k + 1 by omega]
  · have e1 : ¬ j < k := by omega
    have e2 : ¬ j < k + 1 := by omega
    simp only [List.getD, List.getElem?_append, List.length_append, h1, List.length_cons, List.length_nil, if_neg e1, if_neg e2, List.getElem?_replicate]
    split <;> split <;> rfl
theorem dmix_cell (gs : List Nd) (vs : List Int) (n k : Nat) (h : k < n) (hd : depF gs vs k = []) : dmix gs vs n (k + 1) = dmix gs vs n k := by
  unfold dmix
  rw [depTo_succ, hd, List.append_assoc, show n - k = (n - (k + 1)) + 1 by omega, List.replicate_succ]
  rfl

set_option maxRecDepth 100000 in
set_option maxHeartbeats 3200000 in
theorem top_impl_DepsOf (gs : List Nd) (xs : List Int) (hG : GB gs) (hL : xs.length ≤ 1048576) : ∀ (A : Option Addr) (n c : Nat) (A' : Option Addr) (m c' : Nat) (w : World), n = gs.length → n ≤ c → GS w w.heap.size A gs → m = xs.length → IS w w.heap.size A' xs →
    Calls Try.prog 16 #[.agg #[.slice A n c], .slice A' m c'] w fun e w' => RetSS w (depsF gs xs) e w' := by
  intro A n c A' m c' w hn hnc h hm h'
  obtain ⟨i1, hi, hz0, hz1, hz2⟩ := info_parts info_ints1
  have hm1 : m ≤ 2000000 := by omega
  have H := Lib.hid h
  have HX := Lib.hid h'
  have HN := Lib.hid hn
  have HC := Lib.hid fun (w' : World) (hB : w.heap.size ≤ w'.heap.size) (h : GS w' w.heap.size A gs) (h' : IS w' w.heap.size A' xs) => impl_ValidCells A A' n c m c' gs xs w' w.heap.size hB hn hnc hm h h' hG hm1
  have HM := Lib.hid fun (w' : World) (hB : w.heap.size ≤ w'.heap.size) (h : GS w' w.heap.size A gs) (h' : IS w' w.heap.size A' xs) => impl_MeaningOf A A' n c m c' gs xs w' w.heap.size hB hn hnc hm h h' hG hm1
  cases hok : okC gs xs
  · have hf : depsF gs xs = [] := by unfold depsF; rw [hok]; rfl
    rw [hf]
    rw [hok] at HC
    clear hf hok h h' hn hm hG
    go_enter Try.func16, Try.ntmps16
    go_wp2_with fail
    refine (HC.out _ (by simp) (H.out.alloc (Nat.le_refl _) _) (HX.out.alloc (Nat.le_refl _) _)).mono ?_
    rintro e w1 ⟨rfl, hb⟩
    have q1 : w1.cell? ⟨w.heap.size, 0, none⟩ = some (.slice A n c) := (hb.cell (p := ⟨w.heap.size, 0, none⟩) (by simp)).trans (by go_simp)
    have HG1 := Lib.hid ((H.out.alloc (Nat.le_refl _) (.cells #[.slice A n c] 25)).below hb (by simp))
    have HX1 := Lib.hid ((HX.out.alloc (Nat.le_refl _) (.cells #[.slice A n c] 25)).below hb (by simp))
    have hB1 : Below w.heap.size w w1 := ((Below.refl _ _).alloc (Nat.le_refl _) _).trans (hb.mono (by simp))
    have hl1 : w.heap.size < w1.heap.size := by have := hb.size; simp at this; omega
    clear hb
    go_wp2
    go_ret
    exact RetSS.nil (hB1)
  have hvg := (okC_parts gs xs hok).1
  have hf : depsF gs xs = depTo gs (mean gs xs) gs.length := by unfold depsF; rw [hok]; rfl
  have hmf : meanF gs xs = mean gs xs := by unfold meanF; rw [hok]; rfl
  have hn10 : n ≤ 10 := by have := (validG_parts gs hvg).1; omega
  have hml := mean_len gs xs
  rw [← hn] at hml
  have hvo : VOK (mean gs xs) := meanTo_VOK gs xs hok gs.length (Nat.le_refl _)
  have HCE := Lib.hid fun (k : Nat) (hk : k < gs.length) (h0 : ((gs.getD k default).k == 0) = false) => canEv_of (gs.getD k default).ps (mean gs xs) (nodeOK_formula gs k ((validG_parts gs hvg).2 k hk) h0).1 (by omega) hvo (by rw [hml]; exact each_ahead gs k n hvg hk h0 (by omega))
  rw [hf]
  rw [hok] at HC
  rw [hmf] at HM
  have HML := Lib.hid hml
  have HDL := Lib.hid (depTo_len gs (mean gs xs))
  rw [← hn]
  clear hf hvg hok hml hvo h h' hn hm hG hmf
  generalize mean gs xs = M at *
  have HMK := Lib.hid fun (w1 : World) => run_make_full (P := Try.prog) w1 w1.heap.size 29 26 i1 _ 1 Try.underlying29 hi hz0 hz1 .i64 .i64 n (by rw [hz2]; omega) (by unfold maxLen; omega) (Nat.le_refl _)
  go_enter Try.func16, Try.ntmps16
  go_wp2_with fail
  refine (HC.out _ (by simp) (H.out.alloc (Nat.le_refl _) _) (HX.out.alloc (Nat.le_refl _) _)).mono ?_
  rintro e w1 ⟨rfl, hb⟩
  have q1 : w1.cell? ⟨w.heap.size, 0, none⟩ = some (.slice A n c) := (hb.cell (p := ⟨w.heap.size, 0, none⟩) (by simp)).trans (by go_simp)
  have HG1 := Lib.hid ((H.out.alloc (Nat.le_refl _) (.cells #[.slice A n c] 25)).below hb (by simp))
  have HX1 := Lib.hid ((HX.out.alloc (Nat.le_refl _) (.cells #[.slice A n c] 25)).below hb (by simp))
  have hB1 : Below w.heap.size w w1 := ((Below.refl _ _).alloc (Nat.le_refl _) _).trans (hb.mono (by simp))
  have hl1 : w.heap.size < w1.heap.size := by have := hb.size; simp at this; omega
  clear hb
  go_wp2_with fail
  refine (HM.out _ hB1.size HG1.out HX1.out).mono ?_
  rintro e w2 ⟨v2, rfl, ho, hb⟩
  obtain ⟨A3, c3, rfl, hI3⟩ := OwnI.at_ ho HML.out
  have q2 := (hb.cell (p := ⟨w.heap.size, 0, none⟩) hl1).trans q1
  have hB2 := Lib.hid (hB1.trans (hb.mono hB1.size))
  have hl2 : w.heap.size < w2.heap.size := Nat.lt_of_lt_of_le hl1 hb.size
  obtain ⟨w3, hmk, hown3, hgr3⟩ := HMK.out w2
  have hb3 : Below w2.heap.size w2 w3 := ⟨hgr3.os, hgr3.tape, hgr3.output, hgr3.size, fun k hk => hgr3.block k hk (by simp)⟩
  have q3 := (hb3.cell (p := ⟨w.heap.size, 0, none⟩) hl2).trans q2
  have HG3 := Lib.hid (((HG1.out.below hb hB1.size).more (B' := w2.heap.size) (Nat.le_trans hB1.size hb.size)).below hb3 (Nat.le_refl _))
  have HI3 := Lib.hid (hI3.below hb3 (Nat.le_refl _))
  have hgl : w2.heap.size < w3.heap.size := (hown3.lt _ rfl).2
  have HO3 : Hid (∃ vs, OwR w2.heap.size w3.heap.size 26 1 (.slice (some ⟨w2.heap.size, 0, none⟩) n n) n vs w3 ∧ SSk w2.heap.size w3.heap.size vs (lenOf (dmix gs M n 0)) (rowOf (dmix gs M n 0)) w3) := by
    have e : (madeCells (Value.slice none 0 0).cells (n * 1)).toList = List.replicate n (.slice none 0 0) := by simp [Value.cells, toList_madeCells_one]
    rw [e] at hown3
    refine ⟨_, OwR.start hown3, ⟨fun j hj => ?_, fun i j v u k _ h1 h2 hv => ?_⟩⟩
    · have hj' : j < n := by simpa using hj
      refine ⟨none, 0, 0, by simp [hj'], by simp [lenOf, dmix, depTo, List.getD, hj'], ?_⟩
      have : rowOf (dmix gs M n 0) j = [] := by simp [rowOf, dmix, depTo, List.getD, hj']
      rw [this]
      exact OwR.nil _ _ _ _ _
    · have : v = .slice none 0 0 := by
        rw [List.getElem?_replicate] at h1
        split at h1
        · cases h1; rfl
        · cases h1
      subst this
      simp [Value.ownBlock] at hv
  have HB3 := Lib.hid hb3
  clear hb hb3 hown3 hgr3 q1 HG1 HX1 hB1 ho hI3 HC HM HX H hl1 HMK
  go_wp2
  clear hmk
  go_loopw [23] (fun i wr => ∃ k : Nat, k ≤ n ∧ i = .int .i64 k ∧ Hid (∃ vs, OwR w2.heap.size wr.heap.size 26 1 (.slice (some ⟨w2.heap.size, 0, none⟩) n n) n vs wr ∧ SSk w2.heap.size wr.heap.size vs (lenOf (dmix gs M n k)) (rowOf (dmix gs M n k)) wr) ∧ Hid (Below w2.heap.size w3 wr) ∧ w3.heap.size ≤ wr.heap.size) (fun i _ => n - (intOf i).toNat)
  case atStart => exact ⟨0, Nat.zero_le _, rfl, HO3.out, Below.refl _ _, Nat.le_refl _⟩
  case round =>
    obtain ⟨k, hk, rfl, HO, HB, hwr⟩ := hrel
    by_cases hlt : k < n
    · obtain ⟨vs, hrow, hss⟩ := HO.out
      have hvl : vs.length = n := by have := hrow.1.1; omega
      have hkg : k < gs.length := by have := HN.out; omega
      obtain ⟨b, off, rfl, hbB, c0, A1, n1, c1, c2, hn1', hps⟩ := HG3.out.at_ k hkg
      have e0 := (HB.out.cell (p := ⟨b, off + k * 2, none⟩) hbB).trans c0
      have e1 := (HB.out.cell (p := ⟨b, off + k * 2 + 1, none⟩) hbB).trans c2
      have HPS := Lib.hid (((hps.below HB.out (Nat.le_refl _)).alloc (by omega) (.cells #[.int .i64 (gs.getD k default).k, .slice A1 n1 c1] 55)).more (B' := wr.heap.size + 1) (by omega))
      have HIR := Lib.hid (((HI3.out.below HB.out (Nat.le_refl _)).alloc (by omega) (.cells #[.int .i64 (gs.getD k default).k, .slice A1 n1 c1] 55)).more (B' := wr.heap.size + 1) (by omega))
      have hce := HCE.out k hkg
      have hde : depF gs M k = if (gs.getD k default).k == 0 then [] else firsts ((whole (gs.getD k default).ps).rds M) := rfl
      have HAT := Lib.hid (dmix_at gs M n k hlt)
      have HOT := Lib.hid fun (j : Nat) (hj : j ≠ k) => dmix_other gs M n k j hlt hj
      have HCELL := Lib.hid (dmix_cell gs M n k hlt)
      have HROW := Lib.hid (hrow.1.alloc (.cells #[.int .i64 (gs.getD k default).k, .slice A1 n1 c1] 55))
      have HSS := Lib.hid (hss.keep (w' := wr.alloc (.cells #[.int .i64 (gs.getD k default).k, .slice A1 n1 c1] 55)) fun q _ hq => Below.heap_alloc _ _ _ hq)
      have HVL := Lib.hid hvl
      generalize gs.getD k default = d at *
      clear c0 c2 hps hrow hss hvl
      cases hd : (d.k == 0)
      · have hd' : (d.k != 0) = true := by simp [bne, hd]
        have hrf : readF d.ps M = firsts ((whole d.ps).rds M) := by unfold readF; rw [hce hd]; rfl
        have hvf := (canEv_parts d.ps M (hce hd)).1
        have h12 := (validF_good d.ps hvf).2.2
        rw [hd] at hde
        have hde2 : depF gs M k = readF d.ps M := by rw [hrf]; exact hde
        have HRD := Lib.hid fun (w' : World) (B : Nat) (hB : B ≤ w'.heap.size) (h : PS w' B A1 d.ps) (h' : IS w' B A3 M) => impl_ReadsOf A1 A3 n1 c1 n c3 d.ps M B hn1' HML.out.symm (by omega) (by omega) w' hB h h'
        rw [← hde2] at HRD
        clear hce hrf hvf h12 hde hde2 hn1' hd
        generalize depF gs M k = D at *
        go_wp2_with fail
        refine (HRD.out _ (wr.heap.size + 1) (by simp) HPS.out HIR.out).mono ?_
        rintro e w5 ⟨v5, rfl, ho5, hb5⟩
        obtain ⟨A5, c5, rfl, hI5⟩ := OwnI.form ho5
        unfold OwnI at ho5
        simp only [World.size_alloc] at ho5
        have hR5 := own_below HROW.out hb5
        have u5 := hR5.cellAt k (by omega)
        rw [List.getElem?_eq_getElem (by have := HVL.out; omega)] at u5
        have f5 := hR5.frozenAt k
        have hst := hR5.stored k (.slice A5 D.length c5)
        have hw5 : wr.heap.size + 1 ≤ w5.heap.size := by have := hb5.size; simpa using this
        have HNEW : Hid (∃ vs, OwR w2.heap.size w5.heap.size 26 1 (.slice (some ⟨w2.heap.size, 0, none⟩) n n) n vs (w5.setCell ⟨w2.heap.size, k, none⟩ (.slice A5 D.length c5)) ∧ SSk w2.heap.size w5.heap.size vs (lenOf (dmix gs M n (k + 1))) (rowOf (dmix gs M n (k + 1))) (w5.setCell ⟨w2.heap.size, k, none⟩ (.slice A5 D.length c5))) := by
          have hss5 := HSS.out.keep (w' := w5) fun q _ hq => hb5.block q (by simp only [World.size_alloc]; exact Nat.lt_succ_of_lt hq)
          have hss6 := hss5.grown hst.2 (hss5.ne hR5 ints_ne_int)
          have hd6 := ho5.kept hst.2 (blocks_ne ho5 hR5 ints_ne_int)
          have hrk : rowOf (dmix gs M n (k + 1)) k = D.map (Value.int .i64) := by unfold rowOf; rw [HAT.out]
          rw [← hrk] at hd6
          refine ⟨_, ⟨hst.1, fun q hq => by cases hq; exact Nat.lt_of_lt_of_le hgl (by omega)⟩, hss6.put (hi' := w5.heap.size) (A := A5) (m := D.length) (c := c5) k ?_ ?_ ?_ ?_ ?_ ⟨own_mono hd6 (by omega), fun q hq => by have := (ho5.lt q hq).2; omega⟩ (by omega) (by omega)⟩
          · rw [List.getElem?_set, if_pos rfl, if_pos (by have := HVL.out; omega)]
          · intro j hj; rw [List.getElem?_set, if_neg (by omega)]
          · intro j hj _; simpa using hj
          · unfold lenOf; rw [HAT.out]
          · intro j hj; unfold lenOf rowOf; rw [HOT.out j hj]; exact ⟨rfl, rfl⟩
        have HB6 : Hid (Below w2.heap.size w3 (w5.setCell ⟨w2.heap.size, k, none⟩ (.slice A5 D.length c5))) := ((HB.out.alloc (by omega) _).trans (hb5.mono (by simp; omega))).setCell (Nat.le_refl _) _
        have HSZ : Hid ((w5.setCell ⟨w2.heap.size, k, none⟩ (.slice A5 D.length c5)).heap.size = w5.heap.size) := by simp [World.setCell, Hid]
        generalize vs[k]'_ = vv at u5
        clear hst hR5 ho5 hI5 hb5
        go_wp2
        go_roundw
        case rel => exact ⟨k + 1, by omega, by go_num, by rw [HSZ.out]; exact HNEW.out, HB6.out, by simp [World.setCell]; omega⟩
        case measure => simp [intOf]; omega
      · have hd' : (d.k != 0) = false := by simp [bne, hd]
        rw [hd] at hde
        have HCE2 := Lib.hid (HCELL.out hde)
        clear hce hde hd hn1'
        go_wp2
        go_roundw
        case rel => exact ⟨k + 1, by omega, by go_num, by rw [HCE2.out]; exact ⟨vs, ⟨HROW.out, fun q hq => by cases hq; simp; omega⟩, HSS.out.mono (Nat.le_refl _) (by simp)⟩, HB.out.alloc (by omega) _, by simp; omega⟩
        case measure => simp [intOf]; omega
    · obtain rfl : k = n := by omega
      go_wp2
      go_ret
      refine ⟨_, rfl, ?_, hB2.out.trans ((HB3.out.trans HB.out).mono (by omega))⟩
      rw [HDL.out]
      obtain ⟨vs, hrow, hss⟩ := HO.out
      rw [dmix_all] at hss
      exact ⟨(HDL.out k).symm, vs, hrow.mono (by omega) (Nat.le_refl _), hss.mono (by omega) (Nat.le_refl _)⟩
end Go.Proofs.Ytgclikdienlhdaa

/- States of the eager machine (a list, and lists): words for memory; the laws' own copies, sizes, comparisons and marks. -/
namespace Go.Proofs.Ytgclikdienlhdaa
set_option linter.unusedSimpArgs false
set_option linter.unusedVariables false
open Go.RowKit

structure Eg where
  vs : List Int
  rs : List (List Int)
deriving DecidableEq, Inhabited

def rowsE (e : Eg) : List (List Int) := e.vs :: e.rs
def esz (e : Eg) : Nat := e.vs.length + (e.rs.length + (e.rs.map List.length).sum)
/-- Some more lists than a million, none longer. -/
def SB2 (xss : List (List Int)) : Prop := xss.length ≤ 2000000 ∧ ∀ j, (xss.getD j []).length ≤ 1048576
/-- No more numbers than a million. -/
def EB (e : Eg) : Prop := e.vs.length ≤ 1048576 ∧ SB e.rs ∧ SB2 (rowsE e) ∧ (e.rs.map List.length).sum ≤ 1048576 ∧ ((rowsE e).map List.length).sum ≤ 1048576

theorem len_le_sum (xss : List (List Int)) (j : Nat) : (xss.getD j []).length ≤ (xss.map List.length).sum := by
  induction xss generalizing j with
  | nil => simp
  | cons x xs ih =>
    cases j with
    | zero => simp [List.getD]
    | succ j => have := ih j; simp [List.getD] at *; omega

theorem SB.of_sum {xss : List (List Int)} (h : xss.length ≤ 1048576) (h' : (xss.map List.length).sum ≤ 1048576) : SB xss :=
  ⟨h, fun j => Nat.le_trans (len_le_sum xss j) h'⟩

theorem SB2.of_sum {xss : List (List Int)} (h : xss.length ≤ 2000000) (h' : (xss.map List.length).sum ≤ 1048576) : SB2 xss :=
  ⟨h, fun j => Nat.le_trans (len_le_sum xss j) h'⟩

theorem EB.of_esz {e : Eg} (h : esz e ≤ 1048576) : EB e := by
  unfold esz at h
  have h1 : ((rowsE e).map List.length).sum ≤ 1048576 := by unfold rowsE; simp; omega
  exact ⟨by omega, SB.of_sum (by omega) (by omega), SB2.of_sum (by unfold rowsE; simp; omega) h1, by omega, h1⟩

/-- The slices at A and E read as the state e; all of it lies below block B. -/
def ES (w : World) (B : Nat) (A E : Option Addr) (e : Eg) : Prop := IS w B A e.vs ∧ SS w B E e.rs

section
variable {w w' : World} {B B' C : Nat} {A E : Option Addr} {e : Eg}
theorem ES.more (h : ES w B A E e) (hB : B ≤ B') : ES w B' A E e := ⟨h.1.more hB, h.2.more hB⟩
theorem ES.below (h : ES w B A E e) (hb : Below C w w') (hC : B ≤ C) : ES w' B A E e := ⟨h.1.below hb hC, h.2.below hb hC⟩
theorem ES.alloc (h : ES w B A E e) (hB : B ≤ w.heap.size) (o : Obj) : ES (w.alloc o) B A E e := ⟨h.1.alloc hB o, h.2.alloc hB o⟩
theorem ES.loc (B : Nat) (A E : Option Addr) (e : Eg) : Loc 0 B fun w => ES w B A E e := (IS.loc B A e.vs).and (SS.loc B E e.rs)
end

/-- The first lists, and nothing for the others. -/
def cpTo (xss : List (List Int)) (n k : Nat) : List (List Int) := xss.take k ++ List.replicate (n - k) []
theorem cpTo_all (xss : List (List Int)) (n : Nat) (h : n = xss.length) : cpTo xss n n = xss := by unfold cpTo; simp [h]
theorem cpTo_at (xss : List (List Int)) (n k : Nat) (h : k < n) (hn : n = xss.length) : (cpTo xss n (k + 1)).getD k [] = xss.getD k [] := by
  unfold cpTo
  have h1 : k < min (k + 1) xss.length := by omega
  have h2 : k < k + 1 := by omega
  simp only [List.getD, List.getElem?_append, List.length_take, if_pos h1, List.getElem?_take, if_pos h2]
theorem cpTo_other (xss : List (List Int)) (n k j : Nat) (h : k < n) (hn : n = xss.length) (hj : j ≠ k) : (cpTo xss n (k + 1)).getD j [] = (cpTo xss n k).getD j [] := by
  unfold cpTo
  rcases Nat.lt_or_ge j k with h2 | h2
  · have h3 : j < min (k + 1) xss.length := by omega
    have h4 : j < min k xss.length := by omega
    have h5 : j < k + 1 := by omega
    simp only [List.getD, List.getElem?_append, List.length_take, if_pos h3, if_pos h4, List.getElem?_take, if_pos h5, if_pos h2]
  · have e1 : ¬ j < min k xss.length := by omega
    have e2 : ¬ j < min (k + 1) xss.length := by omega
    simp only [List.getD, List.getElem?_append, List.length_take, if_neg e1, if_neg e2, List.getElem?_replicate]
    split <;> split <;> rfl

theorem SS.at_ {w : World} {B : Nat} {A : Option Addr} {xss : List (List Int)} (h : SS w B A xss) (j : Nat) (hj : j < xss.length) : ∃ b off, A = some ⟨b, off, none⟩ ∧ b < B ∧ ∃ A' n c, w.cell? ⟨b, off + j, none⟩ = some (.slice A' n c) ∧ n = (xss.getD j []).length ∧ IS w B A' (xss.getD j []) := by
  obtain ⟨b, off, e, hb, hc⟩ := h (by omega)
  exact ⟨b, off, e, hb, hc j hj⟩

end Go.Proofs.Ytgclikdienlhdaa

/- States of the eager machine: of the call's own, copied, marked, held. -/
namespace Go.Proofs.Ytgclikdienlhdaa
set_option linter.unusedSimpArgs false
set_option linter.unusedVariables false
open Go.RowKit

/-- The content of rows of which the first J are marked. -/
def mkTo (yss : List (List Int)) (k : Int) (J : Nat) (j : Nat) : List Value := if j < J then mks (k + offOf yss j) (lenOf yss j) else rowOf yss j

theorem mkTo_zero (yss : List (List Int)) (k : Int) : mkTo yss k 0 = rowOf yss := by funext j; unfold mkTo; simp

theorem SSk.congr {lo hi : Nat} {vs : List Value} {lens : Nat → Nat} {cont cont' : Nat → List Value} {w : World} (h : SSk lo hi vs lens cont w) (hc : ∀ j, j < vs.length → cont j = cont' j) : SSk lo hi vs lens cont' w :=
  ⟨fun j hj => by obtain ⟨A, m, c, e1, e2, e3⟩ := h.row j hj; exact ⟨A, m, c, e1, e2, by rw [← hc j hj]; exact e3⟩, h.apart⟩

/-- What marks of some of the rows leave. -/
def MkRows (lo hi n : Nat) (v : Value) (us vs : List Value) (yss : List (List Int)) (k : Int) (J : Nat) (w : World) (e : Ending) (w' : World) : Prop :=
  e = .returned (.int .i64 (k + offOf yss J)) ∧ OwR lo hi 26 1 v n us w' ∧ SSk lo hi vs (lenOf yss) (mkTo yss k J) w' ∧ Tch lo hi w w'

/-- A state of the call's own, in blocks lo to hi - 1. -/
def OwE (lo hi : Nat) (A : Option Addr) (n c : Nat) (E : Option Addr) (en ec : Nat) (st : Eg) (w : World) : Prop :=
  n = st.vs.length ∧ en = st.rs.length ∧ ∃ us, OwR lo hi 26 1 (.slice E en ec) en us w ∧ SSk lo hi (.slice A n c :: us) (lenOf (rowsE st)) (rowOf (rowsE st)) w
/-- The same, marked from k on. -/
def MkE (lo hi : Nat) (A : Option Addr) (n c : Nat) (E : Option Addr) (en ec : Nat) (st : Eg) (k : Int) (w : World) : Prop :=
  n = st.vs.length ∧ en = st.rs.length ∧ ∃ us, OwR lo hi 26 1 (.slice E en ec) en us w ∧ SSk lo hi (.slice A n c :: us) (lenOf (rowsE st)) (fun j => mks (k + offOf (rowsE st) j) (lenOf (rowsE st) j)) w

section
variable {lo hi lo' hi' n c en ec : Nat} {A E : Option Addr} {st : Eg} {k : Int} {w w' : World}
theorem OwE.loc (lo hi : Nat) (A : Option Addr) (n c : Nat) (E : Option Addr) (en ec : Nat) (st : Eg) : Loc lo hi (OwE lo hi A n c E en ec st) := by
  rintro w w' ⟨h0, h0', vs, h1, h2⟩ hk
  exact ⟨h0, h0', vs, h1.keep hk, h2.keep hk⟩
theorem MkE.loc (lo hi : Nat) (A : Option Addr) (n c : Nat) (E : Option Addr) (en ec : Nat) (st : Eg) (k : Int) : Loc lo hi (MkE lo hi A n c E en ec st k) := by
  rintro w w' ⟨h0, h0', vs, h1, h2⟩ hk
  exact ⟨h0, h0', vs, h1.keep hk, h2.keep hk⟩
theorem OwE.mono (h : OwE lo hi A n c E en ec st w) (h1 : lo' ≤ lo) (h2 : hi ≤ hi') : OwE lo' hi' A n c E en ec st w := by
  obtain ⟨h0, h0', vs, e1, e2⟩ := h
  exact ⟨h0, h0', vs, e1.mono h1 h2, e2.mono h1 h2⟩
theorem SSk.tail {v : Value} {us : List Value} {x : List Int} {xs : List (List Int)} (h : SSk lo hi (v :: us) (lenOf (x :: xs)) (rowOf (x :: xs)) w) : SSk lo hi us (lenOf xs) (rowOf xs) w :=
  ⟨fun j hj => by obtain ⟨A, m, c, e1, e2, e3⟩ := h.row (j + 1) (by simpa using hj); exact ⟨A, m, c, e1, e2, e3⟩, fun i j v u k hij h1 h2 => h.apart (i + 1) (j + 1) v u k (by omega) h1 h2⟩
theorem OwE.row0 (h : OwE lo hi A n c E en ec st w) : OwR lo hi 3 1 (.slice A n c) n (st.vs.map (Value.int .i64)) w := by
  obtain ⟨h0, h0', us, e1, e2⟩ := h
  obtain ⟨A', m, c', r1, r2, r3⟩ := e2.row 0 (by simp)
  simp only [List.getElem?_cons_zero, Option.some.injEq, Value.slice.injEq] at r1
  obtain ⟨rfl, rfl, rfl⟩ := r1
  exact r3
theorem OwE.lists (h : OwE lo hi A n c E en ec st w) : OwSS lo hi (.slice E en ec) en st.rs w := by
  obtain ⟨h0, h0', us, e1, e2⟩ := h
  exact ⟨h0', us, e1, e2.tail⟩
theorem OwE.reads (h : OwE lo hi A n c E en ec st w) : ES w hi A E st := ⟨h.row0.ints, h.lists.lists⟩
theorem eager_start (h : OwE lo w.heap.size A n c E en ec st w) : As lo w.heap.size (OwE lo w.heap.size A n c E en ec st) w := ⟨h, Nat.le_refl _, OwE.loc _ _ _ _ _ _ _ _ _⟩
theorem As.eager (h : As lo hi (OwE lo hi A n c E en ec st) w) : ES w w.heap.size A E st := h.it.reads.more h.le
/-- A row and lists in blocks that lie apart make a state. -/
theorem OwE.join {mid : Nat} (h : OwR lo mid 3 1 (.slice A n c) n (st.vs.map (Value.int .i64)) w) (hn : n = st.vs.length) (h' : OwSS mid hi (.slice E en ec) en st.rs w) (h1 : lo ≤ mid) (h2 : mid ≤ hi) : OwE lo hi A n c E en ec st w := by
  obtain ⟨h0, us, e1, e2⟩ := h'
  refine ⟨hn, h0, us, e1.mono h1 (Nat.le_refl _), ⟨fun j hj => ?_, fun i j v u k hij h3 h4 hv hu => ?_⟩⟩
  · cases j with
    | zero => exact ⟨A, n, c, rfl, hn, h.mono (Nat.le_refl _) h2⟩
    | succ j =>
      obtain ⟨A', m, c', r1, r2, r3⟩ := e2.row j (by simpa using hj)
      exact ⟨A', m, c', r1, r2, r3.mono h1 (Nat.le_refl _)⟩
  · cases i with
    | zero =>
      cases j with
      | zero => exact hij rfl
      | succ j =>
        simp only [List.getElem?_cons_zero, Option.some.injEq] at h3
        subst h3
        have a1 := h.2 k hv
        have a2 := (e2.lt j u k h4 hu).1
        omega
    | succ i =>
      cases j with
      | zero =>
        simp only [List.getElem?_cons_zero, Option.some.injEq] at h4
        subst h4
        have a1 := h.2 k hu
        have a2 := (e2.lt i v k h3 hv).1
        omega
      | succ j => exact e2.apart i j v u k (by omega) h3 h4 hv hu
end

/-- Returns a state in fresh blocks. -/
def RetE (w : World) (st : Eg) (e : Ending) (w' : World) : Prop := ∃ A n c E en ec, e = .returned (.agg #[.slice A n c, .slice E en ec]) ∧ OwE w.heap.size w'.heap.size A n c E en ec st w' ∧ Below w.heap.size w w'

theorem OwE.nil (lo hi : Nat) (w : World) (h : lo ≤ hi) : OwE lo hi none 0 0 none 0 0 ⟨[], []⟩ w := OwE.join (mid := hi) (OwR.nil _ _ _ _ _) rfl (OwSS.nil _ _ _) h (Nat.le_refl _)
theorem RetE.nil {w w' : World} (hb : Below w.heap.size w w') : RetE w ⟨[], []⟩ (.returned (.agg #[.slice none 0 0, .slice none 0 0])) w' := ⟨_, _, _, _, _, _, rfl, OwE.nil _ _ _ hb.size, hb⟩

theorem OwE.setCell {lo hi n c en ec : Nat} {A E : Option Addr} {st : Eg} {w : World} (h : OwE lo hi A n c E en ec st w) {a : Addr} (ha : a.block < lo) (u : Value) : OwE lo hi A n c E en ec st (w.setCell a u) :=
  OwE.loc _ _ _ _ _ _ _ _ _ _ _ h fun k hk _ => Below.heap_setCell _ _ _ _ (by omega)

end Go.Proofs.Ytgclikdienlhdaa

/- Plain facts on states of the eager machine. -/
namespace Go.Proofs.Ytgclikdienlhdaa
set_option linter.unusedSimpArgs false
set_option linter.unusedVariables false

/-- The value of a node that runs with some values. -/
def valE (gs : List Nd) (vs : List Int) (i : Nat) : Int := if (gs.getD i default).k == 0 then vs.getD i 0 else (whole (gs.getD i default).ps).ev vs
def okE (gs : List Nd) (st : Eg) (i : Nat) : Bool := (valE gs st.vs i == st.vs.getD i 0) && decide (depF gs st.vs i = st.rs.getD i [])
def allE (gs : List Nd) (st : Eg) : Bool := decide (∀ i, i < gs.length → okE gs st i = true)
def validE (gs : List Nd) (st : Eg) : Bool := validG gs && (decide (st.vs.length = gs.length) && (decide (st.rs.length = gs.length) && (allR st.vs 0 999 && allE gs st)))

theorem validE_parts (gs : List Nd) (st : Eg) (h : validE gs st = true) : validG gs = true ∧ st.vs.length = gs.length ∧ st.rs.length = gs.length ∧ allR st.vs 0 999 = true ∧ ∀ i, i < gs.length → okE gs st i = true := by
  unfold validE allE at h
  simp only [Bool.and_eq_true, decide_eq_true_eq] at h
  exact ⟨h.1, h.2.1, h.2.2.1, h.2.2.2.1, h.2.2.2.2⟩

theorem allE_bad (gs : List Nd) (st : Eg) (i : Nat) (hi : i < gs.length) (h : okE gs st i = false) : allE gs st = false := by
  unfold allE
  rw [decide_eq_false_iff_not]
  intro hh
  rw [hh i hi] at h
  cases h
theorem allE_fin (gs : List Nd) (st : Eg) (h : ∀ i, i < gs.length → okE gs st i = true) : allE gs st = true := by
  unfold allE
  exact decide_eq_true h

theorem eager_canEv (gs : List Nd) (vs : List Int) (i : Nat) (hg : validG gs = true) (hl : vs.length = gs.length) (hr : allR vs 0 999 = true) (hi : i < gs.length) (hk : ((gs.getD i default).k == 0) = false) : canEv (gs.getD i default).ps vs = true := by
  obtain ⟨h10, hn⟩ := validG_parts gs hg
  have hv := (nodeOK_formula gs i (hn i hi) hk).1
  have he := each_ahead gs i vs.length hg hi hk (by omega)
  unfold canEv
  rw [hv, he, hr]
  simp
  omega

theorem eager_depF_bd (gs : List Nd) (vs : List Int) (hg : validG gs = true) (hl : vs.length = gs.length) (i : Nat) (hi : i < gs.length) : (depF gs vs i).length ≤ 10 := by
  unfold depF
  cases hk : ((gs.getD i default).k == 0)
  · simp only [Bool.false_eq_true, if_false]
    have hv := (nodeOK_formula gs i ((validG_parts gs hg).2 i hi) hk).1
    have hok := whole_ok _ vs.length hv (by rw [hl]; exact each_ahead gs i gs.length hg hi hk (by omega))
    have h10 := (validG_parts gs hg).1
    refine Nat.le_trans (firsts_bd _ vs.length ?_) (by rw [hl]; exact h10)
    intro x hx
    exact rds_lt _ _ _ hok x hx
  · simp

theorem diffTo_same (a b : List Int) (n : Nat) (hn : n = a.length) (hm : n = b.length) : ((diffTo a b n).length == 0) = decide (a = b) := by
  by_cases h : a = b
  · subst h
    have : diffTo a a n = [] := by unfold diffTo; simp
    rw [this]; simp
  · have : ∃ k, k < n ∧ a.getD k 0 ≠ b.getD k 0 := by
      apply Classical.byContradiction
      intro hc
      apply h
      apply List.ext_getElem (by omega)
      intro k h1 h2
      apply Classical.byContradiction
      intro hne
      exact hc ⟨k, by omega, by simpa [List.getD, h1, h2] using hne⟩
    obtain ⟨k, hk, hne⟩ := this
    have hmem : (k : Int) ∈ diffTo a b n := by
      unfold diffTo
      exact List.mem_map.2 ⟨k, List.mem_filter.2 ⟨List.mem_range.2 hk, by simpa using hne⟩, rfl⟩
    have : (diffTo a b n).length ≠ 0 := by
      intro h0
      rw [List.eq_nil_of_length_eq_zero h0] at hmem
      simp at hmem
    simp [h, this]
end Go.Proofs.Ytgclikdienlhdaa

/- The standing contracts of StartEager. -/
namespace Go.Proofs.Ytgclikdienlhdaa
set_option linter.unusedSimpArgs false
set_option linter.unusedVariables false
open Go.RowKit

/-- The state after all nodes ran. -/
def startF (gs : List Nd) (xs : List Int) : Eg := if okC gs xs then ⟨mean gs xs, depTo gs (mean gs xs) gs.length⟩ else ⟨[], []⟩

theorem EB.of_small (e : Eg) (h1 : e.vs.length ≤ 1000) (h2 : SB e.rs) (h3 : (e.rs.map List.length).sum ≤ 1000) : EB e := by
  have h4 : ((rowsE e).map List.length).sum ≤ 1048576 := by unfold rowsE; simp; omega
  exact ⟨by omega, h2, SB2.of_sum (by unfold rowsE; simp; have := h2.1; omega) h4, by omega, h4⟩

theorem depTo_sum (gs : List Nd) (vs : List Int) (hg : validG gs = true) (hl : vs.length = gs.length) : ∀ k, k ≤ gs.length → ((depTo gs vs k).map List.length).sum ≤ k * 10 := by
  intro k
  induction k with
  | zero => intro _; simp [depTo]
  | succ k ih =>
    intro hk
    rw [depTo_succ, List.map_append, List.sum_append]
    have h1 := ih (by omega)
    have h2 := eager_depF_bd gs vs hg hl k (by omega)
    simp
    omega

theorem startF_EB (gs : List Nd) (xs : List Int) : EB (startF gs xs) := by
  unfold startF
  cases h : okC gs xs
  · exact EB.of_small _ (by simp) ⟨by simp, fun j => by simp [List.getD]⟩ (by simp)
  · simp only [if_true]
    have hg := (okC_parts gs xs h).1
    have h10 := (validG_parts gs hg).1
    have hml := mean_len gs xs
    have hs := depTo_sum gs (mean gs xs) hg hml gs.length (Nat.le_refl _)
    exact EB.of_small _ (by show (mean gs xs).length ≤ 1000; omega) (SB.of_sum (by show (depTo gs (mean gs xs) gs.length).length ≤ 1048576; rw [depTo_len]; omega) (by show ((depTo gs (mean gs xs) gs.length).map List.length).sum ≤ 1048576; omega)) (by show ((depTo gs (mean gs xs) gs.length).map List.length).sum ≤ 1000; omega)

theorem OwR.of_own {w : World} {lo n : Nat} {A : Option Addr} {c : Nat} {xs : List Int} (h : OwnI w lo (.slice A n c) xs) (hn : n = xs.length) : OwR lo w.heap.size 3 1 (.slice A n c) n (xs.map (Value.int .i64)) w := by
  subst hn
  exact OwR.start h

theorem OwSS.setCell {lo hi n : Nat} {v : Value} {xss : List (List Int)} {w : World} (h : OwSS lo hi v n xss w) {a : Addr} (ha : a.block < lo) (u : Value) : OwSS lo hi v n xss (w.setCell a u) :=
  OwSS.loc _ _ _ _ _ _ _ h fun k hk _ => Below.heap_setCell _ _ _ _ (by omega)

set_option maxRecDepth 100000 in
set_option maxHeartbeats 3200000 in
theorem spec_startEager (A A' : Option Addr) (n c m c' : Nat) (gs : List Nd) (xs : List Int) (w : World) (B : Nat) (hB : B ≤ w.heap.size) (hn : n = gs.length) (hm : m = xs.length) (h : GS w B A gs) (h' : IS w B A' xs) (hok : okC gs xs = true) :
    Calls Try.prog 36 #[.agg #[.slice A n c], .slice A' m c'] w fun e w' => RetE w ⟨mean gs xs, depTo gs (mean gs xs) gs.length⟩ e w' := by
  obtain ⟨i1, hi, hz0, hz1, hz2⟩ := info_parts info_ints1
  have hvg := (okC_parts gs xs hok).1
  have hn10 : n ≤ 10 := by have := (validG_parts gs hvg).1; omega
  have hml := mean_len gs xs
  rw [← hn] at hml
  have hvo : VOK (mean gs xs) := meanTo_VOK gs xs hok gs.length (Nat.le_refl _)
  have HM := Lib.hid fun (w' : World) (hB : B ≤ w'.heap.size) (h : GS w' B A gs) (h' : IS w' B A' xs) => spec_meaning A A' n c m c' gs xs w' B hB hn hm h h' hok
  have HDP := Lib.hid fun (A5 : Option Addr) (c5 i : Nat) (w' : World) (B : Nat) (hB : B ≤ w'.heap.size) (h : GS w' B A gs) (h' : IS w' B A5 (mean gs xs)) (hi : i < n) => spec_deps A A5 n c n c5 gs (mean gs xs) i w' B hB hn hml.symm rfl h h' hvg hvo hi
  have HML := Lib.hid hml
  have HDT := Lib.hid (depTo_succ gs (mean gs xs))
  have HDL := Lib.hid (depTo_len gs (mean gs xs))
  have H := Lib.hid h
  have HX := Lib.hid h'
  rw [← hn]
  clear hvg hok hml hvo h h' hn hm
  generalize mean gs xs = M at *
  go_enter Try.func36, Try.ntmps36
  go_wp2_with fail
  refine (HM.out _ (by simp; omega) ((H.out.alloc hB _).alloc (by simp; omega) _) ((HX.out.alloc hB _).alloc (by simp; omega) _)).mono ?_
  rintro e w1 ⟨v1, rfl, ho, hb⟩
  obtain ⟨A1, c1, rfl, hI1⟩ := OwnI.at_ ho HML.out
  have q1 : w1.cell? ⟨w.heap.size, 0, none⟩ = some (.slice A n c) := (hb.cell (p := ⟨w.heap.size, 0, none⟩) (by simp; omega)).trans (by go_simp)
  have k0 : w1.cell? ⟨w.heap.size + 1, 0, none⟩ = some (.slice none 0 0) := (hb.cell (p := ⟨w.heap.size + 1, 0, none⟩) (by simp)).trans (by go_simp)
  have k1 : w1.cell? ⟨w.heap.size + 1, 1, none⟩ = some (.slice none 0 0) := (hb.cell (p := ⟨w.heap.size + 1, 1, none⟩) (by simp)).trans (by go_simp)
  have f0 : w1.frozen? ⟨w.heap.size + 1, 0, none⟩ = false := (hb.frozen (p := ⟨w.heap.size + 1, 0, none⟩) (by simp)).trans (by go_simp)
  have f1 : w1.frozen? ⟨w.heap.size + 1, 1, none⟩ = false := (hb.frozen (p := ⟨w.heap.size + 1, 1, none⟩) (by simp)).trans (by go_simp)
  have hB1 : Below w.heap.size w w1 := (((Below.refl _ _).alloc (Nat.le_refl _) _).alloc (by simp) _).trans (hb.mono (by simp; omega))
  have hl1 : w.heap.size + 2 ≤ w1.heap.size := by have := hb.size; simp at this; omega
  simp only [World.size_alloc] at ho
  have HO1 := Lib.hid ho
  have HI1 := Lib.hid hI1
  have HG1 := Lib.hid ((H.out.below hB1 hB).more (B' := w1.heap.size) (by omega))
  clear hb ho hI1 H HX HM
  go_wp2
  go_loopw [6] (fun u wr => ∃ (k : Nat) (v : Value), k ≤ n ∧ u = .int .i64 k ∧ Hid (wr.cell? ⟨w1.heap.size, 0, none⟩ = some (.slice A1 n c1)) ∧ Hid (wr.cell? ⟨w1.heap.size, 1, none⟩ = some v) ∧ Hid (wr.frozen? ⟨w1.heap.size, 1, none⟩ = false) ∧ Hid (OwSS (w1.heap.size + 1) wr.heap.size v k (depTo gs M k) wr) ∧ Hid (Below w1.heap.size w1 wr) ∧ w1.heap.size + 1 ≤ wr.heap.size) (fun u _ => n - (intOf u).toNat)
  case atStart => exact ⟨0, .slice none 0 0, Nat.zero_le _, rfl, Lib.hid (by go_simp), Lib.hid (by go_simp), Lib.hid (by go_simp), Lib.hid (by simpa [depTo] using OwSS.nil _ _ _), (Below.refl _ _).alloc (Nat.le_refl _) _, by simp⟩
  case round =>
    obtain ⟨k, v, hk, rfl, P0, P1, PF, HO, HB, hwr⟩ := hrel
    have q2 := (HB.out.cell (p := ⟨w.heap.size, 0, none⟩) (by show w.heap.size < w1.heap.size; omega)).trans q1
    by_cases hlt : k < n
    · obtain ⟨hkl, us, hrow, hss⟩ := HO.out
      obtain ⟨Av, cv, rfl⟩ := own_form hrow.1
      have HROW := Lib.hid hrow.1
      have HSS := Lib.hid hss
      have HKL := Lib.hid hkl
      have HGR := Lib.hid (HG1.out.below HB.out (Nat.le_refl _))
      have HIR := Lib.hid (HI1.out.below HB.out (Nat.le_refl _))
      have HDS := Lib.hid (HDT.out k)
      have HDK := Lib.hid fun (w' : World) (B : Nat) (hB : B ≤ w'.heap.size) (h : GS w' B A gs) (h' : IS w' B A1 M) => HDP.out A1 c1 k w' B hB h h' hlt
      generalize depF gs M k = D at *
      have hwr1 : w1.heap.size ≤ wr.heap.size := by omega
      have hy0 : w.heap.size < wr.heap.size := by omega
      have hy1 : w1.heap.size < wr.heap.size := by omega
      have p0 := P0.out
      have p1 := P1.out
      clear hkl hrow hss
      go_wp2
      go_region_law
        (first
          | (go_simp; go_at_call 59; refine (HDK.out _ w1.heap.size ?_ ?_ ?_).mono ?_; exact hwr1; exact HGR.out; exact HIR.out; rintro e w5 ⟨v5, rfl, ho5, hb5'⟩; obtain ⟨A5, c5, rfl, hI5⟩ := OwnI.form ho5; have hb5 : Below wr.heap.size wr w5 := (by first | exact hb5' | exact below_of_drew hb5'); have HO5 := Lib.hid ho5; have HB5 := Lib.hid hb5; have HR5 := Lib.hid (own_below HROW.out hb5); have hs5 : wr.heap.size ≤ w5.heap.size := hb5.size; have r2 := (hb5.cell (p := ⟨w.heap.size, 0, none⟩) hy0).trans q2; have r0 := (hb5.cell (p := ⟨w1.heap.size, 0, none⟩) hy1).trans p0; have r1 := (hb5.cell (p := ⟨w1.heap.size, 1, none⟩) hy1).trans p1; have rf := (hb5.frozen (p := ⟨w1.heap.size, 1, none⟩) hy1).trans PF.out; have s2 := (World.cell?_alloc_lt w5 (.cells #[.slice A5 D.length c5] 26) ⟨w.heap.size, 0, none⟩ (Nat.lt_of_lt_of_le hy0 hs5)).trans r2; have s0 := (World.cell?_alloc_lt w5 (.cells #[.slice A5 D.length c5] 26) ⟨w1.heap.size, 0, none⟩ (Nat.lt_of_lt_of_le hy1 hs5)).trans r0; have s1 := (World.cell?_alloc_lt w5 (.cells #[.slice A5 D.length c5] 26) ⟨w1.heap.size, 1, none⟩ (Nat.lt_of_lt_of_le hy1 hs5)).trans r1; have sf := ((World.frozen?_alloc_past (w := w5) (.cells #[.slice A5 D.length c5] 26) w1.heap.size 1 (Nat.lt_of_lt_of_le hy1 hs5)).trans rf : (w5.alloc (.cells #[.slice A5 D.length c5] 26)).frozen? ⟨w1.heap.size, 1, none⟩ = false); clear hb5 hb5' ho5 hI5)
          | (refine step_append_lies _ (by rfl) _ _ _ (by rfl) (w1.heap.size + 1) 26 i1 _ 1 24 Try.underlying29 hi hz0 hz1 hz2 rfl (by omega) (.slice Av k cv) k us (by rfl) (HR5.out.alloc _) ⟨w5.heap.size, 0, none⟩ 1 1 [.slice A5 D.length c5] (by rfl) (by rfl) (cell_one_new _ _ _) (by simp [Value.oneCell']) (by omega) (by unfold maxLen; omega) (by omega) (by simp; omega) (w5.heap.size + 1) (by simp) ?_; intro gg cap w6 hown' hgrow hat hlt6; have hpos := (HR5.out.alloc (.cells #[.slice A5 D.length c5] 26)).lt; have hb6 : Below (w1.heap.size + 1) (w5.alloc (.cells #[.slice A5 D.length c5] 26)) w6 := (Below.refl _ _).grown hgrow (by first | (simp; omega) | omega) (fun q hq => (hpos q hq).1); have t2 := (hb6.cell (p := ⟨w.heap.size, 0, none⟩) (by show w.heap.size < w1.heap.size + 1; omega)).trans s2; have t0 := (hb6.cell (p := ⟨w1.heap.size, 0, none⟩) (by show w1.heap.size < w1.heap.size + 1; omega)).trans s0; have t1 := (hb6.cell (p := ⟨w1.heap.size, 1, none⟩) (by show w1.heap.size < w1.heap.size + 1; omega)).trans s1; have tf := (hb6.frozen (p := ⟨w1.heap.size, 1, none⟩) (by show w1.heap.size < w1.heap.size + 1; omega)).trans sf))
      all_goals
        have HNEW : Hid (OwSS (w1.heap.size + 1) w6.heap.size (.slice (some ⟨gg, 0, none⟩) (k + 1) cap) (k + 1) (depTo gs M (k + 1)) w6) := by
          rw [HDS.out]
          have hd5 := HO5.out
          unfold OwnI at hd5
          exact OwSS.snoc HROW.out HSS.out HKL.out HB5.out hd5 rfl hown' hgrow hwr
        have HB6 : Hid (Below w1.heap.size w1 w6) := ((HB.out.trans (HB5.out.mono hwr1)).alloc (by omega) (.cells #[.slice A5 D.length c5] 26)).trans (hb6.mono (by omega))
        have hs6 : w1.heap.size + 1 ≤ w6.heap.size := by have := hgrow.size; simp at this; omega
        clear hown' hgrow hpos hb6 r2 r0 r1 s2 s0 s1 q2 p0 p1 rf sf
        go_wp2
        go_roundw
        case rel => exact ⟨k + 1, _, by omega, by go_num, Lib.hid ((World.cell?_setCell_other _ _ _ _ (by simp)).trans t0), Lib.hid (World.cell?_setCell_same _ _ _ t1), Lib.hid ((World.frozen?_setCell _ _ _ _).trans tf), Lib.hid (by simpa [World.setCell] using HNEW.out.setCell (a := ⟨w1.heap.size, 1, none⟩) (by simp) (.slice (some ⟨gg, 0, none⟩) (k + 1) cap)), Lib.hid (HB6.out.setCell (Nat.le_refl _) _), by simpa [World.setCell] using hs6⟩
        case measure => simp [intOf]; omega
    · obtain rfl : k = n := by omega
      have e1 := (HB.out.cell (p := ⟨w.heap.size + 1, 0, none⟩) (by show w.heap.size + 1 < w1.heap.size; omega)).trans k0
      have e2 := (HB.out.cell (p := ⟨w.heap.size + 1, 1, none⟩) (by show w.heap.size + 1 < w1.heap.size; omega)).trans k1
      have e3 := (HB.out.frozen (p := ⟨w.heap.size + 1, 0, none⟩) (by show w.heap.size + 1 < w1.heap.size; omega)).trans f0
      have e4 := (HB.out.frozen (p := ⟨w.heap.size + 1, 1, none⟩) (by show w.heap.size + 1 < w1.heap.size; omega)).trans f1
      obtain ⟨Av, cv, rfl⟩ := HO.out.form
      have p0 := P0.out
      have p1 := P1.out
      go_wp2
      refine bodyPost_ret (v := .agg #[.slice A1 k c1, .slice Av k cv]) (by simp [results, Try.results36, go_sem, e1, e2]) rfl ?_
      have hrow0 : OwR (w.heap.size + 1 + 1) w1.heap.size 3 1 (.slice A1 k c1) k (M.map (Value.int .i64)) w1 := OwR.of_own HO1.out HML.out.symm
      have hrow1 := hrow0.keep (w' := wr) fun q _ hq => HB.out.block q hq
      have hoe : OwE (w.heap.size + 1 + 1) wr.heap.size A1 k c1 Av k cv ⟨M, depTo gs M k⟩ wr := OwE.join hrow1 HML.out.symm (HO.out.mono (by omega) (Nat.le_refl _)) (by omega) (by omega)
      have o1 := hoe.setCell (a := ⟨w.heap.size + 1, 0, none⟩) (by simp) (.slice A1 k c1)
      have o2 := o1.setCell (a := ⟨w.heap.size + 1, 1, none⟩) (by simp) (.slice Av k cv)
      refine ⟨_, _, _, _, _, _, rfl, ?_, ((hB1.trans (HB.out.mono (by omega))).setCell (by simp) _).setCell (by simp) _⟩
      have o4 := o2.mono (lo' := w.heap.size) (hi' := wr.heap.size) (by omega) (Nat.le_refl _)
      simpa [World.setCell] using o4

set_option maxRecDepth 100000 in
set_option maxHeartbeats 3200000 in
theorem top_spec_StartEager (gs : List Nd) (xs : List Int) (hG : GB gs) (hL : xs.length ≤ 1048576) : ∀ (A : Option Addr) (n c : Nat) (A' : Option Addr) (m c' : Nat) (w : World), n = gs.length → n ≤ c → GS w w.heap.size A gs → m = xs.length → IS w w.heap.size A' xs →
    Calls Try.prog 11 #[.agg #[.slice A n c], .slice A' m c'] w fun e w' => RetE w (startF gs xs) e w' := by
  intro A n c A' m c' w hn _ h hm h'
  have H := Lib.hid h
  have HI := Lib.hid h'
  have HC := Lib.hid fun (w' : World) (hB : w.heap.size ≤ w'.heap.size) (h : GS w' w.heap.size A gs) => spec_validGraph A n c gs w' w.heap.size hB hn h hG
  have HD := Lib.hid fun (w' : World) (hB : w.heap.size ≤ w'.heap.size) (h : GS w' w.heap.size A gs) (h' : IS w' w.heap.size A' xs) => spec_validCells A A' n c m c' gs xs w' w.heap.size hB hn hm h h' (by have := hG.1; omega) (by omega)
  have HE := Lib.hid fun (w' : World) (hB : w.heap.size ≤ w'.heap.size) (h : GS w' w.heap.size A gs) (h' : IS w' w.heap.size A' xs) (hok : okC gs xs = true) => spec_startEager A A' n c m c' gs xs w' w.heap.size hB hn hm h h' hok
  have hf : startF gs xs = if okC gs xs then ⟨mean gs xs, depTo gs (mean gs xs) gs.length⟩ else ⟨[], []⟩ := rfl
  have hok : okC gs xs = (validG gs && validC gs xs) := rfl
  rw [hf]
  clear hf
  generalize okC gs xs = o at *
  generalize validG gs = r at *
  generalize validC gs xs = s at *
  generalize (⟨mean gs xs, depTo gs (mean gs xs) gs.length⟩ : Eg) = M at *
  subst hok
  clear h h' hn hm hG
  have HGA := Lib.hid ((H.out.alloc (Nat.le_refl _) (.cells #[.slice A n c] 25)).alloc (by simp) (.cells #[.slice none 0 0, .slice none 0 0] 31))
  have HIA := Lib.hid ((HI.out.alloc (Nat.le_refl _) (.cells #[.slice A n c] 25)).alloc (by simp) (.cells #[.slice none 0 0, .slice none 0 0] 31))
  cases r
  · go_enter Try.func11, Try.ntmps11
    go_wp2_with fail
    refine (HC.out _ (by simp; omega) HGA.out).mono ?_
    rintro e w1 ⟨rfl, hb⟩
    have k0 : w1.cell? ⟨w.heap.size + 1, 0, none⟩ = some (.slice none 0 0) := (hb.cell (p := ⟨w.heap.size + 1, 0, none⟩) (by simp)).trans (by go_simp)
    have k1 : w1.cell? ⟨w.heap.size + 1, 1, none⟩ = some (.slice none 0 0) := (hb.cell (p := ⟨w.heap.size + 1, 1, none⟩) (by simp)).trans (by go_simp)
    have f0 : w1.frozen? ⟨w.heap.size + 1, 0, none⟩ = false := (hb.frozen (p := ⟨w.heap.size + 1, 0, none⟩) (by simp)).trans (by go_simp)
    have f1 : w1.frozen? ⟨w.heap.size + 1, 1, none⟩ = false := (hb.frozen (p := ⟨w.heap.size + 1, 1, none⟩) (by simp)).trans (by go_simp)
    have hB1 : Below w.heap.size w w1 := (((Below.refl _ _).alloc (Nat.le_refl _) _).alloc (by simp) _).trans (hb.mono (by simp; omega))
    go_wp2
    refine bodyPost_ret (v := .agg #[.slice none 0 0, .slice none 0 0]) (by simp [results, Try.results11, go_sem, k0, k1]) rfl (RetE.nil ?_)
    exact (hB1.setCell (by simp) _).setCell (by simp) _
  · go_enter Try.func11, Try.ntmps11
    go_wp2_with fail
    refine (HC.out _ (by simp; omega) HGA.out).mono ?_
    rintro e w1 ⟨rfl, hb⟩
    have q0 : w1.cell? ⟨w.heap.size, 0, none⟩ = some (.slice A n c) := (hb.cell (p := ⟨w.heap.size, 0, none⟩) (by simp; omega)).trans (by go_simp)
    have k0 : w1.cell? ⟨w.heap.size + 1, 0, none⟩ = some (.slice none 0 0) := (hb.cell (p := ⟨w.heap.size + 1, 0, none⟩) (by simp)).trans (by go_simp)
    have k1 : w1.cell? ⟨w.heap.size + 1, 1, none⟩ = some (.slice none 0 0) := (hb.cell (p := ⟨w.heap.size + 1, 1, none⟩) (by simp)).trans (by go_simp)
    have f0 : w1.frozen? ⟨w.heap.size + 1, 0, none⟩ = false := (hb.frozen (p := ⟨w.heap.size + 1, 0, none⟩) (by simp)).trans (by go_simp)
    have f1 : w1.frozen? ⟨w.heap.size + 1, 1, none⟩ = false := (hb.frozen (p := ⟨w.heap.size + 1, 1, none⟩) (by simp)).trans (by go_simp)
    have hB1 : Below w.heap.size w w1 := (((Below.refl _ _).alloc (Nat.le_refl _) _).alloc (by simp) _).trans (hb.mono (by simp; omega))
    have hl1 : w.heap.size + 2 ≤ w1.heap.size := by have := hb.size; simp at this; omega
    have HG1 := Lib.hid (HGA.out.below hb (by simp; omega))
    have HI1 := Lib.hid (HIA.out.below hb (by simp; omega))
    clear hb
    go_wp2_with fail
    refine (HD.out _ (by omega) HG1.out HI1.out).mono ?_
    rintro e w2 ⟨rfl, hb2⟩
    have r0 := (hb2.cell (p := ⟨w.heap.size, 0, none⟩) (by show w.heap.size < w1.heap.size; omega)).trans q0
    have m0 := (hb2.cell (p := ⟨w.heap.size + 1, 0, none⟩) (by show w.heap.size + 1 < w1.heap.size; omega)).trans k0
    have m1 := (hb2.cell (p := ⟨w.heap.size + 1, 1, none⟩) (by show w.heap.size + 1 < w1.heap.size; omega)).trans k1
    have g0 := (hb2.frozen (p := ⟨w.heap.size + 1, 0, none⟩) (by show w.heap.size + 1 < w1.heap.size; omega)).trans f0
    have g1 := (hb2.frozen (p := ⟨w.heap.size + 1, 1, none⟩) (by show w.heap.size + 1 < w1.heap.size; omega)).trans f1
    have hB2 := hB1.trans (hb2.mono (by omega))
    have hl2 : w.heap.size + 2 ≤ w2.heap.size := Nat.le_trans hl1 hb2.size
    have HG2 := Lib.hid (HG1.out.below hb2 (by omega))
    have HI2 := Lib.hid (HI1.out.below hb2 (by omega))
    clear hb2 q0 k0 k1 f0 f1
    cases s
    · go_wp2
      refine bodyPost_ret (v := .agg #[.slice none 0 0, .slice none 0 0]) (by simp [results, Try.results11, go_sem, m0, m1]) rfl (RetE.nil ?_)
      exact (hB2.setCell (by simp) _).setCell (by simp) _
    · go_wp2_with fail
      refine (HE.out _ (by omega) HG2.out HI2.out rfl).mono ?_
      rintro e w3 ⟨A3, n3, c3, E3, en3, ec3, rfl, ho, hb3⟩
      have u0 := (hb3.cell (p := ⟨w.heap.size + 1, 0, none⟩) (by show w.heap.size + 1 < w2.heap.size; omega)).trans m0
      have u1 := (hb3.cell (p := ⟨w.heap.size + 1, 1, none⟩) (by show w.heap.size + 1 < w2.heap.size; omega)).trans m1
      have v0 := (hb3.frozen (p := ⟨w.heap.size + 1, 0, none⟩) (by show w.heap.size + 1 < w2.heap.size; omega)).trans g0
      have v1 := (hb3.frozen (p := ⟨w.heap.size + 1, 1, none⟩) (by show w.heap.size + 1 < w2.heap.size; omega)).trans g1
      have HO := Lib.hid ho
      have HB3 := Lib.hid (hB2.trans (hb3.mono (by omega)))
      clear ho hb3
      go_wp2
      refine bodyPost_ret (v := .agg #[.slice A3 n3 c3, .slice E3 en3 ec3]) (by simp [results, Try.results11, go_sem, u0, u1]) rfl ?_
      have o1 := HO.out.setCell (a := ⟨w.heap.size + 1, 0, none⟩) (by simp; omega) (.slice A3 n3 c3)
      have o2 := o1.setCell (a := ⟨w.heap.size + 1, 1, none⟩) (by simp; omega) (.slice E3 en3 ec3)
      refine ⟨_, _, _, _, _, _, rfl, ?_, (HB3.out.setCell (by simp) _).setCell (by simp) _⟩
      have o4 := o2.mono (lo' := w.heap.size) (hi' := w3.heap.size) (by omega) (Nat.le_refl _)
      simpa [World.setCell] using o4

set_option maxRecDepth 100000 in
set_option maxHeartbeats 3200000 in
theorem top_impl_StartEager (gs : List Nd) (xs : List Int) (hG : GB gs) (hL : xs.length ≤ 1048576) : ∀ (A : Option Addr) (n c : Nat) (A' : Option Addr) (m c' : Nat) (w : World), n = gs.length → n ≤ c → GS w w.heap.size A gs → m = xs.length → IS w w.heap.size A' xs →
    Calls Try.prog 9 #[.agg #[.slice A n c], .slice A' m c'] w fun e w' => RetE w (startF gs xs) e w' := by
  intro A n c A' m c' w hn hnc h hm h'
  have hf : startF gs xs = ⟨meanF gs xs, depsF gs xs⟩ := by unfold startF meanF depsF; cases okC gs xs <;> rfl
  rw [hf]
  have HM := Lib.hid fun (w' : World) (hB : w.heap.size ≤ w'.heap.size) (h : GS w' w.heap.size A gs) (h' : IS w' w.heap.size A' xs) => impl_MeaningOf A A' n c m c' gs xs w' w.heap.size hB hn hnc hm h h' hG (by omega)
  have HD := Lib.hid fun (w' : World) (h : GS w' w'.heap.size A gs) (h' : IS w' w'.heap.size A' xs) => top_impl_DepsOf gs xs hG hL A n c A' m c' w' hn hnc h hm h'
  have HG0 := Lib.hid ((h.alloc (Nat.le_refl _) (.cells #[.slice A n c] 25)).alloc (by simp) (.cells #[.slice none 0 0, .slice none 0 0] 31))
  have HI0 := Lib.hid ((h'.alloc (Nat.le_refl _) (.cells #[.slice A n c] 25)).alloc (by simp) (.cells #[.slice none 0 0, .slice none 0 0] 31))
  clear h h' hn hm hG hf
  generalize meanF gs xs = M at *
  generalize depsF gs xs = D at *
  go_enter Try.func9, Try.ntmps9
  go_wp2
  obtain ⟨W2, hW2⟩ : ∃ W2, W2 = ((w.alloc (.cells #[.slice A n c] 25)).alloc (.cells #[.slice none 0 0, .slice none 0 0] 31)) := ⟨_, rfl⟩
  have q0 : W2.cell? ⟨w.heap.size, 0, none⟩ = some (.slice A n c) := by rw [hW2]; go_simp
  have k0 : W2.cell? ⟨w.heap.size + 1, 0, none⟩ = some (.slice none 0 0) := by rw [hW2]; go_simp
  have k1 : W2.cell? ⟨w.heap.size + 1, 1, none⟩ = some (.slice none 0 0) := by rw [hW2]; go_simp
  have f0 : W2.frozen? ⟨w.heap.size + 1, 0, none⟩ = false := by rw [hW2]; go_simp
  have f1 : W2.frozen? ⟨w.heap.size + 1, 1, none⟩ = false := by rw [hW2]; go_simp
  have hs2 : W2.heap.size = w.heap.size + 2 := by rw [hW2]; simp
  have HB2 : Hid (Below w.heap.size w W2) := by rw [hW2]; exact ((Below.refl _ _).alloc (Nat.le_refl _) _).alloc (by simp) _
  rw [← hW2] at HG0 HI0
  rw [← hW2]
  clear hW2
  have hy0 : w.heap.size < W2.heap.size := by omega
  have hy1 : w.heap.size + 1 < W2.heap.size := by omega
  have hy2 : w.heap.size ≤ W2.heap.size := by omega
  go_region_held3 (fun w' => w'.cell? ⟨w.heap.size, 0, none⟩ = some (.slice A n c)) (first | exact q0 | exact r0 | exact s0 | exact (World.cell?_setCell_other _ _ _ _ (by simp)).trans ((World.cell?_setCell_other _ _ _ _ (by simp)).trans s0))
    (first
      | (go_at_call 14; refine (HM.out _ ?_ ?_ ?_).mono ?_; exact hy2; exact HG0.out; exact HI0.out; rintro e w3 ⟨v3, rfl, ho3, hb3'⟩; obtain ⟨A3, c3, rfl, hI3⟩ := OwnI.form ho3; have hb3 : Below W2.heap.size W2 w3 := (by first | exact hb3' | exact below_of_drew hb3'); have r0 := (hb3.cell (p := ⟨w.heap.size, 0, none⟩) hy0).trans q0; have HG3 := Lib.hid ((HG0.out.below hb3 hy2).more (B' := w3.heap.size) (Nat.le_trans hy2 hb3.size)); have HI3 := Lib.hid ((HI0.out.below hb3 hy2).more (B' := w3.heap.size) (Nat.le_trans hy2 hb3.size)))
      | (go_at_call 16; refine (HD.out _ ?_ ?_).mono ?_; exact HG3.out; exact HI3.out; rintro e w4 ⟨v4, rfl, ho4, hb4⟩; obtain ⟨A4, c4, rfl⟩ := ho4.form; have s0 := (hb4.cell (p := ⟨w.heap.size, 0, none⟩) (Nat.lt_of_lt_of_le hy0 hb3.size)).trans r0; have t0 := (hb4.cell (p := ⟨w.heap.size + 1, 0, none⟩) (Nat.lt_of_lt_of_le hy1 hb3.size)).trans ((hb3.cell (p := ⟨w.heap.size + 1, 0, none⟩) hy1).trans k0); have t1 := (hb4.cell (p := ⟨w.heap.size + 1, 1, none⟩) (Nat.lt_of_lt_of_le hy1 hb3.size)).trans ((hb3.cell (p := ⟨w.heap.size + 1, 1, none⟩) hy1).trans k1); have u0 := (hb4.frozen (p := ⟨w.heap.size + 1, 0, none⟩) (Nat.lt_of_lt_of_le hy1 hb3.size)).trans ((hb3.frozen (p := ⟨w.heap.size + 1, 0, none⟩) hy1).trans f0); have u1 := (hb4.frozen (p := ⟨w.heap.size + 1, 1, none⟩) (Nat.lt_of_lt_of_le hy1 hb3.size)).trans ((hb3.frozen (p := ⟨w.heap.size + 1, 1, none⟩) hy1).trans f1)))
  have HO3 := Lib.hid ho3
  have HO4 := Lib.hid ho4
  have HB4 := Lib.hid (HB2.out.trans ((hb3.mono hy2).trans (hb4.mono (Nat.le_trans hy2 hb3.size))))
  have hs3 := hb3.size
  have hs4 := hb4.size
  have hrow1 := (OwR.of_own HO3.out rfl).step hb4
  have hoe : OwE W2.heap.size w4.heap.size A3 M.length c3 A4 D.length c4 ⟨M, D⟩ w4 := OwE.join (mid := w3.heap.size) hrow1 rfl HO4.out hs3 hs4
  go_wp2
  refine bodyPost_ret (v := .agg #[.slice A3 M.length c3, .slice A4 D.length c4]) (by simp [results, Try.results9, go_sem, t0, t1]) rfl ?_
  have o1 := hoe.setCell (a := ⟨w.heap.size + 1, 0, none⟩) (by simp; omega) (.slice A3 M.length c3)
  have o2 := o1.setCell (a := ⟨w.heap.size + 1, 1, none⟩) (by simp; omega) (.slice A4 D.length c4)
  refine ⟨_, _, _, _, _, _, rfl, ?_, (HB4.out.setCell (by simp) _).setCell (by simp) _⟩
  have o4 := o2.mono (lo' := w.heap.size) (hi' := w4.heap.size) (by omega) (Nat.le_refl _)
  simpa [World.setCell] using o4
end Go.Proofs.Ytgclikdienlhdaa

/- The standing contracts of ChangedBy. -/
namespace Go.Proofs.Ytgclikdienlhdaa
set_option linter.unusedSimpArgs false
set_option linter.unusedVariables false
open Go.RowKit

def chgB (gs : List Nd) (xs ys : List Int) : Bool := validG gs && validC gs xs && validC gs ys
def chgF (gs : List Nd) (xs ys : List Int) : List Int := if chgB gs xs ys then diffTo (mean gs xs) (mean gs ys) gs.length else []

theorem chgF_len (gs : List Nd) (xs ys : List Int) : (chgF gs xs ys).length ≤ 10 := by
  unfold chgF
  cases h : chgB gs xs ys
  · simp
  · simp only [if_true]
    unfold chgB at h
    simp only [Bool.and_eq_true] at h
    have := diffTo_len (mean gs xs) (mean gs ys) gs.length
    have := (validG_parts gs h.1.1).1
    omega

set_option maxRecDepth 100000 in
set_option maxHeartbeats 1600000 in
theorem spec_differing (A A' : Option Addr) (n c c' : Nat) (a b : List Int) (w : World) (B : Nat) (hB : B ≤ w.heap.size) (hn : n = a.length) (hm : n = b.length) (h : IS w B A a) (h' : IS w B A' b) (hs : n ≤ 2000000) :
    Calls Try.prog 57 #[.slice A n c, .slice A' n c'] w fun e w' => RetI w (diffTo a b n) e w' := by
  obtain ⟨i0, hi, hz0, hz1, hz2⟩ := info_parts info_int
  have H := Lib.hid h
  have H' := Lib.hid h'
  have HN := Lib.hid hn
  have HM := Lib.hid hm
  clear hn h hm h'
  go_enter Try.func57, Try.ntmps57
  go_wp2
  go_loopw [5, 6] (fun v i wr => ∃ k : Nat, k ≤ n ∧ i = .int .i64 k ∧ Hid (OwnI wr w.heap.size v (diffTo a b k)) ∧ Below w.heap.size w wr) (fun _ i _ => n - (intOf i).toNat)
  case atStart =>
    refine ⟨0, Nat.zero_le _, rfl, ?_, (Below.refl _ _).alloc (Nat.le_refl _) _⟩
    have := World.ownsRow_lit (e := 3) (size := 1) (base := w.heap.size) w #[] 0 (Nat.le_refl _) (by unfold maxLen; omega) rfl
    simpa [OwnI, Hid, diffTo] using this
  case round =>
    obtain ⟨k, hk, rfl, HO, hb⟩ := hrel
    by_cases hlt : k < n
    · obtain ⟨b1, off1, rfl, hb1, hc1⟩ := H.out (by have := HN.out; omega)
      obtain ⟨b2, off2, rfl, hb2, hc2⟩ := H'.out (by have := HM.out; omega)
      have c1 := (hb.cell (p := ⟨b1, off1 + k, none⟩) (by simp; omega)).trans (hc1 k (by have := HN.out; omega))
      have c2 := (hb.cell (p := ⟨b2, off2 + k, none⟩) (by simp; omega)).trans (hc2 k (by have := HM.out; omega))
      clear hc1 hc2
      have HST := Lib.hid (diffTo_step a b k)
      have hdl := diffTo_len a b k
      generalize a.getD k 0 = x at *
      generalize b.getD k 0 = y at *
      generalize diffTo a b k = D at *
      have hwr : w.heap.size ≤ wr.heap.size := hb.size
      cases hxy : (x == y)
      · have hne : (x != y) = true := by simp [bne, hxy]
        rw [hxy] at HST
        clear hxy
        go_wp2
        go_region
        go_wp2_with (at_builtin; refine wpList_append_own _ rfl _ _ 26 rfl w.heap.size 3 i0 (.int .i64 0) 1 8 Try.underlying26 hi hz0 hz1 hz2 rfl (by decide) _ _ _ rfl (HO.out.drew.alloc _) ⟨_, 0, none⟩ 1 1 [.int .i64 k] rfl rfl (cell_one_new _ _ _) ?c2 ?c3 ?c4 ?c5 ?_)
        case c2 => first | rfl | (intro u hu; simp at hu; subst hu; rfl)
        case c3 => unfold maxLen; omega
        case c4 => omega
        case c5 => first | omega | (simp; omega)
        intro v' w3 hown' hgrow _
        have hpos := (HO.out.drew.alloc (.cells #[.int .i64 k] 3)).lt
        have HO' : Hid (OwnI w3 w.heap.size v' (diffTo a b (k + 1))) := by
          rw [HST.out]
          simpa [OwnI, Hid] using hown'
        have HB' := Lib.hid ((hb.drew.alloc hwr (.cells #[.int .i64 k] 3)).grown hgrow (by first | (simp; omega) | omega) (fun q hq => (hpos q hq).1))
        clear hown' hgrow hpos
        go_wp2
        go_roundw
        case rel => exact ⟨k + 1, by omega, by go_num, HO'.out, HB'.out⟩
        case measure => simp [intOf]; omega
      · have hne : (x != y) = false := by simp [bne, hxy]
        rw [hxy] at HST
        clear hxy
        go_wp2
        go_region
        go_wp2
        go_roundw
        case rel => exact ⟨k + 1, by omega, by go_num, by rw [HST.out]; have := HO.out.drew; simpa [OwnI, Hid] using this, hb.drew⟩
        case measure => simp [intOf]; omega
    · obtain rfl : k = n := by omega
      go_wp2
      go_ret
      exact ⟨_, rfl, HO.out, hb⟩

/-- The first numbers for which something holds. -/
def nwTo (P : Nat → Bool) (n : Nat) : List Int := ((List.range n).filter P).map fun i : Nat => (i : Int)
theorem nwTo_step (P : Nat → Bool) (k : Nat) : nwTo P (k + 1) = nwTo P k ++ (if P k then [(k : Int)] else []) := by
  unfold nwTo
  rw [List.range_succ, List.filter_append, List.map_append]
  congr 1
  cases h : P k <;> simp [h]
theorem nwTo_len (P : Nat → Bool) (k : Nat) : (nwTo P k).length ≤ k := by
  unfold nwTo
  rw [List.length_map]
  have := List.length_filter_le P (List.range k)
  simpa using this
theorem nwTo_diff (a b : List Int) (k : Nat) : nwTo (fun i => !(a.getD i 0 == b.getD i 0)) k = diffTo a b k := rfl

set_option maxRecDepth 100000 in
set_option maxHeartbeats 1600000 in
theorem impl_nodesWhere2 (K : FuncId) (cap cap2 : Value) (P : Nat → Bool) (I : World → Prop) (A : Option Addr) (n c : Nat) (hs : n ≤ 2000000)
    (hI : ∀ w w' : World, I w → Below w.heap.size w w' → I w') (hcf : ∀ (q : Nat) (w : World), (callFunc K #[.int .i64 q, cap, cap2]).run Try.prog w = .ok (.enter K #[.int .i64 q, cap, cap2]) w)
    (hP : ∀ (q : Nat) (w : World), q < n → I w → Calls Try.prog K #[.int .i64 q, cap, cap2] w fun e w' => e = .returned (.bool (P q)) ∧ Below w.heap.size w w') (w : World) (h : I w) :
    Calls Try.prog 53 #[.agg #[.slice A n c], .func (.func K) #[] #[cap, cap2]] w fun e w' => RetI w (nwTo P n) e w' := by
  obtain ⟨i0, hi, hz0, hz1, hz2⟩ := info_parts info_int
  have HI := Lib.hid hI
  have HP := Lib.hid hP
  have H := Lib.hid h
  have HCF := Lib.hid hcf
  clear hI hP h hcf
  go_enter Try.func53, Try.ntmps53
  go_wp2
  go_loopw [5, 10] (fun v i wr => ∃ k : Nat, k ≤ n ∧ i = .int .i64 k ∧ Hid (OwnI wr (w.heap.size + 1) v (nwTo P k)) ∧ Below (w.heap.size + 1) (w.alloc (.cells #[.slice A n c] 25)) wr) (fun _ i _ => n - (intOf i).toNat)
  case atStart => exact ⟨0, Nat.zero_le _, rfl, World.ownsRow_nil _ _ _ _, Below.refl _ _⟩
  case round =>
    obtain ⟨k, hk, rfl, HO, hbr⟩ := hrel
    have hwr : w.heap.size + 1 ≤ wr.heap.size := by have := hbr.size; simpa using this
    by_cases hlt : k < n
    · have HST := Lib.hid (nwTo_step P k)
      have hdl := nwTo_len P k
      have HIR := Lib.hid (HI.out _ _ H.out (((Below.refl _ _).alloc (Nat.le_refl _) _).trans (hbr.mono (by omega))))
      have HPK := Lib.hid fun (w' : World) (h : I w') => HP.out k w' hlt h
      have hcf := HCF.out k
      generalize nwTo P k = D at *
      generalize P k = p at *
      cases p
      · go_wp2_with fail
        refine (HPK.out _ HIR.out).mono ?_
        rintro e w2 ⟨rfl, hb2⟩
        go_wp2
        go_roundw
        case rel => exact ⟨k + 1, by omega, by go_num, by rw [HST.out]; simpa [OwnI, Hid] using own_below HO.out hb2, hbr.trans (hb2.mono hwr)⟩
        case measure => simp [intOf]; omega
      · go_wp2_with fail
        refine (HPK.out _ HIR.out).mono ?_
        rintro e w2 ⟨rfl, hb2⟩
        have HO2 := Lib.hid (own_below HO.out hb2)
        have hbr2 := hbr.trans (hb2.mono hwr)
        have hw2 : w.heap.size + 1 ≤ w2.heap.size := by have := hb2.size; omega
        clear hcf
        go_wp2_with (at_builtin; refine wpList_append_own _ rfl _ _ 26 rfl (w.heap.size + 1) 3 i0 (.int .i64 0) 1 8 Try.underlying26 hi hz0 hz1 hz2 rfl (by decide) _ _ _ rfl (HO2.out.alloc _) ⟨_, 0, none⟩ 1 1 [.int .i64 k] rfl rfl (cell_one_new _ _ _) ?c2 ?c3 ?c4 ?c5 ?_)
        case c2 => first | rfl | (intro u hu; simp at hu; subst hu; rfl)
        case c3 => unfold maxLen; omega
        case c4 => omega
        case c5 => first | omega | (simp; omega)
        intro v' w3 hown' hgrow _
        have hpos := (HO2.out.alloc (.cells #[.int .i64 k] 3)).lt
        have HO' : Hid (OwnI w3 (w.heap.size + 1) v' (nwTo P (k + 1))) := by
          rw [HST.out]
          simpa [OwnI, Hid] using hown'
        have HB' := Lib.hid ((hbr2.alloc hw2 (.cells #[.int .i64 k] 3)).grown hgrow (by first | (simp; omega) | omega) (fun q hq => (hpos q hq).1))
        clear hown' hgrow hpos
        go_wp2
        go_roundw
        case rel => exact ⟨k + 1, by omega, by go_num, HO'.out, HB'.out⟩
        case measure => simp [intOf]; omega
    · obtain rfl : k = n := by omega
      go_wp2
      go_ret
      exact ⟨_, rfl, own_mono HO.out (by omega), ((Below.refl _ _).alloc (Nat.le_refl _) _).trans (hbr.mono (by omega))⟩

set_option maxHeartbeats 800000 in
theorem differ_at (g1 g2 : Nat) (A A' : Option Addr) (n c c' q : Nat) (a b : List Int) (w : World) (hn : n = a.length) (hm : n = b.length) (hq : q < n) (h1 : w.cell? ⟨g1, 0, none⟩ = some (.slice A n c)) (h2 : w.cell? ⟨g2, 0, none⟩ = some (.slice A' n c')) (h : IS w w.heap.size A a) (h' : IS w w.heap.size A' b) :
    Calls Try.prog 60 #[.int .i64 q, .pointer (some ⟨g1, 0, none⟩), .pointer (some ⟨g2, 0, none⟩)] w fun e w' => e = .returned (.bool (!(a.getD q 0 == b.getD q 0))) ∧ Below w.heap.size w w' := by
  obtain ⟨b1, off1, rfl, hb1, hc1⟩ := h (by omega)
  obtain ⟨b2, off2, rfl, hb2, hc2⟩ := h' (by omega)
  have e1 := hc1 q (by omega)
  have e2 := hc2 q (by omega)
  generalize a.getD q 0 = x at *
  generalize b.getD q 0 = y at *
  clear hc1 hc2 hn hm h h'
  go_enter Try.func60, Try.ntmps60
  go_wp2
  go_region
  go_wp2
  go_ret
  exact ⟨ret_b (by simp [bne]), (Below.refl _ _).drew⟩

set_option maxRecDepth 100000 in
set_option maxHeartbeats 3200000 in
theorem top_impl_ChangedBy (gs : List Nd) (xs ys : List Int) (hG : GB gs) (hL : xs.length ≤ 1048576) (hL2 : ys.length ≤ 1048576) : ∀ (A : Option Addr) (n c : Nat) (A1 : Option Addr) (m1 c1 : Nat) (A2 : Option Addr) (m2 c2 : Nat) (w : World), n = gs.length → n ≤ c → GS w w.heap.size A gs → m1 = xs.length → IS w w.heap.size A1 xs → m2 = ys.length → IS w w.heap.size A2 ys →
    Calls Try.prog 29 #[.agg #[.slice A n c], .slice A1 m1 c1, .slice A2 m2 c2] w fun e w' => RetI w (chgF gs xs ys) e w' := by
  intro A n c A1 m1 c1 A2 m2 c2 w hn hnc h hx h1 hy h2
  have hm1 : m1 ≤ 2000000 := by omega
  have hm2 : m2 ≤ 2000000 := by omega
  have hn1 : n ≤ 1048576 := by rw [hn]; exact hG.1
  have H := Lib.hid h
  have HX := Lib.hid h1
  have HY := Lib.hid h2
  have HN := Lib.hid hn
  have HDX := Lib.hid fun (w' : World) (hB : w.heap.size ≤ w'.heap.size) (h : GS w' w.heap.size A gs) (h' : IS w' w.heap.size A1 xs) => impl_ValidCells A A1 n c m1 c1 gs xs w' w.heap.size hB hn hnc hx h h' hG hm1
  have HDY := Lib.hid fun (w' : World) (hB : w.heap.size ≤ w'.heap.size) (h : GS w' w.heap.size A gs) (h' : IS w' w.heap.size A2 ys) => impl_ValidCells A A2 n c m2 c2 gs ys w' w.heap.size hB hn hnc hy h h' hG hm2
  have HMX := Lib.hid fun (w' : World) (hB : w.heap.size ≤ w'.heap.size) (h : GS w' w.heap.size A gs) (h' : IS w' w.heap.size A1 xs) => impl_MeaningOf A A1 n c m1 c1 gs xs w' w.heap.size hB hn hnc hx h h' hG hm1
  have HMY := Lib.hid fun (w' : World) (hB : w.heap.size ≤ w'.heap.size) (h : GS w' w.heap.size A gs) (h' : IS w' w.heap.size A2 ys) => impl_MeaningOf A A2 n c m2 c2 gs ys w' w.heap.size hB hn hnc hy h h' hG hm2
  have hml1 := mean_len gs xs
  have hml2 := mean_len gs ys
  have hb12 : chgB gs xs ys = (okC gs xs && okC gs ys) := by unfold chgB okC; cases validG gs <;> cases validC gs xs <;> simp
  have hf : chgF gs xs ys = if okC gs xs && okC gs ys then diffTo (mean gs xs) (mean gs ys) n else [] := by unfold chgF; rw [hb12, hn]
  rw [hf]
  rw [← hn] at hml1 hml2
  have HL1 := Lib.hid hml1
  have HL2 := Lib.hid hml2
  have hmx : meanF gs xs = if okC gs xs then mean gs xs else [] := rfl
  have hmy : meanF gs ys = if okC gs ys then mean gs ys else [] := rfl
  rw [hmx] at HMX
  rw [hmy] at HMY
  clear hf h h1 h2 hn hx hy hG hml1 hml2 hb12 hmx hmy
  generalize okC gs xs = b1 at *
  generalize okC gs ys = b2 at *
  generalize mean gs xs = MX at *
  generalize mean gs ys = MY at *
  cases b1
  · go_enter Try.func29, Try.ntmps29
    go_wp2_with fail
    refine (HDX.out _ (by simp) (H.out.alloc (Nat.le_refl _) _) (HX.out.alloc (Nat.le_refl _) _)).mono ?_
    rintro e w1 ⟨rfl, hb⟩
    have q1 : w1.cell? ⟨w.heap.size, 0, none⟩ = some (.slice A n c) := (hb.cell (p := ⟨w.heap.size, 0, none⟩) (by simp)).trans (by go_simp)
    have HG1 := Lib.hid ((H.out.alloc (Nat.le_refl _) (.cells #[.slice A n c] 25)).below hb (by simp))
    have HX1 := Lib.hid ((HX.out.alloc (Nat.le_refl _) (.cells #[.slice A n c] 25)).below hb (by simp))
    have HY1 := Lib.hid ((HY.out.alloc (Nat.le_refl _) (.cells #[.slice A n c] 25)).below hb (by simp))
    have hB1 : Below w.heap.size w w1 := ((Below.refl _ _).alloc (Nat.le_refl _) _).trans (hb.mono (by simp))
    have hl1 : w.heap.size < w1.heap.size := by have := hb.size; simp at this; omega
    clear hb
    go_wp2
    go_ret
    exact RetI.nil (hB1)
  · cases b2
    · go_enter Try.func29, Try.ntmps29
      go_wp2_with fail
      refine (HDX.out _ (by simp) (H.out.alloc (Nat.le_refl _) _) (HX.out.alloc (Nat.le_refl _) _)).mono ?_
      rintro e w1 ⟨rfl, hb⟩
      have q1 : w1.cell? ⟨w.heap.size, 0, none⟩ = some (.slice A n c) := (hb.cell (p := ⟨w.heap.size, 0, none⟩) (by simp)).trans (by go_simp)
      have HG1 := Lib.hid ((H.out.alloc (Nat.le_refl _) (.cells #[.slice A n c] 25)).below hb (by simp))
      have HX1 := Lib.hid ((HX.out.alloc (Nat.le_refl _) (.cells #[.slice A n c] 25)).below hb (by simp))
      have HY1 := Lib.hid ((HY.out.alloc (Nat.le_refl _) (.cells #[.slice A n c] 25)).below hb (by simp))
      have hB1 : Below w.heap.size w w1 := ((Below.refl _ _).alloc (Nat.le_refl _) _).trans (hb.mono (by simp))
      have hl1 : w.heap.size < w1.heap.size := by have := hb.size; simp at this; omega
      clear hb
      go_wp2_with fail
      refine (HDY.out _ hB1.size HG1.out HY1.out).mono ?_
      rintro e w2 ⟨rfl, hb⟩
      have q2 := (hb.cell (p := ⟨w.heap.size, 0, none⟩) hl1).trans q1
      have HG2 := Lib.hid (HG1.out.below hb hB1.size)
      have HX2 := Lib.hid (HX1.out.below hb hB1.size)
      have HY2 := Lib.hid (HY1.out.below hb hB1.size)
      have hB2 := hB1.trans (hb.mono hB1.size)
      have hl2 : w.heap.size < w2.heap.size := Nat.lt_of_lt_of_le hl1 hb.size
      clear hb q1 HG1 HX1 HY1
      go_wp2
      go_ret
      exact RetI.nil (hB2)
    · go_enter Try.func29, Try.ntmps29
      go_wp2_with fail
      refine (HDX.out _ (by simp) (H.out.alloc (Nat.le_refl _) _) (HX.out.alloc (Nat.le_refl _) _)).mono ?_
      rintro e w1 ⟨rfl, hb⟩
      have q1 : w1.cell? ⟨w.heap.size, 0, none⟩ = some (.slice A n c) := (hb.cell (p := ⟨w.heap.size, 0, none⟩) (by simp)).trans (by go_simp)
      have HG1 := Lib.hid ((H.out.alloc (Nat.le_refl _) (.cells #[.slice A n c] 25)).below hb (by simp))
      have HX1 := Lib.hid ((HX.out.alloc (Nat.le_refl _) (.cells #[.slice A n c] 25)).below hb (by simp))
      have HY1 := Lib.hid ((HY.out.alloc (Nat.le_refl _) (.cells #[.slice A n c] 25)).below hb (by simp))
      have hB1 : Below w.heap.size w w1 := ((Below.refl _ _).alloc (Nat.le_refl _) _).trans (hb.mono (by simp))
      have hl1 : w.heap.size < w1.heap.size := by have := hb.size; simp at this; omega
      clear hb
      go_wp2_with fail
      refine (HDY.out _ hB1.size HG1.out HY1.out).mono ?_
      rintro e w2 ⟨rfl, hb⟩
      have q2 := (hb.cell (p := ⟨w.heap.size, 0, none⟩) hl1).trans q1
      have HG2 := Lib.hid (HG1.out.below hb hB1.size)
      have HX2 := Lib.hid (HX1.out.below hb hB1.size)
      have HY2 := Lib.hid (HY1.out.below hb hB1.size)
      have hB2 := hB1.trans (hb.mono hB1.size)
      have hl2 : w.heap.size < w2.heap.size := Nat.lt_of_lt_of_le hl1 hb.size
      clear hb q1 HG1 HX1 HY1
      go_wp2_with fail
      refine (HMX.out _ hB2.size HG2.out HX2.out).mono ?_
      rintro e w3 ⟨v3, rfl, ho, hb⟩
      obtain ⟨A3, c3, rfl, hI3⟩ := OwnI.at_ ho HL1.out
      have q3 := (hb.cell (p := ⟨w.heap.size, 0, none⟩) hl2).trans q2
      have HI3 := Lib.hid ((hI3.alloc (Nat.le_refl _) (.cells #[.slice A3 n c3] 26)))
      have HG3 := Lib.hid ((HG2.out.below hb hB2.size).alloc (Nat.le_trans hB2.size hb.size) (.cells #[.slice A3 n c3] 26))
      have HY3 := Lib.hid ((HY2.out.below hb hB2.size).alloc (Nat.le_trans hB2.size hb.size) (.cells #[.slice A3 n c3] 26))
      have hB3 := (hB2.trans (hb.mono hB2.size))
      have hl3 : w.heap.size < w3.heap.size := Nat.lt_of_lt_of_le hl2 hb.size
      clear hb q2 HG2 HX2 HY2 ho hI3
      go_wp2_with fail
      refine (HMY.out _ (by simp; omega) HG3.out HY3.out).mono ?_
      rintro e w4 ⟨v4, rfl, ho, hb⟩
      obtain ⟨A4, c4, rfl, hI4⟩ := OwnI.at_ ho HL2.out
      have hl4 : w3.heap.size + 1 ≤ w4.heap.size := by have := hb.size; simpa using this
      have q4 := (hb.cell (p := ⟨w.heap.size, 0, none⟩) (by simp; omega)).trans ((World.cell?_alloc_lt _ _ ⟨w.heap.size, 0, none⟩ hl3).trans q3)
      have p4 : w4.cell? ⟨w3.heap.size, 0, none⟩ = some (.slice A3 n c3) := (hb.cell (p := ⟨w3.heap.size, 0, none⟩) (by simp)).trans (by go_simp)
      have HI4 := Lib.hid (((HI3.out.below hb (by simp)).more (B' := w4.heap.size) (by omega)).alloc (Nat.le_refl _) (.cells #[.slice A4 n c4] 26))
      have HJ4 := Lib.hid (hI4.alloc (Nat.le_refl _) (.cells #[.slice A4 n c4] 26))
      have hB4 := ((hB3.alloc hB3.size (.cells #[.slice A3 n c3] 26)).trans (hb.mono (by simp; omega)))
      have hB5 := Lib.hid (hB4.alloc hB4.size (.cells #[.slice A4 n c4] 26))
      clear hb ho hI4 q3 HG3 HY3 HI3
      have HNW := Lib.hid (impl_nodesWhere2 60 (.pointer (some ⟨w3.heap.size, 0, none⟩)) (.pointer (some ⟨w4.heap.size, 0, none⟩)) (fun i => !(MX.getD i 0 == MY.getD i 0))
        (fun w' => w4.heap.size < w'.heap.size ∧ w'.cell? ⟨w3.heap.size, 0, none⟩ = some (.slice A3 n c3) ∧ w'.cell? ⟨w4.heap.size, 0, none⟩ = some (.slice A4 n c4) ∧ IS w' w'.heap.size A3 MX ∧ IS w' w'.heap.size A4 MY) A n c (by omega)
        (fun wa wb h hb => ⟨Nat.lt_of_lt_of_le h.1 hb.size, (hb.cell (p := ⟨w3.heap.size, 0, none⟩) (by have := h.1; show w3.heap.size < wa.heap.size; omega)).trans h.2.1, (hb.cell (p := ⟨w4.heap.size, 0, none⟩) h.1).trans h.2.2.1, h.2.2.2.1.step hb, h.2.2.2.2.step hb⟩)
        (fun q w => by kernel_rfl)
        (fun q wa hq h => differ_at w3.heap.size w4.heap.size A3 A4 n c3 c4 q MX MY wa HL1.out.symm HL2.out.symm hq h.2.1 h.2.2.1 h.2.2.2.1 h.2.2.2.2)
        (w4.alloc (.cells #[.slice A4 n c4] 26)) ⟨by simp, (World.cell?_alloc_lt _ _ ⟨w3.heap.size, 0, none⟩ (by show w3.heap.size < w4.heap.size; omega)).trans p4, by go_simp, HI4.out.more (by simp), HJ4.out.more (by simp)⟩)
      rw [nwTo_diff] at HNW
      have hlt4 : w.heap.size < w4.heap.size := by omega
      go_wp2_with fail
      refine HNW.out.mono ?_
      rintro e w6 ⟨v, rfl, ho, hb⟩
      go_wp2
      go_ret
      exact ⟨v, by simp, own_mono ho hB5.out.size, hB5.out.trans (hb.mono hB5.out.size)⟩
end Go.Proofs.Ytgclikdienlhdaa

/- The standing contracts of ValidEager. -/
namespace Go.Proofs.Ytgclikdienlhdaa
set_option linter.unusedSimpArgs false
set_option linter.unusedVariables false
open Go.RowKit

set_option maxHeartbeats 800000 in
theorem spec_sameInts (A A' : Option Addr) (n n' c c' : Nat) (a b : List Int) (w : World) (B : Nat) (hB : B ≤ w.heap.size) (hn : n = a.length) (hn' : n' = b.length) (h : IS w B A a) (h' : IS w B A' b) (hs : n ≤ 2000000) (hs' : n' ≤ 2000000) :
    Calls Try.prog 77 #[.slice A n c, .slice A' n' c'] w fun e w' => e = .returned (.bool (decide (a = b))) ∧ Below w.heap.size w w' := by
  by_cases hl : n = n'
  · have hne : ((n : Int) != (n' : Int)) = false := by simp [hl]
    subst hl
    have HC := Lib.hid (spec_differing A A' n c c' a b w B hB hn hn' h h' hs)
    have HD := Lib.hid (diffTo_same a b n hn hn')
    have hd0 := diffTo_len a b n
    generalize diffTo a b n = D at *
    generalize decide (a = b) = r at *
    clear hn hn' h h'
    go_enter Try.func77, Try.ntmps77
    go_wp2_with fail
    refine HC.out.mono ?_
    rintro e w1 ⟨v, rfl, ho, hb⟩
    obtain ⟨A1, c1, rfl, _⟩ := OwnI.form ho
    have hd := HD.out
    cases r
    · have h0 : ((D.length : Int) == 0) = false := by simp at hd ⊢; omega
      clear ho hd
      go_wp2
      go_ret
      exact ⟨rfl, hb⟩
    · have h0 : ((D.length : Int) == 0) = true := by simp at hd ⊢; omega
      clear ho hd
      go_wp2
      go_ret
      exact ⟨rfl, hb⟩
  · have hne : ((n : Int) != (n' : Int)) = true := by simp; omega
    have hf : decide (a = b) = false := by rw [decide_eq_false_iff_not]; rintro rfl; omega
    rw [hf]
    clear hl hn hn' h h' hf
    go_enter Try.func77, Try.ntmps77
    go_wp2
    go_ret
    exact ⟨rfl, Below.refl _ _⟩

set_option maxHeartbeats 800000 in
theorem slices_Equal (A A' : Option Addr) (n n' c c' : Nat) (a b : List Int) (w : World) (B : Nat) (hB : B ≤ w.heap.size) (hn : n = a.length) (hn' : n' = b.length) (h : IS w B A a) (h' : IS w B A' b) (hs : n ≤ 2000000) (hs' : n' ≤ 2000000) :
    Calls Try.prog 43 #[.slice A n c, .slice A' n' c'] w fun e w' => e = .returned (.bool (decide (a = b))) ∧ Below w.heap.size w w' := by
  by_cases hl : n = n'
  · have hne : ((n : Int) != (n' : Int)) = false := by simp [hl]
    have HL := Lib.hid hl
    have HN := Lib.hid hn
    have HN' := Lib.hid hn'
    have H := Lib.hid h
    have H' := Lib.hid h'
    clear hl hn hn' h h'
    go_enter Try.func43, Try.ntmps43
    go_wp2
    go_loopw [13] (fun i wr => ∃ k : Nat, k ≤ n ∧ i = .int .i64 k ∧ Hid (∀ j, j < k → a.getD j 0 = b.getD j 0) ∧ Below w.heap.size w wr) (fun i _ => n - (intOf i).toNat)
    case atStart => exact ⟨0, Nat.zero_le _, rfl, fun j hj => by omega, Below.refl _ _⟩
    case round =>
      obtain ⟨k, hk, rfl, HT, hb⟩ := hrel
      by_cases hlt : k < n
      · have hlt' : k < n' := by have := HL.out; omega
        obtain ⟨b1, off, rfl, hbB, hc⟩ := H.out (by have := HN.out; omega)
        obtain ⟨b2, off', rfl, hbB', hc'⟩ := H'.out (by have := HN'.out; omega)
        have d1 := hc k (by have := HN.out; omega)
        have d2 := hc' k (by have := HN'.out; omega)
        have e1 := (hb.cell (p := ⟨b1, off + k, none⟩) (by simp; omega)).trans d1
        have e2 := (hb.cell (p := ⟨b2, off' + k, none⟩) (by simp; omega)).trans d2
        clear hc hc' d1 d2 H H'
        have HNE : Hid (a.getD k 0 ≠ b.getD k 0 → decide (a = b) = false) := fun hh => by rw [decide_eq_false_iff_not]; rintro rfl; exact hh rfl
        have HEQ : Hid (a.getD k 0 = b.getD k 0 → ∀ j, j < k + 1 → a.getD j 0 = b.getD j 0) := fun hh j hj => by
          rcases Nat.lt_or_ge j k with h1 | h1
          · exact HT.out j h1
          · obtain rfl : j = k := by omega
            exact hh
        generalize a.getD k 0 = x at *
        generalize b.getD k 0 = y at *
        cases hxy : (x == y)
        · have hne2 : (x != y) = true := by simp [bne, hxy]
          have HF := Lib.hid (HNE.out (by simpa using hxy))
          clear hxy
          go_wp2
          go_region
          go_wp2
          go_ret
          exact ⟨ret_b HF.out.symm, hb.drew⟩
        · have hne2 : (x != y) = false := by simp [bne, hxy]
          have HF := Lib.hid (HEQ.out (by simpa using hxy))
          clear hxy
          go_wp2
          go_region
          go_wp2
          go_roundw
          case rel => exact ⟨k + 1, by omega, by go_num, HF.out, hb.drew⟩
          case measure => simp [intOf]; omega
      · obtain rfl : k = n := by omega
        go_wp2
        go_ret
        refine ⟨ret_b ?_, hb⟩
        symm
        apply decide_eq_true
        have h1 := HN.out
        have h2 := HN'.out
        have h3 := HL.out
        apply List.ext_getElem (by omega)
        intro j hj hj'
        have := HT.out j (by omega)
        simpa [List.getD, hj, hj'] using this
  · have hne : ((n : Int) != (n' : Int)) = true := by simp; omega
    have hf : decide (a = b) = false := by rw [decide_eq_false_iff_not]; rintro rfl; omega
    rw [hf]
    clear hl hn hn' h h' hf
    go_enter Try.func43, Try.ntmps43
    go_wp2
    go_ret
    exact ⟨rfl, Below.refl _ _⟩

set_option maxRecDepth 100000 in
set_option maxHeartbeats 3200000 in
theorem spec_validEager (A A' E : Option Addr) (n c m c' p ec : Nat) (gs : List Nd) (st : Eg) (w : World) (B : Nat) (hB : B ≤ w.heap.size) (hn : n = gs.length) (hm : m = st.vs.length) (hp : p = st.rs.length) (h : GS w B A gs) (h' : ES w B A' E st) (hs : GB gs) (hb0 : EB st) :
    Calls Try.prog 45 #[.agg #[.slice A n c], .agg #[.slice A' m c', .slice E p ec]] w fun e w' => e = .returned (.bool (validE gs st)) ∧ Below w.heap.size w w' := by
  have HC := Lib.hid fun (w' : World) (hB : B ≤ w'.heap.size) (h : GS w' B A gs) => spec_validGraph A n c gs w' B hB hn h hs
  have hm1 : m ≤ 1048576 := by rw [hm]; exact hb0.1
  have hp1 : p ≤ 1048576 := by rw [hp]; exact hb0.2.1.1
  have hn1 : n ≤ 1048576 := by rw [hn]; exact hs.1
  have hve : validE gs st = (validG gs && (decide (st.vs.length = gs.length) && (decide (st.rs.length = gs.length) && (allR st.vs 0 999 && allE gs st)))) := rfl
  rw [← hn, ← hm, ← hp] at hve
  have H := Lib.hid h
  have H' := Lib.hid h'
  have HN := Lib.hid hn
  have HM := Lib.hid hm
  have HP := Lib.hid hp
  have HSB := Lib.hid hb0.2.1
  cases hvg : validG gs
  · have hf : validE gs st = false := by rw [hve, hvg]; rfl
    rw [hf]
    rw [hvg] at HC
    clear hf hve hvg h h' hn hm hp hs hb0
    go_enter Try.func45, Try.ntmps45
    go_wp2_with fail
    refine (HC.out _ (by simp; omega) ((H.out.alloc hB _).alloc (by simp; omega) _)).mono ?_
    rintro e w1 ⟨rfl, hb⟩
    go_wp2
    go_ret
    exact ⟨rfl, (((Below.refl _ _).alloc (Nat.le_refl _) _).alloc (by simp) _).trans (hb.mono (by simp; omega))⟩
  rw [hvg] at HC
  by_cases hl1 : m = n
  case neg =>
    have hne : ((m : Int) != (n : Int)) = true := by simp; omega
    have hf : validE gs st = false := by rw [hve, decide_eq_false hl1]; simp
    rw [hf]
    clear hf hve hvg h h' hn hm hp hs hb0
    go_enter Try.func45, Try.ntmps45
    go_wp2_with fail
    refine (HC.out _ (by simp; omega) ((H.out.alloc hB _).alloc (by simp; omega) _)).mono ?_
    rintro e w1 ⟨rfl, hb⟩
    have q0 : w1.cell? ⟨w.heap.size, 0, none⟩ = some (.slice A n c) := (hb.cell (p := ⟨w.heap.size, 0, none⟩) (by simp; omega)).trans (by go_simp)
    have q1 : w1.cell? ⟨w.heap.size + 1, 0, none⟩ = some (.slice A' m c') := (hb.cell (p := ⟨w.heap.size + 1, 0, none⟩) (by simp)).trans (by go_simp)
    have q2 : w1.cell? ⟨w.heap.size + 1, 1, none⟩ = some (.slice E p ec) := (hb.cell (p := ⟨w.heap.size + 1, 1, none⟩) (by simp)).trans (by go_simp)
    have hB1 : Below w.heap.size w w1 := (((Below.refl _ _).alloc (Nat.le_refl _) _).alloc (by simp) _).trans (hb.mono (by simp; omega))
    have hl1 : w.heap.size + 2 ≤ w1.heap.size := by have := hb.size; simp at this; omega
    go_wp2
    go_ret
    exact ⟨rfl, hB1⟩
  have hne1 : ((m : Int) != (n : Int)) = false := by simp [hl1]
  by_cases hl2 : p = n
  case neg =>
    have hne : ((p : Int) != (n : Int)) = true := by simp; omega
    have hf : validE gs st = false := by rw [hve, decide_eq_false hl2]; simp
    rw [hf]
    clear hf hve hvg h h' hn hm hp hs hb0 hl1
    go_enter Try.func45, Try.ntmps45
    go_wp2_with fail
    refine (HC.out _ (by simp; omega) ((H.out.alloc hB _).alloc (by simp; omega) _)).mono ?_
    rintro e w1 ⟨rfl, hb⟩
    have q0 : w1.cell? ⟨w.heap.size, 0, none⟩ = some (.slice A n c) := (hb.cell (p := ⟨w.heap.size, 0, none⟩) (by simp; omega)).trans (by go_simp)
    have q1 : w1.cell? ⟨w.heap.size + 1, 0, none⟩ = some (.slice A' m c') := (hb.cell (p := ⟨w.heap.size + 1, 0, none⟩) (by simp)).trans (by go_simp)
    have q2 : w1.cell? ⟨w.heap.size + 1, 1, none⟩ = some (.slice E p ec) := (hb.cell (p := ⟨w.heap.size + 1, 1, none⟩) (by simp)).trans (by go_simp)
    have hB1 : Below w.heap.size w w1 := (((Below.refl _ _).alloc (Nat.le_refl _) _).alloc (by simp) _).trans (hb.mono (by simp; omega))
    have hl1 : w.heap.size + 2 ≤ w1.heap.size := by have := hb.size; simp at this; omega
    go_wp2
    go_ret
    exact ⟨rfl, hB1⟩
  have hne2 : ((p : Int) != (n : Int)) = false := by simp [hl2]
  have HAR := Lib.hid fun (w' : World) (hB : B ≤ w'.heap.size) (h : IS w' B A' st.vs) => spec_allIn A' m c' st.vs 0 999 w' B hB hm h (by omega)
  cases hr : allR st.vs 0 999
  · have hf : validE gs st = false := by rw [hve, hr]; simp
    rw [hf]
    rw [hr] at HAR
    clear hf hve hvg h h' hn hm hp hs hb0 hl1 hl2 hr
    go_enter Try.func45, Try.ntmps45
    go_wp2_with fail
    refine (HC.out _ (by simp; omega) ((H.out.alloc hB _).alloc (by simp; omega) _)).mono ?_
    rintro e w1 ⟨rfl, hb⟩
    have q0 : w1.cell? ⟨w.heap.size, 0, none⟩ = some (.slice A n c) := (hb.cell (p := ⟨w.heap.size, 0, none⟩) (by simp; omega)).trans (by go_simp)
    have q1 : w1.cell? ⟨w.heap.size + 1, 0, none⟩ = some (.slice A' m c') := (hb.cell (p := ⟨w.heap.size + 1, 0, none⟩) (by simp)).trans (by go_simp)
    have q2 : w1.cell? ⟨w.heap.size + 1, 1, none⟩ = some (.slice E p ec) := (hb.cell (p := ⟨w.heap.size + 1, 1, none⟩) (by simp)).trans (by go_simp)
    have hB1 : Below w.heap.size w w1 := (((Below.refl _ _).alloc (Nat.le_refl _) _).alloc (by simp) _).trans (hb.mono (by simp; omega))
    have hl1 : w.heap.size + 2 ≤ w1.heap.size := by have := hb.size; simp at this; omega
    go_wp2_with fail
    refine (HAR.out _ (by omega) (((H'.out.1.alloc hB _).alloc (by simp; omega) _).below hb (by simp; omega))).mono ?_
    rintro e w' ⟨rfl, rfl⟩
    go_wp2
    go_ret
    exact ⟨rfl, hB1⟩
  rw [hr] at HAR
  have hf : validE gs st = allE gs st := by rw [hve, hvg, decide_eq_true hl1, decide_eq_true hl2, hr]; simp
  rw [hf]
  have hvo : VOK st.vs := allR_VOK st.vs hr
  have hn10 : n ≤ 10 := by rw [hn]; exact (validG_parts gs hvg).1
  have HRUN := Lib.hid fun (i : Nat) (hi : i < gs.length) (hk : ((gs.getD i default).k == 0) = false) (A1 : Option Addr) (n1 c1 : Nat) (hn1 : n1 = (gs.getD i default).ps.length) (w' : World) (B1 : Nat) (hB : B1 ≤ w'.heap.size) (h : PS w' B1 A1 (gs.getD i default).ps) (h' : IS w' B1 A' st.vs) =>
    (show Calls _ _ _ _ _ from
      have hce := eager_canEv gs st.vs i hvg (by omega) hr hi hk
      have hcp := canEv_parts _ _ hce
      have hg := validF_good _ hcp.1
      spec_run A1 A' n1 c1 m c' (gs.getD i default).ps st.vs B1 hn1 hm hg.1 (by rw [hm]; exact hcp.2.2.2) hvo (by omega) (by omega) (by omega) w' hB h h')
  have HBAD := Lib.hid fun (i : Nat) (hi : i < gs.length) => allE_bad gs st i hi
  have HFBD := Lib.hid fun (i : Nat) (hi : i < gs.length) => eager_depF_bd gs st.vs hvg (by omega) i hi
  have HFIN := Lib.hid (allE_fin gs st)
  have HL1 := Lib.hid hl1
  have HL2 := Lib.hid hl2
  clear hf hve hvg h h' hn hm hp hs hb0 hl1 hl2 hr hvo
  go_enter Try.func45, Try.ntmps45
  go_wp2_with fail
  refine (HC.out _ (by simp; omega) ((H.out.alloc hB _).alloc (by simp; omega) _)).mono ?_
  rintro e w1 ⟨rfl, hb⟩
  have q0 : w1.cell? ⟨w.heap.size, 0, none⟩ = some (.slice A n c) := (hb.cell (p := ⟨w.heap.size, 0, none⟩) (by simp; omega)).trans (by go_simp)
  have q1 : w1.cell? ⟨w.heap.size + 1, 0, none⟩ = some (.slice A' m c') := (hb.cell (p := ⟨w.heap.size + 1, 0, none⟩) (by simp)).trans (by go_simp)
  have q2 : w1.cell? ⟨w.heap.size + 1, 1, none⟩ = some (.slice E p ec) := (hb.cell (p := ⟨w.heap.size + 1, 1, none⟩) (by simp)).trans (by go_simp)
  have hB1 : Below w.heap.size w w1 := (((Below.refl _ _).alloc (Nat.le_refl _) _).alloc (by simp) _).trans (hb.mono (by simp; omega))
  have hl1 : w.heap.size + 2 ≤ w1.heap.size := by have := hb.size; simp at this; omega
  have HG1 := Lib.hid (((H.out.alloc hB (.cells #[.slice A n c] 25)).alloc (by simp; omega) (.cells #[.slice A' m c', .slice E p ec] 31)).below hb (by simp; omega))
  have HE1 := Lib.hid (((H'.out.alloc hB (.cells #[.slice A n c] 25)).alloc (by simp; omega) (.cells #[.slice A' m c', .slice E p ec] 31)).below hb (by simp; omega))
  clear hb H H' HC
  go_wp2_with fail
  refine (HAR.out _ (by omega) HE1.out.1).mono ?_
  rintro e w' ⟨rfl, rfl⟩
  clear HAR
  go_wp2
  go_loopw [5] (fun u wr => ∃ k : Nat, k ≤ n ∧ u = .int .i64 k ∧ Hid (∀ i, i < k → okE gs st i = true) ∧ Hid (Below w1.heap.size w1 wr) ∧ w1.heap.size ≤ wr.heap.size) (fun u _ => n - (intOf u).toNat)
  case atStart => exact ⟨0, Nat.zero_le _, rfl, fun i hi => by omega, Below.refl _ _, Nat.le_refl _⟩
  case round =>
    obtain ⟨k, hk, rfl, HK, HB, hwr⟩ := hrel
    have r0 := (HB.out.cell (p := ⟨w.heap.size, 0, none⟩) (by simp; omega)).trans q0
    have r1 := (HB.out.cell (p := ⟨w.heap.size + 1, 0, none⟩) (by simp; omega)).trans q1
    have r2 := (HB.out.cell (p := ⟨w.heap.size + 1, 1, none⟩) (by simp; omega)).trans q2
    by_cases hlt : k < n
    · have hkg : k < gs.length := by have := HN.out; omega
      have hkm : k < m := by have := HL1.out; omega
      have hkp : k < p := by have := HL2.out; omega
      obtain ⟨b, off, hA, hbB, c0, A1, n1, c1, c2, hn1', hps⟩ := HG1.out.at_ k hkg
      obtain ⟨b2, off2, hA', hbB2, hcx⟩ := HE1.out.1 (by have := HM.out; omega)
      have d0 := hcx k (by have := HM.out; omega)
      obtain ⟨b3, off3, hE, hbB3, A3, n3, c3, d1, hn3, hls⟩ := HE1.out.2.at_ k (by have := HP.out; omega)
      have e0 := (HB.out.cell (p := ⟨b, off + k * 2, none⟩) (by simp; omega)).trans c0
      have e1 := (HB.out.cell (p := ⟨b, off + k * 2 + 1, none⟩) (by simp; omega)).trans c2
      have e2 := (HB.out.cell (p := ⟨b2, off2 + k, none⟩) (by simp; omega)).trans d0
      have e3 := (HB.out.cell (p := ⟨b3, off3 + k, none⟩) (by simp; omega)).trans d1
      have HPS := Lib.hid (hps.below HB.out (by omega))
      have HIS := Lib.hid (HE1.out.1.below HB.out (by omega))
      have HLS := Lib.hid (hls.below HB.out (by omega))
      have hn3b : n3 ≤ 1048576 := by rw [hn3]; exact HSB.out.2 k
      have HNK := Lib.hid (HBAD.out k hkg)
      have HNT : Hid (okE gs st k = true → ∀ i, i < k + 1 → okE gs st i = true) := fun h j hj => by
        rcases Nat.lt_or_ge j k with h1 | h1
        · exact HK.out j h1
        · obtain rfl : j = k := by omega
          exact h
      have hoe : okE gs st k = (valE gs st.vs k == st.vs.getD k 0 && decide (depF gs st.vs k = st.rs.getD k [])) := rfl
      have hvl : valE gs st.vs k = if (gs.getD k default).k == 0 then st.vs.getD k 0 else (whole (gs.getD k default).ps).ev st.vs := rfl
      have hdl : depF gs st.vs k = if (gs.getD k default).k == 0 then [] else firsts ((whole (gs.getD k default).ps).rds st.vs) := rfl
      have HRK := Lib.hid fun (hk : ((gs.getD k default).k == 0) = false) => HRUN.out k hkg hk A1 n1 c1 hn1'
      have HN3 := Lib.hid hn3
      have z0 : w.heap.size < wr.heap.size := by omega
      have z1 : w.heap.size + 1 < wr.heap.size := by omega
      have z2 : b < wr.heap.size := by omega
      have z3 : b2 < wr.heap.size := by omega
      have z4 : b3 < wr.heap.size := by omega
      clear c0 c2 d0 d1 hcx hps hls hn3 hn1' HK HBAD
      rw [hvl, hdl] at hoe
      have hfb := HFBD.out k hkg
      rw [hdl] at hfb
      clear hvl hdl HFBD
      generalize okE gs st k = r at *
      generalize gs.getD k default = d at *
      generalize st.vs.getD k 0 = x at *
      generalize st.rs.getD k [] = L at *
      cases hd : (d.k == 0)
      · have hd' : (d.k != 0) = true := by simp [bne, hd]
        have HR := Lib.hid (HRK.out hd)
        rw [hd] at hoe
        rw [hd] at hfb
        simp only [Bool.false_eq_true, if_false] at hoe hfb
        have HFB := Lib.hid hfb
        clear hfb
        generalize (whole d.ps).ev st.vs = X at *
        generalize firsts ((whole d.ps).rds st.vs) = F at *
        subst hA hA' hE
        clear hd HRK
        go_wp2
        obtain ⟨W2, hW2⟩ : ∃ W2, W2 = wr.alloc (.cells #[] 3) := ⟨_, rfl⟩
        have s0 : W2.cell? ⟨w.heap.size, 0, none⟩ = some (.slice (some ⟨b, off, none⟩) n c) := by rw [hW2]; exact (World.cell?_alloc_lt wr _ _ z0).trans r0
        have s1 : W2.cell? ⟨w.heap.size + 1, 0, none⟩ = some (.slice (some ⟨b2, off2, none⟩) m c') := by rw [hW2]; exact (World.cell?_alloc_lt wr _ _ z1).trans r1
        have s2 : W2.cell? ⟨w.heap.size + 1, 1, none⟩ = some (.slice (some ⟨b3, off3, none⟩) p ec) := by rw [hW2]; exact (World.cell?_alloc_lt wr _ _ z1).trans r2
        have t0 : W2.cell? ⟨b, off + k * 2, none⟩ = some (.int .i64 d.k) := by rw [hW2]; exact (World.cell?_alloc_lt wr _ _ z2).trans e0
        have t1 : W2.cell? ⟨b, off + k * 2 + 1, none⟩ = some (.slice A1 n1 c1) := by rw [hW2]; exact (World.cell?_alloc_lt wr _ _ z2).trans e1
        have t2 : W2.cell? ⟨b2, off2 + k, none⟩ = some (.int .i64 x) := by rw [hW2]; exact (World.cell?_alloc_lt wr _ _ z3).trans e2
        have t3 : W2.cell? ⟨b3, off3 + k, none⟩ = some (.slice A3 n3 c3) := by rw [hW2]; exact (World.cell?_alloc_lt wr _ _ z4).trans e3
        have hs2 : wr.heap.size ≤ W2.heap.size := by rw [hW2]; simp
        have HPS2 : Hid (PS W2 B A1 d.ps) := by rw [hW2]; exact HPS.out.alloc (by omega) _
        have HIS2 : Hid (IS W2 B (some ⟨b2, off2, none⟩) st.vs) := by rw [hW2]; exact HIS.out.alloc (by omega) _
        have HLS2 : Hid (IS W2 B A3 L) := by rw [hW2]; exact HLS.out.alloc (by omega) _
        have HB2 : Hid (Below w1.heap.size w1 W2) := by rw [hW2]; exact HB.out.alloc hwr _
        rw [← hW2]
        clear hW2 r0 r1 r2 e0 e1 e2 e3 z0 z1 z2 z3 z4 HPS HIS HLS HB
        have hBW : B ≤ W2.heap.size := by omega
        have v0 : w.heap.size < W2.heap.size := by omega
        have v1 : w.heap.size + 1 < W2.heap.size := by omega
        have v2 : b < W2.heap.size := by omega
        go_region_held3 (fun w' => w'.cell? ⟨w.heap.size, 0, none⟩ = some (.slice (some ⟨b, off, none⟩) n c) ∧ w'.cell? ⟨b, off + k * 2 + 1, none⟩ = some (.slice A1 n1 c1) ∧ w'.cell? ⟨w.heap.size + 1, 0, none⟩ = some (.slice (some ⟨b2, off2, none⟩) m c')) (first | exact ⟨s0, t1, s1⟩ | exact ⟨u0, u5, u1⟩)
          (first
            | (go_at_call 76; refine (HR.out W2.drew B hBW HPS2.out HIS2.out).mono ?_; rintro e w5 ⟨v5, rfl, ho, hb5'⟩; obtain ⟨g5, c5, rfl, hg5, hg5'⟩ := ho.form; have hb5 : Below W2.heap.size W2 w5 := below_of_drew hb5'; have u0 := (hb5.cell (p := ⟨w.heap.size, 0, none⟩) v0).trans s0; have u1 := (hb5.cell (p := ⟨w.heap.size + 1, 0, none⟩) v1).trans s1; have u5 := (hb5.cell (p := ⟨b, off + k * 2 + 1, none⟩) v2).trans t1))
        have hs5 : W2.heap.size ≤ w5.heap.size := hb5.size
        have u2 := (hb5.cell (p := ⟨w.heap.size + 1, 1, none⟩) v1).trans s2
        have u3 := (hb5.cell (p := ⟨b2, off2 + k, none⟩) (by show b2 < W2.heap.size; omega)).trans t2
        have u4 := (hb5.cell (p := ⟨b3, off3 + k, none⟩) (by show b3 < W2.heap.size; omega)).trans t3
        have HLS5 := Lib.hid ((HLS2.out.below hb5 hBW).more (B' := w5.heap.size) (by omega))
        have HF5 : Hid (IS w5 w5.heap.size (some ⟨g5, 0, none⟩) F) := IS.of_own ho.1
        have HB5 := Lib.hid (HB2.out.trans (hb5.mono (show w1.heap.size ≤ W2.heap.size by omega)))
        have HSI := Lib.hid (spec_sameInts (some ⟨g5, 0, none⟩) A3 F.length n3 c5 c3 F L w5 w5.heap.size (Nat.le_refl _) rfl HN3.out HF5.out HLS5.out (by have := HFB.out; omega) (by omega))
        generalize F.length = fl at *
        clear ho hb5 s0 s1 s2 t0 t1 t2 t3
        cases hx : (X == x)
        · have hx' : (X != x) = true := by simp [bne, hx]
          have HNF := Lib.hid (HNK.out (by rw [hoe, hx]; rfl))
          clear hx hoe
          go_wp2
          go_ret
          exact ⟨ret_b HNF.out.symm, hB1.trans (HB5.out.mono (by omega))⟩
        · have hx' : (X != x) = false := by simp [bne, hx]
          rw [hx, Bool.true_and] at hoe
          rw [← hoe] at HSI
          clear hx hoe
          go_wp2_with fail
          refine HSI.out.mono ?_
          rintro e w6 ⟨rfl, hb6⟩
          have HB6 := Lib.hid (HB5.out.trans (hb6.mono HB5.out.size))
          cases r
          · go_wp2
            go_ret
            exact ⟨ret_b (HNK.out (by first | rfl | trivial)).symm, hB1.trans (HB6.out.mono (by omega))⟩
          · go_wp2
            go_roundw
            case rel => exact ⟨k + 1, by omega, by go_num, HNT.out (by first | rfl | trivial), HB6.out, HB6.out.size⟩
            case measure => simp [intOf]; omega
      · have hd' : (d.k != 0) = false := by simp [bne, hd]
        rw [hd] at hoe
        simp only [if_true, beq_self_eq_true, Bool.true_and] at hoe
        have hxx : (x != x) = false := by simp
        subst hA hA' hE
        have HLS2 := Lib.hid ((HLS.out.alloc (by omega) (.cells #[] 3)).more (B' := (wr.alloc (.cells #[] 3)).heap.size) (by simp; omega))
        have HSI := Lib.hid (spec_sameInts (some ⟨wr.heap.size, 0, none⟩) A3 0 n3 0 c3 [] L (wr.alloc (.cells #[] 3)) _ (Nat.le_refl _) rfl HN3.out (fun h => absurd h (by simp)) HLS2.out (by omega) (by omega))
        rw [← hoe] at HSI
        clear hd HRK hoe
        go_wp2_with fail
        refine HSI.out.mono ?_
        rintro e w6 ⟨rfl, hb6⟩
        have HB6 := Lib.hid ((HB.out.alloc hwr _).trans (hb6.mono (by simp; omega)))
        cases r
        · go_wp2
          go_ret
          exact ⟨ret_b (HNK.out (by first | rfl | trivial)).symm, hB1.trans (HB6.out.mono (by omega))⟩
        · go_wp2
          go_roundw
          case rel => exact ⟨k + 1, by omega, by go_num, HNT.out (by first | rfl | trivial), HB6.out, HB6.out.size⟩
          case measure => simp [intOf]; omega
    · obtain rfl : k = n := by omega
      go_wp2
      go_ret
      exact ⟨ret_b (HFIN.out fun i hi => HK.out i (by have := HN.out; omega)).symm, hB1.trans (HB.out.mono (by omega))⟩

set_option maxRecDepth 100000 in
theorem top_spec_ValidEager (gs : List Nd) (st : Eg) (hG : GB gs) (hE : EB st) : ∀ (A : Option Addr) (n c : Nat) (A' : Option Addr) (m c' : Nat) (E : Option Addr) (p ec : Nat) (w : World), n = gs.length → n ≤ c → GS w w.heap.size A gs → m = st.vs.length → p = st.rs.length → ES w w.heap.size A' E st →
    Calls Try.prog 20 #[.agg #[.slice A n c], .agg #[.slice A' m c', .slice E p ec]] w fun e w' => e = .returned (.bool (validE gs st)) ∧ Below w.heap.size w w' := by
  intro A n c A' m c' E p ec w hn _ h hm hp h'
  have HC := Lib.hid (spec_validEager A A' E n c m c' p ec gs st _ w.heap.size (by simp; omega) hn hm hp ((h.alloc (Nat.le_refl _) (.cells #[.slice A n c] 25)).alloc (by simp) (.cells #[.slice A' m c', .slice E p ec] 31)) ((h'.alloc (Nat.le_refl _) (.cells #[.slice A n c] 25)).alloc (by simp) (.cells #[.slice A' m c', .slice E p ec] 31)) hG hE)
  clear h h' hn hm hp hG hE
  go_enter Try.func20, Try.ntmps20
  go_wp2_with fail
  refine HC.out.mono ?_
  rintro e w1 ⟨rfl, hb⟩
  go_wp2
  go_ret
  exact ⟨rfl, (((Below.refl _ _).alloc (Nat.le_refl _) _).alloc (by simp) _).trans (hb.mono (by simp; omega))⟩

end Go.Proofs.Ytgclikdienlhdaa

/- The standing contracts of ValidEager, the program's. -/
namespace Go.Proofs.Ytgclikdienlhdaa
set_option linter.unusedSimpArgs false
set_option linter.unusedVariables false
open Go.RowKit

/-- Returns a number and a fresh list of numbers. -/
def RetVI (w : World) (x : Int) (xs : List Int) (e : Ending) (w' : World) : Prop := ∃ v, e = .returned (.tuple #[.int .i64 x, v]) ∧ OwnI w' w.heap.size v xs ∧ Below w.heap.size w w'

set_option maxRecDepth 100000 in
set_option maxHeartbeats 1600000 in
theorem impl_runOf (A A' : Option Addr) (n c m c' : Nat) (gs : List Nd) (vs : List Int) (i : Nat) (w : World) (B : Nat) (hB : B ≤ w.heap.size) (hn : n = gs.length) (hm : m = vs.length) (h : GS w B A gs) (h' : IS w B A' vs) (hvg : validG gs = true) (hl : vs.length = gs.length) (hr : allR vs 0 999 = true) (hi : i < n) :
    Calls Try.prog 42 #[.agg #[.slice A n c], .slice A' m c', .int .i64 i] w fun e w' => RetVI w (valE gs vs i) (depF gs vs i) e w' := by
  have hn10 : n ≤ 10 := by rw [hn]; exact (validG_parts gs hvg).1

  have hvl : valE gs vs i = if (gs.getD i default).k == 0 then vs.getD i 0 else (whole (gs.getD i default).ps).ev vs := rfl
  have hdl : depF gs vs i = if (gs.getD i default).k == 0 then [] else firsts ((whole (gs.getD i default).ps).rds vs) := rfl
  have hce := eager_canEv gs vs i hvg hl hr (by omega)
  obtain ⟨b, off, rfl, hbB, c0, A1, n1, c1, c2, hn1', hps⟩ := h.at_ i (by omega)
  have him : i < m := by omega
  obtain ⟨b2, off2, rfl, hbB2, hcx⟩ := h' (by omega)
  have d0 := hcx i (by omega)
  have HI := Lib.hid h'
  have HPS := Lib.hid hps
  have z2 : b < w.heap.size := by omega
  have z3 : b2 < w.heap.size := by omega
  rw [hvl, hdl]
  clear hvl hdl h hcx hps hn hvg hl hr h'
  generalize gs.getD i default = d at *
  generalize vs.getD i 0 = x at *
  cases hd : (d.k == 0)
  · have hce' := hce hd
    obtain ⟨hv1, hvo, hl10, hea⟩ := canEv_parts d.ps vs hce'
    obtain ⟨hg, h1, h12⟩ := validF_good d.ps hv1
    have hvf : valF d.ps vs = (whole d.ps).ev vs := by unfold valF; rw [hce']; rfl
    have hrf : readF d.ps vs = firsts ((whole d.ps).rds vs) := by unfold readF; rw [hce']; rfl
    have HVAL := Lib.hid fun (w' : World) (hB : B ≤ w'.heap.size) (h : PS w' B A1 d.ps) (h' : IS w' B (some ⟨b2, off2, none⟩) vs) => impl_ValueOf A1 (some ⟨b2, off2, none⟩) n1 c1 m c' d.ps vs B hn1' hm (by omega) (by omega) w' hB h h'
    have HRD := Lib.hid fun (w' : World) (hB : B ≤ w'.heap.size) (h : PS w' B A1 d.ps) (h' : IS w' B (some ⟨b2, off2, none⟩) vs) => impl_ReadsOf A1 (some ⟨b2, off2, none⟩) n1 c1 m c' d.ps vs B hn1' hm (by omega) (by omega) w' hB h h'
    rw [hvf, hce'] at HVAL
    rw [hrf] at HRD
    simp only [Bool.false_eq_true, if_false]
    generalize (whole d.ps).ev vs = X at *
    generalize firsts ((whole d.ps).rds vs) = F at *
    clear hce hce' hv1 hvo hl10 hea hg h1 h12 hvf hrf hn1' hm
    go_enter Try.func42, Try.ntmps42
    go_wp2_with fail
    refine (HVAL.out _ (by simp; omega) ((HPS.out.alloc hB _).alloc (by simp; omega) _) ((HI.out.alloc hB _).alloc (by simp; omega) _)).mono ?_
    rintro e w1 ⟨rfl, hb⟩
    have q1 : w1.cell? ⟨w.heap.size + 1, 1, none⟩ = some (.slice A1 n1 c1) := (hb.cell (p := ⟨w.heap.size + 1, 1, none⟩) (by simp)).trans (by go_simp)
    have hB1 : Below w.heap.size w w1 := (((Below.refl _ _).alloc (Nat.le_refl _) _).alloc (by simp) _).trans (hb.mono (by simp; omega))
    have HPS1 := Lib.hid (HPS.out.below hB1 hB)
    have HI1 := Lib.hid (HI.out.below hB1 hB)
    have hl1 : w.heap.size + 2 ≤ w1.heap.size := by have := hb.size; simp at this; omega
    clear hb HPS HI HVAL
    go_wp2_with fail
    refine (HRD.out _ (by omega) HPS1.out HI1.out).mono ?_
    rintro e w2 ⟨v, rfl, ho, hb2⟩
    go_wp2
    go_ret2
    exact ⟨v, rfl, own_mono ho (by omega), hB1.trans (hb2.mono (by omega))⟩
  · simp only [if_true]
    clear hce hn1' hm HI HPS
    go_enter Try.func42, Try.ntmps42
    go_wp2
    go_ret2
    exact ⟨_, rfl, World.ownsRow_nil _ _ _ _, ((Below.refl _ _).alloc (Nat.le_refl _) _).alloc (by simp) _⟩

end Go.Proofs.Ytgclikdienlhdaa

/- The standing contracts of ValidEager, the program's. -/
namespace Go.Proofs.Ytgclikdienlhdaa
set_option linter.unusedSimpArgs false
set_option linter.unusedVariables false
open Go.RowKit

set_option maxRecDepth 100000 in
set_option maxHeartbeats 3200000 in
theorem impl_ValidEager (A A' E : Option Addr) (n c m c' p ec : Nat) (gs : List Nd) (st : Eg) (w : World) (B : Nat) (hB : B ≤ w.heap.size) (hn : n = gs.length) (hnc : n ≤ c) (hm : m = st.vs.length) (hp : p = st.rs.length) (h : GS w B A gs) (h' : ES w B A' E st) (hs : GB gs) (hb0 : EB st) :
    Calls Try.prog 17 #[.agg #[.slice A n c], .agg #[.slice A' m c', .slice E p ec]] w fun e w' => e = .returned (.bool (validE gs st)) ∧ Below w.heap.size w w' := by
  have HC := Lib.hid fun (w' : World) (hB : B ≤ w'.heap.size) (h : GS w' B A gs) => impl_ValidGraph A n c gs w' B hB hn h hs hnc
  have hm1 : m ≤ 1048576 := by rw [hm]; exact hb0.1
  have hp1 : p ≤ 1048576 := by rw [hp]; exact hb0.2.1.1
  have hn1 : n ≤ 1048576 := by rw [hn]; exact hs.1
  have hve : validE gs st = (validG gs && (decide (st.vs.length = gs.length) && (decide (st.rs.length = gs.length) && (allR st.vs 0 999 && allE gs st)))) := rfl
  rw [← hn, ← hm, ← hp] at hve
  have H := Lib.hid h
  have H' := Lib.hid h'
  have HN := Lib.hid hn
  have HM := Lib.hid hm
  have HP := Lib.hid hp
  have HSB := Lib.hid hb0.2.1
  cases hvg : validG gs
  · have hf : validE gs st = false := by rw [hve, hvg]; rfl
    rw [hf]
    rw [hvg] at HC
    clear hf hve hvg h h' hn hm hp hs hb0
    go_enter Try.func17, Try.ntmps17
    go_wp2_with fail
    refine (HC.out _ (by simp; omega) ((H.out.alloc hB _).alloc (by simp; omega) _)).mono ?_
    rintro e w1 ⟨rfl, hb⟩
    go_wp2
    go_ret
    exact ⟨rfl, (((Below.refl _ _).alloc (Nat.le_refl _) _).alloc (by simp) _).trans (hb.mono (by simp; omega))⟩
  rw [hvg] at HC
  by_cases hl1 : m = n
  case neg =>
    have hne : ((m : Int) != (n : Int)) = true := by simp; omega
    have hf : validE gs st = false := by rw [hve, decide_eq_false hl1]; simp
    rw [hf]
    clear hf hve hvg h h' hn hm hp hs hb0
    go_enter Try.func17, Try.ntmps17
    go_wp2_with fail
    refine (HC.out _ (by simp; omega) ((H.out.alloc hB _).alloc (by simp; omega) _)).mono ?_
    rintro e w1 ⟨rfl, hb⟩
    have q0 : w1.cell? ⟨w.heap.size, 0, none⟩ = some (.slice A n c) := (hb.cell (p := ⟨w.heap.size, 0, none⟩) (by simp; omega)).trans (by go_simp)
    have q1 : w1.cell? ⟨w.heap.size + 1, 0, none⟩ = some (.slice A' m c') := (hb.cell (p := ⟨w.heap.size + 1, 0, none⟩) (by simp)).trans (by go_simp)
    have q2 : w1.cell? ⟨w.heap.size + 1, 1, none⟩ = some (.slice E p ec) := (hb.cell (p := ⟨w.heap.size + 1, 1, none⟩) (by simp)).trans (by go_simp)
    have hB1 : Below w.heap.size w w1 := (((Below.refl _ _).alloc (Nat.le_refl _) _).alloc (by simp) _).trans (hb.mono (by simp; omega))
    have hl1 : w.heap.size + 2 ≤ w1.heap.size := by have := hb.size; simp at this; omega
    go_wp2
    go_ret
    exact ⟨rfl, hB1⟩
  have hne1 : ((m : Int) != (n : Int)) = false := by simp [hl1]
  by_cases hl2 : p = n
  case neg =>
    have hne : ((p : Int) != (n : Int)) = true := by simp; omega
    have hf : validE gs st = false := by rw [hve, decide_eq_false hl2]; simp
    rw [hf]
    clear hf hve hvg h h' hn hm hp hs hb0 hl1
    go_enter Try.func17, Try.ntmps17
    go_wp2_with fail
    refine (HC.out _ (by simp; omega) ((H.out.alloc hB _).alloc (by simp; omega) _)).mono ?_
    rintro e w1 ⟨rfl, hb⟩
    have q0 : w1.cell? ⟨w.heap.size, 0, none⟩ = some (.slice A n c) := (hb.cell (p := ⟨w.heap.size, 0, none⟩) (by simp; omega)).trans (by go_simp)
    have q1 : w1.cell? ⟨w.heap.size + 1, 0, none⟩ = some (.slice A' m c') := (hb.cell (p := ⟨w.heap.size + 1, 0, none⟩) (by simp)).trans (by go_simp)
    have q2 : w1.cell? ⟨w.heap.size + 1, 1, none⟩ = some (.slice E p ec) := (hb.cell (p := ⟨w.heap.size + 1, 1, none⟩) (by simp)).trans (by go_simp)
    have hB1 : Below w.heap.size w w1 := (((Below.refl _ _).alloc (Nat.le_refl _) _).alloc (by simp) _).trans (hb.mono (by simp; omega))
    have hl1 : w.heap.size + 2 ≤ w1.heap.size := by have := hb.size; simp at this; omega
    go_wp2
    go_ret
    exact ⟨rfl, hB1⟩
  have hne2 : ((p : Int) != (n : Int)) = false := by simp [hl2]
  have HAR := Lib.hid fun (w' : World) (hB : B ≤ w'.heap.size) (h : IS w' B A' st.vs) => impl_allInRange A' m c' st.vs 999 w' B hB hm h (by omega)
  have hn10 : n ≤ 10 := by rw [hn]; exact (validG_parts gs hvg).1
  have h10 : decide (st.vs.length ≤ 10) = true := decide_eq_true (by omega)
  rw [h10, Bool.true_and] at HAR
  cases hr : allR st.vs 0 999
  · have hf : validE gs st = false := by rw [hve, hr]; simp
    rw [hf]
    rw [hr] at HAR
    clear hf hve hvg h h' hn hm hp hs hb0 hl1 hl2 hr h10
    go_enter Try.func17, Try.ntmps17
    go_wp2_with fail
    refine (HC.out _ (by simp; omega) ((H.out.alloc hB _).alloc (by simp; omega) _)).mono ?_
    rintro e w1 ⟨rfl, hb⟩
    have q0 : w1.cell? ⟨w.heap.size, 0, none⟩ = some (.slice A n c) := (hb.cell (p := ⟨w.heap.size, 0, none⟩) (by simp; omega)).trans (by go_simp)
    have q1 : w1.cell? ⟨w.heap.size + 1, 0, none⟩ = some (.slice A' m c') := (hb.cell (p := ⟨w.heap.size + 1, 0, none⟩) (by simp)).trans (by go_simp)
    have q2 : w1.cell? ⟨w.heap.size + 1, 1, none⟩ = some (.slice E p ec) := (hb.cell (p := ⟨w.heap.size + 1, 1, none⟩) (by simp)).trans (by go_simp)
    have hB1 : Below w.heap.size w w1 := (((Below.refl _ _).alloc (Nat.le_refl _) _).alloc (by simp) _).trans (hb.mono (by simp; omega))
    have hl1 : w.heap.size + 2 ≤ w1.heap.size := by have := hb.size; simp at this; omega
    go_wp2_with fail
    refine (HAR.out _ (by omega) (((H'.out.1.alloc hB _).alloc (by simp; omega) _).below hb (by simp; omega))).mono ?_
    rintro e w' ⟨rfl, rfl⟩
    go_wp2
    go_ret
    exact ⟨rfl, hB1⟩
  rw [hr] at HAR
  have hf : validE gs st = allE gs st := by rw [hve, hvg, decide_eq_true hl1, decide_eq_true hl2, hr]; simp
  rw [hf]
  have HRUN := Lib.hid fun (i : Nat) (hi : i < n) (w' : World) (B1 : Nat) (hB : B1 ≤ w'.heap.size) (h : GS w' B1 A gs) (h' : IS w' B1 A' st.vs) =>
    impl_runOf A A' n c m c' gs st.vs i w' B1 hB hn hm h h' hvg (by omega) hr hi
  have HBAD := Lib.hid fun (i : Nat) (hi : i < gs.length) => allE_bad gs st i hi
  have HFBD := Lib.hid fun (i : Nat) (hi : i < gs.length) => eager_depF_bd gs st.vs hvg (by omega) i hi
  have HFIN := Lib.hid (allE_fin gs st)
  have HL1 := Lib.hid hl1
  have HL2 := Lib.hid hl2
  clear hf hve hvg h h' hn hm hp hs hb0 hl1 hl2 hr h10
  go_enter Try.func17, Try.ntmps17
  go_wp2_with fail
  refine (HC.out _ (by simp; omega) ((H.out.alloc hB _).alloc (by simp; omega) _)).mono ?_
  rintro e w1 ⟨rfl, hb⟩
  have q0 : w1.cell? ⟨w.heap.size, 0, none⟩ = some (.slice A n c) := (hb.cell (p := ⟨w.heap.size, 0, none⟩) (by simp; omega)).trans (by go_simp)
  have q1 : w1.cell? ⟨w.heap.size + 1, 0, none⟩ = some (.slice A' m c') := (hb.cell (p := ⟨w.heap.size + 1, 0, none⟩) (by simp)).trans (by go_simp)
  have q2 : w1.cell? ⟨w.heap.size + 1, 1, none⟩ = some (.slice E p ec) := (hb.cell (p := ⟨w.heap.size + 1, 1, none⟩) (by simp)).trans (by go_simp)
  have hB1 : Below w.heap.size w w1 := (((Below.refl _ _).alloc (Nat.le_refl _) _).alloc (by simp) _).trans (hb.mono (by simp; omega))
  have hl1 : w.heap.size + 2 ≤ w1.heap.size := by have := hb.size; simp at this; omega
  have HG1 := Lib.hid (((H.out.alloc hB (.cells #[.slice A n c] 25)).alloc (by simp; omega) (.cells #[.slice A' m c', .slice E p ec] 31)).below hb (by simp; omega))
  have HE1 := Lib.hid (((H'.out.alloc hB (.cells #[.slice A n c] 25)).alloc (by simp; omega) (.cells #[.slice A' m c', .slice E p ec] 31)).below hb (by simp; omega))
  clear hb H H' HC
  go_wp2_with fail
  refine (HAR.out _ (by omega) HE1.out.1).mono ?_
  rintro e w' ⟨rfl, rfl⟩
  clear HAR
  go_wp2
  go_loopw [36] (fun u wr => ∃ k : Nat, k ≤ n ∧ u = .int .i64 k ∧ Hid (∀ i, i < k → okE gs st i = true) ∧ Hid (Below w1.heap.size w1 wr) ∧ w1.heap.size ≤ wr.heap.size) (fun u _ => n - (intOf u).toNat)
  case atStart => exact ⟨0, Nat.zero_le _, rfl, fun i hi => by omega, Below.refl _ _, Nat.le_refl _⟩
  case round =>
    obtain ⟨k, hk, rfl, HK, HB, hwr⟩ := hrel
    have r0 := (HB.out.cell (p := ⟨w.heap.size, 0, none⟩) (by simp; omega)).trans q0
    have r1 := (HB.out.cell (p := ⟨w.heap.size + 1, 0, none⟩) (by simp; omega)).trans q1
    have r2 := (HB.out.cell (p := ⟨w.heap.size + 1, 1, none⟩) (by simp; omega)).trans q2
    by_cases hlt : k < n
    · have hkg : k < gs.length := by have := HN.out; omega
      have hkm : k < m := by have := HL1.out; omega
      have hkp : k < p := by have := HL2.out; omega
      obtain ⟨b2, off2, hA', hbB2, hcx⟩ := HE1.out.1 (by have := HM.out; omega)
      have d0 := hcx k (by have := HM.out; omega)
      obtain ⟨b3, off3, hE, hbB3, A3, n3, c3, d1, hn3, hls⟩ := HE1.out.2.at_ k (by have := HP.out; omega)
      have HGR := Lib.hid (HG1.out.below HB.out (by omega))
      have HIS := Lib.hid (HE1.out.1.below HB.out (by omega))
      have hn3b : n3 ≤ 1048576 := by rw [hn3]; exact HSB.out.2 k
      have HNK := Lib.hid (HBAD.out k hkg)
      have HNT : Hid (okE gs st k = true → ∀ i, i < k + 1 → okE gs st i = true) := fun h j hj => by
        rcases Nat.lt_or_ge j k with h1 | h1
        · exact HK.out j h1
        · obtain rfl : j = k := by omega
          exact h
      have hoe : okE gs st k = (valE gs st.vs k == st.vs.getD k 0 && decide (depF gs st.vs k = st.rs.getD k [])) := rfl
      have HRK := Lib.hid (HRUN.out k hlt wr B (by omega) HGR.out HIS.out)
      have HN3 := Lib.hid hn3
      have HFB := Lib.hid (HFBD.out k hkg)
      clear hcx hn3 HK HBAD HFBD
      generalize okE gs st k = r at *
      generalize valE gs st.vs k = X at *
      generalize depF gs st.vs k = F at *
      generalize st.vs.getD k 0 = x at *
      generalize st.rs.getD k [] = L at *
      subst hA' hE
      go_wp2_with fail
      refine HRK.out.mono ?_
      rintro e w5 ⟨v5, rfl, ho, hb5⟩
      obtain ⟨A5, c5, rfl, hI5⟩ := ho.form
      have HB5 := Lib.hid (HB.out.trans (hb5.mono hwr))
      have hs5 : wr.heap.size ≤ w5.heap.size := hb5.size
      have u1 := (hb5.cell (p := ⟨w.heap.size + 1, 0, none⟩) (by show w.heap.size + 1 < wr.heap.size; omega)).trans r1
      have u2 := (hb5.cell (p := ⟨w.heap.size + 1, 1, none⟩) (by show w.heap.size + 1 < wr.heap.size; omega)).trans r2
      have u3 := (HB5.out.cell (p := ⟨b2, off2 + k, none⟩) (by show b2 < w1.heap.size; omega)).trans d0
      have u4 := (HB5.out.cell (p := ⟨b3, off3 + k, none⟩) (by show b3 < w1.heap.size; omega)).trans d1
      have HLS5 := Lib.hid ((hls.below HB5.out (by omega)).more (B' := w5.heap.size) (by omega))
      have HSI := Lib.hid (slices_Equal A3 A5 n3 F.length c3 c5 L F w5 w5.heap.size (Nat.le_refl _) HN3.out rfl HLS5.out hI5 (by omega) (by have := HFB.out; omega))
      generalize F.length = fl at *
      clear ho hb5 d0 d1 hls hI5 HRK
      cases hx : (X == x)
      · have hx' : (x != X) = true := by simp [bne] at hx ⊢; exact fun e => hx e.symm
        have HNF := Lib.hid (HNK.out (by rw [hoe, hx]; rfl))
        clear hx hoe
        go_wp2
        go_ret
        exact ⟨ret_b HNF.out.symm, hB1.trans (HB5.out.mono (by omega))⟩
      · have hx' : (x != X) = false := by simp at hx; simp [bne, hx]
        rw [hx, Bool.true_and] at hoe
        have hsy : decide (F = L) = decide (L = F) := decide_eq_decide.mpr ⟨Eq.symm, Eq.symm⟩
        rw [hsy] at hoe
        rw [← hoe] at HSI
        clear hx hoe hsy
        go_wp2_with fail
        refine HSI.out.mono ?_
        rintro e w6 ⟨rfl, hb6⟩
        have HB6 := Lib.hid (HB5.out.trans (hb6.mono HB5.out.size))
        cases r
        · go_wp2
          go_ret
          exact ⟨ret_b (HNK.out (by first | rfl | trivial)).symm, hB1.trans (HB6.out.mono (by omega))⟩
        · go_wp2
          go_roundw
          case rel => exact ⟨k + 1, by omega, by go_num, HNT.out (by first | rfl | trivial), HB6.out, HB6.out.size⟩
          case measure => simp [intOf]; omega
    · obtain rfl : k = n := by omega
      go_wp2
      go_ret
      exact ⟨ret_b (HFIN.out fun i hi => HK.out i (by have := HN.out; omega)).symm, hB1.trans (HB.out.mono (by omega))⟩

theorem top_impl_ValidEager (gs : List Nd) (st : Eg) (hG : GB gs) (hE : EB st) : ∀ (A : Option Addr) (n c : Nat) (A' : Option Addr) (m c' : Nat) (E : Option Addr) (p ec : Nat) (w : World), n = gs.length → n ≤ c → GS w w.heap.size A gs → m = st.vs.length → p = st.rs.length → ES w w.heap.size A' E st →
    Calls Try.prog 17 #[.agg #[.slice A n c], .agg #[.slice A' m c', .slice E p ec]] w fun e w' => e = .returned (.bool (validE gs st)) ∧ Below w.heap.size w w' :=
  fun A n c A' m c' E p ec w hn hnc h hm hp h' => impl_ValidEager A A' E n c m c' p ec gs st w w.heap.size (Nat.le_refl _) hn hnc hm hp h h' hG hE
end Go.Proofs.Ytgclikdienlhdaa
