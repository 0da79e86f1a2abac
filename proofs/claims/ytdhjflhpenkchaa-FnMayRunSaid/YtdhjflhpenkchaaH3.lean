/- Words and contracts for memory that the texts behind use. -/
import Derived.Test.YtdhjflhpenkchaaH0a
import Derived.Test.YtdhjflhpenkchaaH0b
import Derived.Test.YtdhjflhpenkchaaH0
import Derived.Test.YtdhjflhpenkchaaH1
import Derived.Test.YtdhjflhpenkchaaH2
import Derived.WalkKit
import Derived.Laws.OwnMore
import Derived.Deep.Draws
import Derived.Test.YtdhjflhpenkchaaProg
import Derived.WalkSpells
import Derived.WalkLawsBesides
import Derived.Outline
import Derived.Lib.Hide
import Derived.BigQuiet
import Derived.Deep.QuietTactic
import Derived.StillTailTactics
import Derived.Deep.LoopGhost
import Derived.Laws.MakeOwn
import Derived.WalkSmall
import Derived.RegionTactic
import Derived.BigRegion
import Derived.Deep.RegionWith
import Derived.Deep.RegionHeld3
import Derived.Maps.Own
import Derived.Maps.Views
import Derived.Maps.AppendAt
import Derived.Laws.CopyOwn
import Derived.ChangeAlike
import Derived.Deep.Cut
import Derived.Deep.AppendLies

namespace Go.Proofs.Ytdhjflhpenkchaa
set_option linter.unusedSimpArgs false
set_option linter.unusedVariables false
open Go.RowKit
/-- The slice at A reads as the lists xss; all of it lies below block B. -/
def SS (w : World) (B : Nat) (A : Option Addr) (xss : List (List Int)) : Prop :=
  0 < xss.length → ∃ b off, A = some ⟨b, off, none⟩ ∧ b < B ∧ ∀ j, j < xss.length → ∃ A' n c, w.cell? ⟨b, off + j, none⟩ = some (.slice A' n c) ∧ n = (xss.getD j []).length ∧ IS w B A' (xss.getD j [])
section
variable {w w' : World} {B B' C : Nat} {A : Option Addr} {xss : List (List Int)}
theorem SS.keep (h : SS w B A xss) (hk : ∀ p : Addr, p.block < B → w'.cell? p = w.cell? p) : SS w' B A xss := by
  intro hn
  obtain ⟨b, off, e, hb, hc⟩ := h hn
  refine ⟨b, off, e, hb, fun j hj => ?_⟩
  obtain ⟨A', n, c, h1, h2, h3⟩ := hc j hj
  exact ⟨A', n, c, (hk _ hb).trans h1, h2, h3.keep hk⟩
theorem SS.more (h : SS w B A xss) (hB : B ≤ B') : SS w B' A xss := by
  intro hn
  obtain ⟨b, off, e, hb, hc⟩ := h hn
  refine ⟨b, off, e, by omega, fun j hj => ?_⟩
  obtain ⟨A', n, c, h1, h2, h3⟩ := hc j hj
  exact ⟨A', n, c, h1, h2, h3.more hB⟩
theorem SS.below (h : SS w B A xss) (hb : Below C w w') (hC : B ≤ C) : SS w' B A xss := h.keep fun _ hp => hb.cell (Nat.lt_of_lt_of_le hp hC)
theorem SS.alloc (h : SS w B A xss) (hB : B ≤ w.heap.size) (o : Obj) : SS (w.alloc o) B A xss := h.keep fun p hp => World.cell?_alloc_lt w o p (by omega)
theorem SS.nil (w : World) (B : Nat) (A : Option Addr) : SS w B A [] := fun h => absurd h (by simp)
end
theorem SS.step {A : Option Addr} {xss : List (List Int)} {wk wl : World} (h : SS wk wk.heap.size A xss) (hb : Below wk.heap.size wk wl) : SS wl wl.heap.size A xss := (h.below hb (Nat.le_refl _)).more hb.size
theorem SS.loc (B : Nat) (A : Option Addr) (xss : List (List Int)) : Loc 0 B fun w => SS w B A xss :=
  fun w w' h hk => h.keep fun p hp => World.cell?_of_block (hk p.block (Nat.zero_le _) hp)
/-- The rows vs lie in blocks of their own and have contents cont. -/
structure SSk (lo hi : Nat) (vs : List Value) (lens : Nat → Nat) (cont : Nat → List Value) (w : World) : Prop where
  row : ∀ j, j < vs.length → ∃ A m c, vs[j]? = some (.slice A m c) ∧ m = lens j ∧ OwR lo hi 3 1 (.slice A m c) m (cont j) w
  apart : ∀ (i j : Nat) (v u : Value) (k : Nat), i ≠ j → vs[i]? = some v → vs[j]? = some u → v.ownBlock = some k → u.ownBlock ≠ some k
theorem SSk.keep {lo hi : Nat} {vs : List Value} {lens : Nat → Nat} {cont : Nat → List Value} {w w' : World} (h : SSk lo hi vs lens cont w) (hk : ∀ k, lo ≤ k → k < hi → w'.heap[k]? = w.heap[k]?) : SSk lo hi vs lens cont w' :=
  ⟨fun j hj => by obtain ⟨A, m, c, h1, h2, h3⟩ := h.row j hj; exact ⟨A, m, c, h1, h2, h3.keep hk⟩, h.apart⟩
theorem SSk.mono {lo hi lo' hi' : Nat} {vs : List Value} {lens : Nat → Nat} {cont : Nat → List Value} {w : World} (h : SSk lo hi vs lens cont w) (h1 : lo' ≤ lo) (h2 : hi ≤ hi') : SSk lo' hi' vs lens cont w :=
  ⟨fun j hj => by obtain ⟨A, m, c, e1, e2, e3⟩ := h.row j hj; exact ⟨A, m, c, e1, e2, e3.mono h1 h2⟩, h.apart⟩
/-- A row of another kind was written to. -/
theorem SSk.grown {lo hi : Nat} {vs : List Value} {lens : Nat → Nat} {cont : Nat → List Value} {w w' : World} {row : Option Nat} (h : SSk lo hi vs lens cont w) (hg : w.grownBy w' row) (hr : ∀ (j : Nat) (v : Value), vs[j]? = some v → v.ownBlock = none ∨ v.ownBlock ≠ row) : SSk lo hi vs lens cont w' :=
  ⟨fun j hj => by obtain ⟨A, m, c, h1, h2, h3⟩ := h.row j hj; exact ⟨A, m, c, h1, h2, h3.1.kept hg (hr j _ h1), h3.2⟩, h.apart⟩
theorem SSk.ne {lo hi lo' : Nat} {vs : List Value} {lens : Nat → Nat} {cont : Nat → List Value} {w : World} {e : TypeId} {size n : Nat} {u : Value} {xs : List Value} (h : SSk lo hi vs lens cont w) (hu : w.ownsRow lo' e size u n xs) (he : (3 : TypeId) ≠ e) : ∀ (j : Nat) (v : Value), vs[j]? = some v → v.ownBlock = none ∨ v.ownBlock ≠ u.ownBlock := by
  intro j v hv
  have hj : j < vs.length := by
    rcases Nat.lt_or_ge j vs.length with h1 | h1
    · exact h1
    · rw [List.getElem?_eq_none h1] at hv; cases hv
  obtain ⟨A, m, c, h1, h2, h3⟩ := h.row j hj
  rw [h1] at hv
  cases hv
  exact blocks_ne h3.1 hu he
theorem SSk.lt {lo hi : Nat} {vs : List Value} {lens : Nat → Nat} {cont : Nat → List Value} {w : World} (h : SSk lo hi vs lens cont w) : ∀ (j : Nat) (v : Value) (k : Nat), vs[j]? = some v → v.ownBlock = some k → lo ≤ k ∧ k < hi := by
  intro j v k hv hk
  have hj : j < vs.length := by
    rcases Nat.lt_or_ge j vs.length with h1 | h1
    · exact h1
    · rw [List.getElem?_eq_none h1] at hv; cases hv
  obtain ⟨A, m, c, h1, h2, h3⟩ := h.row j hj
  rw [h1] at hv
  cases hv
  exact ⟨(h3.1.lt k hk).1, h3.2 k hk⟩
/-- One row more, or another one in its place: it lies in new blocks. -/
theorem SSk.put {lo hi hi' : Nat} {vs vs' : List Value} {lens lens' : Nat → Nat} {cont cont' : Nat → List Value} {w : World} {A : Option Addr} {m c : Nat} (h : SSk lo hi vs lens cont w) (k : Nat) (hk : vs'[k]? = some (.slice A m c)) (hl : ∀ j, j ≠ k → vs'[j]? = vs[j]?)
    (hlen : ∀ j, j < vs'.length → j ≠ k → j < vs.length) (hm : m = lens' k) (hc : ∀ j, j ≠ k → lens' j = lens j ∧ cont' j = cont j) (hr : OwR hi hi' 3 1 (.slice A m c) m (cont' k) w) (h1 : lo ≤ hi) (h2 : hi ≤ hi') : SSk lo hi' vs' lens' cont' w := by
  refine ⟨fun j hj => ?_, fun i j v u q hij hi' hj' hv hu => ?_⟩
  · by_cases e : j = k
    · subst e
      exact ⟨A, m, c, hk, hm, hr.mono h1 (Nat.le_refl _)⟩
    · obtain ⟨A', m', c', e1, e2, e3⟩ := h.row j (hlen j hj e)
      obtain ⟨e4, e5⟩ := hc j e
      exact ⟨A', m', c', by rw [hl j e]; exact e1, by rw [e4]; exact e2, by rw [e5]; exact e3.mono (Nat.le_refl _) h2⟩
  · by_cases e : i = k
    · subst e
      rw [hk] at hi'
      cases hi'
      have a1 := (hr.1.lt q hv).1
      rw [hl j (fun e => hij e.symm)] at hj'
      have a2 := (h.lt j u q hj' hu).2
      omega
    · by_cases e' : j = k
      · subst e'
        rw [hk] at hj'
        cases hj'
        have a1 := (hr.1.lt q hu).1
        rw [hl i e] at hi'
        have a2 := (h.lt i v q hi' hv).2
        omega
      · rw [hl i e] at hi'
        rw [hl j e'] at hj'
        exact h.apart i j v u q hij hi' hj' hv hu
def lenOf (xss : List (List Int)) (j : Nat) : Nat := (xss.getD j []).length
def rowOf (xss : List (List Int)) (j : Nat) : List Value := (xss.getD j []).map (Value.int .i64)
/-- Lists of numbers of the call's own. -/
def OwSS (lo hi : Nat) (v : Value) (n : Nat) (xss : List (List Int)) (w : World) : Prop :=
  n = xss.length ∧ ∃ vs, OwR lo hi 28 1 v n vs w ∧ SSk lo hi vs (lenOf xss) (rowOf xss) w
theorem OwSS.loc (lo hi : Nat) (v : Value) (n : Nat) (xss : List (List Int)) : Loc lo hi (OwSS lo hi v n xss) := by
  rintro w w' ⟨h0, vs, h1, h2⟩ hk
  exact ⟨h0, vs, h1.keep hk, h2.keep hk⟩
theorem OwSS.mono {lo hi lo' hi' n : Nat} {v : Value} {xss : List (List Int)} {w : World} (h : OwSS lo hi v n xss w) (h1 : lo' ≤ lo) (h2 : hi ≤ hi') : OwSS lo' hi' v n xss w := by
  obtain ⟨h0, vs, e1, e2⟩ := h
  exact ⟨h0, vs, e1.mono h1 h2, e2.mono h1 h2⟩
theorem OwSS.form {lo hi n : Nat} {v : Value} {xss : List (List Int)} {w : World} (h : OwSS lo hi v n xss w) : ∃ A c, v = .slice A n c := by
  obtain ⟨_, xs, h1, _⟩ := h
  exact own_form h1.1
theorem OwSS.lists {lo hi n c : Nat} {A : Option Addr} {xss : List (List Int)} {w : World} (h : OwSS lo hi (.slice A n c) n xss w) : SS w hi A xss := by
  obtain ⟨h0, vs, h1, h2⟩ := h
  intro hn
  rcases h1.1.2 with ⟨_, hz⟩ | ⟨g, cap, cur, hv, _⟩
  · omega
  · have hg := h1.2 g (by rw [hv]; rfl)
    simp only [Value.slice.injEq] at hv
    obtain ⟨rfl, _, rfl⟩ := hv
    have hvl : vs.length = n := by have := h1.1.1; omega
    refine ⟨g, 0, rfl, hg, fun j hj => ?_⟩
    obtain ⟨A', m, c', e1, e2, e3⟩ := h2.row j (by omega)
    refine ⟨A', m, c', ?_, e2, e3.ints⟩
    rw [Nat.zero_add, h1.1.cellAt _ (by omega)]; exact e1
theorem As.lists {lo hi n c : Nat} {A : Option Addr} {xss : List (List Int)} {w : World} (h : As lo hi (OwSS lo hi (.slice A n c) n xss) w) : SS w w.heap.size A xss := h.it.lists.more h.le
theorem ints_ne_int : (3 : TypeId) ≠ 28 := by decide
theorem OwSS.nil (lo hi : Nat) (w : World) : OwSS lo hi (.slice none 0 0) 0 [] w := ⟨rfl, [], OwR.nil _ _ _ _ _, ⟨fun j hj => by simp at hj, fun i j v u k _ h => by simp at h⟩⟩
end Go.Proofs.Ytdhjflhpenkchaa

namespace Go.Proofs.Ytdhjflhpenkchaa
set_option linter.unusedSimpArgs false
set_option linter.unusedVariables false
open Go.RowKit
theorem validG_parts (gs : List Nd) (h : validG gs = true) : gs.length ≤ 10 ∧ ∀ i, i < gs.length → nodeOK gs i = true := by
  unfold validG at h
  simp only [Bool.and_eq_true, decide_eq_true_eq] at h
  exact ⟨h.2, h.1⟩
theorem nodeOK_cell (gs : List Nd) (i : Nat) (h : nodeOK gs i = true) (hk : ((gs.getD i default).k == 0) = true) : (gs.getD i default).ps = [] := by
  unfold nodeOK at h
  rw [if_pos hk] at h
  exact List.eq_nil_of_length_eq_zero (by simpa using h)
theorem nodeOK_formula (gs : List Nd) (i : Nat) (h : nodeOK gs i = true) (hk : ((gs.getD i default).k == 0) = false) : validF (gs.getD i default).ps = true ∧ goodRd gs i = true := by
  unfold nodeOK at h
  rw [if_neg (by rw [hk]; decide)] at h
  cases h1 : ((gs.getD i default).k == 1)
  · rw [if_neg (by rw [h1]; decide)] at h
    cases h2 : ((gs.getD i default).k == 2)
    · rw [if_neg (by rw [h2]; decide)] at h; cases h
    · rw [if_pos h2] at h; simpa using h
  · rw [if_pos h1] at h; simpa using h
theorem mayR_nil : mayR [] = [] := by
  unfold mayR hasNode
  simp
/-- All nodes that a node of a valid graph may read are ahead of it. -/
theorem mayR_ahead (gs : List Nd) (i : Nat) (h : validG gs = true) (hi : i < gs.length) (x : Int) (hx : x ∈ mayR (gs.getD i default).ps) : 0 ≤ x ∧ x < (i : Int) := by
  obtain ⟨h10, hok⟩ := validG_parts gs h
  have hb := mem_mayR_bd _ _ hx
  cases hk : ((gs.getD i default).k == 0)
  · obtain ⟨_, hg⟩ := nodeOK_formula gs i (hok i hi) hk
    unfold goodRd at hg
    rw [List.all_eq_true] at hg
    have := hg x hx
    unfold rdOK at this
    simp only [Bool.and_eq_true, decide_eq_true_eq] at this
    omega
  · rw [nodeOK_cell gs i (hok i hi) hk, mayR_nil] at hx
    cases hx
/-- The heights of the first nodes. -/
def htTo (gs : List Nd) : Nat → List Int
  | 0 => []
  | i + 1 => htTo gs i ++ [(mayR (gs.getD i default).ps).foldl (fun h x => max h ((htTo gs i).getD x.toNat 0 + 1)) 0]
theorem htTo_len (gs : List Nd) (i : Nat) : (htTo gs i).length = i := by
  induction i with
  | zero => rfl
  | succ i ih => simp [htTo, ih]
theorem foldl_max_bd (L : List Int) (f : Int → Int) (a b : Int) (ha : 0 ≤ a) (hab : a ≤ b) (hf : ∀ x ∈ L, f x ≤ b) : 0 ≤ L.foldl (fun h x => max h (f x)) a ∧ L.foldl (fun h x => max h (f x)) a ≤ b := by
  induction L generalizing a with
  | nil => exact ⟨ha, hab⟩
  | cons y L ih =>
    rw [List.foldl_cons]
    have := hf y List.mem_cons_self
    exact ih (max a (f y)) (by omega) (by omega) fun x hx => hf x (List.mem_cons_of_mem _ hx)
end Go.Proofs.Ytdhjflhpenkchaa

namespace Go.Proofs.Ytdhjflhpenkchaa
set_option linter.unusedSimpArgs false
set_option linter.unusedVariables false
open Go.RowKit
/-- The first numbers for which something holds. -/
def nwTo (P : Nat → Bool) (n : Nat) : List Int := ((List.range n).filter P).map fun i : Nat => (i : Int)
theorem nwTo_step (P : Nat → Bool) (k : Nat) : nwTo P (k + 1) = nwTo P k ++ (if P k then [(k : Int)] else []) := by
  unfold nwTo
  rw [List.range_succ, List.filter_append, List.map_append]
  congr 1
  cases h : P k <;> simp [h]
end Go.Proofs.Ytdhjflhpenkchaa

namespace Go.Proofs.Ytdhjflhpenkchaa
set_option linter.unusedSimpArgs false
set_option linter.unusedVariables false
open Go.RowKit
/-- The set T has all steps. -/
def ClS (steps : Nat → List Nat) (T : Nat → Bool) : Prop := ∀ x, T x = true → ∀ y ∈ steps x, T y = true
/-- The nodes that a node's formula has, and those whose formula has a node. -/
def rdsN (gs : List Nd) (j : Nat) : List Nat := (mayR (gs.getD j default).ps).map Int.toNat
def usN (gs : List Nd) (n j : Nat) : List Nat := (List.range n).filter fun u => decide ((j : Int) ∈ mayR (gs.getD u default).ps)
theorem mem_rdsN (gs : List Nd) (h : validG gs = true) (j q : Nat) (hj : j < gs.length) : q ∈ rdsN gs j ↔ (q : Int) ∈ mayR (gs.getD j default).ps := by
  unfold rdsN
  rw [List.mem_map]
  constructor
  · rintro ⟨x, hx, rfl⟩
    have := mayR_ahead gs j h hj x hx
    rw [Int.toNat_of_nonneg this.1]; exact hx
  · intro hq; exact ⟨_, hq, by simp⟩
theorem rdsN_lt (gs : List Nd) (h : validG gs = true) (j q : Nat) (hj : j < gs.length) (hq : q ∈ rdsN gs j) : q < j := by
  have := mayR_ahead gs j h hj _ ((mem_rdsN gs h j q hj).1 hq)
  omega
theorem mem_usN (gs : List Nd) (n j u : Nat) : u ∈ usN gs n j ↔ u < n ∧ (j : Int) ∈ mayR (gs.getD u default).ps := by
  unfold usN
  rw [List.mem_filter, List.mem_range, decide_eq_true_iff]
theorem usN_gt (gs : List Nd) (h : validG gs = true) (n j u : Nat) (hn : n ≤ gs.length) (hu : u ∈ usN gs n j) : j < u := by
  obtain ⟨h1, h2⟩ := (mem_usN gs n j u).1 hu
  have := mayR_ahead gs u h (by omega) _ h2
  omega
/-- Whether nodes are met on ways from starts. -/
def reachTo (gs : List Nd) (st : List Int) : Nat → List Int
  | 0 => []
  | k + 1 => reachTo gs st k ++ if (decide ((k : Int) ∈ st) || (mayR (gs.getD k default).ps).any fun r => decide (r ∈ reachTo gs st k)) then [(k : Int)] else []
theorem reachTo_mem (gs : List Nd) (st : List Int) (k : Nat) (x : Int) (h : x ∈ reachTo gs st k) : ∃ q : Nat, q < k ∧ x = (q : Int) := by
  induction k with
  | zero => simp [reachTo] at h
  | succ k ih =>
    simp only [reachTo, List.mem_append] at h
    rcases h with h | h
    · obtain ⟨q, h1, h2⟩ := ih h; exact ⟨q, by omega, h2⟩
    · split at h
      · simp at h; exact ⟨k, by omega, h⟩
      · simp at h
theorem reachTo_more (gs : List Nd) (st : List Int) (k n q : Nat) (hq : q < k) (hk : k ≤ n) : ((q : Int) ∈ reachTo gs st n) ↔ ((q : Int) ∈ reachTo gs st k) := by
  induction n with
  | zero => omega
  | succ n ih =>
    rcases Nat.lt_or_ge n k with h1 | h1
    · have : k = n + 1 := by omega
      subst this; rfl
    · rw [← ih h1]
      simp only [reachTo, List.mem_append]
      constructor
      · rintro (h | h)
        · exact h
        · split at h
          · simp at h; omega
          · simp at h
      · exact .inl
theorem reachTo_iff (gs : List Nd) (st : List Int) (n q : Nat) (hq : q < n) : ((q : Int) ∈ reachTo gs st n) ↔ ((q : Int) ∈ st ∨ ∃ r ∈ mayR (gs.getD q default).ps, r ∈ reachTo gs st q) := by
  rw [reachTo_more gs st (q + 1) n q (by omega) (by omega)]
  simp only [reachTo, List.mem_append]
  constructor
  · rintro (h | h)
    · obtain ⟨p, h1, h2⟩ := reachTo_mem gs st q _ h; omega
    · split at h
      · rename_i hc
        simp only [Bool.or_eq_true, decide_eq_true_eq, List.any_eq_true] at hc
        exact hc
      · simp at h
  · intro h
    right
    rw [if_pos (by simp only [Bool.or_eq_true, decide_eq_true_eq, List.any_eq_true]; exact h)]
    simp
theorem reachTo_nwTo (gs : List Nd) (st : List Int) (n k : Nat) (hk : k ≤ n) : reachTo gs st k = nwTo (fun i => decide ((i : Int) ∈ reachTo gs st n)) k := by
  induction k with
  | zero => rfl
  | succ k ih =>
    rw [nwTo_step, ← ih (by omega)]
    simp only [reachTo]
    congr 1
    have := reachTo_iff gs st n k (by omega)
    have e : (decide ((k : Int) ∈ st) || (mayR (gs.getD k default).ps).any fun r => decide (r ∈ reachTo gs st k)) = decide ((k : Int) ∈ reachTo gs st n) := by
      rw [Bool.eq_iff_iff]
      simp only [Bool.or_eq_true, decide_eq_true_eq, List.any_eq_true]
      exact this.symm
    rw [e]
/-- The set of nodes that are reached: closed, and the least one. -/
theorem reach_cl (gs : List Nd) (h : validG gs = true) (st : List Int) : ClS (usN gs gs.length) fun i => decide ((i : Int) ∈ reachTo gs st gs.length) := by
  intro x hx y hy
  obtain ⟨h1, h2⟩ := (mem_usN _ _ _ _).1 hy
  have hgt := usN_gt gs h _ _ _ (Nat.le_refl _) hy
  simp only [decide_eq_true_eq] at *
  rw [reachTo_iff gs st _ y h1]
  exact .inr ⟨_, h2, (reachTo_more gs st y gs.length x hgt (by omega)).1 hx⟩
theorem reach_min (gs : List Nd) (h : validG gs = true) (st : List Int) (S : Nat → Bool) (hS : ClS (usN gs gs.length) S) (hst : ∀ x : Nat, (x : Int) ∈ st → x < gs.length → S x = true) : ∀ y : Nat, (y : Int) ∈ reachTo gs st gs.length → S y = true := by
  intro y
  induction y using Nat.strongRecOn with
  | ind y ih =>
    intro hy
    obtain ⟨q, hq, e⟩ := reachTo_mem _ _ _ _ hy
    have : q = y := by omega
    subst this
    rcases (reachTo_iff gs st _ q hq).1 hy with h1 | ⟨r, hr, h1⟩
    · exact hst q h1 hq
    · obtain ⟨p, hp, rfl⟩ := reachTo_mem _ _ _ _ h1
      have h2 := ih p hp ((reachTo_more gs st q gs.length p hp (by omega)).2 h1)
      exact hS p h2 q ((mem_usN _ _ _ _).2 ⟨hq, hr⟩)
/-- What need marks, from the last node down. -/
def metSt (gs : List Nd) (st : List Int) (m : List Bool) (i : Nat) : List Bool :=
  if m.getD i false || decide ((i : Int) ∈ st) then (mayR (gs.getD i default).ps).foldl (fun m r => m.set r.toNat true) (m.set i true) else m
def metGo (gs : List Nd) (st : List Int) : Nat → List Bool
  | 0 => List.replicate gs.length false
  | k + 1 => metSt gs st (metGo gs st k) (gs.length - 1 - k)
def metF (gs : List Nd) (st : List Int) : List Bool := metGo gs st gs.length
def needTo (gs : List Nd) (st : List Int) : List Int := nwTo (fun i => (metF gs st).getD i false) gs.length
theorem foldset_len (l : List Int) (m : List Bool) : (l.foldl (fun m r => m.set r.toNat true) m).length = m.length := by
  induction l generalizing m with
  | nil => rfl
  | cons x l ih => rw [List.foldl_cons, ih]; simp
theorem metSt_len (gs : List Nd) (st : List Int) (m : List Bool) (i : Nat) : (metSt gs st m i).length = m.length := by
  unfold metSt; split
  · rw [foldset_len]; simp
  · rfl
theorem metGo_len (gs : List Nd) (st : List Int) (k : Nat) : (metGo gs st k).length = gs.length := by
  induction k with
  | zero => simp [metGo]
  | succ k ih => rw [metGo, metSt_len, ih]
theorem foldset_at (l : List Int) (m : List Bool) (j : Nat) (hj : j < m.length) (hl : ∀ r ∈ l, 0 ≤ r) : (l.foldl (fun m r => m.set r.toNat true) m).getD j false = (m.getD j false || decide ((j : Int) ∈ l)) := by
  induction l generalizing m with
  | nil => simp
  | cons x l ih =>
    rw [List.foldl_cons, ih (m.set x.toNat true) (by simpa using hj) (fun r hr => hl r (by simp [hr]))]
    have hx := hl x (by simp)
    by_cases e : x.toNat = j
    · have : x = (j : Int) := by omega
      subst this
      simp [List.getD, hj]
    · have h1 : (m.set x.toNat true).getD j false = m.getD j false := by simp [List.getD, List.getElem?_set, e]
      have h2 : ¬ (j : Int) = x := by omega
      rw [h1]; simp [h2]
theorem metSt_at (gs : List Nd) (h : validG gs = true) (st : List Int) (m : List Bool) (i j : Nat) (hi : i < gs.length) (hm : m.length = gs.length) (hj : j < gs.length) :
    (metSt gs st m i).getD j false = (m.getD j false || ((m.getD i false || decide ((i : Int) ∈ st)) && (decide (j = i) || decide ((j : Int) ∈ mayR (gs.getD i default).ps)))) := by
  unfold metSt
  by_cases hc : (m.getD i false || decide ((i : Int) ∈ st)) = true
  · rw [if_pos hc, foldset_at _ _ _ (by simpa [hm] using hj) (fun r hr => (mayR_ahead gs i h hi r hr).1), hc]
    by_cases e : i = j
    · subst e
      have : (m.set i true).getD i false = true := by simp [List.getD, hm, hj]
      rw [this]; simp
    · have h1 : (m.set i true).getD j false = m.getD j false := by simp [List.getD, List.getElem?_set, e]
      have h2 : ¬ j = i := fun e' => e e'.symm
      rw [h1]; simp [h2]
  · rw [if_neg hc]
    have : (m.getD i false || decide ((i : Int) ∈ st)) = false := by simpa using hc
    rw [this]; simp
/-- What holds of the marks when the last k nodes are done. -/
theorem metGo_inv (gs : List Nd) (h : validG gs = true) (st : List Int) (S : Nat → Bool) (hS : ClS (rdsN gs) S) (hst : ∀ x : Nat, (x : Int) ∈ st → x < gs.length → S x = true) : ∀ k, k ≤ gs.length →
    (∀ i, i < gs.length → gs.length - k ≤ i → (i : Int) ∈ st → (metGo gs st k).getD i false = true) ∧
    (∀ i, i < gs.length → gs.length - k ≤ i → (metGo gs st k).getD i false = true → ∀ r : Nat, (r : Int) ∈ mayR (gs.getD i default).ps → (metGo gs st k).getD r false = true) ∧
    (∀ i, i < gs.length → (metGo gs st k).getD i false = true → S i = true) := by
  intro k
  induction k with
  | zero =>
    intro _
    refine ⟨fun i h1 h2 => by omega, fun i h1 h2 => by omega, fun i hi hm => ?_⟩
    simp [metGo, List.getD, hi] at hm
  | succ k ih =>
    intro hk
    obtain ⟨i1, i2, i3⟩ := ih (by omega)
    have hl := metGo_len gs st k
    have hat := fun j hj => metSt_at gs h st (metGo gs st k) (gs.length - 1 - k) j (by omega) hl hj
    simp only [metGo]
    generalize metGo gs st k = m at *
    obtain ⟨p, hp⟩ : ∃ p, p = gs.length - 1 - k := ⟨_, rfl⟩
    have hpl : p < gs.length := by omega
    rw [← hp] at hat ⊢
    have hah := fun r hr => mayR_ahead gs p h hpl r hr
    refine ⟨fun i h1 h2 h3 => ?_, fun i h1 h2 h3 r hr => ?_, fun i h1 h2 => ?_⟩
    · rw [hat i h1]
      by_cases e : i = p
      · subst e; simp [h3]
      · have := i1 i h1 (by omega) h3
        simp only [this, Bool.true_or]
    · have hri := mayR_ahead gs i h h1 r hr
      rw [hat i h1] at h3
      rw [hat r (by omega)]
      by_cases e : i = p
      · subst e
        simp only [decide_true, Bool.true_or, Bool.and_true] at h3
        have hb : (m.getD i false || decide ((i : Int) ∈ st)) = true := by
          simp only [Bool.or_eq_true] at h3 ⊢
          rcases h3 with h4 | h4
          · exact .inl h4
          · exact h4
        rw [hb]; simp only [Bool.true_and, Bool.or_eq_true, decide_eq_true_eq]; exact .inr (.inr hr)
      · have hnr : ¬ ((i : Int) ∈ mayR (gs.getD p default).ps) := fun hc => by have := hah _ hc; omega
        have h4 : m.getD i false = true := by
          simp only [e, decide_false, hnr, Bool.or_self, Bool.and_false, Bool.or_false] at h3
          exact h3
        have := i2 i h1 (by omega) h4 r hr
        simp only [this, Bool.true_or]
    · rw [hat i h1] at h2
      simp only [Bool.or_eq_true, Bool.and_eq_true, decide_eq_true_eq] at h2
      rcases h2 with h2 | ⟨h2, h4⟩
      · exact i3 i h1 h2
      · have hSp : S p = true := by
          rcases h2 with h2 | h2
          · exact i3 p hpl h2
          · exact hst p h2 hpl
        rcases h4 with h4 | h4
        · subst h4; exact hSp
        · exact hS p hSp i ((mem_rdsN gs h p i hpl).2 h4)
theorem rdsN_out (gs : List Nd) (j : Nat) (hj : gs.length ≤ j) : rdsN gs j = [] := by
  unfold rdsN
  have : gs.getD j default = default := by simp [List.getD, List.getElem?_eq_none hj]
  rw [this]
  show (mayR []).map _ = []
  rw [mayR_nil]; rfl
theorem met_out (gs : List Nd) (st : List Int) (i : Nat) (h : gs.length ≤ i) : (metF gs st).getD i false = false := by
  have : (metF gs st).length ≤ i := by unfold metF; rw [metGo_len]; exact h
  simp [List.getD, List.getElem?_eq_none this]
/-- The set of nodes that are needed: closed, and the least one. -/
theorem need_cl (gs : List Nd) (h : validG gs = true) (st : List Int) : ClS (rdsN gs) fun i => (metF gs st).getD i false := by
  intro x hx y hy
  have hi := metGo_inv gs h st (fun _ => true) (fun _ _ _ _ => rfl) (fun _ _ _ => rfl) gs.length (Nat.le_refl _)
  rcases Nat.lt_or_ge x gs.length with hl | hl
  · exact hi.2.1 x hl (by omega) hx y ((mem_rdsN gs h x y hl).1 hy)
  · rw [rdsN_out gs x hl] at hy; cases hy
theorem need_has (gs : List Nd) (h : validG gs = true) (st : List Int) (x : Nat) (hx : x < gs.length) (hs : (x : Int) ∈ st) : (metF gs st).getD x false = true :=
  (metGo_inv gs h st (fun _ => true) (fun _ _ _ _ => rfl) (fun _ _ _ => rfl) gs.length (Nat.le_refl _)).1 x hx (by omega) hs
theorem need_min (gs : List Nd) (h : validG gs = true) (st : List Int) (S : Nat → Bool) (hS : ClS (rdsN gs) S) (hst : ∀ x : Nat, (x : Int) ∈ st → x < gs.length → S x = true) : ∀ y : Nat, (metF gs st).getD y false = true → S y = true := by
  intro y hy
  rcases Nat.lt_or_ge y gs.length with hl | hl
  · exact (metGo_inv gs h st S hS hst gs.length (Nat.le_refl _)).2.2 y hl hy
  · rw [met_out gs st y hl] at hy; cases hy
end Go.Proofs.Ytdhjflhpenkchaa

namespace Go.Proofs.Ytdhjflhpenkchaa
set_option linter.unusedSimpArgs false
set_option linter.unusedVariables false
open Go.RowKit
theorem IS.tch {w w' : World} {B a b : Nat} {g : Nat} {xs : List Int} (h : IS w B (some ⟨g, 0, none⟩) xs) (ht : Tch a b w w') (hg : g < a ∨ b ≤ g) (hB : B ≤ w.heap.size) : IS w' B (some ⟨g, 0, none⟩) xs := by
  intro hn
  obtain ⟨b', off, e, hb, hc⟩ := h hn
  cases e
  exact ⟨g, 0, rfl, hb, fun j hj => (World.cell?_of_block (a := ⟨g, 0 + j, none⟩) (ht.block g (by omega) hg)).trans (hc j hj)⟩
end Go.Proofs.Ytdhjflhpenkchaa

namespace Go.Proofs.Ytdhjflhpenkchaa
set_option linter.unusedSimpArgs false
set_option linter.unusedVariables false
open Go.RowKit
theorem OwSS.snoc {base k : Nat} {v v' : Value} {xss : List (List Int)} {D : List Int} {A : Option Addr} {m c : Nat} {wr w5 w6 : World} {vs : List Value} {o : Obj} (hrow : wr.ownsRow base 28 1 v k vs) (hss : SSk base wr.heap.size vs (lenOf xss) (rowOf xss) wr) (hk : k = xss.length) (hb : Below wr.heap.size wr w5)
    (hd : w5.ownsRow wr.heap.size 3 1 (.slice A m c) m (D.map (Value.int .i64))) (hm : m = D.length) (happ : w6.ownsRow base 28 1 v' (k + 1) (vs ++ [.slice A m c])) (hgrow : (w5.alloc o).grownBy w6 v.ownBlock) (hbs : base ≤ wr.heap.size) : OwSS base w6.heap.size v' (k + 1) (xss ++ [D]) w6 := by
  have hvl : vs.length = k := by have := hrow.1; omega
  have hrow5 := (own_below hrow hb).alloc o
  have hss5 : SSk base wr.heap.size vs (lenOf xss) (rowOf xss) (w5.alloc o) := (hss.keep fun q _ hq => hb.block q hq).keep fun q _ hq => Below.heap_alloc _ _ _ (Nat.lt_of_lt_of_le hq hb.size)
  have hss6 : SSk base wr.heap.size vs (lenOf xss) (rowOf xss) w6 := hss5.grown hgrow (hss5.ne hrow5 ints_ne_int)
  have hd6 : w6.ownsRow wr.heap.size 3 1 (.slice A m c) m (D.map (Value.int .i64)) := (hd.alloc o).kept hgrow (blocks_ne (hd.alloc o) hrow5 ints_ne_int)
  refine ⟨by rw [List.length_append, hk]; rfl, vs ++ [.slice A m c], OwR.start happ, ?_⟩
  refine hss6.put (hi' := w6.heap.size) (lens' := lenOf (xss ++ [D])) (cont' := rowOf (xss ++ [D])) (A := A) (m := m) (c := c) k ?_ ?_ ?_ ?_ ?_ ?_ hbs ?_
  · rw [List.getElem?_append_right (by omega), hvl, Nat.sub_self]; rfl
  · intro j hj
    rcases Nat.lt_or_ge j vs.length with h1 | h1
    · rw [List.getElem?_append_left h1]
    · rw [List.getElem?_eq_none h1, List.getElem?_eq_none (by simp; omega)]
  · intro j hj hjk; simp at hj; omega
  · rw [hm]; unfold lenOf; simp [List.getD, hk]
  · intro j hj
    have : (xss ++ [D]).getD j [] = xss.getD j [] := by
      rcases Nat.lt_or_ge j xss.length with h1 | h1
      · simp [List.getD, List.getElem?_append_left h1]
      · rw [List.getD, List.getElem?_eq_none (by simp; omega), List.getD, List.getElem?_eq_none h1]
    unfold lenOf rowOf
    rw [this]
    exact ⟨rfl, rfl⟩
  · refine ⟨?_, fun q hq => (hd6.lt q hq).2⟩
    have : rowOf (xss ++ [D]) k = D.map (Value.int .i64) := by unfold rowOf; simp [List.getD, hk]
    rw [this]; exact hd6
  · have h1 := hgrow.size; simp at h1; have := hb.size; omega
end Go.Proofs.Ytdhjflhpenkchaa

namespace Go.Proofs.Ytdhjflhpenkchaa
set_option linter.unusedSimpArgs false
set_option linter.unusedVariables false
open Go.RowKit
theorem SS.at_ {w : World} {B : Nat} {A : Option Addr} {xss : List (List Int)} (h : SS w B A xss) (j : Nat) (hj : j < xss.length) : ∃ b off, A = some ⟨b, off, none⟩ ∧ b < B ∧ ∃ A' n c, w.cell? ⟨b, off + j, none⟩ = some (.slice A' n c) ∧ n = (xss.getD j []).length ∧ IS w B A' (xss.getD j []) := by
  obtain ⟨b, off, e, hb, hc⟩ := h (by omega)
  exact ⟨b, off, e, hb, hc j hj⟩
end Go.Proofs.Ytdhjflhpenkchaa

namespace Go.Proofs.Ytdhjflhpenkchaa
set_option linter.unusedSimpArgs false
set_option linter.unusedVariables false
open Go.RowKit
theorem SSk.congr {lo hi : Nat} {vs : List Value} {lens : Nat → Nat} {cont cont' : Nat → List Value} {w : World} (h : SSk lo hi vs lens cont w) (hc : ∀ j, j < vs.length → cont j = cont' j) : SSk lo hi vs lens cont' w :=
  ⟨fun j hj => by obtain ⟨A, m, c, e1, e2, e3⟩ := h.row j hj; exact ⟨A, m, c, e1, e2, by rw [← hc j hj]; exact e3⟩, h.apart⟩
end Go.Proofs.Ytdhjflhpenkchaa

namespace Go.Proofs.Ytdhjflhpenkchaa
set_option linter.unusedSimpArgs false
set_option linter.unusedVariables false
open Go.RowKit
section
variable {lo hi : Nat} {w : World}
/-- One row more ahead. -/
theorem SSk.cons {us : List Value} {x : List Int} {xs : List (List Int)} {A : Option Addr} {n c : Nat} (h : SSk lo hi us (lenOf xs) (rowOf xs) w) (hr : OwR lo hi 3 1 (.slice A n c) n (x.map (Value.int .i64)) w) (hn : n = x.length) (hap : ∀ (j : Nat) (u : Value) (k : Nat), us[j]? = some u → (Value.slice A n c).ownBlock = some k → u.ownBlock ≠ some k) : SSk lo hi (.slice A n c :: us) (lenOf (x :: xs)) (rowOf (x :: xs)) w := by
  refine ⟨fun j hj => ?_, fun i j v u k hij h3 h4 hv hu => ?_⟩
  · cases j with
    | zero => exact ⟨A, n, c, rfl, hn, hr⟩
    | succ j => exact h.row j (by simpa using hj)
  · cases i with
    | zero =>
      cases j with
      | zero => exact hij rfl
      | succ j =>
        simp only [List.getElem?_cons_zero, Option.some.injEq] at h3
        subst h3
        exact hap j u k h4 hv hu
    | succ i =>
      cases j with
      | zero =>
        simp only [List.getElem?_cons_zero, Option.some.injEq] at h4
        subst h4
        exact hap i v k h3 hu hv
      | succ j => exact h.apart i j v u k (by omega) h3 h4 hv hu
/-- One row more behind. -/
theorem SSk.snoc {us : List Value} {x : List Int} {xs : List (List Int)} {A : Option Addr} {n c : Nat} (h : SSk lo hi us (lenOf xs) (rowOf xs) w) (hl : us.length = xs.length) (hr : OwR lo hi 3 1 (.slice A n c) n (x.map (Value.int .i64)) w) (hn : n = x.length) (hap : ∀ (j : Nat) (u : Value) (k : Nat), us[j]? = some u → (Value.slice A n c).ownBlock = some k → u.ownBlock ≠ some k) : SSk lo hi (us ++ [.slice A n c]) (lenOf (xs ++ [x])) (rowOf (xs ++ [x])) w := by
  have hin : ∀ j, j < us.length → (us ++ [Value.slice A n c])[j]? = us[j]? ∧ (xs ++ [x]).getD j [] = xs.getD j [] := fun j hj => ⟨List.getElem?_append_left hj, by simp only [List.getD, List.getElem?_append_left (show j < xs.length by omega)]⟩
  have hlast : (us ++ [Value.slice A n c])[us.length]? = some (.slice A n c) ∧ (xs ++ [x]).getD us.length [] = x := ⟨by simp, by rw [hl]; simp [List.getD]⟩
  have hout : ∀ j v, (us ++ [Value.slice A n c])[j]? = some v → j < us.length ∨ (j = us.length ∧ v = .slice A n c) := by
    intro j v hv
    rcases Nat.lt_trichotomy j us.length with h1 | h1 | h1
    · exact .inl h1
    · subst h1; rw [hlast.1] at hv; cases hv; exact .inr ⟨rfl, rfl⟩
    · rw [List.getElem?_eq_none (by simp; omega)] at hv; cases hv
  refine ⟨fun j hj => ?_, fun i j v u k hij h3 h4 hv hu => ?_⟩
  · by_cases h1 : j < us.length
    · obtain ⟨A', m, c', r1, r2, r3⟩ := h.row j h1
      refine ⟨A', m, c', (hin j h1).1.trans r1, ?_, ?_⟩
      · rw [r2]; unfold lenOf; rw [(hin j h1).2]
      · have : rowOf (xs ++ [x]) j = rowOf xs j := by unfold rowOf; rw [(hin j h1).2]
        rw [this]; exact r3
    · obtain rfl : j = us.length := by simp at hj; omega
      refine ⟨A, n, c, hlast.1, ?_, ?_⟩
      · unfold lenOf; rw [hlast.2]; exact hn
      · have : rowOf (xs ++ [x]) us.length = x.map (Value.int .i64) := by unfold rowOf; rw [hlast.2]
        rw [this]; exact hr
  · rcases hout i v h3 with h1 | ⟨h1, rfl⟩
    · rcases hout j u h4 with h2 | ⟨h2, rfl⟩
      · exact h.apart i j v u k hij ((hin i h1).1.symm.trans h3) ((hin j h2).1.symm.trans h4) hv hu
      · exact hap i v k ((hin i h1).1.symm.trans h3) hu hv
    · rcases hout j u h4 with h2 | ⟨h2, rfl⟩
      · exact hap j u k ((hin j h2).1.symm.trans h4) hv hu
      · omega
end
end Go.Proofs.Ytdhjflhpenkchaa

namespace Go.Proofs.Ytdhjflhpenkchaa
set_option linter.unusedSimpArgs false
set_option linter.unusedVariables false
open Go.RowKit Go.Maps
def hasB (gs : List Nd) (x : Int) : Bool := validG gs && hasN gs x
def usersF (gs : List Nd) (x : Int) : List Int := if hasB gs x then (usN gs gs.length x.toNat).map fun u : Nat => (u : Int) else []
def reachF (gs : List Nd) (x : Int) : List Int := if hasB gs x then reachTo gs [x] gs.length else []
def needF (gs : List Nd) (x : Int) : List Int := if hasB gs x then needTo gs [x] else []
/-- Starts that are nodes. -/
def stOK (gs : List Nd) (xs : List Int) : Prop := ∀ x ∈ xs, 0 ≤ x ∧ x < (gs.length : Int)
end Go.Proofs.Ytdhjflhpenkchaa

namespace Go.Proofs.Ytdhjflhpenkchaa
set_option linter.unusedSimpArgs false
set_option linter.unusedVariables false
open Go.RowKit Go.Maps
def effB (gs : List Nd) (i : Nat) : Bool := (gs.getD i default).k == 2
def effs (gs : List Nd) : List Int := nwTo (effB gs) gs.length
def watchF (gs : List Nd) : List Int := if validG gs then needTo gs (effs gs) else []
theorem nwTo_ok (P : Nat → Bool) (n : Nat) : ∀ x ∈ nwTo P n, 0 ≤ x ∧ x < (n : Int) := by
  intro x hx
  unfold nwTo at hx
  obtain ⟨i, hi, rfl⟩ := List.mem_map.1 hx
  have := List.mem_range.1 (List.mem_filter.1 hi).1
  omega
end Go.Proofs.Ytdhjflhpenkchaa

namespace Go.Proofs.Ytdhjflhpenkchaa
set_option linter.unusedSimpArgs false
set_option linter.unusedVariables false
open Go.RowKit
theorem OwR.of_own {w : World} {lo n : Nat} {A : Option Addr} {c : Nat} {xs : List Int} (h : OwnI w lo (.slice A n c) xs) (hn : n = xs.length) : OwR lo w.heap.size 3 1 (.slice A n c) n (xs.map (Value.int .i64)) w := by
  subst hn
  exact OwR.start h
theorem OwSS.setCell {lo hi n : Nat} {v : Value} {xss : List (List Int)} {w : World} (h : OwSS lo hi v n xss w) {a : Addr} (ha : a.block < lo) (u : Value) : OwSS lo hi v n xss (w.setCell a u) :=
  OwSS.loc _ _ _ _ _ _ _ h fun k hk _ => Below.heap_setCell _ _ _ _ (by omega)
end Go.Proofs.Ytdhjflhpenkchaa

namespace Go.Proofs.Ytdhjflhpenkchaa
set_option linter.unusedSimpArgs false
set_option linter.unusedVariables false
open Go.RowKit
theorem nwTo_mem (P : Nat → Bool) (n i : Nat) : ((i : Int) ∈ nwTo P n) ↔ i < n ∧ P i = true := by
  unfold nwTo
  simp only [List.mem_map, List.mem_filter, List.mem_range]
  constructor
  · rintro ⟨a, ⟨h1, h2⟩, h3⟩
    obtain rfl : a = i := by omega
    exact ⟨h1, h2⟩
  · rintro ⟨h1, h2⟩
    exact ⟨i, ⟨h1, h2⟩, rfl⟩
end Go.Proofs.Ytdhjflhpenkchaa
