/- Maps from numbers to pointers, rows of pointers, and links: what linksOf makes. -/
import Derived.Test.YtcfiondggnbnoaaS1
import Derived.Maps.Own
import Derived.Maps.Views
import Derived.Maps.AppendAt

namespace Go.Proofs.Ytcfiondggnbnoaa
set_option linter.unusedSimpArgs false
set_option linter.unusedVariables false
open Go.RowKit Go.Maps

/-- A pointer to a whole block, or nil. -/
def ptrV : Option Nat → Value
  | none => .pointer none
  | some g => .pointer (some ⟨g, 0, none⟩)
/-- What a pointer to a whole block reads as. -/
def ptrR (v : Value) : Option (DataW Unit × List MemPlace) :=
  match v with
  | .pointer none => some (.lit (.int .i64 (-1)), [])
  | .pointer (some ⟨b, 0, none⟩) => some (.lit (.int .i64 b), [])
  | _ => none
def ptrD : Option Nat → DataW Unit
  | none => .lit (.int .i64 (-1))
  | some g => .lit (.int .i64 (g : Int))
theorem ptrR_of (o : Option Nat) : ptrR (ptrV o) = some (ptrD o, []) := by cases o <;> rfl
theorem ptrR_inv {v : Value} {o : Option Nat} {ps : List MemPlace} (h : ptrR v = some (ptrD o, ps)) : v = ptrV o := by
  unfold ptrR at h
  split at h
  · cases o with
    | none => rfl
    | some g => simp [ptrD] at h
  · rename_i b
    cases o with
    | none => simp [ptrD] at h
    | some g =>
      simp [ptrD] at h
      have : b = g := by omega
      subst this; rfl
  · cases h

/-- Block b is a map from numbers to pointers: number k leads to block f k. -/
def MpI (w : World) (b n : Nat) (f : Nat → Option Nat) : Prop := ∃ D : DataW Unit, w.ownsMap Try.prog 3 ptrR b n D ∧ IsMap D ∧ ∀ k : Nat, k ≤ 1000 → D.atKey (.int .i64 k) (ptrD none) = ptrD (f k)
theorem int_law : Keyed Try.prog 3 := int_keyed Try.underlying3
theorem MpI.made (w : World) : MpI (w.alloc (.map #[] 0)) w.heap.size 0 (fun _ => none) :=
  ⟨.map [], World.ownsMap_made _ _ _ _, ⟨[], rfl⟩, fun k _ => rfl⟩
theorem MpI.lt {w : World} {b n : Nat} {f : Nat → Option Nat} (h : MpI w b n f) : b < w.heap.size := by obtain ⟨D, h, _⟩ := h; exact h.lt
theorem MpI.keep {w w' : World} {b n : Nat} {f : Nat → Option Nat} (h : MpI w b n f) (e : w'.heap[b]? = w.heap[b]?) : MpI w' b n f := by
  obtain ⟨D, ⟨es, cl, h1, h2⟩, h3⟩ := h
  exact ⟨D, ⟨es, cl, e.trans h1, h2⟩, h3⟩
theorem MpI.step {w w' : World} {b n : Nat} {f : Nat → Option Nat} (h : MpI w b n f) (hb : Below w.heap.size w w') : MpI w' b n f := h.keep (hb.block b h.lt)
theorem MpI.alloc {w : World} {b n : Nat} {f : Nat → Option Nat} (h : MpI w b n f) (o : Obj) : MpI (w.alloc o) b n f := h.keep (Below.heap_alloc _ _ _ h.lt)
theorem MpI.grown {w w' : World} {b n : Nat} {f : Nat → Option Nat} {row : Option Nat} (h : MpI w b n f) (hg : w.grownBy w' row) (hne : some b ≠ row) : MpI w' b n f := h.keep (hg.block b h.lt hne)
theorem MpI.setCell {w : World} {b n : Nat} {f : Nat → Option Nat} (h : MpI w b n f) (a : Addr) (ha : b ≠ a.block) (u : Value) : MpI (w.setCell a u) b n f := h.keep (Below.heap_setCell _ _ _ _ ha)
theorem MpI.isMap {w : World} {b n : Nat} {f : Nat → Option Nat} (h : MpI w b n f) : ∃ es cl, w.heap[b]? = some (.map es cl) := by
  obtain ⟨D, ⟨es, cl, h1, _⟩, _⟩ := h; exact ⟨es, cl, h1⟩

theorem zero_link (w : World) : (zeroValue 50).run Try.prog w = .ok (.pointer none) w := by kernel_rfl
theorem key_nat (k : Nat) (hk : k ≤ 1000) : keyOf Try.prog 3 (.int .i64 k) = some (.int .i64 k) := keyOf_int_mk Try.underlying3 (WalkArith.wf_i64 (by omega))

/-- The look-up of a number. -/
theorem MpI.look {w : World} {b n : Nat} {f : Nat → Option Nat} (h : MpI w b n f) (k : Nat) (hk : k ≤ 1000) : (Instr.lookup 51 (.map (some b)) (.int .i64 k) false).run Try.prog w = .ok (ptrV (f k)) w := by
  obtain ⟨D, hD, hm, hat⟩ := h
  obtain ⟨v, ps, hrun, hv⟩ := hD.lookup int_law Try.underlying51 (zero_link w) (ptrR_of none) (key_nat k hk)
  rw [hat k hk] at hv
  rw [hrun, ptrR_inv hv]

/-- A store, at the operation. -/
theorem wpList_store_ptr (w : World) {ops : Array Oper} {rest : List Oper} {o : Oper} {a : Act} {Q : Exit → Act → World → Prop}
    (hg : o.guard = none) (m x v : Operand) (hop : o.op = Op.mapUpdate 51 m x v)
    (b n : Nat) (f : Nat → Option Nat) (hm : a.eval m = .map (some b)) (hown : MpI w b n f) (hn : n < maxLen) (k g : Nat) (hk : k ≤ 1000) (hx : a.eval x = .int .i64 k) (hv : a.eval v = .pointer (some ⟨g, 0, none⟩))
    (hK : ∀ w', MpI w' b (n + 1) (fun j => if j = k then some g else f j) → w.grownBy w' (some b) → wpList Try.prog ops Q rest (a.put o.dst undef) w') :
    wpList Try.prog ops Q (o :: rest) a w := by
  obtain ⟨D, hD, hi, hat⟩ := hown
  refine wpList_mapUpdate_own w hg m x v _ hop 3 50 int_law Try.underlying51 ptrR b n D hm hD hn _ _ _ hx hv (key_nat k hk) (ptrD (some g)) [] (ptrR_of (some g)) fun w' h1 h2 => ?_
  refine hK w' ⟨_, h1, hi.put _ _, fun j hj => ?_⟩ h2
  dsimp only
  by_cases e : j = k
  · subst e
    rw [if_pos rfl]
    exact atKey_put_same hi (int_law.key (key_nat j hj)) _ _
  · rw [if_neg e, atKey_put_other (by simp; omega)]
    exact hat j hj

theorem link_ne_ptr : (50 : TypeId) ≠ 49 := by decide
theorem info_link : (Try.prog.info? 50).map (fun i => (i.zero, i.size, i.bytes)) = some (some (.pointer none), 1, 8) := by kernel_rfl

/-- The rows vs lie in blocks of their own and have contents cont. -/
structure SSp (lo hi : Nat) (vs : List Value) (lens : Nat → Nat) (cont : Nat → List Value) (w : World) : Prop where
  row : ∀ j, j < vs.length → ∃ A m c, vs[j]? = some (.slice A m c) ∧ m = lens j ∧ OwR lo hi 50 1 (.slice A m c) m (cont j) w
  apart : ∀ (i j : Nat) (v u : Value) (k : Nat), i ≠ j → vs[i]? = some v → vs[j]? = some u → v.ownBlock = some k → u.ownBlock ≠ some k

theorem SSp.keep {lo hi : Nat} {vs : List Value} {lens : Nat → Nat} {cont : Nat → List Value} {w w' : World} (h : SSp lo hi vs lens cont w) (hk : ∀ k, lo ≤ k → k < hi → w'.heap[k]? = w.heap[k]?) : SSp lo hi vs lens cont w' :=
  ⟨fun j hj => by obtain ⟨A, m, c, h1, h2, h3⟩ := h.row j hj; exact ⟨A, m, c, h1, h2, h3.keep hk⟩, h.apart⟩
theorem SSp.mono {lo hi lo' hi' : Nat} {vs : List Value} {lens : Nat → Nat} {cont : Nat → List Value} {w : World} (h : SSp lo hi vs lens cont w) (h1 : lo' ≤ lo) (h2 : hi ≤ hi') : SSp lo' hi' vs lens cont w :=
  ⟨fun j hj => by obtain ⟨A, m, c, e1, e2, e3⟩ := h.row j hj; exact ⟨A, m, c, e1, e2, e3.mono h1 h2⟩, h.apart⟩
/-- A row of another kind was written to. -/
theorem SSp.grown {lo hi : Nat} {vs : List Value} {lens : Nat → Nat} {cont : Nat → List Value} {w w' : World} {row : Option Nat} (h : SSp lo hi vs lens cont w) (hg : w.grownBy w' row) (hr : ∀ (j : Nat) (v : Value), vs[j]? = some v → v.ownBlock = none ∨ v.ownBlock ≠ row) : SSp lo hi vs lens cont w' :=
  ⟨fun j hj => by obtain ⟨A, m, c, h1, h2, h3⟩ := h.row j hj; exact ⟨A, m, c, h1, h2, h3.1.kept hg (hr j _ h1), h3.2⟩, h.apart⟩
theorem SSp.ne {lo hi lo' : Nat} {vs : List Value} {lens : Nat → Nat} {cont : Nat → List Value} {w : World} {e : TypeId} {size n : Nat} {u : Value} {xs : List Value} (h : SSp lo hi vs lens cont w) (hu : w.ownsRow lo' e size u n xs) (he : (50 : TypeId) ≠ e) : ∀ (j : Nat) (v : Value), vs[j]? = some v → v.ownBlock = none ∨ v.ownBlock ≠ u.ownBlock := by
  intro j v hv
  have hj : j < vs.length := by
    rcases Nat.lt_or_ge j vs.length with h1 | h1
    · exact h1
    · rw [List.getElem?_eq_none h1] at hv; cases hv
  obtain ⟨A, m, c, h1, h2, h3⟩ := h.row j hj
  rw [h1] at hv
  cases hv
  exact blocks_ne h3.1 hu he
theorem SSp.lt {lo hi : Nat} {vs : List Value} {lens : Nat → Nat} {cont : Nat → List Value} {w : World} (h : SSp lo hi vs lens cont w) : ∀ (j : Nat) (v : Value) (k : Nat), vs[j]? = some v → v.ownBlock = some k → lo ≤ k ∧ k < hi := by
  intro j v k hv hk
  have hj : j < vs.length := by
    rcases Nat.lt_or_ge j vs.length with h1 | h1
    · exact h1
    · rw [List.getElem?_eq_none h1] at hv; cases hv
  obtain ⟨A, m, c, h1, h2, h3⟩ := h.row j hj
  rw [h1] at hv
  cases hv
  exact ⟨(h3.1.lt k hk).1, h3.2 k hk⟩
/-- One row more, or another one in its place: it lies in new blocks. -/
theorem SSp.put {lo hi hi' : Nat} {vs vs' : List Value} {lens lens' : Nat → Nat} {cont cont' : Nat → List Value} {w : World} {A : Option Addr} {m c : Nat} (h : SSp lo hi vs lens cont w) (k : Nat) (hk : vs'[k]? = some (.slice A m c)) (hl : ∀ j, j ≠ k → vs'[j]? = vs[j]?)
    (hlen : ∀ j, j < vs'.length → j ≠ k → j < vs.length) (hm : m = lens' k) (hc : ∀ j, j ≠ k → lens' j = lens j ∧ cont' j = cont j) (hr : OwR hi hi' 50 1 (.slice A m c) m (cont' k) w) (h1 : lo ≤ hi) (h2 : hi ≤ hi') : SSp lo hi' vs' lens' cont' w := by
  refine ⟨fun j hj => ?_, fun i j v u q hij hi' hj' hv hu => ?_⟩
  · by_cases e : j = k
    · subst e
      exact ⟨A, m, c, hk, hm, hr.mono h1 (Nat.le_refl _)⟩
    · obtain ⟨A', m', c', e1, e2, e3⟩ := h.row j (hlen j hj e)
      obtain ⟨e4, e5⟩ := hc j e
      exact ⟨A', m', c', by rw [hl j e]; exact e1, by rw [e4]; exact e2, by rw [e5]; exact e3.mono (Nat.le_refl _) h2⟩
  · by_cases e : i = k
    · subst e
      rw [hk] at hi'
      cases hi'
      have a1 := (hr.1.lt q hv).1
      rw [hl j (fun e => hij e.symm)] at hj'
      have a2 := (h.lt j u q hj' hu).2
      omega
    · by_cases e' : j = k
      · subst e'
        rw [hk] at hj'
        cases hj'
        have a1 := (hr.1.lt q hu).1
        rw [hl i e] at hi'
        have a2 := (h.lt i v q hi' hv).2
        omega
      · rw [hl i e] at hi'
        rw [hl j e'] at hj'
        exact h.apart i j v u q hij hi' hj' hv hu

theorem SSp.grow {lo hi J m' c' : Nat} {vs : List Value} {lens lens' : Nat → Nat} {cont cont' : Nat → List Value} {w w' : World} {X : Value} {A' : Option Addr} {ys : List Value} (h : SSp lo hi vs lens cont w) (hle : hi ≤ w.heap.size) (hJ : vs[J]? = some X) (hg : w.grownBy w' X.ownBlock)
    (hv : w'.ownsRow lo 50 1 (.slice A' m' c') m' ys) (hb : (Value.slice A' m' c').ownBlock = X.ownBlock ∨ (Value.slice A' m' c').ownBlock = some w.heap.size) (hl : lens' J = m') (hc : cont' J = ys) (ho : ∀ j, j ≠ J → lens' j = lens j ∧ cont' j = cont j) : SSp lo w'.heap.size (vs.set J (.slice A' m' c')) lens' cont' w' := by
  have hJl : J < vs.length := by
    rcases Nat.lt_or_ge J vs.length with h1 | h1
    · exact h1
    · rw [List.getElem?_eq_none h1] at hJ; cases hJ
  have hw := hg.size
  have hother (j : Nat) (hj : j ≠ J) (u : Value) (hu : vs[j]? = some u) (q : Nat) (hq : u.ownBlock = some q) : q < w.heap.size ∧ X.ownBlock ≠ some q := by
    refine ⟨by have := (h.lt j u q hu hq).2; omega, fun hx => ?_⟩
    exact h.apart j J u X q hj hu hJ hq hx
  refine ⟨fun j hj => ?_, fun i j v u q hij hi hj hvq huq => ?_⟩
  · by_cases e : j = J
    · subst e
      exact ⟨A', m', c', by rw [List.getElem?_set, if_pos rfl, if_pos hJl], hl.symm, by rw [hc]; exact OwR.start hv⟩
    · obtain ⟨A, m, c, e1, e2, e3⟩ := h.row j (by simpa using hj)
      obtain ⟨o1, o2⟩ := ho j e
      refine ⟨A, m, c, by rw [List.getElem?_set, if_neg (fun h => e h.symm)]; exact e1, by rw [o1]; exact e2, ?_⟩
      rw [o2]
      refine ⟨e3.1.kept hg ?_, fun q hq => by have := e3.2 q hq; omega⟩
      cases hb2 : (Value.slice A m c).ownBlock with
      | none => exact .inl rfl
      | some q => exact .inr fun hx => (hother j e _ e1 q hb2).2 hx.symm
  · by_cases ei : i = J
    · subst ei
      rw [List.getElem?_set, if_pos rfl, if_pos hJl] at hi
      cases hi
      rw [List.getElem?_set, if_neg hij] at hj
      have := hother j (fun h => hij h.symm) u hj q huq
      rcases hb with hb | hb
      · rw [hb] at hvq; exact this.2 hvq
      · rw [hb] at hvq; simp only [Option.some.injEq] at hvq; omega
    · rw [List.getElem?_set, if_neg (fun h => ei h.symm)] at hi
      by_cases ej : j = J
      · subst ej
        rw [List.getElem?_set, if_pos rfl, if_pos hJl] at hj
        cases hj
        have := hother i ei v hi q hvq
        rcases hb with hb | hb
        · rw [hb] at huq; exact this.2 huq
        · rw [hb] at huq; simp only [Option.some.injEq] at huq; omega
      · rw [List.getElem?_set, if_neg (fun h => ej h.symm)] at hj
        exact h.apart i j v u q hij hi hj hvq huq


/-- What a row of numbers of links is in memory. -/
def ptrs (lb : List Nat) (l : List Nat) : List Value := l.map fun q => ptrV lb[q]?
theorem ptrs_len (lb l : List Nat) : (ptrs lb l).length = l.length := by simp [ptrs]
theorem ptrs_more (lb l : List Nat) (g : Nat) (h : ∀ q ∈ l, q < lb.length) : ptrs (lb ++ [g]) l = ptrs lb l := by
  unfold ptrs
  refine List.map_congr_left fun q hq => ?_
  rw [List.getElem?_append_left (h q hq)]
theorem ptrs_one (lb l : List Nat) (u : Value) (h : u ∈ ptrs lb l) : u.oneCell' = true := by
  unfold ptrs at h
  obtain ⟨q, _, rfl⟩ := List.mem_map.1 h
  cases lb[q]? <;> rfl

/-- Links under way: their blocks, their rows (needs and users by turns), in blocks from lo on. -/
structure LkW (lo : Nat) (lb : List Nat) (R : Nat → List Nat) (V : List Value) (w : World) : Prop where
  vl : V.length = 2 * lb.length
  bx : ∀ (j g : Nat), lb[j]? = some g → Bx g [.int .i64 j, V.getD (2 * j) undef, V.getD (2 * j + 1) undef] w ∧ Tg g 49 w ∧ lo ≤ g
  up : lb.Pairwise (· < ·)
  rows : SSp lo w.heap.size V (fun k => (R k).length) (fun k => ptrs lb (R k)) w
  small : ∀ (k q : Nat), q ∈ R k → q < lb.length

section
variable {lo : Nat} {lb : List Nat} {R : Nat → List Nat} {V : List Value} {w w' : World}
theorem Bx.keepE {b : Nat} {vs : List Value} {w w' : World} (h : Bx b vs w) (e : w'.heap[b]? = w.heap[b]?) (hs : w.heap.size ≤ w'.heap.size) : Bx b vs w' :=
  ⟨Nat.lt_of_lt_of_le h.lt hs, fun j v hv => (World.cell?_of_block (w := w) (a := ⟨b, j, none⟩) e).trans (h.c j v hv), fun j => (World.frozen?_of_block (w := w) (a := ⟨b, j, none⟩) e).trans (h.f j)⟩
theorem LkW.step (h : LkW lo lb R V w) (hb : Below w.heap.size w w') : LkW lo lb R V w' :=
  ⟨h.vl, fun j g hj => by obtain ⟨h1, h2, h3⟩ := h.bx j g hj; exact ⟨h1.step hb, h2.below hb h1.lt, h3⟩, h.up, (h.rows.keep fun k _ hk => hb.block k hk).mono (Nat.le_refl _) hb.size, h.small⟩
theorem LkW.lt (h : LkW lo lb R V w) {j g : Nat} (hj : lb[j]? = some g) : g < w.heap.size := (h.bx j g hj).1.lt
theorem LkW.ne (h : LkW lo lb R V w) {i j g g' : Nat} (hi : lb[i]? = some g) (hj : lb[j]? = some g') (hij : i ≠ j) : g ≠ g' := by
  have hp := List.pairwise_iff_getElem.1 h.up
  have hi2 : i < lb.length := (List.getElem?_eq_some_iff.1 hi).1
  have hj2 : j < lb.length := (List.getElem?_eq_some_iff.1 hj).1
  rw [List.getElem?_eq_getElem hi2] at hi
  rw [List.getElem?_eq_getElem hj2] at hj
  simp only [Option.some.injEq] at hi hj
  rcases Nat.lt_or_ge i j with h1 | h1
  · have := hp i j hi2 hj2 h1; omega
  · have := hp j i hj2 hi2 (by omega); omega
theorem SSp.setT {lo hi b : Nat} {t : TypeId} {vs : List Value} {lens : Nat → Nat} {cont : Nat → List Value} {w : World} (h : SSp lo hi vs lens cont w) (hb : Tg b t w) (ht : (50 : TypeId) ≠ t) (j : Nat) (u : Value) : SSp lo hi vs lens cont (w.setCell ⟨b, j, none⟩ u) :=
  ⟨fun i hi => by obtain ⟨A, m, c, h1, h2, h3⟩ := h.row i hi; exact ⟨A, m, c, h1, h2, own_setT h3.1 hb ht j none u, h3.2⟩, h.apart⟩

/-- One link more, without rows. -/
theorem LkW.new (h : LkW lo lb R V w) (hlo : lo ≤ w.heap.size) (h0 : R (2 * lb.length) = []) (h1 : R (2 * lb.length + 1) = []) :
    LkW lo (lb ++ [w.heap.size]) R (V ++ [.slice none 0 0, .slice none 0 0]) (w.alloc (.cells #[.int .i64 lb.length, .slice none 0 0, .slice none 0 0] 49)) := by
  have hvl := h.vl
  have hs := h.step ((Below.refl _ _).alloc (Nat.le_refl _) (.cells #[.int .i64 lb.length, .slice none 0 0, .slice none 0 0] 49))
  refine ⟨by simp; omega, fun j g hj => ?_, ?_, ?_, fun k q hq => by have := h.small k q hq; simp; omega⟩
  · rcases Nat.lt_or_ge j lb.length with hl | hl
    · rw [List.getElem?_append_left hl] at hj
      have := hs.bx j g hj
      have e (k : Nat) (hk : k < V.length) : (V ++ [Value.slice none 0 0, .slice none 0 0]).getD k undef = V.getD k undef := by simp [List.getD, List.getElem?_append_left hk]
      rw [e _ (by omega), e _ (by omega)]
      exact this
    · have hj2 : j = lb.length := by
        have := (List.getElem?_eq_some_iff.1 hj).1
        simp at this; omega
      subst hj2
      rw [List.getElem?_append_right (Nat.le_refl _), Nat.sub_self] at hj
      simp only [List.getElem?_cons_zero, Option.some.injEq] at hj
      subst hj
      have e0 : (V ++ [Value.slice none 0 0, .slice none 0 0]).getD (2 * lb.length) undef = .slice none 0 0 := by rw [← hvl]; simp [List.getD]
      have e1 : (V ++ [Value.slice none 0 0, .slice none 0 0]).getD (2 * lb.length + 1) undef = .slice none 0 0 := by rw [← hvl]; simp [List.getD]
      rw [e0, e1]
      exact ⟨Bx.start w _ _, Tg.new w _ _ _, hlo⟩
  · refine List.pairwise_append.2 ⟨h.up, by simp, fun a ha b hb => ?_⟩
    simp only [List.mem_singleton] at hb
    subst hb
    obtain ⟨i, hi, rfl⟩ := List.mem_iff_getElem.1 ha
    exact h.lt (List.getElem?_eq_getElem hi)
  · have hr := hs.rows
    refine ⟨fun j hj => ?_, fun i j v u k hij hi hj hv hu => ?_⟩
    · rcases Nat.lt_or_ge j V.length with hl | hl
      · obtain ⟨A, m, c, e1, e2, e3⟩ := hr.row j hl
        exact ⟨A, m, c, by rw [List.getElem?_append_left hl]; exact e1, e2, by rw [ptrs_more _ _ _ (fun q hq => h.small j q hq)]; exact e3⟩
      · have hj2 : j = 2 * lb.length ∨ j = 2 * lb.length + 1 := by simp at hj; omega
        have e : R j = [] := by rcases hj2 with rfl | rfl <;> assumption
        refine ⟨none, 0, 0, ?_, by simp [e], ?_⟩
        · rw [List.getElem?_append_right hl]
          rcases hj2 with rfl | rfl
          · rw [show 2 * lb.length - V.length = 0 by omega]; rfl
          · rw [show 2 * lb.length + 1 - V.length = 1 by omega]; rfl
        · rw [e]
          exact OwR.nil _ _ _ _ _
    · have hnil (k : Nat) (x : Value) (hk : V.length ≤ k) (hx : (V ++ [Value.slice none 0 0, .slice none 0 0])[k]? = some x) : x = .slice none 0 0 := by
        rw [List.getElem?_append_right hk] at hx
        have : k - V.length = 0 ∨ k - V.length = 1 := by
          have := (List.getElem?_eq_some_iff.1 hx).1; simp at this; omega
        rcases this with e | e <;> rw [e] at hx <;> simp at hx <;> exact hx.symm
      rcases Nat.lt_or_ge i V.length with a1 | a1
      · rcases Nat.lt_or_ge j V.length with a2 | a2
        · rw [List.getElem?_append_left a1] at hi
          rw [List.getElem?_append_left a2] at hj
          exact hr.apart i j v u k hij hi hj hv hu
        · rw [hnil j u a2 hj] at hu
          simp [Value.ownBlock] at hu
      · rw [hnil i v a1 hi] at hv
        simp [Value.ownBlock] at hv

/-- A row has one pointer more, and its field tells where it lies. -/
theorem LkW.app (h : LkW lo lb R V w) {j fld K g q gq m' c' : Nat} {A' : Option Addr} {X : Value} {o : Obj} (hj : lb[j]? = some g) (hf : fld < 2) (hK : K = 2 * j + fld) (hq : lb[q]? = some gq) (hX : V[K]? = some X)
    (hown : w'.ownsRow lo 50 1 (.slice A' m' c') m' (ptrs lb (R K) ++ [ptrV (some gq)])) (hm : m' = (R K).length + 1) (hg : (w.alloc o).grownBy w' X.ownBlock) (hb : (Value.slice A' m' c').ownBlock = X.ownBlock ∨ (Value.slice A' m' c').ownBlock = some (w.alloc o).heap.size) :
    LkW lo lb (fun k => if k = K then R K ++ [q] else R k) (V.set K (.slice A' m' c')) (w'.setCell ⟨g, 1 + fld, none⟩ (.slice A' m' c')) := by
  have hs := h.step ((Below.refl _ _).alloc (Nat.le_refl _) o)
  have hvl := h.vl
  have hjl : j < lb.length := (List.getElem?_eq_some_iff.1 hj).1
  have hKl : K < V.length := by omega
  have hXr : ∀ (i g' : Nat), lb[i]? = some g' → X.ownBlock ≠ some g' := fun i g' hi => by
    obtain ⟨A, m, c, e1, e2, e3⟩ := hs.rows.row K hKl
    rw [hX] at e1
    cases e1
    exact own_tag e3.1 (hs.bx i g' hi).2.1 link_ne_ptr
  have hbx : ∀ (i g' : Nat), lb[i]? = some g' → Bx g' [.int .i64 i, V.getD (2 * i) undef, V.getD (2 * i + 1) undef] w' ∧ Tg g' 49 w' := fun i g' hi => by
    have h1 := hs.bx i g' hi
    have e := hg.block g' h1.1.lt (fun e => hXr i g' hi e.symm)
    exact ⟨h1.1.keepE e hg.size, h1.2.1.keep e⟩
  have hTg := (hbx j g hj).2
  refine ⟨by simpa using hvl, fun i g' hi => ?_, h.up, ?_, fun k x hx => ?_⟩
  · refine ⟨?_, (hbx i g' hi).2.set _ _, (h.bx i g' hi).2.2⟩
    by_cases e : i = j
    · subst e
      rw [hj] at hi
      cases hi
      have h2 := (hbx i g hj).1.set (1 + fld) (by simp; omega) (.slice A' m' c')
      have hfl : fld = 0 ∨ fld = 1 := by omega
      rcases hfl with rfl | rfl
      · have e1 : (V.set K (.slice A' m' c')).getD (2 * i) undef = .slice A' m' c' := by simp [List.getD, hK, show 2 * i < V.length by omega]
        have e2 : (V.set K (.slice A' m' c')).getD (2 * i + 1) undef = V.getD (2 * i + 1) undef := by simp [List.getD, List.getElem?_set, hK]
        rw [e1, e2]; exact h2
      · have e1 : (V.set K (.slice A' m' c')).getD (2 * i + 1) undef = .slice A' m' c' := by simp [List.getD, hK, show 2 * i + 1 < V.length by omega]
        have e2 : (V.set K (.slice A' m' c')).getD (2 * i) undef = V.getD (2 * i) undef := by simp [List.getD, List.getElem?_set, hK]
        rw [e1, e2]; exact h2
    · have e1 : (V.set K (.slice A' m' c')).getD (2 * i) undef = V.getD (2 * i) undef := by simp [List.getD, List.getElem?_set, show ¬ K = 2 * i by omega]
      have e2 : (V.set K (.slice A' m' c')).getD (2 * i + 1) undef = V.getD (2 * i + 1) undef := by simp [List.getD, List.getElem?_set, show ¬ K = 2 * i + 1 by omega]
      rw [e1, e2]
      exact (hbx i g' hi).1.other _ (h.ne hi hj e) _
  · have h3 := hs.rows.grow (lens' := fun k => ((fun k => if k = K then R K ++ [q] else R k) k).length) (cont' := fun k => ptrs lb ((fun k => if k = K then R K ++ [q] else R k) k)) (Nat.le_refl _) hX hg hown hb (by dsimp only; rw [if_pos rfl, List.length_append, hm]; rfl) (by dsimp only; rw [if_pos rfl]; simp [ptrs, hq]) (fun k hk => by dsimp only; rw [if_neg hk]; exact ⟨rfl, rfl⟩)
    have h4 := h3.setT hTg link_ne_ptr (1 + fld) (.slice A' m' c')
    have e : (w'.setCell ⟨g, 1 + fld, none⟩ (.slice A' m' c')).heap.size = w'.heap.size := by simp [World.setCell]
    rw [e]; exact h4
  · by_cases e : k = K
    · rw [if_pos e] at hx
      rcases List.mem_append.1 hx with h5 | h5
      · exact h.small K x h5
      · simp at h5; subst h5; exact (List.getElem?_eq_some_iff.1 hq).1
    · rw [if_neg e] at hx; exact h.small k x hx
end

/-- The slice at A reads as pointers to the links l. -/
def PtS (w : World) (B : Nat) (A : Option Addr) (lb l : List Nat) : Prop :=
  0 < l.length → ∃ b off, A = some ⟨b, off, none⟩ ∧ b < B ∧ ∀ (k q : Nat), l[k]? = some q → w.cell? ⟨b, off + k, none⟩ = some (ptrV lb[q]?)
/-- Links as they read: their numbers, and both rows. -/
structure LkS (B : Nat) (lb : List Nat) (R : Nat → List Nat) (w : World) : Prop where
  it : ∀ (j g : Nat), lb[j]? = some g → g < B ∧ w.cell? ⟨g, 0, none⟩ = some (.int .i64 j) ∧ (∃ A m c, w.cell? ⟨g, 1, none⟩ = some (.slice A m c) ∧ m = (R (2 * j)).length ∧ PtS w B A lb (R (2 * j))) ∧ (∃ A m c, w.cell? ⟨g, 2, none⟩ = some (.slice A m c) ∧ m = (R (2 * j + 1)).length ∧ PtS w B A lb (R (2 * j + 1)))
  small : ∀ (k q : Nat), q ∈ R k → q < lb.length
theorem PtS.keep {w w' : World} {B : Nat} {A : Option Addr} {lb l : List Nat} (h : PtS w B A lb l) (hk : ∀ p : Addr, p.block < B → w'.cell? p = w.cell? p) : PtS w' B A lb l := by
  intro hl
  obtain ⟨b, off, e, hb, hc⟩ := h hl
  exact ⟨b, off, e, hb, fun k q hq => (hk _ hb).trans (hc k q hq)⟩
theorem LkS.keep {w w' : World} {B : Nat} {lb : List Nat} {R : Nat → List Nat} (h : LkS B lb R w) (hk : ∀ p : Addr, p.block < B → w'.cell? p = w.cell? p) : LkS B lb R w' := by
  refine ⟨fun j g hj => ?_, h.small⟩
  obtain ⟨h1, h2, ⟨A, m, c, a1, a2, a3⟩, ⟨A', m', c', b1, b2, b3⟩⟩ := h.it j g hj
  exact ⟨h1, (hk _ h1).trans h2, ⟨A, m, c, (hk _ h1).trans a1, a2, a3.keep hk⟩, ⟨A', m', c', (hk _ h1).trans b1, b2, b3.keep hk⟩⟩
theorem LkW.read {lo : Nat} {lb : List Nat} {R : Nat → List Nat} {V : List Value} {w : World} (h : LkW lo lb R V w) : LkS w.heap.size lb R w := by
  have hvl := h.vl
  have hrow : ∀ k, k < V.length → ∃ A m c, V.getD k undef = .slice A m c ∧ m = (R k).length ∧ PtS w w.heap.size A lb (R k) := fun k hk => by
    obtain ⟨A, m, c, e1, e2, e3⟩ := h.rows.row k hk
    refine ⟨A, m, c, by simp [List.getD, e1], e2, fun hl => ?_⟩
    rcases e3.1.2 with ⟨_, h0⟩ | ⟨g, cap, cur, hv, _⟩
    · omega
    · have hv2 := hv
      simp only [Value.slice.injEq] at hv
      obtain ⟨rfl, _, rfl⟩ := hv
      refine ⟨g, 0, rfl, e3.2 g rfl, fun i q hq => ?_⟩
      have hi : i < (R k).length := (List.getElem?_eq_some_iff.1 hq).1
      rw [Nat.zero_add, e3.1.cellAt i (by omega)]
      simp [ptrs, hq]
  refine ⟨fun j g hj => ?_, h.small⟩
  have hjl : j < lb.length := (List.getElem?_eq_some_iff.1 hj).1
  obtain ⟨h1, h2, h3⟩ := h.bx j g hj
  obtain ⟨A, m, c, a1, a2, a3⟩ := hrow (2 * j) (by omega)
  obtain ⟨A', m', c', b1, b2, b3⟩ := hrow (2 * j + 1) (by omega)
  rw [a1, b1] at h1
  exact ⟨h1.lt, h1.c 0 _ rfl, ⟨A, m, c, h1.c 1 _ rfl, a2, a3⟩, ⟨A', m', c', h1.c 2 _ rfl, b2, b3⟩⟩
end Go.Proofs.Ytcfiondggnbnoaa
