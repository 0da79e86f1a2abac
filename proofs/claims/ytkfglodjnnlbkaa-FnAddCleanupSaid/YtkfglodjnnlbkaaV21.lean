/- Maps from numbers to holders, rows of holders, the tree of open owners under way. (Made by v21.py.) -/
import Derived.Test.YtkfglodjnnlbkaaT0a
import Derived.Maps.OwnSet

namespace Go.Proofs.Ytkfglodjnnlbkaa
set_option linter.unusedSimpArgs false
set_option linter.unusedVariables false
open Go.RowKit Go.Maps

/-- Block b is a map from numbers to holders: number k leads to block f k, if there is one. -/
def MpH (w : World) (b n : Nat) (f : Int → Option Nat) : Prop := ∃ D : DataW Unit, w.ownsMap Try.prog 3 ptrR b n D ∧ IsMap D ∧ ∀ k : Int, -1 ≤ k → k ≤ 1000 → D.atKey (.int .i64 k) (ptrD none) = ptrD (f k) ∧ Maps.has D (.int .i64 k) = (f k).isSome
theorem MpH.made (w : World) : MpH (w.alloc (.map #[] 0)) w.heap.size 0 (fun _ => none) :=
  ⟨.map [], World.ownsMap_made _ _ _ _, ⟨[], rfl⟩, fun k _ _ => ⟨rfl, rfl⟩⟩
theorem MpH.lt {w : World} {b n : Nat} {f : Int → Option Nat} (h : MpH w b n f) : b < w.heap.size := by obtain ⟨D, h, _⟩ := h; exact h.lt
theorem MpH.keep {w w' : World} {b n : Nat} {f : Int → Option Nat} (h : MpH w b n f) (e : w'.heap[b]? = w.heap[b]?) : MpH w' b n f := by
  obtain ⟨D, ⟨es, cl, h1, h2⟩, h3⟩ := h
  exact ⟨D, ⟨es, cl, e.trans h1, h2⟩, h3⟩
theorem MpH.step {w w' : World} {b n : Nat} {f : Int → Option Nat} (h : MpH w b n f) (hb : Below w.heap.size w w') : MpH w' b n f := h.keep (hb.block b h.lt)
theorem MpH.alloc {w : World} {b n : Nat} {f : Int → Option Nat} (h : MpH w b n f) (o : Obj) : MpH (w.alloc o) b n f := h.keep (Below.heap_alloc _ _ _ h.lt)
theorem MpH.grown {w w' : World} {b n : Nat} {f : Int → Option Nat} {row : Option Nat} (h : MpH w b n f) (hg : w.grownBy w' row) (hne : some b ≠ row) : MpH w' b n f := h.keep (hg.block b h.lt hne)
theorem MpH.setCell {w : World} {b n : Nat} {f : Int → Option Nat} (h : MpH w b n f) (a : Addr) (ha : b ≠ a.block) (u : Value) : MpH (w.setCell a u) b n f := h.keep (Below.heap_setCell _ _ _ _ ha)
theorem MpH.isMap {w : World} {b n : Nat} {f : Int → Option Nat} (h : MpH w b n f) : ∃ es cl, w.heap[b]? = some (.map es cl) := by
  obtain ⟨D, ⟨es, cl, h1, _⟩, _⟩ := h; exact ⟨es, cl, h1⟩
theorem MpH.congr {w : World} {b n : Nat} {f g : Int → Option Nat} (h : MpH w b n f) (e : ∀ k : Int, -1 ≤ k → k ≤ 1000 → g k = f k) : MpH w b n g := by
  obtain ⟨D, h1, h2, h3⟩ := h
  exact ⟨D, h1, h2, fun k a b => by rw [e k a b]; exact h3 k a b⟩
theorem zero_hold (w : World) : (zeroValue 57).run Try.prog w = .ok (.pointer none) w := by kernel_rfl
theorem key_int (k : Int) (h0 : -1 ≤ k) (hk : k ≤ 1000) : keyOf Try.prog 3 (.int .i64 k) = some (.int .i64 k) := keyOf_int_mk Try.underlying3 (WalkArith.wf_i64 (by omega))

/-- The look-up of a number. -/
theorem MpH.look {w : World} {b n : Nat} {f : Int → Option Nat} (h : MpH w b n f) (k : Int) (h0 : -1 ≤ k) (hk : k ≤ 1000) : (Instr.lookup 58 (.map (some b)) (.int .i64 k) false).run Try.prog w = .ok (ptrV (f k)) w := by
  obtain ⟨D, hD, hm, hat⟩ := h
  obtain ⟨v, ps, hrun, hv⟩ := hD.lookup int_law Try.underlying58 (zero_hold w) (ptrR_of none) (key_int k h0 hk)
  rw [(hat k h0 hk).1] at hv
  rw [hrun, ptrR_inv hv]
/-- The look-up that tells whether there is one. -/
theorem MpH.look_ok {w : World} {b n : Nat} {f : Int → Option Nat} (h : MpH w b n f) (k : Int) (h0 : -1 ≤ k) (hk : k ≤ 1000) : (Instr.lookup 58 (.map (some b)) (.int .i64 k) true).run Try.prog w = .ok (.tuple #[ptrV (f k), .bool (f k).isSome]) w := by
  obtain ⟨D, hD, hm, hat⟩ := h
  obtain ⟨v, ps, hrun, hv⟩ := hD.look_ok int_law Try.underlying58 (zero_hold w) (ptrR_of none) (key_int k h0 hk)
  rw [(hat k h0 hk).1] at hv
  rw [hrun, ptrR_inv hv, (hat k h0 hk).2]
/-- A store, at the operation. -/
theorem wpList_store_hold (w : World) {ops : Array Oper} {rest : List Oper} {o : Oper} {a : Act} {Q : Exit → Act → World → Prop}
    (hg : o.guard = none) (m x v : Operand) (hop : o.op = Op.mapUpdate 58 m x v)
    (b n : Nat) (f : Int → Option Nat) (hm : a.eval m = .map (some b)) (hown : MpH w b n f) (hn : n < maxLen) (k : Int) (g : Nat) (h0 : -1 ≤ k) (hk : k ≤ 1000) (hx : a.eval x = .int .i64 k) (hv : a.eval v = .pointer (some ⟨g, 0, none⟩))
    (hK : ∀ w', MpH w' b (n + 1) (fun j => if j = k then some g else f j) → w.grownBy w' (some b) → wpList Try.prog ops Q rest (a.put o.dst undef) w') :
    wpList Try.prog ops Q (o :: rest) a w := by
  obtain ⟨D, hD, hi, hat⟩ := hown
  refine wpList_mapUpdate_own w hg m x v _ hop 3 57 int_law Try.underlying58 ptrR b n D hm hD hn _ _ _ hx hv (key_int k h0 hk) (ptrD (some g)) [] (ptrR_of (some g)) fun w' h1 h2 => ?_
  refine hK w' ⟨_, h1, hi.put _ _, fun j hj0 hj => ?_⟩ h2
  dsimp only
  by_cases e : j = k
  · subst e
    rw [if_pos rfl]
    exact ⟨atKey_put_same hi (int_law.key (key_int j hj0 hj)) _ _, has_put_same hi (int_law.key (key_int j hj0 hj)) _⟩
  · rw [if_neg e, atKey_put_other (by simp; omega), has_put_other (by simp; omega)]
    exact hat j hj0 hj
/-- A number is taken out, at the operation. -/
theorem wpList_delete_hold (w : World) {ops : Array Oper} {rest : List Oper} {o : Oper} {a : Act} {Q : Exit → Act → World → Prop}
    (hg : o.guard = none) (m x : Operand) (hop : o.op = Op.call { callee := Callee.builtin Builtin.delete, args := #[m, x], argTypes := #[58, 3] })
    (b n : Nat) (f : Int → Option Nat) (hm : a.eval m = .map (some b)) (hown : MpH w b n f) (k : Int) (h0 : -1 ≤ k) (hk : k ≤ 1000) (hx : a.eval x = .int .i64 k)
    (hK : ∀ w', MpH w' b n (fun j => if j = k then none else f j) → w.mapTurned w' b → wpList Try.prog ops Q rest (a.put o.dst (.tuple #[])) w') :
    wpList Try.prog ops Q (o :: rest) a w := by
  obtain ⟨D, hD, hi, hat⟩ := hown
  refine wpList_delete_own w hg m x _ _ hop 57 int_law Try.underlying58 ptrR b n D hm hD _ _ hx (key_int k h0 hk) fun w' h1 h2 => ?_
  refine hK w' ⟨_, h1, hi.del _, fun j hj0 hj => ?_⟩ h2
  dsimp only
  by_cases e : j = k
  · subst e
    rw [if_pos rfl]
    exact ⟨atKey_del_same _, has_del_same⟩
  · rw [if_neg e, atKey_del_other (by simp; omega), has_del_other (by simp; omega)]
    exact hat j hj0 hj

theorem hold_ne_ptr : (57 : TypeId) ≠ 80 := by decide
theorem info_hold : (Try.prog.info? 57).map (fun i => (i.zero, i.size, i.bytes)) = some (some (.pointer none), 1, 8) := by kernel_rfl

/-- The rows vs lie in blocks of their own and have contents cont. -/
structure SSh (lo hi : Nat) (vs : List Value) (lens : Nat → Nat) (cont : Nat → List Value) (w : World) : Prop where
  row : ∀ j, j < vs.length → ∃ A m c, vs[j]? = some (.slice A m c) ∧ m = lens j ∧ OwR lo hi 57 1 (.slice A m c) m (cont j) w
  apart : ∀ (i j : Nat) (v u : Value) (k : Nat), i ≠ j → vs[i]? = some v → vs[j]? = some u → v.ownBlock = some k → u.ownBlock ≠ some k

theorem SSh.keep {lo hi : Nat} {vs : List Value} {lens : Nat → Nat} {cont : Nat → List Value} {w w' : World} (h : SSh lo hi vs lens cont w) (hk : ∀ k, lo ≤ k → k < hi → w'.heap[k]? = w.heap[k]?) : SSh lo hi vs lens cont w' :=
  ⟨fun j hj => by obtain ⟨A, m, c, h1, h2, h3⟩ := h.row j hj; exact ⟨A, m, c, h1, h2, h3.keep hk⟩, h.apart⟩
theorem SSh.mono {lo hi lo' hi' : Nat} {vs : List Value} {lens : Nat → Nat} {cont : Nat → List Value} {w : World} (h : SSh lo hi vs lens cont w) (h1 : lo' ≤ lo) (h2 : hi ≤ hi') : SSh lo' hi' vs lens cont w :=
  ⟨fun j hj => by obtain ⟨A, m, c, e1, e2, e3⟩ := h.row j hj; exact ⟨A, m, c, e1, e2, e3.mono h1 h2⟩, h.apart⟩
/-- A row of another kind was written to. -/
theorem SSh.grown {lo hi : Nat} {vs : List Value} {lens : Nat → Nat} {cont : Nat → List Value} {w w' : World} {row : Option Nat} (h : SSh lo hi vs lens cont w) (hg : w.grownBy w' row) (hr : ∀ (j : Nat) (v : Value), vs[j]? = some v → v.ownBlock = none ∨ v.ownBlock ≠ row) : SSh lo hi vs lens cont w' :=
  ⟨fun j hj => by obtain ⟨A, m, c, h1, h2, h3⟩ := h.row j hj; exact ⟨A, m, c, h1, h2, h3.1.kept hg (hr j _ h1), h3.2⟩, h.apart⟩
theorem SSh.ne {lo hi lo' : Nat} {vs : List Value} {lens : Nat → Nat} {cont : Nat → List Value} {w : World} {e : TypeId} {size n : Nat} {u : Value} {xs : List Value} (h : SSh lo hi vs lens cont w) (hu : w.ownsRow lo' e size u n xs) (he : (57 : TypeId) ≠ e) : ∀ (j : Nat) (v : Value), vs[j]? = some v → v.ownBlock = none ∨ v.ownBlock ≠ u.ownBlock := by
  intro j v hv
  have hj : j < vs.length := by
    rcases Nat.lt_or_ge j vs.length with h1 | h1
    · exact h1
    · rw [List.getElem?_eq_none h1] at hv; cases hv
  obtain ⟨A, m, c, h1, h2, h3⟩ := h.row j hj
  rw [h1] at hv
  cases hv
  exact blocks_ne h3.1 hu he
theorem SSh.lt {lo hi : Nat} {vs : List Value} {lens : Nat → Nat} {cont : Nat → List Value} {w : World} (h : SSh lo hi vs lens cont w) : ∀ (j : Nat) (v : Value) (k : Nat), vs[j]? = some v → v.ownBlock = some k → lo ≤ k ∧ k < hi := by
  intro j v k hv hk
  have hj : j < vs.length := by
    rcases Nat.lt_or_ge j vs.length with h1 | h1
    · exact h1
    · rw [List.getElem?_eq_none h1] at hv; cases hv
  obtain ⟨A, m, c, h1, h2, h3⟩ := h.row j hj
  rw [h1] at hv
  cases hv
  exact ⟨(h3.1.lt k hk).1, h3.2 k hk⟩
/-- One row more, or another one in its place: it lies in new blocks. -/
theorem SSh.put {lo hi hi' : Nat} {vs vs' : List Value} {lens lens' : Nat → Nat} {cont cont' : Nat → List Value} {w : World} {A : Option Addr} {m c : Nat} (h : SSh lo hi vs lens cont w) (k : Nat) (hk : vs'[k]? = some (.slice A m c)) (hl : ∀ j, j ≠ k → vs'[j]? = vs[j]?)
    (hlen : ∀ j, j < vs'.length → j ≠ k → j < vs.length) (hm : m = lens' k) (hc : ∀ j, j ≠ k → lens' j = lens j ∧ cont' j = cont j) (hr : OwR hi hi' 57 1 (.slice A m c) m (cont' k) w) (h1 : lo ≤ hi) (h2 : hi ≤ hi') : SSh lo hi' vs' lens' cont' w := by
  refine ⟨fun j hj => ?_, fun i j v u q hij hi' hj' hv hu => ?_⟩
  · by_cases e : j = k
    · subst e
      exact ⟨A, m, c, hk, hm, hr.mono h1 (Nat.le_refl _)⟩
    · obtain ⟨A', m', c', e1, e2, e3⟩ := h.row j (hlen j hj e)
      obtain ⟨e4, e5⟩ := hc j e
      exact ⟨A', m', c', by rw [hl j e]; exact e1, by rw [e4]; exact e2, by rw [e5]; exact e3.mono (Nat.le_refl _) h2⟩
  · by_cases e : i = k
    · subst e
      rw [hk] at hi'
      cases hi'
      have a1 := (hr.1.lt q hv).1
      rw [hl j (fun e => hij e.symm)] at hj'
      have a2 := (h.lt j u q hj' hu).2
      omega
    · by_cases e' : j = k
      · subst e'
        rw [hk] at hj'
        cases hj'
        have a1 := (hr.1.lt q hu).1
        rw [hl i e] at hi'
        have a2 := (h.lt i v q hi' hv).2
        omega
      · rw [hl i e] at hi'
        rw [hl j e'] at hj'
        exact h.apart i j v u q hij hi' hj' hv hu

theorem SSh.grow {lo hi J m' c' : Nat} {vs : List Value} {lens lens' : Nat → Nat} {cont cont' : Nat → List Value} {w w' : World} {X : Value} {A' : Option Addr} {ys : List Value} (h : SSh lo hi vs lens cont w) (hle : hi ≤ w.heap.size) (hJ : vs[J]? = some X) (hg : w.grownBy w' X.ownBlock)
    (hv : w'.ownsRow lo 57 1 (.slice A' m' c') m' ys) (hb : (Value.slice A' m' c').ownBlock = X.ownBlock ∨ (Value.slice A' m' c').ownBlock = some w.heap.size) (hl : lens' J = m') (hc : cont' J = ys) (ho : ∀ j, j ≠ J → lens' j = lens j ∧ cont' j = cont j) : SSh lo w'.heap.size (vs.set J (.slice A' m' c')) lens' cont' w' := by
  have hJl : J < vs.length := by
    rcases Nat.lt_or_ge J vs.length with h1 | h1
    · exact h1
    · rw [List.getElem?_eq_none h1] at hJ; cases hJ
  have hw := hg.size
  have hother (j : Nat) (hj : j ≠ J) (u : Value) (hu : vs[j]? = some u) (q : Nat) (hq : u.ownBlock = some q) : q < w.heap.size ∧ X.ownBlock ≠ some q := by
    refine ⟨by have := (h.lt j u q hu hq).2; omega, fun hx => ?_⟩
    exact h.apart j J u X q hj hu hJ hq hx
  refine ⟨fun j hj => ?_, fun i j v u q hij hi hj hvq huq => ?_⟩
  · by_cases e : j = J
    · subst e
      exact ⟨A', m', c', by rw [List.getElem?_set, if_pos rfl, if_pos hJl], hl.symm, by rw [hc]; exact OwR.start hv⟩
    · obtain ⟨A, m, c, e1, e2, e3⟩ := h.row j (by simpa using hj)
      obtain ⟨o1, o2⟩ := ho j e
      refine ⟨A, m, c, by rw [List.getElem?_set, if_neg (fun h => e h.symm)]; exact e1, by rw [o1]; exact e2, ?_⟩
      rw [o2]
      refine ⟨e3.1.kept hg ?_, fun q hq => by have := e3.2 q hq; omega⟩
      cases hb2 : (Value.slice A m c).ownBlock with
      | none => exact .inl rfl
      | some q => exact .inr fun hx => (hother j e _ e1 q hb2).2 hx.symm
  · by_cases ei : i = J
    · subst ei
      rw [List.getElem?_set, if_pos rfl, if_pos hJl] at hi
      cases hi
      rw [List.getElem?_set, if_neg hij] at hj
      have := hother j (fun h => hij h.symm) u hj q huq
      rcases hb with hb | hb
      · rw [hb] at hvq; exact this.2 hvq
      · rw [hb] at hvq; simp only [Option.some.injEq] at hvq; omega
    · rw [List.getElem?_set, if_neg (fun h => ei h.symm)] at hi
      by_cases ej : j = J
      · subst ej
        rw [List.getElem?_set, if_pos rfl, if_pos hJl] at hj
        cases hj
        have := hother i ei v hi q hvq
        rcases hb with hb | hb
        · rw [hb] at huq; exact this.2 huq
        · rw [hb] at huq; simp only [Option.some.injEq] at huq; omega
      · rw [List.getElem?_set, if_neg (fun h => ej h.symm)] at hj
        exact h.apart i j v u q hij hi hj hvq huq


theorem SSh.setT {lo hi b : Nat} {t : TypeId} {vs : List Value} {lens : Nat → Nat} {cont : Nat → List Value} {w : World} (h : SSh lo hi vs lens cont w) (hb : Tg b t w) (ht : (57 : TypeId) ≠ t) (j : Nat) (u : Value) : SSh lo hi vs lens cont (w.setCell ⟨b, j, none⟩ u) :=
  ⟨fun i hi => by obtain ⟨A, m, c, h1, h2, h3⟩ := h.row i hi; exact ⟨A, m, c, h1, h2, own_setT h3.1 hb ht j none u, h3.2⟩, h.apart⟩
end Go.Proofs.Ytkfglodjnnlbkaa
