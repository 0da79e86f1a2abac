/- The tree of open owners under way: holders in blocks of their own, each with a row of kids. -/
import Derived.Test.YtkfglodjnnlbkaaV21
import Derived.Test.YtkfglodjnnlbkaaT1a

namespace Go.Proofs.Ytkfglodjnnlbkaa
set_option linter.unusedSimpArgs false
set_option linter.unusedVariables false
open Go.RowKit Go.Maps

/-- The kids of j among the first k owners. -/
def kdN (ds : List On) (k j : Nat) : List Nat := (List.range k).filter fun i => kidB ds (j : Int) i
theorem kdN_succ (ds : List On) (k j : Nat) : kdN ds (k + 1) j = kdN ds k j ++ (if kidB ds (j : Int) k then [k] else []) := by
  unfold kdN
  rw [List.range_succ, List.filter_append]
  cases h : kidB ds (j : Int) k <;> simp [h]
theorem kdN_nw (ds : List On) (j : Nat) : nwTo (kidB ds (j : Int)) ds.length = (kdN ds ds.length j).map (fun i : Nat => (i : Int)) := rfl

/-- Holders of the first k owners: their blocks, their rows, their cleanups and contexts. -/
structure TrW (lo k : Nat) (lb : Nat → Option Nat) (R : Nat → List Nat) (V : List Value) (C X : Nat → Value) (ds : List On) (w : World) : Prop where
  vl : V.length = k
  bx : ∀ (j g : Nat), lb j = some g → j < k ∧ Bx g [.int .i64 j, V.getD j undef, .int .i64 (ds.getD j default).p, .bool true, C j, X j] w ∧ Tg g 80 w ∧ lo ≤ g
  inj : ∀ (i j g : Nat), lb i = some g → lb j = some g → i = j
  rows : SSh lo w.heap.size V (fun j => (R j).length) (fun j => (R j).map fun q => ptrV (lb q)) w
  small : ∀ (j q : Nat), q ∈ R j → (lb q).isSome = true
  out : ∀ j, k ≤ j → R j = []

section
variable {lo k : Nat} {lb : Nat → Option Nat} {R : Nat → List Nat} {V : List Value} {C X : Nat → Value} {ds : List On} {w w' : World}
theorem TrW.step (h : TrW lo k lb R V C X ds w) (hb : Below w.heap.size w w') : TrW lo k lb R V C X ds w' :=
  ⟨h.vl, fun j g hj => by obtain ⟨h0, h1, h2, h3⟩ := h.bx j g hj; exact ⟨h0, h1.step hb, h2.below hb h1.lt, h3⟩, h.inj, (h.rows.keep fun k _ hk => hb.block k hk).mono (Nat.le_refl _) hb.size, h.small, h.out⟩
theorem TrW.lt (h : TrW lo k lb R V C X ds w) {j g : Nat} (hj : lb j = some g) : g < w.heap.size := (h.bx j g hj).2.1.lt
theorem TrW.start (lo : Nat) (C X : Nat → Value) (ds : List On) (w : World) : TrW lo 0 (fun _ => none) (fun _ => []) [] C X ds w :=
  ⟨rfl, fun j g hj => by simp at hj, fun i j g hi => by simp at hi, ⟨fun j hj => by simp at hj, fun i j v u k _ hi => by simp at hi⟩, fun j q hq => by simp at hq, fun _ _ => rfl⟩
/-- The map was written: it lies below all holders. -/
theorem TrW.map {b : Nat} (h : TrW lo k lb R V C X ds w) (hg : w.grownBy w' (some b)) (hb : b < lo) : TrW lo k lb R V C X ds w' := by
  refine ⟨h.vl, fun j g hj => ?_, h.inj, (h.rows.keep fun i h1 h2 => hg.block i h2 (by simp; omega)).mono (Nat.le_refl _) hg.size, h.small, h.out⟩
  obtain ⟨h0, h1, h2, h3⟩ := h.bx j g hj
  have e := hg.block g h1.lt (by simp; omega)
  exact ⟨h0, Bx.keepE h1 e hg.size, h2.keep e, h3⟩
theorem rows_nil (hr : SSh lo w.heap.size V (fun j => (R j).length) (fun j => (R j).map fun q => ptrV (lb q)) w) (h0 : R V.length = []) {lb' : Nat → Option Nat} (hl : ∀ j q, q ∈ R j → lb' q = lb q) : SSh lo w.heap.size (V ++ [.slice none 0 0]) (fun j => (R j).length) (fun j => (R j).map fun q => ptrV (lb' q)) w := by
  have hnil (k : Nat) (x : Value) (hk : V.length ≤ k) (hx : (V ++ [Value.slice none 0 0])[k]? = some x) : x = .slice none 0 0 := by
    rw [List.getElem?_append_right hk] at hx
    have : k - V.length = 0 := by
      have := (List.getElem?_eq_some_iff.1 hx).1; simp at this; omega
    rw [this] at hx; simp at hx; exact hx.symm
  refine ⟨fun j hj => ?_, fun i j v u k hij hi hj hv hu => ?_⟩
  · rcases Nat.lt_or_ge j V.length with hl2 | hl2
    · obtain ⟨A, m, c, e1, e2, e3⟩ := hr.row j hl2
      refine ⟨A, m, c, by rw [List.getElem?_append_left hl2]; exact e1, e2, ?_⟩
      have e : ((R j).map fun q => ptrV (lb' q)) = (R j).map fun q => ptrV (lb q) := List.map_congr_left fun q hq => by rw [hl j q hq]
      show OwR _ _ _ _ _ _ ((R j).map fun q => ptrV (lb' q)) _
      rw [e]; exact e3
    · have hj2 : j = V.length := by simp at hj; omega
      subst hj2
      refine ⟨none, 0, 0, by simp, by simp [h0], ?_⟩
      show OwR _ _ _ _ _ _ ((R V.length).map fun q => ptrV (lb' q)) _
      rw [h0]
      exact OwR.nil _ _ _ _ _
  · rcases Nat.lt_or_ge i V.length with a1 | a1
    · rcases Nat.lt_or_ge j V.length with a2 | a2
      · rw [List.getElem?_append_left a1] at hi
        rw [List.getElem?_append_left a2] at hj
        exact hr.apart i j v u k hij hi hj hv hu
      · rw [hnil j u a2 hj] at hu
        simp [Value.ownBlock] at hu
    · rw [hnil i v a1 hi] at hv
      simp [Value.ownBlock] at hv
theorem getD_left (V : List Value) (x : Value) (j : Nat) (h : j < V.length) : (V ++ [x]).getD j undef = V.getD j undef := by simp [List.getD, List.getElem?_append_left h]
/-- One owner more, that is closed. -/
theorem TrW.shut (h : TrW lo k lb R V C X ds w) : TrW lo (k + 1) lb R (V ++ [.slice none 0 0]) C X ds w := by
  have hvl := h.vl
  refine ⟨by simp [hvl], fun j g hj => ?_, h.inj, rows_nil h.rows (h.out _ (by omega)) (fun _ _ _ => rfl), h.small, fun j hj => h.out j (by omega)⟩
  obtain ⟨h0, h1, h2, h3⟩ := h.bx j g hj
  exact ⟨by omega, by rw [getD_left _ _ _ (by omega)]; exact h1, h2, h3⟩
/-- One owner more, with a holder. -/
theorem TrW.new (h : TrW lo k lb R V C X ds w) (hlo : lo ≤ w.heap.size) (hk : lb k = none) :
    TrW lo (k + 1) (fun j => if j = k then some w.heap.size else lb j) R (V ++ [.slice none 0 0]) C X ds (w.alloc (.cells #[.int .i64 k, .slice none 0 0, .int .i64 (ds.getD k default).p, .bool true, C k, X k] 80)) := by
  have hvl := h.vl
  have hs := h.step ((Below.refl _ _).alloc (Nat.le_refl _) (.cells #[.int .i64 k, .slice none 0 0, .int .i64 (ds.getD k default).p, .bool true, C k, X k] 80))
  have hne : ∀ j q, q ∈ R j → q ≠ k := fun j q hq e => by have := h.small j q hq; rw [e, hk] at this; simp at this
  refine ⟨by simp [hvl], fun j g hj => ?_, fun i j g hi hj => ?_, rows_nil (lb' := fun j => if j = k then some w.heap.size else lb j) hs.rows (h.out _ (by omega)) (fun j q hq => by rw [if_neg (hne j q hq)]), fun j q hq => ?_, fun j hj => h.out j (by omega)⟩
  · try dsimp only at hj
    by_cases e : j = k
    · subst e
      rw [if_pos rfl] at hj
      cases hj
      have e0 : (V ++ [Value.slice none 0 0]).getD j undef = .slice none 0 0 := by rw [← hvl]; simp [List.getD]
      rw [e0]
      exact ⟨by omega, Bx.start w _ _, Tg.new w _ _ _, hlo⟩
    · rw [if_neg e] at hj
      obtain ⟨h0, h1, h2, h3⟩ := hs.bx j g hj
      exact ⟨by omega, by rw [getD_left _ _ _ (by omega)]; exact h1, h2, h3⟩
  · try dsimp only at hi hj
    by_cases ei : i = k <;> by_cases ej : j = k
    · omega
    · rw [if_pos ei] at hi; rw [if_neg ej] at hj; cases hi; have := h.lt hj; omega
    · rw [if_neg ei] at hi; rw [if_pos ej] at hj; cases hj; have := h.lt hi; omega
    · rw [if_neg ei] at hi; rw [if_neg ej] at hj; exact h.inj i j g hi hj
  · try dsimp only
    rw [if_neg (hne j q hq)]; exact h.small j q hq
/-- A row of kids has one more, and its field tells where it lies. -/
theorem TrW.app (h : TrW lo k lb R V C X ds w) {j g q gq m' c' : Nat} {A' : Option Addr} {Y : Value} {o : Obj} (hj : lb j = some g) (hq : lb q = some gq) (hY : V[j]? = some Y)
    (hown : w'.ownsRow lo 57 1 (.slice A' m' c') m' (((R j).map fun q => ptrV (lb q)) ++ [ptrV (some gq)])) (hm : m' = (R j).length + 1) (hg : (w.alloc o).grownBy w' Y.ownBlock) (hb : (Value.slice A' m' c').ownBlock = Y.ownBlock ∨ (Value.slice A' m' c').ownBlock = some (w.alloc o).heap.size) :
    TrW lo k lb (fun i => if i = j then R j ++ [q] else R i) (V.set j (.slice A' m' c')) C X ds (w'.setCell ⟨g, 1, none⟩ (.slice A' m' c')) := by
  have hs := h.step ((Below.refl _ _).alloc (Nat.le_refl _) o)
  have hvl := h.vl
  have hjk : j < k := (h.bx j g hj).1
  have hXr : ∀ (i g' : Nat), lb i = some g' → Y.ownBlock ≠ some g' := fun i g' hi => by
    obtain ⟨A, m, c, e1, e2, e3⟩ := hs.rows.row j (by omega)
    rw [hY] at e1
    cases e1
    exact own_tag e3.1 (hs.bx i g' hi).2.2.1 hold_ne_ptr
  have hbx : ∀ (i g' : Nat), lb i = some g' → Bx g' [.int .i64 i, V.getD i undef, .int .i64 (ds.getD i default).p, .bool true, C i, X i] w' ∧ Tg g' 80 w' := fun i g' hi => by
    have h1 := (hs.bx i g' hi).2
    have e := hg.block g' h1.1.lt (fun e => hXr i g' hi e.symm)
    exact ⟨Bx.keepE h1.1 e hg.size, h1.2.1.keep e⟩
  have hTg := (hbx j g hj).2
  refine ⟨by simpa using hvl, fun i g' hi => ?_, h.inj, ?_, fun i x hx => ?_, fun i hi => ?_⟩
  · refine ⟨(h.bx i g' hi).1, ?_, (hbx i g' hi).2.set _ _, (h.bx i g' hi).2.2.2⟩
    by_cases e : i = j
    · subst e
      rw [hj] at hi
      cases hi
      have h2 := (hbx i g hj).1.set 1 (by simp) (.slice A' m' c')
      have e1 : (V.set i (.slice A' m' c')).getD i undef = .slice A' m' c' := by simp [List.getD, show i < V.length by omega]
      rw [e1]; exact h2
    · have e1 : (V.set j (.slice A' m' c')).getD i undef = V.getD i undef := by simp [List.getD, List.getElem?_set, show ¬ j = i by omega]
      rw [e1]
      exact (hbx i g' hi).1.other _ (fun e2 => e (h.inj i j g' hi (by rw [hj]; exact congrArg some e2.symm))) _
  · have h3 := hs.rows.grow (lens' := fun i => ((fun i => if i = j then R j ++ [q] else R i) i).length) (cont' := fun i => ((fun i => if i = j then R j ++ [q] else R i) i).map fun q => ptrV (lb q)) (Nat.le_refl _) hY hg hown hb (by dsimp only; rw [if_pos rfl, List.length_append, hm]; rfl) (by dsimp only; rw [if_pos rfl]; simp [hq]) (fun i hi => by dsimp only; rw [if_neg hi]; exact ⟨rfl, rfl⟩)
    have h4 := h3.setT hTg hold_ne_ptr 1 (.slice A' m' c')
    have e : (w'.setCell ⟨g, 1, none⟩ (.slice A' m' c')).heap.size = w'.heap.size := by simp [World.setCell]
    rw [e]; exact h4
  · try dsimp only at hx
    by_cases e : i = j
    · rw [if_pos e] at hx
      rcases List.mem_append.1 hx with h5 | h5
      · exact h.small j x h5
      · simp at h5; subst h5; rw [hq]; rfl
    · rw [if_neg e] at hx; exact h.small i x hx
  · try dsimp only
    rw [if_neg (by omega)]; exact h.out i hi
end
end Go.Proofs.Ytkfglodjnnlbkaa
