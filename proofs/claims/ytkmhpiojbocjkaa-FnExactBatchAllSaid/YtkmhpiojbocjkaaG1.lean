/- Words for graphs: a slice of nodes that reads as a list, one of the call's own, one whose content does not matter. -/
import Derived.Test.YtkmhpiojbocjkaaG0
namespace Go.Proofs.Ytkmhpiojbocjkaa
set_option linter.unusedSimpArgs false
set_option linter.unusedVariables false
open Go.RowKit

/-- A node of a graph: its kind, the parts of its formula. -/
structure Nd where
  k : Int
  ps : List Pt
deriving DecidableEq, Inhabited

/-- The two cells at b, off read as a node. -/
def NdS (w : World) (B b off : Nat) (d : Nd) : Prop :=
  w.cell? ⟨b, off, none⟩ = some (.int .i64 d.k) ∧ ∃ A n c, w.cell? ⟨b, off + 1, none⟩ = some (.slice A n c) ∧ n = d.ps.length ∧ PS w B A d.ps

/-- The slice at A reads as the nodes gs; all of it lies below block B. -/
def GS (w : World) (B : Nat) (A : Option Addr) (gs : List Nd) : Prop :=
  0 < gs.length → ∃ b off, A = some ⟨b, off, none⟩ ∧ b < B ∧ ∀ j, j < gs.length → NdS w B b (off + j * 2) (gs.getD j default)

theorem NdS.keep {w w' : World} {B b off : Nat} {d : Nd} (h : NdS w B b off d) (hb : b < B) (hk : ∀ p : Addr, p.block < B → w'.cell? p = w.cell? p) : NdS w' B b off d := by
  obtain ⟨h1, A, n, c, h2, h3, h4⟩ := h
  exact ⟨(hk _ hb).trans h1, A, n, c, (hk _ hb).trans h2, h3, h4.keep hk⟩
theorem NdS.more {w : World} {B B' b off : Nat} {d : Nd} (h : NdS w B b off d) (hB : B ≤ B') : NdS w B' b off d := by
  obtain ⟨h1, A, n, c, h2, h3, h4⟩ := h
  exact ⟨h1, A, n, c, h2, h3, h4.more hB⟩

section
variable {w w' : World} {B B' C : Nat} {A : Option Addr} {gs : List Nd}
theorem GS.keep (h : GS w B A gs) (hk : ∀ p : Addr, p.block < B → w'.cell? p = w.cell? p) : GS w' B A gs := by
  intro hn
  obtain ⟨b, off, e, hb, hc⟩ := h hn
  exact ⟨b, off, e, hb, fun j hj => (hc j hj).keep hb hk⟩
theorem GS.more (h : GS w B A gs) (hB : B ≤ B') : GS w B' A gs := by
  intro hn
  obtain ⟨b, off, e, hb, hc⟩ := h hn
  exact ⟨b, off, e, by omega, fun j hj => (hc j hj).more hB⟩
theorem GS.below (h : GS w B A gs) (hb : Below C w w') (hC : B ≤ C) : GS w' B A gs := h.keep fun _ hp => hb.cell (Nat.lt_of_lt_of_le hp hC)
theorem GS.alloc (h : GS w B A gs) (hB : B ≤ w.heap.size) (o : Obj) : GS (w.alloc o) B A gs := h.keep fun p hp => World.cell?_alloc_lt w o p (by omega)
theorem GS.nil (w : World) (B : Nat) (A : Option Addr) : GS w B A [] := fun h => absurd h (by simp)
theorem GS.step {A : Option Addr} {gs : List Nd} {wk wl : World} (h : GS wk wk.heap.size A gs) (hb : Below wk.heap.size wk wl) : GS wl wl.heap.size A gs := (h.below hb (Nat.le_refl _)).more hb.size
end
theorem GS.loc (B : Nat) (A : Option Addr) (gs : List Nd) : Loc 0 B fun w => GS w B A gs :=
  fun w w' h hk => h.keep fun p hp => World.cell?_of_block (hk p.block (Nat.zero_le _) hp)

/-- No more nodes, and no node with more parts, than a million. -/
def GB (gs : List Nd) : Prop := gs.length ≤ 1048576 ∧ ∀ j, (gs.getD j default).ps.length ≤ 1048576

def gsz (gs : List Nd) : Nat := gs.length + (gs.map fun d => d.ps.length).sum

theorem sum_getD (l : List Nat) (j : Nat) : l.getD j 0 ≤ l.sum := by
  induction l generalizing j with
  | nil => simp
  | cons x l ih =>
    cases j with
    | zero => simp
    | succ j => have := ih j; simp only [List.getD_cons_succ, List.sum_cons]; omega

theorem GB.of_gsz {gs : List Nd} (h : gsz gs ≤ 1048576) : GB gs := by
  unfold gsz at h
  refine ⟨by omega, fun j => ?_⟩
  have := sum_getD (gs.map fun d => d.ps.length) j
  have e : (gs.map fun d => d.ps.length).getD j 0 = (gs.getD j default).ps.length := by
    by_cases hj : j < gs.length
    · simp [List.getD, hj]
    · simp [List.getD, List.getElem?_eq_none (show gs.length ≤ j by omega)]; rfl
  omega

theorem sum_take_succ (gs : List Nd) (k : Nat) (h : k < gs.length) : ((gs.take (k + 1)).map fun d => d.ps.length).sum = ((gs.take k).map fun d => d.ps.length).sum + (gs.getD k default).ps.length := by
  rw [take_succ_getD gs k h, List.map_append, List.sum_append]; simp

theorem sum_take_le (gs : List Nd) (k : Nat) : ((gs.take k).map fun d => d.ps.length).sum ≤ (gs.map fun d => d.ps.length).sum := by
  have : (gs.map fun d => d.ps.length).sum = ((gs.take k).map fun d => d.ps.length).sum + ((gs.drop k).map fun d => d.ps.length).sum := by
    rw [← List.sum_append, ← List.map_append, List.take_append_drop]
  omega

/-- The two values are a node of the call's own. -/
def NdO (lo hi : Nat) (d : Nd) (x y : Value) (w : World) : Prop :=
  x = .int .i64 d.k ∧ ∃ A n c, y = .slice A n c ∧ n = d.ps.length ∧ OwR lo hi 117 5 y n (d.ps.flatMap Pt.cells) w

/-- A row of nodes of the call's own. -/
def OwG (lo hi : Nat) (v : Value) (n : Nat) (gs : List Nd) (w : World) : Prop :=
  n = gs.length ∧ ∃ xs, OwR lo hi 85 2 v n xs w ∧ ∀ j, j < n → ∃ x y, xs[j * 2]? = some x ∧ xs[j * 2 + 1]? = some y ∧ NdO lo hi (gs.getD j default) x y w

theorem NdO.keep {lo hi : Nat} {d : Nd} {x y : Value} {w w' : World} (h : NdO lo hi d x y w) (hk : ∀ k, lo ≤ k → k < hi → w'.heap[k]? = w.heap[k]?) : NdO lo hi d x y w' := by
  obtain ⟨h1, A, n, c, h2, h3, h4⟩ := h
  exact ⟨h1, A, n, c, h2, h3, h4.keep hk⟩
theorem NdO.mono {lo hi lo' hi' : Nat} {d : Nd} {x y : Value} {w : World} (h : NdO lo hi d x y w) (h1 : lo' ≤ lo) (h2 : hi ≤ hi') : NdO lo' hi' d x y w := by
  obtain ⟨e1, A, n, c, e2, e3, h4⟩ := h
  exact ⟨e1, A, n, c, e2, e3, h4.mono h1 h2⟩
theorem OwG.loc (lo hi : Nat) (v : Value) (n : Nat) (gs : List Nd) : Loc lo hi (OwG lo hi v n gs) := by
  rintro w w' ⟨h0, xs, h1, h2⟩ hk
  exact ⟨h0, xs, h1.keep hk, fun j hj => by obtain ⟨x, y, hx, hy, h⟩ := h2 j hj; exact ⟨x, y, hx, hy, h.keep hk⟩⟩
theorem OwG.mono {lo hi lo' hi' n : Nat} {v : Value} {gs : List Nd} {w : World} (h : OwG lo hi v n gs w) (h1 : lo' ≤ lo) (h2 : hi ≤ hi') : OwG lo' hi' v n gs w := by
  obtain ⟨h0, xs, e1, e2⟩ := h
  exact ⟨h0, xs, e1.mono h1 h2, fun j hj => by obtain ⟨x, y, hx, hy, h⟩ := e2 j hj; exact ⟨x, y, hx, hy, h.mono h1 h2⟩⟩
theorem OwG.form {lo hi n : Nat} {v : Value} {gs : List Nd} {w : World} (h : OwG lo hi v n gs w) : ∃ A c, v = .slice A n c := by
  obtain ⟨_, xs, h1, _⟩ := h
  exact own_form h1.1

theorem OwG.nodes {lo hi n c : Nat} {A : Option Addr} {gs : List Nd} {w : World} (h : OwG lo hi (.slice A n c) n gs w) : GS w hi A gs := by
  obtain ⟨h0, xs, h1, h2⟩ := h
  intro hn
  rcases h1.1.2 with ⟨_, hz⟩ | ⟨g, cap, cur, hv, _⟩
  · omega
  · have hg := h1.2 g (by rw [hv]; rfl)
    simp only [Value.slice.injEq] at hv
    obtain ⟨rfl, _, rfl⟩ := hv
    refine ⟨g, 0, rfl, hg, fun j hj => ?_⟩
    obtain ⟨x, y, hx, hy, e1, A', n', c', e2, e3, e4⟩ := h2 j (by omega)
    refine ⟨?_, A', n', c', ?_, e3, ?_⟩
    · rw [h1.1.cellAt _ (by omega), ← e1]; simpa using hx
    · rw [h1.1.cellAt _ (by omega), ← e2]; simpa using hy
    · subst e2
      exact e4.parts

/-- A row of nodes whose content does not matter. -/
def WkG (lo hi : Nat) (v : Value) (n : Nat) (w : World) : Prop :=
  ∃ xs, OwR lo hi 85 2 v n xs w ∧ ∀ j, j < n → ∃ q A m c, xs[j * 2]? = some (.int .i64 q) ∧ xs[j * 2 + 1]? = some (.slice A m c) ∧ m ≤ 1048576 ∧ Rw lo hi 117 5 (.slice A m c) m w

theorem OwG.weak {lo hi n : Nat} {v : Value} {gs : List Nd} {w : World} (h : OwG lo hi v n gs w) (hb : GB gs) : WkG lo hi v n w := by
  obtain ⟨h0, xs, h1, h2⟩ := h
  refine ⟨xs, h1, fun j hj => ?_⟩
  obtain ⟨x, y, hx, hy, e1, A, m, c, e2, e3, e4⟩ := h2 j hj
  refine ⟨_, A, m, c, by rw [hx, e1], by rw [hy, e2], by rw [e3]; exact hb.2 j, _, by rw [← e2]; exact e4⟩

theorem WkG.keep {lo hi n : Nat} {v : Value} {w w' : World} (h : WkG lo hi v n w) (hk : ∀ k, lo ≤ k → k < hi → w'.heap[k]? = w.heap[k]?) : WkG lo hi v n w' := by
  obtain ⟨xs, h1, h2⟩ := h
  refine ⟨xs, h1.keep hk, fun j hj => ?_⟩
  obtain ⟨q, A, m, c, hx, hy, hm, hr⟩ := h2 j hj
  exact ⟨q, A, m, c, hx, hy, hm, hr.keep hk⟩
theorem WkG.step {lo hi n : Nat} {v : Value} {w w' : World} (h : WkG lo hi v n w) (hb : Below w.heap.size w w') (hs : hi ≤ w.heap.size) : WkG lo hi v n w' :=
  h.keep fun k _ hk => hb.block k (by omega)

/-- The block of a row of one kind is not that of a row of another kind. -/
theorem blocks_ne {w : World} {b1 b2 : Nat} {e1 e2 : TypeId} {s1 s2 n1 n2 : Nat} {v u : Value} {xs ys : List Value} (h : w.ownsRow b1 e1 s1 v n1 xs) (h' : w.ownsRow b2 e2 s2 u n2 ys) (he : e1 ≠ e2) : v.ownBlock = none ∨ v.ownBlock ≠ u.ownBlock := by
  rcases h.2 with ⟨rfl, _⟩ | ⟨g, cap, cur, rfl, _, hh, _⟩
  · exact .inl rfl
  · right
    rcases h'.2 with ⟨rfl, _⟩ | ⟨g', cap', cur', rfl, _, hh', _⟩
    · simp [Value.ownBlock]
    · simp only [Value.ownBlock, ne_eq, Option.some.injEq]
      rintro rfl
      rw [hh] at hh'
      simp only [Option.some.injEq, Obj.cells.injEq] at hh'
      exact he hh'.2.1

theorem node_ne_part : (85 : TypeId) ≠ 117 := by decide

/-- The parts of one node were marked: still a row of nodes. -/
theorem WkG.marked {lo hi n m : Nat} {v u : Value} {w w' : World} {k : Int} {e : Ending} (h : WkG lo hi v n w) (hu : ∃ ys, w.ownsRow lo 117 5 u m ys) (hm : Marked w lo 117 5 u m k e w') : WkG lo hi v n w' := by
  obtain ⟨xs, h1, h2⟩ := h
  obtain ⟨ys, hu⟩ := hu
  refine ⟨xs, ⟨h1.1.kept hm.2.2 (blocks_ne h1.1 hu node_ne_part), h1.2⟩, fun j hj => ?_⟩
  obtain ⟨q, A, m', c, hx, hy, hm', hr⟩ := h2 j hj
  exact ⟨q, A, m', c, hx, hy, hm', hr.after hu hm.2.1 hm.2.2 (by decide)⟩

/-- The kind of one node was written. -/
theorem WkG.kind {lo hi n g cap : Nat} {w : World} (h : WkG lo hi (.slice (some ⟨g, 0, none⟩) n cap) n w) (j : Nat) (hj : j < n) (q : Int) : WkG lo hi (.slice (some ⟨g, 0, none⟩) n cap) n (w.setCell ⟨g, j * 2, none⟩ (.int .i64 q)) := by
  obtain ⟨xs, h1, h2⟩ := h
  have hl : xs.length = n * 2 := h1.1.1
  have hst := h1.1.stored (j * 2) (.int .i64 q)
  refine ⟨_, ⟨hst.1, h1.2⟩, fun i hlt => ?_⟩
  obtain ⟨q', A, m, c, hx, hy, hm, ys, hr⟩ := h2 i hlt
  have e : ∃ ys, OwR lo hi 117 5 (.slice A m c) m ys (w.setCell ⟨g, j * 2, none⟩ (.int .i64 q)) := ⟨ys, hr.1.kept hst.2 (blocks_ne hr.1 h1.1 node_ne_part.symm), hr.2⟩
  by_cases e' : i = j
  · subst e'
    refine ⟨q, A, m, c, ?_, ?_, hm, e⟩
    · rw [List.getElem?_set]; simp; omega
    · rw [List.getElem?_set]; simpa using hy
  · refine ⟨q', A, m, c, ?_, ?_, hm, e⟩
    · rw [List.getElem?_set, if_neg (by omega)]; exact hx
    · rw [List.getElem?_set, if_neg (by omega)]; exact hy
end Go.Proofs.Ytkmhpiojbocjkaa
