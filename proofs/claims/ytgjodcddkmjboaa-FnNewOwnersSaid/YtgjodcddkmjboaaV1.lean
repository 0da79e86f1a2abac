/- Words for owners: a slice of owners that reads as a list, one of the call's own. -/
import Derived.Test.YtgjodcddkmjboaaS0

namespace Go.Proofs.Ytgjodcddkmjboaa
set_option linter.unusedSimpArgs false
set_option linter.unusedVariables false
open Go.RowKit
-- WANT impl_inRange spec_inRange impl_allInRange spec_allIn impl_copyOf spec_copyIntsA spec_copyInts RetI OwnI form nil Bl turn refl le alloc step MkW MkS leftOf leftOf_ok leftOf_no mark_ints held_ints markw_ints row_start laws_eqIntS laws_toIntS laws_markIntS laws_heldIntS box_new own_start below_of_drew As IS ints it loc mono keep Tch OwR own_form below more cell own_below set_getD getD_ne take_step take_all_eq take_succ_getD bcell RetT RetF RetB run_append1 append1 spec_append lt start setCell own lengths

/-- An owner: its parent, whether it is open, what it has to clean up, its context. -/
structure On where
  p : Int
  o : Bool
  cl : List Int
  cx : List Int
deriving DecidableEq, Inhabited

/-- The four cells at b, off read as an owner. -/
def OnS (w : World) (B b off : Nat) (d : On) : Prop :=
  w.cell? ⟨b, off, none⟩ = some (.int .i64 d.p) ∧ w.cell? ⟨b, off + 1, none⟩ = some (.bool d.o) ∧
  (∃ A n c, w.cell? ⟨b, off + 2, none⟩ = some (.slice A n c) ∧ n = d.cl.length ∧ IS w B A d.cl) ∧
  ∃ A n c, w.cell? ⟨b, off + 3, none⟩ = some (.slice A n c) ∧ n = d.cx.length ∧ IS w B A d.cx

/-- The slice at A reads as the owners ds; all of it lies below block B. -/
def OS (w : World) (B : Nat) (A : Option Addr) (ds : List On) : Prop :=
  0 < ds.length → ∃ b off, A = some ⟨b, off, none⟩ ∧ b < B ∧ ∀ j, j < ds.length → OnS w B b (off + j * 4) (ds.getD j default)

theorem OnS.keep {w w' : World} {B b off : Nat} {d : On} (h : OnS w B b off d) (hb : b < B) (hk : ∀ p : Addr, p.block < B → w'.cell? p = w.cell? p) : OnS w' B b off d := by
  obtain ⟨h1, h2, ⟨A, n, c, h3, h4, h5⟩, A', n', c', h6, h7, h8⟩ := h
  exact ⟨(hk _ hb).trans h1, (hk _ hb).trans h2, ⟨A, n, c, (hk _ hb).trans h3, h4, h5.keep hk⟩, A', n', c', (hk _ hb).trans h6, h7, h8.keep hk⟩
theorem OnS.more {w : World} {B B' b off : Nat} {d : On} (h : OnS w B b off d) (hB : B ≤ B') : OnS w B' b off d := by
  obtain ⟨h1, h2, ⟨A, n, c, h3, h4, h5⟩, A', n', c', h6, h7, h8⟩ := h
  exact ⟨h1, h2, ⟨A, n, c, h3, h4, h5.more hB⟩, A', n', c', h6, h7, h8.more hB⟩

section
variable {w w' : World} {B B' C : Nat} {A : Option Addr} {ds : List On}
theorem OS.keep (h : OS w B A ds) (hk : ∀ p : Addr, p.block < B → w'.cell? p = w.cell? p) : OS w' B A ds := by
  intro hn
  obtain ⟨b, off, e, hb, hc⟩ := h hn
  exact ⟨b, off, e, hb, fun j hj => (hc j hj).keep hb hk⟩
theorem OS.more (h : OS w B A ds) (hB : B ≤ B') : OS w B' A ds := by
  intro hn
  obtain ⟨b, off, e, hb, hc⟩ := h hn
  exact ⟨b, off, e, by omega, fun j hj => (hc j hj).more hB⟩
theorem OS.below (h : OS w B A ds) (hb : Below C w w') (hC : B ≤ C) : OS w' B A ds := h.keep fun _ hp => hb.cell (Nat.lt_of_lt_of_le hp hC)
theorem OS.alloc (h : OS w B A ds) (hB : B ≤ w.heap.size) (o : Obj) : OS (w.alloc o) B A ds := h.keep fun p hp => World.cell?_alloc_lt w o p (by omega)
theorem OS.nil (w : World) (B : Nat) (A : Option Addr) : OS w B A [] := fun h => absurd h (by simp)
theorem OS.step {A : Option Addr} {ds : List On} {wk wl : World} (h : OS wk wk.heap.size A ds) (hb : Below wk.heap.size wk wl) : OS wl wl.heap.size A ds := (h.below hb (Nat.le_refl _)).more hb.size
theorem OS.at_ (h : OS w B A ds) (j : Nat) (hj : j < ds.length) : ∃ b off, A = some ⟨b, off, none⟩ ∧ b < B ∧ OnS w B b (off + j * 4) (ds.getD j default) := by
  obtain ⟨b, off, e, hb, hc⟩ := h (by omega)
  exact ⟨b, off, e, hb, hc j hj⟩
end
theorem OS.loc (B : Nat) (A : Option Addr) (ds : List On) : Loc 0 B fun w => OS w B A ds :=
  fun w w' h hk => h.keep fun p hp => World.cell?_of_block (hk p.block (Nat.zero_le _) hp)

/-- The lists of the owners, one after the other. -/
def rowsO (ds : List On) : List (List Int) := ds.flatMap fun d => [d.cl, d.cx]

theorem rowsO_len (ds : List On) : (rowsO ds).length = ds.length * 2 := by
  induction ds with
  | nil => rfl
  | cons d ds ih => simp only [rowsO, List.flatMap_cons, List.length_append, List.length_cons, List.length_nil] at *; omega

/-- The list i of the owners. -/
def rowO (ds : List On) (i : Nat) : List Int := if i % 2 = 0 then (ds.getD (i / 2) default).cl else (ds.getD (i / 2) default).cx

theorem rowsO_getD (ds : List On) (i : Nat) : (rowsO ds).getD i [] = rowO ds i := by
  unfold rowO
  induction ds generalizing i with
  | nil =>
    simp [rowsO, List.getD]
    split <;> rfl
  | cons d ds ih =>
    have e : rowsO (d :: ds) = d.cl :: d.cx :: rowsO ds := by simp [rowsO, List.flatMap_cons]
    rw [e]
    match i with
    | 0 => simp [List.getD]
    | 1 => simp [List.getD]
    | i + 2 =>
      have h1 : (i + 2) % 2 = i % 2 := by omega
      have h2 : (i + 2) / 2 = i / 2 + 1 := by omega
      rw [h1, h2]
      simpa [List.getD] using ih i

theorem rowO_cl (ds : List On) (j : Nat) : rowO ds (j * 2) = (ds.getD j default).cl := by
  unfold rowO
  rw [if_pos (by omega), show j * 2 / 2 = j by omega]
theorem rowO_cx (ds : List On) (j : Nat) : rowO ds (j * 2 + 1) = (ds.getD j default).cx := by
  unfold rowO
  rw [if_neg (by omega), show (j * 2 + 1) / 2 = j by omega]
theorem lenOfO (ds : List On) (i : Nat) : lenOf (rowsO ds) i = (rowO ds i).length := by unfold lenOf; rw [rowsO_getD]
theorem rowOfO (ds : List On) (i : Nat) : rowOf (rowsO ds) i = (rowO ds i).map (Value.int .i64) := by unfold rowOf; rw [rowsO_getD]

def osz (ds : List On) : Nat := ds.length + ((rowsO ds).map List.length).sum
/-- No more owners, and no more in their lists, than a million. -/
def OB (ds : List On) : Prop := ds.length ≤ 1048576 ∧ ((rowsO ds).map List.length).sum ≤ 1048576 ∧ ∀ j, (ds.getD j default).cl.length ≤ 1048576 ∧ (ds.getD j default).cx.length ≤ 1048576

theorem OB.of_sum {ds : List On} (h : ds.length ≤ 1048576) (h2 : ((rowsO ds).map List.length).sum ≤ 1048576) : OB ds := by
  refine ⟨h, h2, fun j => ?_⟩
  have a1 := len_le_sum (rowsO ds) (j * 2)
  have a2 := len_le_sum (rowsO ds) (j * 2 + 1)
  rw [rowsO_getD, rowO_cl] at a1
  rw [rowsO_getD, rowO_cx] at a2
  omega
theorem OB.of_osz {ds : List On} (h : osz ds ≤ 1048576) : OB ds := OB.of_sum (by unfold osz at h; omega) (by unfold osz at h; omega)

/-- The cells of the row are those of the owners; us are their lists. -/
def OwF (xs us : List Value) (ds : List On) : Prop := ∀ j, j < ds.length → xs[j * 4]? = some (.int .i64 (ds.getD j default).p) ∧ xs[j * 4 + 1]? = some (.bool (ds.getD j default).o) ∧ xs[j * 4 + 2]? = us[j * 2]? ∧ xs[j * 4 + 3]? = us[j * 2 + 1]?

/-- Owners of the call's own. -/
def OwO (lo hi : Nat) (v : Value) (n : Nat) (ds : List On) (w : World) : Prop :=
  n = ds.length ∧ ∃ xs us, OwR lo hi 41 4 v n xs w ∧ us.length = n * 2 ∧ OwF xs us ds ∧ SSk lo hi us (lenOf (rowsO ds)) (rowOf (rowsO ds)) w

theorem OwO.keep {lo hi n : Nat} {v : Value} {ds : List On} {w w' : World} (h : OwO lo hi v n ds w) (hk : ∀ k, lo ≤ k → k < hi → w'.heap[k]? = w.heap[k]?) : OwO lo hi v n ds w' := by
  obtain ⟨h0, xs, us, h1, h2, h3, h4⟩ := h
  exact ⟨h0, xs, us, h1.keep hk, h2, h3, h4.keep hk⟩
theorem OwO.loc (lo hi : Nat) (v : Value) (n : Nat) (ds : List On) : Loc lo hi (OwO lo hi v n ds) := fun w w' h hk => h.keep hk
theorem OwO.mono {lo hi lo' hi' n : Nat} {v : Value} {ds : List On} {w : World} (h : OwO lo hi v n ds w) (h1 : lo' ≤ lo) (h2 : hi ≤ hi') : OwO lo' hi' v n ds w := by
  obtain ⟨h0, xs, us, e1, e2, e3, e4⟩ := h
  exact ⟨h0, xs, us, e1.mono h1 h2, e2, e3, e4.mono h1 h2⟩
theorem OwO.form {lo hi n : Nat} {v : Value} {ds : List On} {w : World} (h : OwO lo hi v n ds w) : ∃ A c, v = .slice A n c := by
  obtain ⟨_, xs, us, h1, _⟩ := h
  exact own_form h1.1
theorem OwO.nil (lo hi : Nat) (w : World) : OwO lo hi (.slice none 0 0) 0 [] w :=
  ⟨rfl, [], [], OwR.nil _ _ _ _ _, rfl, fun j hj => by simp at hj, ⟨fun j hj => by simp at hj, fun i j v u k _ h1 => by simp at h1⟩⟩
theorem OwO.setCell {lo hi n : Nat} {v : Value} {ds : List On} {w : World} (h : OwO lo hi v n ds w) {a : Addr} (ha : a.block < lo) (u : Value) : OwO lo hi v n ds (w.setCell a u) :=
  h.keep fun k hk _ => Below.heap_setCell _ _ _ _ (by omega)

theorem OwO.owners {lo hi n c : Nat} {A : Option Addr} {ds : List On} {w : World} (h : OwO lo hi (.slice A n c) n ds w) : OS w hi A ds := by
  obtain ⟨h0, xs, us, h1, h2, h3, h4⟩ := h
  intro hn
  rcases h1.1.2 with ⟨_, hz⟩ | ⟨g, cap, cur, hv, _⟩
  · omega
  · have hg := h1.2 g (by rw [hv]; rfl)
    simp only [Value.slice.injEq] at hv
    obtain ⟨rfl, _, rfl⟩ := hv
    refine ⟨g, 0, rfl, hg, fun j hj => ?_⟩
    obtain ⟨f0, f1, f2, f3⟩ := h3 j hj
    obtain ⟨A1, m1, c1, a1, a2, a3⟩ := h4.row (j * 2) (by omega)
    obtain ⟨A2, m2, c2, b1, b2, b3⟩ := h4.row (j * 2 + 1) (by omega)
    rw [lenOfO, rowO_cl] at a2
    rw [lenOfO, rowO_cx] at b2
    rw [rowOfO, rowO_cl] at a3
    rw [rowOfO, rowO_cx] at b3
    refine ⟨?_, ?_, ⟨A1, m1, c1, ?_, a2, a3.ints⟩, A2, m2, c2, ?_, b2, b3.ints⟩
    · rw [Nat.zero_add, h1.1.cellAt _ (by omega)]; exact f0
    · rw [Nat.zero_add, h1.1.cellAt _ (by omega)]; exact f1
    · rw [Nat.zero_add, h1.1.cellAt _ (by omega), f2]; exact a1
    · rw [Nat.zero_add, h1.1.cellAt _ (by omega), f3]; exact b1

theorem owners_start {lo n : Nat} {v : Value} {ds : List On} {w : World} (h : OwO lo w.heap.size v n ds w) : As lo w.heap.size (OwO lo w.heap.size v n ds) w := ⟨h, Nat.le_refl _, OwO.loc _ _ _ _ _⟩
theorem As.owners {lo hi n c : Nat} {A : Option Addr} {ds : List On} {w : World} (h : As lo hi (OwO lo hi (.slice A n c) n ds) w) : OS w w.heap.size A ds := h.it.owners.more h.le

theorem owner_ne_int : (41 : TypeId) ≠ 3 := by decide

/-- Four cells written one after the other. -/
def set4 (xs : List Value) (j : Nat) (x y z u : Value) : List Value := (((xs.set j x).set (j + 1) y).set (j + 2) z).set (j + 3) u

theorem set4_get (xs : List Value) (j : Nat) (x y z u : Value) (h : j + 3 < xs.length) : (set4 xs j x y z u)[j]? = some x ∧ (set4 xs j x y z u)[j + 1]? = some y ∧ (set4 xs j x y z u)[j + 2]? = some z ∧ (set4 xs j x y z u)[j + 3]? = some u ∧ ∀ i, i < j ∨ j + 3 < i → (set4 xs j x y z u)[i]? = xs[i]? := by
  unfold set4
  refine ⟨?_, ?_, ?_, ?_, fun i hi => ?_⟩
  · rw [List.getElem?_set, if_neg (by omega), List.getElem?_set, if_neg (by omega), List.getElem?_set, if_neg (by omega), List.getElem?_set, if_pos rfl, if_pos (by omega)]
  · rw [List.getElem?_set, if_neg (by omega), List.getElem?_set, if_neg (by omega), List.getElem?_set, if_pos rfl, if_pos (by simp; omega)]
  · rw [List.getElem?_set, if_neg (by omega), List.getElem?_set, if_pos rfl, if_pos (by simp; omega)]
  · rw [List.getElem?_set, if_pos rfl, if_pos (by simp; omega)]
  · rw [List.getElem?_set, if_neg (by omega), List.getElem?_set, if_neg (by omega), List.getElem?_set, if_neg (by omega), List.getElem?_set, if_neg (by omega)]

/-- The world behind four stores. -/
def put4 (w : World) (g j : Nat) (x y z u : Value) : World := (((w.setCell ⟨g, j, none⟩ x).setCell ⟨g, j + 1, none⟩ y).setCell ⟨g, j + 2, none⟩ z).setCell ⟨g, j + 3, none⟩ u

theorem put4_size (w : World) (g j : Nat) (x y z u : Value) : (put4 w g j x y z u).heap.size = w.heap.size := by simp [put4, World.setCell]
theorem put4_below {B : Nat} {a w : World} (h : Below B a w) {g : Nat} (hg : B ≤ g) (j : Nat) (x y z u : Value) : Below B a (put4 w g j x y z u) :=
  (((h.setCell (p := ⟨g, j, none⟩) hg _).setCell (p := ⟨g, j + 1, none⟩) hg _).setCell (p := ⟨g, j + 2, none⟩) hg _).setCell (p := ⟨g, j + 3, none⟩) hg _
theorem own_put4 {w : World} {base e size n cap g : Nat} {xs : List Value} (h : w.ownsRow base e size (.slice (some ⟨g, 0, none⟩) n cap) n xs) (j : Nat) (x y z u : Value) :
    (put4 w g j x y z u).ownsRow base e size (.slice (some ⟨g, 0, none⟩) n cap) n (set4 xs j x y z u) ∧ w.grownBy (put4 w g j x y z u) (Value.slice (some ⟨g, 0, none⟩) n cap).ownBlock := by
  have a0 := h.stored j x
  have a1 := a0.1.stored (j + 1) y
  have a2 := a1.1.stored (j + 2) z
  have a3 := a2.1.stored (j + 3) u
  exact ⟨a3.1, grown_tr a0.2 (grown_tr a1.2 (grown_tr a2.2 a3.2))⟩

theorem getD_set (ds : List On) (k j : Nat) (d : On) (hk : k < ds.length) : (ds.set k d).getD j default = if j = k then d else ds.getD j default := by
  simp only [List.getD, List.getElem?_set]
  by_cases h : k = j
  · subst h; simp [hk]
  · rw [if_neg h, if_neg (fun e => h e.symm)]

/-- One owner was written anew; its lists lie in new blocks. -/
theorem OwO.put {lo hi mid top n cap g k : Nat} {ds : List On} {d : On} {w : World} {A A' : Option Addr} {m c m' c' : Nat} (h : OwO lo hi (.slice (some ⟨g, 0, none⟩) n cap) n ds w) (hk : k < n)
    (hm : m = d.cl.length) (hm' : m' = d.cx.length) (h1 : OwR hi mid 3 1 (.slice A m c) m (d.cl.map (Value.int .i64)) w) (h2 : OwR mid top 3 1 (.slice A' m' c') m' (d.cx.map (Value.int .i64)) w) (hlo : lo ≤ hi) (hmid : hi ≤ mid) (htop : mid ≤ top) :
    OwO lo top (.slice (some ⟨g, 0, none⟩) n cap) n (ds.set k d) (put4 w g (k * 4) (.int .i64 d.p) (.bool d.o) (.slice A m c) (.slice A' m' c')) := by
  obtain ⟨hn, xs, us, hr, hu, hf, hs⟩ := h
  have hxl : xs.length = n * 4 := hr.1.1
  have hst := own_put4 hr.1 (k * 4) (.int .i64 d.p) (.bool d.o) (.slice A m c) (.slice A' m' c')
  have hs1 := hs.grown hst.2 (hs.ne hr.1 owner_ne_int.symm)
  have r1 := h1.1.kept hst.2 (blocks_ne h1.1 hr.1 owner_ne_int.symm)
  have r2 := h2.1.kept hst.2 (blocks_ne h2.1 hr.1 owner_ne_int.symm)
  have hkl : k < ds.length := by omega
  obtain ⟨s0, s1, s2, s3, s4⟩ := set4_get xs (k * 4) (.int .i64 d.p) (.bool d.o) (.slice A m c) (.slice A' m' c') (by omega)
  have hrow (i : Nat) : rowO (ds.set k d) i = if i = k * 2 then d.cl else if i = k * 2 + 1 then d.cx else rowO ds i := by
    unfold rowO
    rw [getD_set ds k (i / 2) d hkl]
    by_cases e1 : i / 2 = k
    · rw [if_pos e1]
      by_cases e2 : i % 2 = 0
      · rw [if_pos e2, if_pos (by omega)]
      · rw [if_neg e2, if_neg (by omega), if_pos (by omega)]
    · have e3 : ¬ i = k * 2 := by omega
      have e4 : ¬ i = k * 2 + 1 := by omega
      simp only [if_neg e1, if_neg e3, if_neg e4]
  refine ⟨by simp; omega, _, (us.set (k * 2) (.slice A m c)).set (k * 2 + 1) (.slice A' m' c'), ⟨hst.1, fun q hq => Nat.lt_of_lt_of_le (hr.2 q hq) (by omega)⟩, by simp; omega, ?_, ?_⟩
  · intro j hj
    rw [getD_set ds k j d hkl]
    by_cases e : j = k
    · subst e
      rw [if_pos rfl]
      refine ⟨s0, s1, s2.trans ?_, s3.trans ?_⟩
      · rw [List.getElem?_set, if_neg (by omega), List.getElem?_set, if_pos rfl, if_pos (by omega)]
      · rw [List.getElem?_set, if_pos rfl, if_pos (by simp; omega)]
    · rw [if_neg e]
      obtain ⟨f0, f1, f2, f3⟩ := hf j (by simpa using hj)
      refine ⟨(s4 _ (by omega)).trans f0, (s4 _ (by omega)).trans f1, ((s4 _ (by omega)).trans f2).trans ?_, ((s4 _ (by omega)).trans f3).trans ?_⟩
      · rw [List.getElem?_set, if_neg (by omega), List.getElem?_set, if_neg (by omega)]
      · rw [List.getElem?_set, if_neg (by omega), List.getElem?_set, if_neg (by omega)]
  · have p1 : SSk lo mid (us.set (k * 2) (.slice A m c)) (fun i => if i = k * 2 then d.cl.length else lenOf (rowsO ds) i) (fun i => if i = k * 2 then d.cl.map (Value.int .i64) else rowOf (rowsO ds) i) (put4 w g (k * 4) (.int .i64 d.p) (.bool d.o) (.slice A m c) (.slice A' m' c')) :=
      hs1.put (k * 2) (by rw [List.getElem?_set, if_pos rfl, if_pos (by omega)]) (fun j hj => by rw [List.getElem?_set, if_neg (by omega)]) (fun j hj _ => by simpa using hj) (by simpa using hm) (fun j hj => by simp [hj]) (by simpa using ⟨r1, h1.2⟩) hlo hmid
    refine p1.put (k * 2 + 1) (A := A') (m := m') (c := c') (by rw [List.getElem?_set, if_pos rfl, if_pos (by simp; omega)]) (fun j hj => by rw [List.getElem?_set, if_neg (by omega)]) (fun j hj _ => by simpa using hj) ?_ (fun j hj => ?_) ?_ (by omega) htop
    · rw [lenOfO, hrow, if_neg (by omega), if_pos rfl]; exact hm'
    · rw [lenOfO, rowOfO, hrow]
      by_cases e : j = k * 2
      · simp [e]
      · rw [if_neg e, if_neg hj, if_neg e, if_neg e, ← lenOfO, ← rowOfO]; exact ⟨rfl, rfl⟩
    · rw [rowOfO, hrow, if_neg (by omega), if_pos rfl]; exact ⟨r2, h2.2⟩

/-- The first owners, and none for the others. -/
def cpO (ds : List On) (n k : Nat) : List On := ds.take k ++ List.replicate (n - k) default
theorem cpO_len (ds : List On) (n k : Nat) (hn : n = ds.length) (hk : k ≤ n) : (cpO ds n k).length = n := by unfold cpO; simp; omega
theorem cpO_all (ds : List On) (n : Nat) (h : n = ds.length) : cpO ds n n = ds := by unfold cpO; simp [h]
theorem cpO_succ (ds : List On) (n k : Nat) (hn : n = ds.length) (hk : k < n) : (cpO ds n k).set k (ds.getD k default) = cpO ds n (k + 1) := by
  have hl := cpO_len ds n k hn (by omega)
  have hl' := cpO_len ds n (k + 1) hn (by omega)
  apply List.ext_getElem?
  intro i
  rw [List.getElem?_set]
  by_cases e : k = i
  · subst e
    rw [if_pos rfl, if_pos (by omega)]
    unfold cpO
    rw [List.getElem?_append_left (by simp; omega), List.getElem?_take, if_pos (by omega)]
    simp [List.getD, show k < ds.length by omega]
  · rw [if_neg e]
    unfold cpO
    rcases Nat.lt_or_ge i k with h1 | h1
    · rw [List.getElem?_append_left (by simp; omega), List.getElem?_append_left (by simp; omega), List.getElem?_take, List.getElem?_take, if_pos h1, if_pos (by omega)]
    · rw [List.getElem?_append_right (by simp; omega), List.getElem?_append_right (by simp; omega), List.getElem?_replicate, List.getElem?_replicate]
      simp only [List.length_take]
      split <;> split <;> first | rfl | omega

theorem info_owner : (Try.prog.info? 41).map (fun i => (i.zero, i.size, i.bytes)) = some (some (.agg #[.int .i64 0, .bool false, .slice none 0 0, .slice none 0 0]), 4, 64) := by kernel_rfl

/-- Owners that were just made. -/
theorem made_owners {w : World} {lo n : Nat} {v : Value} {xs : List Value} (ds : List On) (hn : n = ds.length) (h : w.ownsRow lo 41 4 v n xs) (hx : ∀ j, j < n → xs[j * 4]? = some (.int .i64 0) ∧ xs[j * 4 + 1]? = some (.bool false) ∧ xs[j * 4 + 2]? = some (.slice none 0 0) ∧ xs[j * 4 + 3]? = some (.slice none 0 0)) : OwO lo w.heap.size v n (cpO ds n 0) w := by
  have hg (j : Nat) : (cpO ds n 0).getD j default = default := by
    unfold cpO
    simp only [List.take_zero, List.nil_append, List.getD, List.getElem?_replicate]
    split <;> rfl
  have hr (i : Nat) : rowO (cpO ds n 0) i = [] := by
    unfold rowO
    rw [hg]
    split <;> rfl
  refine ⟨(cpO_len ds n 0 hn (by omega)).symm, xs, List.replicate (n * 2) (.slice none 0 0), OwR.start h, by simp, ?_, ⟨fun j hj => ⟨none, 0, 0, ?_, ?_, ?_⟩, fun i j v u k _ h1 h2 hv => ?_⟩⟩
  · intro j hj
    rw [cpO_len ds n 0 hn (by omega)] at hj
    obtain ⟨a, b, c, d⟩ := hx j hj
    rw [hg]
    refine ⟨a, b, c.trans ?_, d.trans ?_⟩
    · rw [List.getElem?_replicate, if_pos (by omega)]
    · rw [List.getElem?_replicate, if_pos (by omega)]
  · simp at hj; rw [List.getElem?_replicate, if_pos hj]
  · rw [lenOfO, hr]; rfl
  · rw [rowOfO, hr]; exact OwR.nil _ _ _ _ _
  · rw [List.getElem?_replicate] at h1
    split at h1
    · cases h1; simp [Value.ownBlock] at hv
    · cases h1
end Go.Proofs.Ytgjodcddkmjboaa
