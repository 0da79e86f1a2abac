/- For all bytes the law FnCellsOf holds: the cells of a state are cells, and their meaning is the values; and the bytes stay as they were. Conditions: none. -/
import Derived.Test.YtgclikdienlhdaaZ06
import Derived.Deep.RegionHeld3
/- The drawing of eager states: words; what a state reads as in blocks lo to hi - 1, and how it changes. -/
namespace Go.Proofs.Ytgclikdienlhdaa
set_option linter.unusedSimpArgs false
set_option linter.unusedVariables false
open Go.RowKit

def ISL (lo hi : Nat) (A : Option Addr) (xs : List Int) (w : World) : Prop :=
  0 < xs.length → ∃ b off, A = some ⟨b, off, none⟩ ∧ lo ≤ b ∧ b < hi ∧ ∀ j, j < xs.length → w.cell? ⟨b, off + j, none⟩ = some (.int .i64 (xs.getD j 0))
def SSL (lo hi : Nat) (A : Option Addr) (xss : List (List Int)) (w : World) : Prop :=
  0 < xss.length → ∃ b off, A = some ⟨b, off, none⟩ ∧ lo ≤ b ∧ b < hi ∧ ∀ j, j < xss.length → ∃ A' n c, w.cell? ⟨b, off + j, none⟩ = some (.slice A' n c) ∧ n = (xss.getD j []).length ∧ ISL lo hi A' (xss.getD j []) w
def ESL (lo hi : Nat) (A E : Option Addr) (st : Eg) (w : World) : Prop := ISL lo hi A st.vs w ∧ SSL lo hi E st.rs w

theorem ISL.loc (lo hi : Nat) (A : Option Addr) (xs : List Int) : Loc lo hi (ISL lo hi A xs) := by
  intro w w' h hk hn
  obtain ⟨b, off, e, h1, h2, hc⟩ := h hn
  exact ⟨b, off, e, h1, h2, fun j hj => (World.cell?_of_block (a := ⟨b, off + j, none⟩) (hk b h1 h2)).trans (hc j hj)⟩
theorem SSL.loc (lo hi : Nat) (A : Option Addr) (xss : List (List Int)) : Loc lo hi (SSL lo hi A xss) := by
  intro w w' h hk hn
  obtain ⟨b, off, e, h1, h2, hc⟩ := h hn
  refine ⟨b, off, e, h1, h2, fun j hj => ?_⟩
  obtain ⟨A', n, c, e1, e2, e3⟩ := hc j hj
  exact ⟨A', n, c, (World.cell?_of_block (a := ⟨b, off + j, none⟩) (hk b h1 h2)).trans e1, e2, ISL.loc lo hi A' _ w w' e3 hk⟩
theorem ESL.loc (lo hi : Nat) (A E : Option Addr) (st : Eg) : Loc lo hi (ESL lo hi A E st) := (ISL.loc lo hi A st.vs).and (SSL.loc lo hi E st.rs)
theorem ISL.of_row {lo hi n c : Nat} {A : Option Addr} {xs : List Int} {w : World} (h : OwR lo hi 3 1 (.slice A n c) n (xs.map (Value.int .i64)) w) : ISL lo hi A xs w := by
  intro hn
  obtain ⟨b, off, rfl, _, hc⟩ := IS.of_own h.1 hn
  exact ⟨b, off, rfl, (h.1.lt b rfl).1, h.2 b rfl, hc⟩
theorem SSL.of_rows {lo hi n c : Nat} {A : Option Addr} {xss : List (List Int)} {us : List Value} {w : World} (h0 : n = xss.length) (h1 : OwR lo hi 26 1 (.slice A n c) n us w) (h2 : ∀ j, j < n → ∃ A' m d, us[j]? = some (.slice A' m d) ∧ m = (xss.getD j []).length ∧ ISL lo hi A' (xss.getD j []) w) : SSL lo hi A xss w := by
  intro hn
  rcases h1.1.2 with ⟨_, hz⟩ | ⟨g, cap, cur, hv, _⟩
  · omega
  · have hg := h1.2 g (by rw [hv]; rfl)
    have hl := (h1.1.lt g (by rw [hv]; rfl)).1
    simp only [Value.slice.injEq] at hv
    obtain ⟨rfl, _, rfl⟩ := hv
    have hvl : us.length = n := by have := h1.1.1; omega
    refine ⟨g, 0, rfl, hl, hg, fun j hj => ?_⟩
    obtain ⟨A', m, c', e1, e2, e3⟩ := h2 j (by omega)
    refine ⟨A', m, c', ?_, e2, e3⟩
    rw [Nat.zero_add, h1.1.cellAt _ (by omega)]; exact e1
theorem ISL.is {lo hi : Nat} {A : Option Addr} {xs : List Int} {w : World} (h : ISL lo hi A xs w) : IS w hi A xs := by
  intro hn
  obtain ⟨b, off, e, _, h2, hc⟩ := h hn
  exact ⟨b, off, e, h2, hc⟩
theorem ESL.es {lo hi : Nat} {A E : Option Addr} {st : Eg} {w : World} (h : ESL lo hi A E st w) : ES w hi A E st := by
  refine ⟨h.1.is, fun hn => ?_⟩
  obtain ⟨b, off, e, _, h2, hc⟩ := h.2 hn
  refine ⟨b, off, e, h2, fun j hj => ?_⟩
  obtain ⟨A', n, c, e1, e2, e3⟩ := hc j hj
  exact ⟨A', n, c, e1, e2, e3.is⟩
theorem ISL.mono {lo hi lo' hi' : Nat} {A : Option Addr} {xs : List Int} {w : World} (h : ISL lo hi A xs w) (h1 : lo' ≤ lo) (h2 : hi ≤ hi') : ISL lo' hi' A xs w := by
  intro hn
  obtain ⟨b, off, e, e1, e2, hc⟩ := h hn
  exact ⟨b, off, e, by omega, by omega, hc⟩
theorem SSL.mono {lo hi lo' hi' : Nat} {A : Option Addr} {xss : List (List Int)} {w : World} (h : SSL lo hi A xss w) (h1 : lo' ≤ lo) (h2 : hi ≤ hi') : SSL lo' hi' A xss w := by
  intro hn
  obtain ⟨b, off, e, e1, e2, hc⟩ := h hn
  refine ⟨b, off, e, by omega, by omega, fun j hj => ?_⟩
  obtain ⟨A', n, c, k1, k2, k3⟩ := hc j hj
  exact ⟨A', n, c, k1, k2, k3.mono h1 h2⟩
theorem ESL.mono {lo hi lo' hi' : Nat} {A E : Option Addr} {st : Eg} {w : World} (h : ESL lo hi A E st w) (h1 : lo' ≤ lo) (h2 : hi ≤ hi') : ESL lo' hi' A E st w := ⟨h.1.mono h1 h2, h.2.mono h1 h2⟩

section
variable {lo hi n c en ec : Nat} {A E : Option Addr} {st : Eg} {w : World}
theorem OwE.inner (h : OwE lo hi A n c E en ec st w) : ∃ us, us.length = en ∧ OwR lo hi 26 1 (.slice E en ec) en us w ∧ (∀ j, j < en → ∃ A' m d, us[j]? = some (.slice A' m d) ∧ m = (st.rs.getD j []).length ∧ OwR lo hi 3 1 (.slice A' m d) m ((st.rs.getD j []).map (Value.int .i64)) w) ∧
    ∀ (j : Nat) (u : Value) (k : Nat), us[j]? = some u → (Value.slice A n c).ownBlock = some k → u.ownBlock ≠ some k := by
  obtain ⟨h0, h0', us, e1, e2⟩ := h
  have hul : us.length = en := by have := e1.1.1; omega
  refine ⟨us, hul, e1, fun j hj => ?_, fun j u k hu hk => ?_⟩
  · obtain ⟨A', m, d, r1, r2, r3⟩ := e2.tail.row j (by omega)
    exact ⟨A', m, d, r1, r2, r3⟩
  · exact e2.apart 0 (j + 1) _ u k (by omega) (by simp) (by simpa using hu) hk
theorem OwE.esl (h : OwE lo hi A n c E en ec st w) : ESL lo hi A E st w := by
  obtain ⟨us, hul, e1, e2, _⟩ := h.inner
  exact ⟨ISL.of_row h.row0, SSL.of_rows h.2.1 e1 fun j hj => by obtain ⟨A', m, d, r1, r2, r3⟩ := e2 j hj; exact ⟨A', m, d, r1, r2, ISL.of_row r3⟩⟩

theorem OwE.setVal {go k : Nat} (h : OwE lo hi (some ⟨go, 0, none⟩) n c E en ec st w) (z : Int) : ESL lo hi (some ⟨go, 0, none⟩) E ⟨st.vs.set k z, st.rs⟩ (w.setCell ⟨go, k, none⟩ (.int .i64 z)) := by
  obtain ⟨us, hul, e1, e2, e3⟩ := h.inner
  have hr := h.row0
  have hst := hr.1.stored k (.int .i64 z)
  refine ⟨ISL.of_row (n := n) (c := c) ⟨by have := hst.1; rwa [← List.map_set] at this, hr.2⟩, SSL.of_rows h.2.1 ⟨e1.1.kept hst.2 (blocks_ne e1.1 hr.1 ints_ne_int.symm), e1.2⟩ fun j hj => ?_⟩
  obtain ⟨A', m, d, r1, r2, r3⟩ := e2 j hj
  refine ⟨A', m, d, r1, r2, ISL.of_row ⟨r3.1.kept hst.2 ?_, r3.2⟩⟩
  cases hb : (Value.slice A' m d).ownBlock with
  | none => exact .inl rfl
  | some q => exact .inr fun e => e3 j _ q r1 e.symm hb

theorem OwE.setRow {go k hi' : Nat} {A5 : Option Addr} {m5 c5 : Nat} {ys : List Int} (h : OwE lo hi A n c (some ⟨go, 0, none⟩) en ec st w) (hk : k < en) (hm : m5 = ys.length) (hp : ISL lo hi' A5 ys (w.setCell ⟨go, k, none⟩ (.slice A5 m5 c5))) (hle : hi ≤ hi') :
    ESL lo hi' A (some ⟨go, 0, none⟩) ⟨st.vs, st.rs.set k ys⟩ (w.setCell ⟨go, k, none⟩ (.slice A5 m5 c5)) := by
  obtain ⟨us, hul, e1, e2, _⟩ := h.inner
  have hr := h.row0
  have hst := e1.1.stored k (.slice A5 m5 c5)
  have hrl : en = st.rs.length := h.2.1
  refine ⟨(ISL.of_row (n := n) (c := c) ⟨hr.1.kept hst.2 (blocks_ne hr.1 e1.1 ints_ne_int), hr.2⟩).mono (Nat.le_refl _) hle, SSL.of_rows (n := en) (c := ec) (us := us.set k (.slice A5 m5 c5)) (by simp [hrl]) ⟨hst.1, fun q hq => by have := e1.2 q hq; omega⟩ fun j hj => ?_⟩
  by_cases e : k = j
  · subst e
    have hg : (st.rs.set k ys).getD k [] = ys := by simp [List.getD, List.getElem?_set, show k < st.rs.length by omega]
    rw [hg]
    exact ⟨A5, m5, c5, by rw [List.getElem?_set, if_pos rfl, if_pos (by omega)], hm, hp⟩
  · have hg : (st.rs.set k ys).getD j [] = st.rs.getD j [] := by simp [List.getD, List.getElem?_set, e]
    obtain ⟨A', m, d, r1, r2, r3⟩ := e2 j hj
    rw [hg]
    exact ⟨A', m, d, by rw [List.getElem?_set, if_neg e]; exact r1, r2, (ISL.of_row ⟨r3.1.kept hst.2 (blocks_ne r3.1 e1.1 ints_ne_int), r3.2⟩).mono (Nat.le_refl _) hle⟩
end

theorem SSL.drop1 {lo hi b : Nat} {xss : List (List Int)} {w : World} (h : SSL lo hi (some ⟨b, 0, none⟩) xss w) : SSL lo hi (some ⟨b, 1, none⟩) (xss.drop 1) w := by
  intro hn
  simp only [List.length_drop] at hn
  obtain ⟨b', o', e, h1, h2, hc⟩ := h (by omega)
  cases e
  refine ⟨b, 1, rfl, h1, h2, fun j hj => ?_⟩
  simp only [List.length_drop] at hj
  obtain ⟨A', n, c, e1, e2, e3⟩ := hc (1 + j) (by omega)
  have hg : (xss.drop 1).getD j [] = xss.getD (1 + j) [] := by simp [List.getD, Nat.add_comm]
  rw [hg]
  rw [Nat.zero_add] at e1
  exact ⟨A', n, c, e1, e2, e3⟩

/-- A state without many or long rows. -/
def EM (st : Eg) : Prop := st.vs.length ≤ 11 ∧ st.rs.length ≤ 10 ∧ ∀ j, (st.rs.getD j []).length ≤ 10
theorem sum_small (xss : List (List Int)) (h : ∀ j, (xss.getD j []).length ≤ 10) : (xss.map List.length).sum ≤ xss.length * 10 := by
  induction xss with
  | nil => simp
  | cons x l ih =>
    have h0 := h 0
    have h1 := ih fun j => by have := h (j + 1); simpa using this
    simp at h0 ⊢
    omega
theorem EM.eb {st : Eg} (h : EM st) : EB st := by
  obtain ⟨h1, h2, h3⟩ := h
  have h4 := sum_small st.rs h3
  exact EB.of_small _ (by omega) ⟨by omega, fun j => by have := h3 j; omega⟩ (by omega)
theorem EM.val {st : Eg} (h : EM st) (k : Nat) (z : Int) : EM ⟨st.vs.set k z, st.rs⟩ := ⟨by simpa using h.1, h.2⟩
theorem EM.row {st : Eg} (h : EM st) (k : Nat) : EM ⟨st.vs, st.rs.set k [0]⟩ := by
  refine ⟨h.1, by simpa using h.2.1, fun j => ?_⟩
  by_cases e : k = j
  · subst e
    by_cases hl : k < st.rs.length
    · simp [List.getD, List.getElem?_set, hl]
    · rw [show (st.rs.set k [0]) = st.rs from List.set_eq_of_length_le (by omega)]; exact h.2.2 k
  · have hg : (st.rs.set k [0]).getD j [] = st.rs.getD j [] := by simp [List.getD, List.getElem?_set, e]
    show ((st.rs.set k [0]).getD j []).length ≤ 10
    rw [hg]; exact h.2.2 j
theorem EM.drop {st : Eg} (h : EM st) : EM ⟨st.vs, st.rs.drop 1⟩ := by
  refine ⟨h.1, by have := h.2.1; simp; omega, fun j => ?_⟩
  have hg : (st.rs.drop 1).getD j [] = st.rs.getD (1 + j) [] := by simp [List.getD, Nat.add_comm]
  show ((st.rs.drop 1).getD j []).length ≤ 10
  rw [hg]; exact h.2.2 (1 + j)
theorem EM.start (gs : List Nd) (xs : List Int) (h : okC gs xs = true) : EM ⟨mean gs xs, depTo gs (mean gs xs) gs.length⟩ := by
  have hg := (okC_parts gs xs h).1
  have h10 := (validG_parts gs hg).1
  have hml := mean_len gs xs
  refine ⟨by show (mean gs xs).length ≤ 11; omega, by show (depTo gs (mean gs xs) gs.length).length ≤ 10; rw [depTo_len]; exact h10, fun j => ?_⟩
  show ((depTo gs (mean gs xs) gs.length).getD j []).length ≤ 10
  by_cases hj : j < gs.length
  · have : (depTo gs (mean gs xs) gs.length).getD j [] = depF gs (mean gs xs) j := by unfold depTo; simp [List.getD, hj]
    rw [this]
    exact eager_depF_bd gs (mean gs xs) hg hml j hj
  · have : (depTo gs (mean gs xs) gs.length)[j]? = none := List.getElem?_eq_none (by rw [depTo_len]; omega)
    simp [List.getD, this]
end Go.Proofs.Ytgclikdienlhdaa

/- The drawing of eager states: eagerOf. -/
namespace Go.Proofs.Ytgclikdienlhdaa
set_option linter.unusedSimpArgs false
set_option linter.unusedVariables false
open Go.RowKit

/-- The two boxes of an answer, as they are made. -/
def AB (s : Nat) (w : World) : Prop := w.cell? ⟨s, 0, none⟩ = some (.slice none 0 0) ∧ w.frozen? ⟨s, 0, none⟩ = false ∧ w.cell? ⟨s + 1, 0, none⟩ = some (.slice none 0 0) ∧ w.cell? ⟨s + 1, 1, none⟩ = some (.slice none 0 0) ∧ w.frozen? ⟨s + 1, 0, none⟩ = false ∧ w.frozen? ⟨s + 1, 1, none⟩ = false
theorem AB.loc (s : Nat) : Loc s (s + 2) (AB s) := by
  rintro w w' ⟨h0, h1, h2, h3, h4, h5⟩ hk
  have c (b j : Nat) (h1 : s ≤ b) (h2 : b < s + 2) : w'.cell? ⟨b, j, none⟩ = w.cell? ⟨b, j, none⟩ := World.cell?_of_block (a := ⟨b, j, none⟩) (hk b h1 h2)
  have f (b j : Nat) (h1 : s ≤ b) (h2 : b < s + 2) : w'.frozen? ⟨b, j, none⟩ = w.frozen? ⟨b, j, none⟩ := World.frozen?_of_block (a := ⟨b, j, none⟩) (hk b h1 h2)
  exact ⟨(c s 0 (by omega) (by omega)).trans h0, (f s 0 (by omega) (by omega)).trans h1, (c (s + 1) 0 (by omega) (by omega)).trans h2, (c (s + 1) 1 (by omega) (by omega)).trans h3, (f (s + 1) 0 (by omega) (by omega)).trans h4, (f (s + 1) 1 (by omega) (by omega)).trans h5⟩
/-- The answer is laid into its boxes. -/
def AS (s : Nat) (x a b : Value) (w : World) : World := ((w.setCell ⟨s, 0, none⟩ x).setCell ⟨s + 1, 0, none⟩ a).setCell ⟨s + 1, 1, none⟩ b
theorem AS.size (s : Nat) (x a b : Value) (w : World) : (AS s x a b w).heap.size = w.heap.size := by simp [AS, World.setCell]
theorem AS.block (s : Nat) (x a b : Value) (w : World) (k : Nat) (hk : s + 2 ≤ k ∨ k < s) : (AS s x a b w).heap[k]? = w.heap[k]? := by
  unfold AS
  rw [Below.heap_setCell _ _ _ _ (by show k ≠ s + 1; omega), Below.heap_setCell _ _ _ _ (by show k ≠ s + 1; omega), Below.heap_setCell _ _ _ _ (by show k ≠ s; omega)]
theorem AS.cells {s : Nat} {x a b : Value} {w : World} (h : AB s w) : (AS s x a b w).cell? ⟨s, 0, none⟩ = some x ∧ (AS s x a b w).cell? ⟨s + 1, 0, none⟩ = some a ∧ (AS s x a b w).cell? ⟨s + 1, 1, none⟩ = some b := by
  obtain ⟨h0, h1, h2, h3, h4, h5⟩ := h
  unfold AS
  refine ⟨?_, ?_, ?_⟩
  · rw [World.cell?_setCell_other _ _ _ _ (by intro e; simp at e), World.cell?_setCell_other _ _ _ _ (by intro e; simp at e)]
    exact World.cell?_setCell_same _ _ _ h0
  · rw [World.cell?_setCell_other _ _ _ _ (by intro e; cases e)]
    exact World.cell?_setCell_same _ _ _ ((World.cell?_setCell_other _ _ _ _ (by intro e; simp at e)).trans h2)
  · exact World.cell?_setCell_same _ _ _ ((World.cell?_setCell_other _ _ _ _ (by intro e; cases e)).trans ((World.cell?_setCell_other _ _ _ _ (by intro e; simp at e)).trans h3))
theorem AS.below (s : Nat) (x a b : Value) (w : World) : Below s w (AS s x a b w) := (((Below.refl s w).setCell (p := ⟨s, 0, none⟩) (Nat.le_refl _) x).setCell (p := ⟨s + 1, 0, none⟩) (Nat.le_succ _) a).setCell (p := ⟨s + 1, 1, none⟩) (Nat.le_succ _) b
theorem AS.rdr {g s n c P : Nat} {A : Option Addr} {bs : List Int} {x a b : Value} {w : World} (h : Rdr g A n c bs P w) (hg : g < s) : Rdr g A n c bs P (AS s x a b w) := ((h.set1 hg 0 x).set1 (show g < s + 1 by omega) 0 a).set1 (show g < s + 1 by omega) 1 b

/-- Returns a graph and an eager state in fresh blocks. -/
def EgP (g : Nat) (A : Option Addr) (n c : Nat) (bs : List Int) (Q : Nat) (w : World) (e : Ending) (w' : World) : Prop :=
  ∃ (V : Value) (k : Nat) (gs : List Nd) (A2 : Option Addr) (m2 c2 : Nat) (E2 : Option Addr) (p2 e2 : Nat) (st : Eg), e = .returned (.tuple #[.agg #[V], .agg #[.slice A2 m2 c2, .slice E2 p2 e2]]) ∧ 2 ≤ k ∧ k ≤ 10 ∧ (∀ j, (gs.getD j default).ps.length ≤ 40) ∧ m2 = st.vs.length ∧ p2 = st.rs.length ∧ EM st ∧ OwG w.heap.size w'.heap.size V k gs w' ∧ ESL w.heap.size w'.heap.size A2 E2 st w' ∧ Rdr g A n c bs Q w' ∧ Tch g (g + 1) w w'

theorem EgP.fin0 {g : Nat} {A : Option Addr} {n c : Nat} {bs : List Int} {Q hi : Nat} {w X Y : World} {V : Value} {k : Nat} {gs : List Nd} {A2 : Option Addr} {m2 c2 : Nat} {E2 : Option Addr} {p2 e2 : Nat} {st : Eg} (h2 : 2 ≤ k) (h10 : k ≤ 10) (hsm : ∀ j, (gs.getD j default).ps.length ≤ 40) (hm : m2 = st.vs.length) (hp : p2 = st.rs.length) (hem : EM st)
    (hO : OwG (w.heap.size + 2) hi V k gs X) (hE : ESL (w.heap.size + 2) hi A2 E2 st X) (hhi : hi ≤ X.heap.size) (hF : Frd g w.heap.size w X)
    (hY : Below w.heap.size X Y) (hk : ∀ b, w.heap.size + 2 ≤ b → Y.heap[b]? = X.heap[b]?) (hs : Y.heap.size = X.heap.size) (hR : Rdr g A n c bs Q Y) :
    EgP g A n c bs Q w (.returned (.tuple #[.agg #[V], .agg #[.slice A2 m2 c2, .slice E2 p2 e2]])) Y :=
  ⟨V, k, gs, A2, m2, c2, E2, p2, e2, st, rfl, h2, h10, hsm, hm, hp, hem, by rw [hs]; exact (OwG.loc _ _ _ _ _ _ _ hO fun b x _ => hk b x).mono (by omega) hhi, by rw [hs]; exact (ESL.loc _ _ _ _ _ _ _ hE fun b x _ => hk b x).mono (by omega) hhi, hR, (hF.trans (Frd.of_below hY (Nat.le_refl _))).tch⟩
theorem EgP.fin {g : Nat} {A : Option Addr} {n c : Nat} {bs : List Int} {Q hi : Nat} {w X : World} {V : Value} {k : Nat} {gs : List Nd} {A2 : Option Addr} {m2 c2 : Nat} {E2 : Option Addr} {p2 e2 : Nat} {st : Eg} (hg : g < w.heap.size) (h2 : 2 ≤ k) (h10 : k ≤ 10) (hsm : ∀ j, (gs.getD j default).ps.length ≤ 40) (hm : m2 = st.vs.length) (hp : p2 = st.rs.length) (hem : EM st)
    (hO : OwG (w.heap.size + 2) hi V k gs X) (hE : ESL (w.heap.size + 2) hi A2 E2 st X) (hhi : hi ≤ X.heap.size) (hR : Rdr g A n c bs Q X) (hF : Frd g w.heap.size w X) :
    EgP g A n c bs Q w (.returned (.tuple #[.agg #[V], .agg #[.slice A2 m2 c2, .slice E2 p2 e2]])) (AS w.heap.size V (.slice A2 m2 c2) (.slice E2 p2 e2) X) :=
  EgP.fin0 h2 h10 hsm hm hp hem hO hE hhi hF (AS.below _ _ _ _ X) (fun b x => AS.block _ _ _ _ _ b (.inl x)) (AS.size _ _ _ _ _) (AS.rdr hR hg)
theorem EgP.drew {g : Nat} {A : Option Addr} {n c : Nat} {bs : List Int} {Q : Nat} {w w' : World} {e : Ending} (h : EgP g A n c bs Q w e w') : EgP g A n c bs Q w e w'.drew := by
  obtain ⟨V, k, gs, A2, m2, c2, E2, p2, e2, st, he, h2, h10, hsm, hm, hp, hem, hO, hE, hR, hT⟩ := h
  exact ⟨V, k, gs, A2, m2, c2, E2, p2, e2, st, he, h2, h10, hsm, hm, hp, hem, OwG.loc _ _ _ _ _ _ _ hO fun _ _ _ => rfl, ESL.loc _ _ _ _ _ _ _ hE fun _ _ _ => rfl, hR.drew, hT.drew⟩
theorem nil_rows (lo hi k : Nat) (E : Option Addr) (c : Nat) (w : World) (h : OwR lo hi 26 1 (.slice E k c) k (List.replicate k (.slice none 0 0)) w) : SSL lo hi E (List.replicate k []) w :=
  SSL.of_rows (by simp) h fun j hj => ⟨none, 0, 0, by simp [hj], by simp [List.getD, hj], fun hn => by simp [List.getD, hj] at hn⟩
theorem EM.none (xs : List Int) (k : Nat) (h1 : xs.length ≤ 11) (h2 : k ≤ 10) : EM ⟨xs, List.replicate k []⟩ := by
  refine ⟨h1, by simpa using h2, fun j => ?_⟩
  show ((List.replicate k ([] : List Int)).getD j []).length ≤ 10
  by_cases hj : j < k
  · simp [List.getD, hj]
  · simp [List.getD, hj]

set_option maxRecDepth 100000 in
set_option maxHeartbeats 12800000 in
theorem eagerOf_any (g : Nat) (A : Option Addr) (n c : Nat) (bs : List Int) (P : Nat) (w : World) (h : Rdr g A n c bs P w) (hn : n = bs.length) (hby : BY bs) (hs : n ≤ 2000) (hP : P ≤ 600000) :
    Calls Try.prog 44 #[.pointer (some ⟨g, 0, none⟩)] w fun e w' => EgP g A n c bs (P + 2700) w e w' := by
  obtain ⟨i1, hi1, hy0, hy1, hy2⟩ := info_parts info_ints1
  have hgw := h.lt
  have HN := Lib.hid hn
  have HR0 := Lib.hid ((h.alloc (.cells #[.slice none 0 0] 25)).alloc (.cells #[.slice none 0 0, .slice none 0 0] 31))
  have HB0 : Hid (As w.heap.size (w.heap.size + 2) (AB w.heap.size) ((w.alloc (.cells #[.slice none 0 0] 25)).alloc (.cells #[.slice none 0 0, .slice none 0 0] 31))) := ⟨⟨by go_simp, by go_simp, by go_simp, by go_simp, by go_simp, by go_simp⟩, by simp, AB.loc _⟩
  have HF0 := Lib.hid (Frd.of_below (g := g) (s := w.heap.size) (((Below.refl w.heap.size w).alloc (Nat.le_refl _) (.cells #[.slice none 0 0] 25)).alloc (by simp) (.cells #[.slice none 0 0, .slice none 0 0] 31)) (Nat.le_refl _))
  clear h hn
  go_enter Try.func44, Try.ntmps44
  go_wp2_with fail
  refine (graphOf_any g A n c bs P _ HR0.out HN.out hby hs (by omega)).mono ?_
  rintro e w1 ⟨V, k, gs, vI, xs, rfl, hk2, hk10, hsm, hx1, hx2, hown, hownI, hr1, ht1⟩
  have hs1 : w.heap.size + 2 ≤ w1.heap.size := by have := ht1.size; simpa using this
  obtain ⟨gn, cg, rfl⟩ := hown.pos (by omega)
  obtain ⟨E5, c5, rfl, _⟩ := OwnI.form hownI
  unfold OwnI at hownI
  simp only [World.size_alloc] at hown hownI
  obtain ⟨bG, hbG⟩ : ∃ bG, bG = w1.heap.size := ⟨_, rfl⟩
  have HBG := Lib.hid hbG
  have hkl := hown.1
  have HKL := Lib.hid hkl
  have HO1 : Hid (As (w.heap.size + 2) bG (OwG (w.heap.size + 2) bG (.slice (some ⟨gn, 0, none⟩) k cg) k gs) w1) := by rw [hbG]; exact graph_start hown
  have HC1 : Hid (As (w.heap.size + 2) bG (OwR (w.heap.size + 2) bG 3 1 (.slice E5 xs.length c5) xs.length (xs.map (Value.int .i64))) w1) := by rw [hbG]; exact row_start hownI
  have HF2 := Lib.hid ((HF0.out.trans (Frd.of_tch ht1 (by simp; omega))).trans (Frd.of_below (w' := w1.alloc (.cells #[.slice (some ⟨gn, 0, none⟩) k cg] 25)) ((Below.refl w1.heap.size w1).alloc (Nat.le_refl _) _) (by omega)))
  have HR2 := Lib.hid (hr1.alloc (.cells #[.slice (some ⟨gn, 0, none⟩) k cg] 25))
  have HO2 := Lib.hid (HO1.out.alloc (.cells #[.slice (some ⟨gn, 0, none⟩) k cg] 25))
  have HC2 := Lib.hid (HC1.out.alloc (.cells #[.slice (some ⟨gn, 0, none⟩) k cg] 25))
  have HB2 := Lib.hid ((HB0.out.turn ht1 (.inl (by omega))).alloc (.cells #[.slice (some ⟨gn, 0, none⟩) k cg] 25))
  have HG2 := box_new w1 (.slice (some ⟨gn, 0, none⟩) k cg) 25
  rw [← hbG] at HG2
  have HG2 := Lib.hid HG2
  have hz2 : bG < (w1.alloc (.cells #[.slice (some ⟨gn, 0, none⟩) k cg] 25)).heap.size := by rw [hbG]; simp
  have hsG : w.heap.size + 2 ≤ bG := by omega
  have hgG : g < bG := by omega
  clear HB0 HO1 HC1 HF0 HR0 hown hownI hr1 ht1 hbG hkl
  have hGB : GB gs := GB.of_drawn (by have := HKL.out; omega) hsm
  have HVG := Lib.hid fun (w' : World) (B : Nat) (hB : B ≤ w'.heap.size) (h : GS w' B (some ⟨gn, 0, none⟩) gs) => spec_validGraph (some ⟨gn, 0, none⟩) k cg gs w' B hB HKL.out h hGB
  have HVC := Lib.hid fun (w' : World) (B : Nat) (hB : B ≤ w'.heap.size) (h : GS w' B (some ⟨gn, 0, none⟩) gs) (h' : IS w' B E5 xs) => spec_validCells (some ⟨gn, 0, none⟩) E5 k cg xs.length c5 gs xs w' B hB HKL.out rfl h h' (by omega) (by omega)
  have HOK := Lib.hid fun (h1 : validG gs = true) (h2 : validC gs xs = true) => show okC gs xs = true from by unfold okC; rw [h1, h2]; rfl
  have HSE := Lib.hid fun (h1 : okC gs xs = true) (w' : World) (B : Nat) (hB : B ≤ w'.heap.size) (h : GS w' B (some ⟨gn, 0, none⟩) gs) (h' : IS w' B E5 xs) => spec_startEager (some ⟨gn, 0, none⟩) E5 k cg xs.length c5 gs xs w' B hB HKL.out rfl h h' h1
  have HEM := Lib.hid fun (h1 : okC gs xs = true) => EM.start gs xs h1
  generalize validG gs = vg at *
  generalize validC gs xs = vc at *
  generalize okC gs xs = ok at *
  have q2 := HG2.out.it
  go_wp2_with fail
  rw [← HBG.out]
  generalize w1.alloc (.cells #[.slice (some ⟨gn, 0, none⟩) k cg] 25) = W2 at *
  refine (HVG.out W2 bG (by omega) HO2.out.it.nodes).mono ?_
  rintro e w3 ⟨rfl, hb3⟩
  have hz3 := hb3.size
  have HR3 := Lib.hid (HR2.out.step hb3)
  have HO3 := Lib.hid (HO2.out.step hb3)
  have HC3 := Lib.hid (HC2.out.step hb3)
  have HB3 := Lib.hid (HB2.out.step hb3)
  have HG3 := Lib.hid (HG2.out.step hb3)
  have HF3 := Lib.hid (HF2.out.trans (Frd.of_below hb3 (by omega)))
  clear hb3 HR2 HO2 HC2 HB2 HG2 HF2 q2
  have q3 := HG3.out.it
  cases vg
  · skip
    obtain ⟨r0, r1, r2, r3, r4, r5⟩ := HB3.out.it
    have hlB := HB3.out.le
    have hlO := HO3.out.le
    have RB := Lib.hid HB3.out.it
    have hzz : (w3.setCell ⟨w.heap.size, 0, none⟩ (.slice (some ⟨gn, 0, none⟩) k cg)).heap.size = w3.heap.size := by simp [World.setCell]
    obtain ⟨w6, hmk, hown6, hgr6⟩ := run_make_full (P := Try.prog) w3.drew w3.heap.size 29 26 i1 _ 1 Try.underlying29 hi1 hy0 hy1 .i64 .i64 k (by rw [hy2]; omega) (by unfold maxLen; omega) (Nat.le_refl _)
    obtain ⟨w7, hmk7, hown7, hgr7⟩ := run_make_full (P := Try.prog) (w3.setCell ⟨w.heap.size, 0, none⟩ (.slice (some ⟨gn, 0, none⟩) k cg)).drew w3.heap.size 29 26 i1 _ 1 Try.underlying29 hi1 hy0 hy1 .i64 .i64 k (by rw [hy2]; omega) (by unfold maxLen; omega) (Nat.le_of_eq hzz.symm)
    have erep : (madeCells (Value.slice none 0 0).cells (k * 1)).toList = List.replicate k (.slice none 0 0) := by simp [Value.cells, toList_madeCells_one]
    rw [erep] at hown6 hown7
    rw [show ((w3.setCell ⟨w.heap.size, 0, none⟩ (.slice (some ⟨gn, 0, none⟩) k cg)).drew).heap.size = w3.heap.size from hzz] at hown7
    have hb6 : Below w3.heap.size w3 w6 := ⟨hgr6.os, hgr6.tape, hgr6.output, hgr6.size, fun k hk => hgr6.block k hk (by simp)⟩
    have hb7 : Below w3.heap.size (w3.setCell ⟨w.heap.size, 0, none⟩ (.slice (some ⟨gn, 0, none⟩) k cg)) w7 := ⟨hgr7.os, hgr7.tape, hgr7.output, hgr7.size, fun k hk => hgr7.block k (by show k < (w3.setCell _ _).heap.size; omega) (by simp)⟩
    have HOW6 := Lib.hid (OwR.start hown6)
    have HOW7 := Lib.hid (OwR.start hown7)
    have HB6 := Lib.hid hb6
    have HB7 := Lib.hid hb7
    have hs6 : w3.heap.size ≤ w6.heap.size := hb6.size
    have hs7 : w3.heap.size ≤ w7.heap.size := by have := hb7.size; omega
    clear erep hown6 hown7 hgr6 hgr7
    have p6 := (hb6.cell (p := ⟨bG, 0, none⟩) (by show bG < w3.heap.size; omega)).trans q3
    have pS : (w3.setCell ⟨w.heap.size, 0, none⟩ (.slice (some ⟨gn, 0, none⟩) k cg)).cell? ⟨bG, 0, none⟩ = some (.slice (some ⟨gn, 0, none⟩) k cg) := (World.cell?_setCell_other _ _ _ _ (by intro e; have := congrArg Addr.block e; simp at this; omega)).trans q3
    have p7 := (hb7.cell (p := ⟨bG, 0, none⟩) (by show bG < w3.heap.size; omega)).trans pS
    have c6 (b j : Nat) (hb : b < w3.heap.size) : w6.cell? ⟨b, j, none⟩ = w3.cell? ⟨b, j, none⟩ := hb6.cell (p := ⟨b, j, none⟩) hb
    have f6 (b j : Nat) (hb : b < w3.heap.size) : w6.frozen? ⟨b, j, none⟩ = w3.frozen? ⟨b, j, none⟩ := hb6.frozen (p := ⟨b, j, none⟩) hb
    have c7 (b j : Nat) (hb : b < w3.heap.size) (hb' : b ≠ w.heap.size) : w7.cell? ⟨b, j, none⟩ = w3.cell? ⟨b, j, none⟩ := (hb7.cell (p := ⟨b, j, none⟩) hb).trans (World.cell?_setCell_other _ _ _ _ (by intro e; have := congrArg Addr.block e; simp at this; omega))
    have f7 (b j : Nat) (hb : b < w3.heap.size) : w7.frozen? ⟨b, j, none⟩ = w3.frozen? ⟨b, j, none⟩ := (hb7.frozen (p := ⟨b, j, none⟩) hb).trans (World.frozen?_setCell _ _ _ _)
    have a0 := (c6 w.heap.size 0 (by omega)).trans r0
    have a1 := (f6 w.heap.size 0 (by omega)).trans r1
    have a2 := (c6 (w.heap.size + 1) 0 (by omega)).trans r2
    have a3 := (c6 (w.heap.size + 1) 1 (by omega)).trans r3
    have a4 := (f6 (w.heap.size + 1) 0 (by omega)).trans r4
    have a5 := (f6 (w.heap.size + 1) 1 (by omega)).trans r5
    have b0 : w7.cell? ⟨w.heap.size, 0, none⟩ = some (.slice (some ⟨gn, 0, none⟩) k cg) := (hb7.cell (p := ⟨w.heap.size, 0, none⟩) (by show w.heap.size < w3.heap.size; omega)).trans (World.cell?_setCell_same _ _ _ r0)
    have b2 := (c7 (w.heap.size + 1) 0 (by omega) (by omega)).trans r2
    have b3 := (c7 (w.heap.size + 1) 1 (by omega) (by omega)).trans r3
    have b4 := (f7 (w.heap.size + 1) 0 (by omega)).trans r4
    have b5 := (f7 (w.heap.size + 1) 1 (by omega)).trans r5
    clear c6 f6 c7 f7 hb6 hb7
    go_wp2
    refine wp_region_held_drew (S := fun w' => w'.cell? ⟨bG, 0, none⟩ = some (.slice (some ⟨gn, 0, none⟩) k cg)) (by kernel_rfl) q3 (fun hHeld => ?_)
    refine wpAnyH_take (i := 0) (oi := ⟨some 22, _, _, _, _, _⟩) (v := ?_) rfl (by kernel_rfl) (by kernel_rfl) (by kernel_rfl) (fun _ _ _ h => h) (Or.inl ⟨by rfl, ?_⟩) (by assumption) ?_; rotate_left; (focus (intro w hSw; (try dsimp only at hSw); go_simp; (try with_reducible rfl))); (try simp only [Act.put, List.setIfInBounds_toArray, List.set_cons_zero, List.set_cons_succ])
    refine wpAnyH_take (i := 1) (oi := ⟨some 23, _, _, _, _, _⟩) (v := ?_) rfl (by kernel_rfl) (by kernel_rfl) (by kernel_rfl) (fun _ _ _ h => h) (Or.inl ⟨by rfl, ?_⟩) (by assumption) ?_; rotate_left; (focus (intro w hSw; (try dsimp only at hSw); go_simp; (try with_reducible rfl))); (try simp only [Act.put, List.setIfInBounds_toArray, List.set_cons_zero, List.set_cons_succ])
    refine wpAnyH_take (i := 2) (oi := ⟨some 24, _, _, _, _, _⟩) (v := ?_) rfl (by kernel_rfl) (by kernel_rfl) (by kernel_rfl) (fun _ _ _ h => h) (Or.inl ⟨by rfl, ?_⟩) (by assumption) ?_; rotate_left; (focus (intro w hSw; (try dsimp only at hSw); go_simp; (try with_reducible rfl))); (try simp only [Act.put, List.setIfInBounds_toArray, List.set_cons_zero, List.set_cons_succ])
    refine wpAnyH_take (i := 3) (oi := ⟨some 25, _, _, _, _, _⟩) (v := ?_) rfl (by kernel_rfl) (by kernel_rfl) (by kernel_rfl) (fun _ _ _ h => h) (Or.inl ⟨by rfl, ?_⟩) (by assumption) ?_; rotate_left; (focus (intro w hSw; (try dsimp only at hSw); go_simp; (try with_reducible rfl))); (try simp only [Act.put, List.setIfInBounds_toArray, List.set_cons_zero, List.set_cons_succ])
    refine wpAnyH_take (i := 4) (oi := ⟨some 26, _, _, _, _, _⟩) (v := ?_) rfl (by kernel_rfl) (by kernel_rfl) (by kernel_rfl) (fun _ _ _ h => h) (Or.inl ⟨by rfl, ?_⟩) (by assumption) ?_; rotate_left; (focus (intro w hSw; (try dsimp only at hSw); go_simp; (try with_reducible rfl))); (try simp only [Act.put, List.setIfInBounds_toArray, List.set_cons_zero, List.set_cons_succ])
    refine wpAnyH_ready (rs := [5, 7]) (by kernel_rfl) (by simp) ?_; refine AllReadyH.cons (o := ⟨some 27, _, _, _, _, _⟩) rfl (fun K hK => ?_) (AllReadyH.cons (o := ⟨none, _, _, _, _, _⟩) rfl (fun K hK => ?_) AllReadyH.nil)
    · go_simp
      refine hK.out _ _ p6 (fun hHeld => ?_); clear hK K; (try simp only [Act.put, List.setIfInBounds_toArray, List.set_cons_zero, List.set_cons_succ])
      refine wpAnyH_take (i := 6) (oi := ⟨some 28, _, _, _, _, _⟩) (v := ?_) rfl (by kernel_rfl) (by kernel_rfl) (by kernel_rfl) (fun _ _ _ h => h) (Or.inl ⟨by rfl, ?_⟩) (by assumption) ?_; rotate_left; (focus (intro w hSw; (try dsimp only at hSw); go_simp; (try with_reducible rfl))); (try simp only [Act.put, List.setIfInBounds_toArray, List.set_cons_zero, List.set_cons_succ])
      refine wpAnyH_ready (rs := [7]) (by kernel_rfl) (by simp) ?_; refine AllReadyH.cons (o := ⟨none, _, _, _, _, _⟩) rfl (fun K hK => ?_) AllReadyH.nil; go_simp
      have p6s : (w6.setCell ⟨w.heap.size, 0, none⟩ (.slice (some ⟨gn, 0, none⟩) k cg)).cell? ⟨bG, 0, none⟩ = some (.slice (some ⟨gn, 0, none⟩) k cg) := (World.cell?_setCell_other _ _ _ _ (by intro e; have := congrArg Addr.block e; simp at this; omega)).trans p6
      refine hK.out _ _ p6s (fun hHeld => ?_); clear hK K; (try simp only [Act.put, List.setIfInBounds_toArray, List.set_cons_zero, List.set_cons_succ])
      refine wpAnyH_ready (rs := [8]) (by kernel_rfl) (by simp) ?_; refine AllReadyH.cons (o := ⟨none, _, _, _, _, _⟩) rfl (fun K hK => ?_) AllReadyH.nil; go_simp
      have p6t : (AS w.heap.size (.slice (some ⟨gn, 0, none⟩) k cg) (.slice E5 xs.length c5) (.slice (some ⟨w3.heap.size, 0, none⟩) k k) w6).cell? ⟨bG, 0, none⟩ = some (.slice (some ⟨gn, 0, none⟩) k cg) := (World.cell?_of_block (a := ⟨bG, 0, none⟩) (AS.block _ _ _ _ _ bG (.inl (by omega)))).trans p6
      unfold AS at p6t
      refine hK.out _ _ p6t (fun hHeld => ?_); clear hK K; (try simp only [Act.put, List.setIfInBounds_toArray, List.set_cons_zero, List.set_cons_succ])
      refine wpAnyH_done (by kernel_rfl) ?_ _
      obtain ⟨k0, k1, k2⟩ := AS.cells (x := (.slice (some ⟨gn, 0, none⟩) k cg)) (a := .slice E5 xs.length c5) (b := .slice (some ⟨w3.heap.size, 0, none⟩) k k) (show AB w.heap.size w6 from ⟨a0, a1, a2, a3, a4, a5⟩)
      unfold AS at k0 k1 k2
      go_wp2
      refine bodyPost_ret (v := .tuple #[.agg #[(.slice (some ⟨gn, 0, none⟩) k cg)], .agg #[.slice E5 xs.length c5, .slice (some ⟨w3.heap.size, 0, none⟩) k k]]) (by simp [results, Try.results44, go_sem, k0, k1, k2]) rfl ?_
      exact EgP.fin (hi := w6.heap.size) (X := w6) (st := ⟨xs, List.replicate k []⟩) hgw hk2 hk10 hsm rfl (by simp) (EM.none xs k (by omega) hk10) ((HO3.out.step HB6.out).it.mono (Nat.le_refl _) (by omega)) ⟨ISL.of_row ((HC3.out.step HB6.out).it.mono (Nat.le_refl _) (by omega)), nil_rows _ _ _ _ _ _ (HOW6.out.mono (by omega) (Nat.le_refl _))⟩ (Nat.le_refl _) ((HR3.out.step HB6.out).mono (by omega)) (HF3.out.trans (Frd.of_below HB6.out (by omega)))
    · go_simp
      refine hK.out _ _ pS (fun hHeld => ?_); clear hK K; (try simp only [Act.put, List.setIfInBounds_toArray, List.set_cons_zero, List.set_cons_succ])
      refine wpAnyH_ready (rs := [5]) (by kernel_rfl) (by simp) ?_; refine AllReadyH.cons (o := ⟨some 27, _, _, _, _, _⟩) rfl (fun K hK => ?_) AllReadyH.nil; go_simp
      refine hK.out _ _ p7 (fun hHeld => ?_); clear hK K; (try simp only [Act.put, List.setIfInBounds_toArray, List.set_cons_zero, List.set_cons_succ])
      refine wpAnyH_take (i := 6) (oi := ⟨some 28, _, _, _, _, _⟩) (v := ?_) rfl (by kernel_rfl) (by kernel_rfl) (by kernel_rfl) (fun _ _ _ h => h) (Or.inl ⟨by rfl, ?_⟩) (by assumption) ?_; rotate_left; (focus (intro w hSw; (try dsimp only at hSw); go_simp; (try with_reducible rfl))); (try simp only [Act.put, List.setIfInBounds_toArray, List.set_cons_zero, List.set_cons_succ])
      refine wpAnyH_ready (rs := [8]) (by kernel_rfl) (by simp) ?_; refine AllReadyH.cons (o := ⟨none, _, _, _, _, _⟩) rfl (fun K hK => ?_) AllReadyH.nil; go_simp
      have p7t : ((w7.setCell ⟨w.heap.size + 1, 0, none⟩ (.slice E5 xs.length c5)).setCell ⟨w.heap.size + 1, 1, none⟩ (.slice (some ⟨w3.heap.size, 0, none⟩) k k)).cell? ⟨bG, 0, none⟩ = some (.slice (some ⟨gn, 0, none⟩) k cg) := (World.cell?_setCell_other _ _ _ _ (by intro e; have := congrArg Addr.block e; simp at this; omega)).trans ((World.cell?_setCell_other _ _ _ _ (by intro e; have := congrArg Addr.block e; simp at this; omega)).trans p7)
      refine hK.out _ _ p7t (fun hHeld => ?_); clear hK K; (try simp only [Act.put, List.setIfInBounds_toArray, List.set_cons_zero, List.set_cons_succ])
      refine wpAnyH_done (by kernel_rfl) ?_ _
      have k0 : ((w7.setCell ⟨w.heap.size + 1, 0, none⟩ (.slice E5 xs.length c5)).setCell ⟨w.heap.size + 1, 1, none⟩ (.slice (some ⟨w3.heap.size, 0, none⟩) k k)).cell? ⟨w.heap.size, 0, none⟩ = some (.slice (some ⟨gn, 0, none⟩) k cg) := (World.cell?_setCell_other _ _ _ _ (by intro e; simp at e)).trans ((World.cell?_setCell_other _ _ _ _ (by intro e; simp at e)).trans b0)
      have k1 : ((w7.setCell ⟨w.heap.size + 1, 0, none⟩ (.slice E5 xs.length c5)).setCell ⟨w.heap.size + 1, 1, none⟩ (.slice (some ⟨w3.heap.size, 0, none⟩) k k)).cell? ⟨w.heap.size + 1, 0, none⟩ = some (.slice E5 xs.length c5) := (World.cell?_setCell_other _ _ _ _ (by intro e; cases e)).trans (World.cell?_setCell_same _ _ _ b2)
      have k2 : ((w7.setCell ⟨w.heap.size + 1, 0, none⟩ (.slice E5 xs.length c5)).setCell ⟨w.heap.size + 1, 1, none⟩ (.slice (some ⟨w3.heap.size, 0, none⟩) k k)).cell? ⟨w.heap.size + 1, 1, none⟩ = some (.slice (some ⟨w3.heap.size, 0, none⟩) k k) := World.cell?_setCell_same _ _ _ ((World.cell?_setCell_other _ _ _ _ (by intro e; cases e)).trans b3)
      go_wp2
      refine bodyPost_ret (v := .tuple #[.agg #[(.slice (some ⟨gn, 0, none⟩) k cg)], .agg #[.slice E5 xs.length c5, .slice (some ⟨w3.heap.size, 0, none⟩) k k]]) (by simp [results, Try.results44, go_sem, k0, k1, k2]) rfl ?_
      have hkeep := HO3.out.keep (w' := w7) (fun b x y => (HB7.out.block b (by omega)).trans (Below.heap_setCell _ _ _ _ (by show b ≠ w.heap.size; omega))) hs7
      have hkeepC := HC3.out.keep (w' := w7) (fun b x y => (HB7.out.block b (by omega)).trans (Below.heap_setCell _ _ _ _ (by show b ≠ w.heap.size; omega))) hs7
      have hR7 := (((HR3.out.set1 hgw 0 (.slice (some ⟨gn, 0, none⟩) k cg)).step (HB7.out.mono (by omega))).set1 (show g < w.heap.size + 1 by omega) 0 (.slice E5 xs.length c5)).set1 (show g < w.heap.size + 1 by omega) 1 (.slice (some ⟨w3.heap.size, 0, none⟩) k k)
      exact EgP.fin0 (hi := w7.heap.size) (X := w7) (st := ⟨xs, List.replicate k []⟩) hk2 hk10 hsm rfl (by simp) (EM.none xs k (by omega) hk10) (hkeep.it.mono (Nat.le_refl _) (by omega)) ⟨ISL.of_row (hkeepC.it.mono (Nat.le_refl _) (by omega)), nil_rows _ _ _ _ _ _ (HOW7.out.mono (by omega) (Nat.le_refl _))⟩ (Nat.le_refl _)
        ((HF3.out.trans (Frd.of_below ((Below.refl w.heap.size w3).setCell (p := ⟨w.heap.size, 0, none⟩) (Nat.le_refl _) (.slice (some ⟨gn, 0, none⟩) k cg)) (Nat.le_refl _))).trans (Frd.of_below HB7.out (by omega)))
        (((Below.refl w.heap.size w7).setCell (p := ⟨w.heap.size + 1, 0, none⟩) (Nat.le_succ _) _).setCell (p := ⟨w.heap.size + 1, 1, none⟩) (Nat.le_succ _) _) (fun b x => (Below.heap_setCell _ _ _ _ (by show b ≠ w.heap.size + 1; omega)).trans (Below.heap_setCell _ _ _ _ (by show b ≠ w.heap.size + 1; omega))) (by simp [World.setCell]) (hR7.mono (by omega))
  · go_wp2_with fail
    refine (HVC.out w3 bG (by omega) HO3.out.it.nodes HC3.out.it.ints).mono ?_
    rintro e w4 ⟨rfl, hb4⟩
    have hz4 := hb4.size
    have HR4 := Lib.hid (HR3.out.step hb4)
    have HO4 := Lib.hid (HO3.out.step hb4)
    have HC4 := Lib.hid (HC3.out.step hb4)
    have HB4 := Lib.hid (HB3.out.step hb4)
    have HG4 := Lib.hid (HG3.out.step hb4)
    have HF4 := Lib.hid (HF3.out.trans (Frd.of_below hb4 (by omega)))
    clear hb4 HR3 HO3 HC3 HB3 HG3 HF3 q3
    have q4 := HG4.out.it
    cases vc
    · skip
      obtain ⟨r0, r1, r2, r3, r4, r5⟩ := HB4.out.it
      have hlB := HB4.out.le
      have hlO := HO4.out.le
      have RB := Lib.hid HB4.out.it
      have hzz : (w4.setCell ⟨w.heap.size, 0, none⟩ (.slice (some ⟨gn, 0, none⟩) k cg)).heap.size = w4.heap.size := by simp [World.setCell]
      obtain ⟨w6, hmk, hown6, hgr6⟩ := run_make_full (P := Try.prog) w4.drew w4.heap.size 29 26 i1 _ 1 Try.underlying29 hi1 hy0 hy1 .i64 .i64 k (by rw [hy2]; omega) (by unfold maxLen; omega) (Nat.le_refl _)
      obtain ⟨w7, hmk7, hown7, hgr7⟩ := run_make_full (P := Try.prog) (w4.setCell ⟨w.heap.size, 0, none⟩ (.slice (some ⟨gn, 0, none⟩) k cg)).drew w4.heap.size 29 26 i1 _ 1 Try.underlying29 hi1 hy0 hy1 .i64 .i64 k (by rw [hy2]; omega) (by unfold maxLen; omega) (Nat.le_of_eq hzz.symm)
      have erep : (madeCells (Value.slice none 0 0).cells (k * 1)).toList = List.replicate k (.slice none 0 0) := by simp [Value.cells, toList_madeCells_one]
      rw [erep] at hown6 hown7
      rw [show ((w4.setCell ⟨w.heap.size, 0, none⟩ (.slice (some ⟨gn, 0, none⟩) k cg)).drew).heap.size = w4.heap.size from hzz] at hown7
      have hb6 : Below w4.heap.size w4 w6 := ⟨hgr6.os, hgr6.tape, hgr6.output, hgr6.size, fun k hk => hgr6.block k hk (by simp)⟩
      have hb7 : Below w4.heap.size (w4.setCell ⟨w.heap.size, 0, none⟩ (.slice (some ⟨gn, 0, none⟩) k cg)) w7 := ⟨hgr7.os, hgr7.tape, hgr7.output, hgr7.size, fun k hk => hgr7.block k (by show k < (w4.setCell _ _).heap.size; omega) (by simp)⟩
      have HOW6 := Lib.hid (OwR.start hown6)
      have HOW7 := Lib.hid (OwR.start hown7)
      have HB6 := Lib.hid hb6
      have HB7 := Lib.hid hb7
      have hs6 : w4.heap.size ≤ w6.heap.size := hb6.size
      have hs7 : w4.heap.size ≤ w7.heap.size := by have := hb7.size; omega
      clear erep hown6 hown7 hgr6 hgr7
      have p6 := (hb6.cell (p := ⟨bG, 0, none⟩) (by show bG < w4.heap.size; omega)).trans q4
      have pS : (w4.setCell ⟨w.heap.size, 0, none⟩ (.slice (some ⟨gn, 0, none⟩) k cg)).cell? ⟨bG, 0, none⟩ = some (.slice (some ⟨gn, 0, none⟩) k cg) := (World.cell?_setCell_other _ _ _ _ (by intro e; have := congrArg Addr.block e; simp at this; omega)).trans q4
      have p7 := (hb7.cell (p := ⟨bG, 0, none⟩) (by show bG < w4.heap.size; omega)).trans pS
      have c6 (b j : Nat) (hb : b < w4.heap.size) : w6.cell? ⟨b, j, none⟩ = w4.cell? ⟨b, j, none⟩ := hb6.cell (p := ⟨b, j, none⟩) hb
      have f6 (b j : Nat) (hb : b < w4.heap.size) : w6.frozen? ⟨b, j, none⟩ = w4.frozen? ⟨b, j, none⟩ := hb6.frozen (p := ⟨b, j, none⟩) hb
      have c7 (b j : Nat) (hb : b < w4.heap.size) (hb' : b ≠ w.heap.size) : w7.cell? ⟨b, j, none⟩ = w4.cell? ⟨b, j, none⟩ := (hb7.cell (p := ⟨b, j, none⟩) hb).trans (World.cell?_setCell_other _ _ _ _ (by intro e; have := congrArg Addr.block e; simp at this; omega))
      have f7 (b j : Nat) (hb : b < w4.heap.size) : w7.frozen? ⟨b, j, none⟩ = w4.frozen? ⟨b, j, none⟩ := (hb7.frozen (p := ⟨b, j, none⟩) hb).trans (World.frozen?_setCell _ _ _ _)
      have a0 := (c6 w.heap.size 0 (by omega)).trans r0
      have a1 := (f6 w.heap.size 0 (by omega)).trans r1
      have a2 := (c6 (w.heap.size + 1) 0 (by omega)).trans r2
      have a3 := (c6 (w.heap.size + 1) 1 (by omega)).trans r3
      have a4 := (f6 (w.heap.size + 1) 0 (by omega)).trans r4
      have a5 := (f6 (w.heap.size + 1) 1 (by omega)).trans r5
      have b0 : w7.cell? ⟨w.heap.size, 0, none⟩ = some (.slice (some ⟨gn, 0, none⟩) k cg) := (hb7.cell (p := ⟨w.heap.size, 0, none⟩) (by show w.heap.size < w4.heap.size; omega)).trans (World.cell?_setCell_same _ _ _ r0)
      have b2 := (c7 (w.heap.size + 1) 0 (by omega) (by omega)).trans r2
      have b3 := (c7 (w.heap.size + 1) 1 (by omega) (by omega)).trans r3
      have b4 := (f7 (w.heap.size + 1) 0 (by omega)).trans r4
      have b5 := (f7 (w.heap.size + 1) 1 (by omega)).trans r5
      clear c6 f6 c7 f7 hb6 hb7
      go_wp2
      refine wp_region_held_drew (S := fun w' => w'.cell? ⟨bG, 0, none⟩ = some (.slice (some ⟨gn, 0, none⟩) k cg)) (by kernel_rfl) q4 (fun hHeld => ?_)
      refine wpAnyH_take (i := 0) (oi := ⟨some 22, _, _, _, _, _⟩) (v := ?_) rfl (by kernel_rfl) (by kernel_rfl) (by kernel_rfl) (fun _ _ _ h => h) (Or.inl ⟨by rfl, ?_⟩) (by assumption) ?_; rotate_left; (focus (intro w hSw; (try dsimp only at hSw); go_simp; (try with_reducible rfl))); (try simp only [Act.put, List.setIfInBounds_toArray, List.set_cons_zero, List.set_cons_succ])
      refine wpAnyH_take (i := 1) (oi := ⟨some 23, _, _, _, _, _⟩) (v := ?_) rfl (by kernel_rfl) (by kernel_rfl) (by kernel_rfl) (fun _ _ _ h => h) (Or.inl ⟨by rfl, ?_⟩) (by assumption) ?_; rotate_left; (focus (intro w hSw; (try dsimp only at hSw); go_simp; (try with_reducible rfl))); (try simp only [Act.put, List.setIfInBounds_toArray, List.set_cons_zero, List.set_cons_succ])
      refine wpAnyH_take (i := 2) (oi := ⟨some 24, _, _, _, _, _⟩) (v := ?_) rfl (by kernel_rfl) (by kernel_rfl) (by kernel_rfl) (fun _ _ _ h => h) (Or.inl ⟨by rfl, ?_⟩) (by assumption) ?_; rotate_left; (focus (intro w hSw; (try dsimp only at hSw); go_simp; (try with_reducible rfl))); (try simp only [Act.put, List.setIfInBounds_toArray, List.set_cons_zero, List.set_cons_succ])
      refine wpAnyH_take (i := 3) (oi := ⟨some 25, _, _, _, _, _⟩) (v := ?_) rfl (by kernel_rfl) (by kernel_rfl) (by kernel_rfl) (fun _ _ _ h => h) (Or.inl ⟨by rfl, ?_⟩) (by assumption) ?_; rotate_left; (focus (intro w hSw; (try dsimp only at hSw); go_simp; (try with_reducible rfl))); (try simp only [Act.put, List.setIfInBounds_toArray, List.set_cons_zero, List.set_cons_succ])
      refine wpAnyH_take (i := 4) (oi := ⟨some 26, _, _, _, _, _⟩) (v := ?_) rfl (by kernel_rfl) (by kernel_rfl) (by kernel_rfl) (fun _ _ _ h => h) (Or.inl ⟨by rfl, ?_⟩) (by assumption) ?_; rotate_left; (focus (intro w hSw; (try dsimp only at hSw); go_simp; (try with_reducible rfl))); (try simp only [Act.put, List.setIfInBounds_toArray, List.set_cons_zero, List.set_cons_succ])
      refine wpAnyH_ready (rs := [5, 7]) (by kernel_rfl) (by simp) ?_; refine AllReadyH.cons (o := ⟨some 27, _, _, _, _, _⟩) rfl (fun K hK => ?_) (AllReadyH.cons (o := ⟨none, _, _, _, _, _⟩) rfl (fun K hK => ?_) AllReadyH.nil)
      · go_simp
        refine hK.out _ _ p6 (fun hHeld => ?_); clear hK K; (try simp only [Act.put, List.setIfInBounds_toArray, List.set_cons_zero, List.set_cons_succ])
        refine wpAnyH_take (i := 6) (oi := ⟨some 28, _, _, _, _, _⟩) (v := ?_) rfl (by kernel_rfl) (by kernel_rfl) (by kernel_rfl) (fun _ _ _ h => h) (Or.inl ⟨by rfl, ?_⟩) (by assumption) ?_; rotate_left; (focus (intro w hSw; (try dsimp only at hSw); go_simp; (try with_reducible rfl))); (try simp only [Act.put, List.setIfInBounds_toArray, List.set_cons_zero, List.set_cons_succ])
        refine wpAnyH_ready (rs := [7]) (by kernel_rfl) (by simp) ?_; refine AllReadyH.cons (o := ⟨none, _, _, _, _, _⟩) rfl (fun K hK => ?_) AllReadyH.nil; go_simp
        have p6s : (w6.setCell ⟨w.heap.size, 0, none⟩ (.slice (some ⟨gn, 0, none⟩) k cg)).cell? ⟨bG, 0, none⟩ = some (.slice (some ⟨gn, 0, none⟩) k cg) := (World.cell?_setCell_other _ _ _ _ (by intro e; have := congrArg Addr.block e; simp at this; omega)).trans p6
        refine hK.out _ _ p6s (fun hHeld => ?_); clear hK K; (try simp only [Act.put, List.setIfInBounds_toArray, List.set_cons_zero, List.set_cons_succ])
        refine wpAnyH_ready (rs := [8]) (by kernel_rfl) (by simp) ?_; refine AllReadyH.cons (o := ⟨none, _, _, _, _, _⟩) rfl (fun K hK => ?_) AllReadyH.nil; go_simp
        have p6t : (AS w.heap.size (.slice (some ⟨gn, 0, none⟩) k cg) (.slice E5 xs.length c5) (.slice (some ⟨w4.heap.size, 0, none⟩) k k) w6).cell? ⟨bG, 0, none⟩ = some (.slice (some ⟨gn, 0, none⟩) k cg) := (World.cell?_of_block (a := ⟨bG, 0, none⟩) (AS.block _ _ _ _ _ bG (.inl (by omega)))).trans p6
        unfold AS at p6t
        refine hK.out _ _ p6t (fun hHeld => ?_); clear hK K; (try simp only [Act.put, List.setIfInBounds_toArray, List.set_cons_zero, List.set_cons_succ])
        refine wpAnyH_done (by kernel_rfl) ?_ _
        obtain ⟨k0, k1, k2⟩ := AS.cells (x := (.slice (some ⟨gn, 0, none⟩) k cg)) (a := .slice E5 xs.length c5) (b := .slice (some ⟨w4.heap.size, 0, none⟩) k k) (show AB w.heap.size w6 from ⟨a0, a1, a2, a3, a4, a5⟩)
        unfold AS at k0 k1 k2
        go_wp2
        refine bodyPost_ret (v := .tuple #[.agg #[(.slice (some ⟨gn, 0, none⟩) k cg)], .agg #[.slice E5 xs.length c5, .slice (some ⟨w4.heap.size, 0, none⟩) k k]]) (by simp [results, Try.results44, go_sem, k0, k1, k2]) rfl ?_
        exact EgP.fin (hi := w6.heap.size) (X := w6) (st := ⟨xs, List.replicate k []⟩) hgw hk2 hk10 hsm rfl (by simp) (EM.none xs k (by omega) hk10) ((HO4.out.step HB6.out).it.mono (Nat.le_refl _) (by omega)) ⟨ISL.of_row ((HC4.out.step HB6.out).it.mono (Nat.le_refl _) (by omega)), nil_rows _ _ _ _ _ _ (HOW6.out.mono (by omega) (Nat.le_refl _))⟩ (Nat.le_refl _) ((HR4.out.step HB6.out).mono (by omega)) (HF4.out.trans (Frd.of_below HB6.out (by omega)))
      · go_simp
        refine hK.out _ _ pS (fun hHeld => ?_); clear hK K; (try simp only [Act.put, List.setIfInBounds_toArray, List.set_cons_zero, List.set_cons_succ])
        refine wpAnyH_ready (rs := [5]) (by kernel_rfl) (by simp) ?_; refine AllReadyH.cons (o := ⟨some 27, _, _, _, _, _⟩) rfl (fun K hK => ?_) AllReadyH.nil; go_simp
        refine hK.out _ _ p7 (fun hHeld => ?_); clear hK K; (try simp only [Act.put, List.setIfInBounds_toArray, List.set_cons_zero, List.set_cons_succ])
        refine wpAnyH_take (i := 6) (oi := ⟨some 28, _, _, _, _, _⟩) (v := ?_) rfl (by kernel_rfl) (by kernel_rfl) (by kernel_rfl) (fun _ _ _ h => h) (Or.inl ⟨by rfl, ?_⟩) (by assumption) ?_; rotate_left; (focus (intro w hSw; (try dsimp only at hSw); go_simp; (try with_reducible rfl))); (try simp only [Act.put, List.setIfInBounds_toArray, List.set_cons_zero, List.set_cons_succ])
        refine wpAnyH_ready (rs := [8]) (by kernel_rfl) (by simp) ?_; refine AllReadyH.cons (o := ⟨none, _, _, _, _, _⟩) rfl (fun K hK => ?_) AllReadyH.nil; go_simp
        have p7t : ((w7.setCell ⟨w.heap.size + 1, 0, none⟩ (.slice E5 xs.length c5)).setCell ⟨w.heap.size + 1, 1, none⟩ (.slice (some ⟨w4.heap.size, 0, none⟩) k k)).cell? ⟨bG, 0, none⟩ = some (.slice (some ⟨gn, 0, none⟩) k cg) := (World.cell?_setCell_other _ _ _ _ (by intro e; have := congrArg Addr.block e; simp at this; omega)).trans ((World.cell?_setCell_other _ _ _ _ (by intro e; have := congrArg Addr.block e; simp at this; omega)).trans p7)
        refine hK.out _ _ p7t (fun hHeld => ?_); clear hK K; (try simp only [Act.put, List.setIfInBounds_toArray, List.set_cons_zero, List.set_cons_succ])
        refine wpAnyH_done (by kernel_rfl) ?_ _
        have k0 : ((w7.setCell ⟨w.heap.size + 1, 0, none⟩ (.slice E5 xs.length c5)).setCell ⟨w.heap.size + 1, 1, none⟩ (.slice (some ⟨w4.heap.size, 0, none⟩) k k)).cell? ⟨w.heap.size, 0, none⟩ = some (.slice (some ⟨gn, 0, none⟩) k cg) := (World.cell?_setCell_other _ _ _ _ (by intro e; simp at e)).trans ((World.cell?_setCell_other _ _ _ _ (by intro e; simp at e)).trans b0)
        have k1 : ((w7.setCell ⟨w.heap.size + 1, 0, none⟩ (.slice E5 xs.length c5)).setCell ⟨w.heap.size + 1, 1, none⟩ (.slice (some ⟨w4.heap.size, 0, none⟩) k k)).cell? ⟨w.heap.size + 1, 0, none⟩ = some (.slice E5 xs.length c5) := (World.cell?_setCell_other _ _ _ _ (by intro e; cases e)).trans (World.cell?_setCell_same _ _ _ b2)
        have k2 : ((w7.setCell ⟨w.heap.size + 1, 0, none⟩ (.slice E5 xs.length c5)).setCell ⟨w.heap.size + 1, 1, none⟩ (.slice (some ⟨w4.heap.size, 0, none⟩) k k)).cell? ⟨w.heap.size + 1, 1, none⟩ = some (.slice (some ⟨w4.heap.size, 0, none⟩) k k) := World.cell?_setCell_same _ _ _ ((World.cell?_setCell_other _ _ _ _ (by intro e; cases e)).trans b3)
        go_wp2
        refine bodyPost_ret (v := .tuple #[.agg #[(.slice (some ⟨gn, 0, none⟩) k cg)], .agg #[.slice E5 xs.length c5, .slice (some ⟨w4.heap.size, 0, none⟩) k k]]) (by simp [results, Try.results44, go_sem, k0, k1, k2]) rfl ?_
        have hkeep := HO4.out.keep (w' := w7) (fun b x y => (HB7.out.block b (by omega)).trans (Below.heap_setCell _ _ _ _ (by show b ≠ w.heap.size; omega))) hs7
        have hkeepC := HC4.out.keep (w' := w7) (fun b x y => (HB7.out.block b (by omega)).trans (Below.heap_setCell _ _ _ _ (by show b ≠ w.heap.size; omega))) hs7
        have hR7 := (((HR4.out.set1 hgw 0 (.slice (some ⟨gn, 0, none⟩) k cg)).step (HB7.out.mono (by omega))).set1 (show g < w.heap.size + 1 by omega) 0 (.slice E5 xs.length c5)).set1 (show g < w.heap.size + 1 by omega) 1 (.slice (some ⟨w4.heap.size, 0, none⟩) k k)
        exact EgP.fin0 (hi := w7.heap.size) (X := w7) (st := ⟨xs, List.replicate k []⟩) hk2 hk10 hsm rfl (by simp) (EM.none xs k (by omega) hk10) (hkeep.it.mono (Nat.le_refl _) (by omega)) ⟨ISL.of_row (hkeepC.it.mono (Nat.le_refl _) (by omega)), nil_rows _ _ _ _ _ _ (HOW7.out.mono (by omega) (Nat.le_refl _))⟩ (Nat.le_refl _)
          ((HF4.out.trans (Frd.of_below ((Below.refl w.heap.size w4).setCell (p := ⟨w.heap.size, 0, none⟩) (Nat.le_refl _) (.slice (some ⟨gn, 0, none⟩) k cg)) (Nat.le_refl _))).trans (Frd.of_below HB7.out (by omega)))
          (((Below.refl w.heap.size w7).setCell (p := ⟨w.heap.size + 1, 0, none⟩) (Nat.le_succ _) _).setCell (p := ⟨w.heap.size + 1, 1, none⟩) (Nat.le_succ _) _) (fun b x => (Below.heap_setCell _ _ _ _ (by show b ≠ w.heap.size + 1; omega)).trans (Below.heap_setCell _ _ _ _ (by show b ≠ w.heap.size + 1; omega))) (by simp [World.setCell]) (hR7.mono (by omega))
    · have hok := HOK.out (by first | rfl | trivial) (by first | rfl | trivial)
      have HSE2 := Lib.hid (HSE.out hok)
      have hem := HEM.out hok
      have hvl : (mean gs xs).length = k := by rw [HKL.out]; exact mean_len gs xs
      have hrl : (depTo gs (mean gs xs) gs.length).length = k := by rw [HKL.out]; exact depTo_len gs (mean gs xs) gs.length
      clear HOK HSE HEM HVG HVC
      go_wp2_with fail
      refine (HSE2.out w4 bG (by omega) HO4.out.it.nodes HC4.out.it.ints).mono ?_
      rintro e w5 ⟨A3, m3, c3, E3, p3, e3, rfl, howe, hb5⟩
      have hm3 : m3 = k := howe.1.trans hvl
      have hp3 : p3 = k := howe.2.1.trans hrl
      generalize (⟨mean gs xs, depTo gs (mean gs xs) gs.length⟩ : Eg) = st at *
      have hms := howe.1
      have hps := howe.2.1
      obtain ⟨go, co, hv⟩ := row_pos howe.row0.1 (by omega)
      cases hv
      obtain ⟨ge, ce, hv⟩ := row_pos howe.inner.choose_spec.2.1.1 (by omega)
      cases hv
      have hz5 := hb5.size
      have HR5 := Lib.hid (HR4.out.step hb5)
      have HO5 := Lib.hid (HO4.out.step hb5)
      have HC5 := Lib.hid (HC4.out.step hb5)
      have HB5 := Lib.hid (HB4.out.step hb5)
      have HG5 := Lib.hid (HG4.out.step hb5)
      have HF5 := Lib.hid (HF4.out.trans (Frd.of_below hb5 (by omega)))
      have HS5 := Lib.hid (eager_start howe)
      have hglo := howe.row0.1.lt go rfl
      have hghi := howe.row0.2 go rfl
      have helo := howe.inner.choose_spec.2.1.1.lt ge rfl
      have hehi := howe.inner.choose_spec.2.1.2 ge rfl
      obtain ⟨bS, hbS⟩ : ∃ bS, bS = w5.heap.size := ⟨_, rfl⟩
      have HBS := Lib.hid hbS
      have HX6 := box2_new w5 (.slice (some ⟨go, 0, none⟩) m3 c3) (.slice (some ⟨ge, 0, none⟩) p3 e3) 31
      rw [← hbS] at HX6
      have HX6 := Lib.hid HX6
      have HZ6 : Hid (As bS (bS + 1) (fun w' => w'.frozen? ⟨bS, 1, none⟩ = false) (w5.alloc (.cells #[.slice (some ⟨go, 0, none⟩) m3 c3, .slice (some ⟨ge, 0, none⟩) p3 e3] 31))) := by rw [hbS]; exact ⟨by go_simp, by simp, fun w w' h hk => (World.frozen?_of_block (a := ⟨_, 1, none⟩) (hk _ (Nat.le_refl _) (Nat.lt_succ_self _))).trans h⟩
      have HR6 := Lib.hid (HR5.out.alloc (.cells #[.slice (some ⟨go, 0, none⟩) m3 c3, .slice (some ⟨ge, 0, none⟩) p3 e3] 31))
      have HO6 := Lib.hid (HO5.out.alloc (.cells #[.slice (some ⟨go, 0, none⟩) m3 c3, .slice (some ⟨ge, 0, none⟩) p3 e3] 31))
      have HB6 := Lib.hid (HB5.out.alloc (.cells #[.slice (some ⟨go, 0, none⟩) m3 c3, .slice (some ⟨ge, 0, none⟩) p3 e3] 31))
      have HG6 := Lib.hid (HG5.out.alloc (.cells #[.slice (some ⟨go, 0, none⟩) m3 c3, .slice (some ⟨ge, 0, none⟩) p3 e3] 31))
      have HS6 := Lib.hid (HS5.out.alloc (.cells #[.slice (some ⟨go, 0, none⟩) m3 c3, .slice (some ⟨ge, 0, none⟩) p3 e3] 31))
      have HF6 := Lib.hid (HF5.out.trans (Frd.of_below (w' := w5.alloc (.cells #[.slice (some ⟨go, 0, none⟩) m3 c3, .slice (some ⟨ge, 0, none⟩) p3 e3] 31)) ((Below.refl w5.heap.size w5).alloc (Nat.le_refl _) _) (by omega)))
      have hz6 : bS < (w5.alloc (.cells #[.slice (some ⟨go, 0, none⟩) m3 c3, .slice (some ⟨ge, 0, none⟩) p3 e3] 31)).heap.size := by rw [hbS]; simp
      have hwS : w4.heap.size ≤ bS := by omega
      have hw5S : w5.heap.size ≤ bS := by omega
      have HMS := Lib.hid hms
      have HPS := Lib.hid hps
      have HM3 := Lib.hid hm3
      have HP3 := Lib.hid hp3
      have hm3' : m3 ≤ 10 := by omega
      have hp3' : p3 ≤ 10 := by omega
      have hp2 : 2 ≤ p3 := by omega
      have q6 := HG6.out.it
      clear hb5 howe hvl hrl hbS hms hps hm3 hp3 HR4 HO4 HC4 HB4 HG4 HF4 HR5 HO5 HC5 HB5 HG5 HF5 HS5 q4 HSE2
      go_wp2_with fail
      rw [← HBS.out]
      generalize w5.alloc (.cells #[.slice (some ⟨go, 0, none⟩) m3 c3, .slice (some ⟨ge, 0, none⟩) p3 e3] 31) = W6 at *
      refine (pick_any g A n c bs (P + 2600) k W6 HR6.out HN.out hby hs (by omega) (by omega)).mono ?_
      rintro e w7 ⟨j, rfl, hj, _, hr7, ht7⟩
      have hjk : j < k := by have := hj (by omega); omega
      have hjm : j < m3 := by have := HM3.out; omega
      have hjp : j < p3 := by have := HP3.out; omega
      have hz7 := ht7.size
      have HR7 := Lib.hid hr7
      have HO7 := Lib.hid (HO6.out.turn ht7 (.inl (by omega)))
      have HB7 := Lib.hid (HB6.out.turn ht7 (.inl (by omega)))
      have HG7 := Lib.hid (HG6.out.turn ht7 (.inl (by omega)))
      have HS7 := Lib.hid (HS6.out.turn ht7 (.inl (by omega)))
      have HX7 := Lib.hid (HX6.out.turn ht7 (.inl (by omega)))
      have HZ7 := Lib.hid (HZ6.out.turn ht7 (.inl (by omega)))
      have HF7 := Lib.hid (HF6.out.trans (Frd.of_tch ht7 (by omega)))
      clear hj hr7 ht7 HR6 HO6 HB6 HG6 HF6 HS6 HX6 HZ6 q6
      go_wp2_with fail
      refine (pick_any g A n c bs (P + 2601) 24 w7 HR7.out HN.out hby hs (by omega) (by omega)).mono ?_
      rintro e w8 ⟨x, rfl, _, _, hr8, ht8⟩
      have hz8 := ht8.size
      have HR8 := Lib.hid hr8
      have HO8 := Lib.hid (HO7.out.turn ht8 (.inl (by omega)))
      have HB8 := Lib.hid (HB7.out.turn ht8 (.inl (by omega)))
      have HG8 := Lib.hid (HG7.out.turn ht8 (.inl (by omega)))
      have HS8 := Lib.hid (HS7.out.turn ht8 (.inl (by omega)))
      have HX8 := Lib.hid (HX7.out.turn ht8 (.inl (by omega)))
      have HZ8 := Lib.hid (HZ7.out.turn ht8 (.inl (by omega)))
      have HF8 := Lib.hid (HF7.out.trans (Frd.of_tch ht8 (by omega)))
      clear hr8 ht8 HR7 HO7 HB7 HG7 HF7 HS7 HX7 HZ7
      have qG := HG8.out.it
      obtain ⟨qS0, qS1⟩ := HX8.out.it
      have hgw8 : bS < w8.heap.size := by omega
      by_cases hx0 : x = 0
      · subst hx0
        have q9 := (World.cell?_alloc_lt w8 (.cells #[.int .i64 (-1), .int .i64 1000, .int .i64 7] 3) ⟨bS, 0, none⟩ hgw8).trans qS0
        go_wp2
        refine wp_region_held_drew (S := fun w' => w'.cell? ⟨bS, 0, none⟩ = some (.slice (some ⟨go, 0, none⟩) m3 c3)) (by kernel_rfl) qS0 (fun hHeld => ?_)
        refine wpAnyH_take (i := 0) (oi := ⟨some 41, _, _, _, _, _⟩) (v := ?_) rfl (by kernel_rfl) (by kernel_rfl) (by kernel_rfl) (fun _ _ _ h => h) (Or.inl ⟨by rfl, ?_⟩) (by assumption) ?_; rotate_left; (focus (intro w hSw; (try dsimp only at hSw); go_simp; (try with_reducible rfl))); (try simp only [Act.put, List.setIfInBounds_toArray, List.set_cons_zero, List.set_cons_succ])
        refine wpAnyH_take (i := 1) (oi := ⟨some 42, _, _, _, _, _⟩) (v := ?_) rfl (by kernel_rfl) (by kernel_rfl) (by kernel_rfl) (fun _ _ _ h => h) (Or.inl ⟨by rfl, ?_⟩) (by assumption) ?_; rotate_left; (focus (intro w hSw; (try dsimp only at hSw); go_simp; (try with_reducible rfl))); (try simp only [Act.put, List.setIfInBounds_toArray, List.set_cons_zero, List.set_cons_succ])
        refine wpAnyH_take (i := 2) (oi := ⟨some 43, _, _, _, _, _⟩) (v := ?_) rfl (by kernel_rfl) (by kernel_rfl) (by kernel_rfl) (fun _ _ _ h => h) (Or.inl ⟨by rfl, ?_⟩) (by assumption) ?_; rotate_left; (focus (intro w hSw; (try dsimp only at hSw); go_simp; (try with_reducible rfl))); (try simp only [Act.put, List.setIfInBounds_toArray, List.set_cons_zero, List.set_cons_succ])
        refine wpAnyH_take (i := 3) (oi := ⟨some 44, _, _, _, _, _⟩) (v := ?_) rfl (by kernel_rfl) (by kernel_rfl) (by kernel_rfl) (fun _ _ _ h => h) (Or.inl ⟨by rfl, ?_⟩) (by assumption) ?_; rotate_left; (focus (intro w hSw; (try dsimp only at hSw); go_simp; (try with_reducible rfl))); (try simp only [Act.put, List.setIfInBounds_toArray, List.set_cons_zero, List.set_cons_succ])
        refine wpAnyH_ready (rs := [4]) (by kernel_rfl) (by simp) ?_; refine AllReadyH.cons (o := ⟨some 45, _, _, _, _, _⟩) rfl (fun K hK => ?_) AllReadyH.nil; go_simp
        refine hK.out _ _ q9 (fun hHeld => ?_); clear hK K; (try simp only [Act.put, List.setIfInBounds_toArray, List.set_cons_zero, List.set_cons_succ])
        refine wpAnyH_ready (rs := [5]) (by kernel_rfl) (by simp) ?_; refine AllReadyH.cons (o := ⟨some 46, _, _, _, _, _⟩) rfl (fun K hK => ?_) AllReadyH.nil; go_simp
        have HR9 := Lib.hid (HR8.out.alloc (.cells #[.int .i64 (-1), .int .i64 1000, .int .i64 7] 3))
        have HO9 := Lib.hid (HO8.out.alloc (.cells #[.int .i64 (-1), .int .i64 1000, .int .i64 7] 3))
        have HB9 := Lib.hid (HB8.out.alloc (.cells #[.int .i64 (-1), .int .i64 1000, .int .i64 7] 3))
        have HG9 := Lib.hid (HG8.out.alloc (.cells #[.int .i64 (-1), .int .i64 1000, .int .i64 7] 3))
        have HS9 := Lib.hid (HS8.out.alloc (.cells #[.int .i64 (-1), .int .i64 1000, .int .i64 7] 3))
        have HX9 := Lib.hid (HX8.out.alloc (.cells #[.int .i64 (-1), .int .i64 1000, .int .i64 7] 3))
        have HZ9 := Lib.hid (HZ8.out.alloc (.cells #[.int .i64 (-1), .int .i64 1000, .int .i64 7] 3))
        have HF9 := Lib.hid (HF8.out.trans (Frd.of_below (w' := w8.alloc (.cells #[.int .i64 (-1), .int .i64 1000, .int .i64 7] 3)) ((Below.refl w8.heap.size w8).alloc (Nat.le_refl _) _) (by omega)))
        go_at_call 74
        refine (one_any g A n c bs (P + 2602) w8.heap.size 0 3 3 [-1, 1000, 7] _ HR9.out.drew HN.out hby hs (by omega) rfl (by omega) (by omega) ?_ (by omega) (by simp)).mono ?_
        · intro i hi
          have : i = 0 ∨ i = 1 ∨ i = 2 := by omega
          rcases this with rfl | rfl | rfl <;> go_simp
        rintro e w10 ⟨z, rfl, _, hr10, ht10'⟩
        have ht10 : Tch g (g + 1) (w8.alloc (.cells #[.int .i64 (-1), .int .i64 1000, .int .i64 7] 3)) w10 := ⟨ht10'.os, ht10'.tape, ht10'.output, ht10'.size, ht10'.block⟩
        have hz10 : w8.heap.size + 1 ≤ w10.heap.size := by have := ht10.size; simpa using this
        have HO10 := Lib.hid (HO9.out.turn ht10 (.inl (by omega)))
        have HB10 := Lib.hid (HB9.out.turn ht10 (.inl (by omega)))
        have HG10 := Lib.hid (HG9.out.turn ht10 (.inl (by omega)))
        have HS10 := Lib.hid (HS9.out.turn ht10 (.inl (by omega)))
        have HX10 := Lib.hid (HX9.out.turn ht10 (.inl (by omega)))
        have HF10 := Lib.hid (HF9.out.trans (Frd.of_tch ht10 (by simp; omega)))
        obtain ⟨s0, s1⟩ := HX10.out.it
        have u0 := HS10.out.it.row0.1.cellAt j (by omega)
        have hml : (st.vs.map (Value.int .i64)).length = m3 := by rw [List.length_map]; exact HMS.out.symm
        rw [List.getElem?_eq_getElem (by rw [hml]; exact hjm)] at u0
        have f0 := HS10.out.it.row0.1.frozenAt j
        generalize (st.vs.map (Value.int .i64))[j]'_ = vv at u0
        have hne : ∀ q : Nat, (⟨go, q, none⟩ : Addr) ≠ ⟨bS, 0, none⟩ := fun q e => by have := congrArg Addr.block e; simp at this; omega
        have s0' : (w10.setCell ⟨go, j, none⟩ (.int .i64 z)).cell? ⟨bS, 0, none⟩ = some (.slice (some ⟨go, 0, none⟩) m3 c3) := (World.cell?_setCell_other _ _ _ _ (hne _)).trans s0
        clear hml
        refine hK.out _ _ s0 (fun hHeld => ?_); clear hK K; (try simp only [Act.put, List.setIfInBounds_toArray, List.set_cons_zero, List.set_cons_succ])
        refine wpAnyH_take (i := 6) (oi := ⟨some 47, _, _, _, _, _⟩) (v := ?_) rfl (by kernel_rfl) (by kernel_rfl) (by kernel_rfl) (fun _ _ _ h => h) (Or.inl ⟨by rfl, ?_⟩) (by assumption) ?_; rotate_left; (focus (intro w hSw; (try dsimp only at hSw); go_simp; (try with_reducible rfl))); (try simp only [Act.put, List.setIfInBounds_toArray, List.set_cons_zero, List.set_cons_succ])
        refine wpAnyH_ready (rs := [7]) (by kernel_rfl) (by simp) ?_; refine AllReadyH.cons (o := ⟨none, _, _, _, _, _⟩) rfl (fun K hK => ?_) AllReadyH.nil; go_simp
        refine hK.out _ _ s0' (fun hHeld => ?_); clear hK K; (try simp only [Act.put, List.setIfInBounds_toArray, List.set_cons_zero, List.set_cons_succ])
        refine wpAnyH_done (by kernel_rfl) ?_ _
        have hT := Tch.of_grown (a := go) (b := go + 1) (grown_setCell0 w10 go j (.int .i64 z)) fun k hk => by cases hk; exact ⟨Nat.le_refl _, Nat.lt_succ_self _⟩
        have HOX := Lib.hid (((HO10.out.turn hT (.inr (by omega))).it).mono (Nat.le_refl _) (show bG ≤ bS by omega))
        have HEX := Lib.hid ((HS10.out.it.setVal z (k := j)).mono (show w.heap.size + 2 ≤ w4.heap.size by omega) (show w5.heap.size ≤ bS by have := HBS.out; omega))
        have hAB := (HB10.out.turn hT (.inr (by omega))).it
        have qG := (HG10.out.turn hT (.inr (by omega))).it
        obtain ⟨qS0, qS1⟩ := (HX10.out.turn hT (.inl (by omega))).it
        have HRX := Lib.hid (hr10.turn hT (by omega))
        have HFX := Lib.hid (HF10.out.trans (Frd.of_below ((Below.refl w.heap.size w10).setCell (p := ⟨go, j, none⟩) (by show w.heap.size ≤ go; omega) (.int .i64 z)) (Nat.le_refl _)))
        have hhi : bS ≤ (w10.setCell ⟨go, j, none⟩ (.int .i64 z)).heap.size := by simp [World.setCell]; omega
        clear hT hr10 ht10 ht10' s0 s0' u0 f0 hne q9
        generalize w10.setCell ⟨go, j, none⟩ (.int .i64 z) = X at *
        obtain ⟨k0, k1, k2⟩ := AS.cells (x := (.slice (some ⟨gn, 0, none⟩) k cg)) (a := (.slice (some ⟨go, 0, none⟩) m3 c3)) (b := (.slice (some ⟨ge, 0, none⟩) p3 e3)) hAB
        have qt : (X.setCell ⟨w.heap.size, 0, none⟩ (.slice (some ⟨gn, 0, none⟩) k cg)).cell? ⟨bG, 0, none⟩ = some (.slice (some ⟨gn, 0, none⟩) k cg) := (World.cell?_setCell_other _ _ _ _ (by intro e; have := congrArg Addr.block e; simp at this; omega)).trans qG
        have qt0 : (X.setCell ⟨w.heap.size, 0, none⟩ (.slice (some ⟨gn, 0, none⟩) k cg)).cell? ⟨bS, 0, none⟩ = some (.slice (some ⟨go, 0, none⟩) m3 c3) := (World.cell?_setCell_other _ _ _ _ (by intro e; have := congrArg Addr.block e; simp at this; omega)).trans qS0
        have qt1 : (X.setCell ⟨w.heap.size, 0, none⟩ (.slice (some ⟨gn, 0, none⟩) k cg)).cell? ⟨bS, 1, none⟩ = some (.slice (some ⟨ge, 0, none⟩) p3 e3) := (World.cell?_setCell_other _ _ _ _ (by intro e; have := congrArg Addr.block e; simp at this; omega)).trans qS1
        have hAX := AS.block w.heap.size (.slice (some ⟨gn, 0, none⟩) k cg) (.slice (some ⟨go, 0, none⟩) m3 c3) (.slice (some ⟨ge, 0, none⟩) p3 e3) X
        have qu : (AS w.heap.size (.slice (some ⟨gn, 0, none⟩) k cg) (.slice (some ⟨go, 0, none⟩) m3 c3) (.slice (some ⟨ge, 0, none⟩) p3 e3) X).cell? ⟨bG, 0, none⟩ = some (.slice (some ⟨gn, 0, none⟩) k cg) := (World.cell?_of_block (a := ⟨bG, 0, none⟩) (hAX bG (.inl (by omega)))).trans qG
        have qu0 : (AS w.heap.size (.slice (some ⟨gn, 0, none⟩) k cg) (.slice (some ⟨go, 0, none⟩) m3 c3) (.slice (some ⟨ge, 0, none⟩) p3 e3) X).cell? ⟨bS, 0, none⟩ = some (.slice (some ⟨go, 0, none⟩) m3 c3) := (World.cell?_of_block (a := ⟨bS, 0, none⟩) (hAX bS (.inl (by omega)))).trans qS0
        have qu1 : (AS w.heap.size (.slice (some ⟨gn, 0, none⟩) k cg) (.slice (some ⟨go, 0, none⟩) m3 c3) (.slice (some ⟨ge, 0, none⟩) p3 e3) X).cell? ⟨bS, 1, none⟩ = some (.slice (some ⟨ge, 0, none⟩) p3 e3) := (World.cell?_of_block (a := ⟨bS, 1, none⟩) (hAX bS (.inl (by omega)))).trans qS1
        obtain ⟨r0, r1, r2, r3, r4, r5⟩ := hAB
        unfold AS at k0 k1 k2 qu qu0 qu1
        clear hAX
        go_wp2
        refine wp_region_held_drew (S := fun w' => w'.cell? ⟨bG, 0, none⟩ = some (.slice (some ⟨gn, 0, none⟩) k cg) ∧ w'.cell? ⟨bS, 0, none⟩ = some (.slice (some ⟨go, 0, none⟩) m3 c3) ∧ w'.cell? ⟨bS, 1, none⟩ = some (.slice (some ⟨ge, 0, none⟩) p3 e3)) (by kernel_rfl) ⟨qG, qS0, qS1⟩ (fun hHeld => ?_)
        refine wpAnyH_take (i := 0) (oi := ⟨some 61, _, _, _, _, _⟩) (v := ?_) rfl (by kernel_rfl) (by kernel_rfl) (by kernel_rfl) (fun _ _ _ h => h) (Or.inl ⟨by rfl, ?_⟩) (by assumption) ?_; rotate_left; (focus (intro w hSw; (try dsimp only at hSw); go_simp; (try with_reducible rfl))); (try simp only [Act.put, List.setIfInBounds_toArray, List.set_cons_zero, List.set_cons_succ])
        refine wpAnyH_take (i := 1) (oi := ⟨some 62, _, _, _, _, _⟩) (v := ?_) rfl (by kernel_rfl) (by kernel_rfl) (by kernel_rfl) (fun _ _ _ h => h) (Or.inl ⟨by rfl, ?_⟩) (by assumption) ?_; rotate_left; (focus (intro w hSw; (try dsimp only at hSw); go_simp; (try with_reducible rfl))); (try simp only [Act.put, List.setIfInBounds_toArray, List.set_cons_zero, List.set_cons_succ])
        refine wpAnyH_ready (rs := [2]) (by kernel_rfl) (by simp) ?_; refine AllReadyH.cons (o := ⟨none, _, _, _, _, _⟩) rfl (fun K hK => ?_) AllReadyH.nil; go_simp
        refine hK.out _ _ ⟨qt, qt0, qt1⟩ (fun hHeld => ?_); clear hK K; (try simp only [Act.put, List.setIfInBounds_toArray, List.set_cons_zero, List.set_cons_succ])
        refine wpAnyH_ready (rs := [3]) (by kernel_rfl) (by simp) ?_; refine AllReadyH.cons (o := ⟨none, _, _, _, _, _⟩) rfl (fun K hK => ?_) AllReadyH.nil; go_simp
        refine hK.out _ _ ⟨qu, qu0, qu1⟩ (fun hHeld => ?_); clear hK K; (try simp only [Act.put, List.setIfInBounds_toArray, List.set_cons_zero, List.set_cons_succ])
        refine wpAnyH_done (by kernel_rfl) ?_ _
        go_wp2
        refine bodyPost_ret (v := .tuple #[.agg #[(.slice (some ⟨gn, 0, none⟩) k cg)], .agg #[(.slice (some ⟨go, 0, none⟩) m3 c3), (.slice (some ⟨ge, 0, none⟩) p3 e3)]]) (by simp [results, Try.results44, go_sem, k0, k1, k2]) rfl ?_
        exact (EgP.fin (Q := P + 2700) (X := X) (st := ⟨st.vs.set j z, st.rs⟩) hgw hk2 hk10 hsm (by simpa using HMS.out) HPS.out (hem.val j z) HOX.out HEX.out hhi (HRX.out.mono (by omega)) HFX.out).drew
      by_cases hx1 : x = 1
      · subst hx1
        clear hx0
        have HR9 := Lib.hid (HR8.out.alloc (.cells #[.int .i64 0] 3))
        have HO9 := Lib.hid (HO8.out.alloc (.cells #[.int .i64 0] 3))
        have HB9 := Lib.hid (HB8.out.alloc (.cells #[.int .i64 0] 3))
        have HG9 := Lib.hid (HG8.out.alloc (.cells #[.int .i64 0] 3))
        have HS9 := Lib.hid (HS8.out.alloc (.cells #[.int .i64 0] 3))
        have HX9 := Lib.hid (HX8.out.alloc (.cells #[.int .i64 0] 3))
        have HZ9 := Lib.hid (HZ8.out.alloc (.cells #[.int .i64 0] 3))
        have HF9 := Lib.hid (HF8.out.trans (Frd.of_below (w' := w8.alloc (.cells #[.int .i64 0] 3)) ((Below.refl w8.heap.size w8).alloc (Nat.le_refl _) _) (by omega)))
        obtain ⟨us, hul, hou, hin, _⟩ := HS9.out.it.inner
        have u0 := hou.1.cellAt j (by omega)
        rw [List.getElem?_eq_getElem (by omega)] at u0
        have f0 := hou.1.frozenAt j
        generalize us[j]'_ = vv at u0
        have s0 := HX9.out.it
        have hT := Lib.hid (Tch.of_grown (a := ge) (b := ge + 1) (grown_setCell0 (w8.alloc (.cells #[.int .i64 0] 3)) ge j (.slice (some ⟨w8.heap.size, 0, none⟩) 1 1)) fun k hk => by cases hk; exact ⟨Nat.le_refl _, Nat.lt_succ_self _⟩)
        have hlit : ISL (w.heap.size + 2) (w8.heap.size + 1) (some ⟨w8.heap.size, 0, none⟩) [0] ((w8.alloc (.cells #[.int .i64 0] 3)).setCell ⟨ge, j, none⟩ (.slice (some ⟨w8.heap.size, 0, none⟩) 1 1)) := by
          intro _
          refine ⟨w8.heap.size, 0, rfl, by omega, by omega, fun i hi => ?_⟩
          obtain rfl : i = 0 := by simp at hi; omega
          exact (World.cell?_setCell_other _ _ _ _ (by intro e; have := congrArg Addr.block e; simp at this; omega)).trans (by go_simp)
        have HEX := Lib.hid ((HS9.out.it.mono (show w.heap.size + 2 ≤ w4.heap.size by omega) (Nat.le_refl _)).setRow (hi' := w8.heap.size + 1) hjp (m5 := 1) (c5 := 1) (ys := [0]) rfl hlit (by omega))
        have HOX := Lib.hid (((HO9.out.turn hT.out (.inr (by omega))).it).mono (Nat.le_refl _) (show bG ≤ w8.heap.size + 1 by omega))
        have HABX := Lib.hid (HB9.out.turn hT.out (.inr (by omega)))
        have HGX := Lib.hid (HG9.out.turn hT.out (.inr (by omega)))
        have HXX := Lib.hid (HX9.out.turn hT.out (.inl (by omega)))
        have HRX := Lib.hid (HR9.out.turn hT.out (by omega))
        have HFX := Lib.hid (HF9.out.trans (Frd.of_below ((Below.refl w.heap.size (w8.alloc (.cells #[.int .i64 0] 3))).setCell (p := ⟨ge, j, none⟩) (by show w.heap.size ≤ ge; omega) (.slice (some ⟨w8.heap.size, 0, none⟩) 1 1)) (Nat.le_refl _)))
        have hhi : w8.heap.size + 1 ≤ ((w8.alloc (.cells #[.int .i64 0] 3)).setCell ⟨ge, j, none⟩ (.slice (some ⟨w8.heap.size, 0, none⟩) 1 1)).heap.size := by simp [World.setCell]
        have hgel : ge < w8.heap.size := by omega
        have u1 : w8.cell? ⟨ge, j, none⟩ = some vv := (World.cell?_alloc_lt w8 (.cells #[.int .i64 0] 3) ⟨ge, j, none⟩ hgel).symm.trans u0
        have f1 : w8.frozen? ⟨ge, j, none⟩ = false := (World.frozen?_alloc_past (w := w8) (.cells #[.int .i64 0] 3) ge j hgel).symm.trans f0
        clear hlit hul hou hin
        rw [World.setCell_alloc_past _ _ _ _ hgel] at HEX HOX HABX HGX HXX HRX HFX hhi
        go_upto_region 13 with fail
        have hAB := HABX.out.it
        have qG := HGX.out.it
        obtain ⟨qS0, qS1⟩ := HXX.out.it
        generalize (w8.setCell ⟨ge, j, none⟩ (.slice (some ⟨w8.heap.size, 0, none⟩) 1 1)).alloc (.cells #[.int .i64 0] 3) = X at *
        obtain ⟨k0, k1, k2⟩ := AS.cells (x := (.slice (some ⟨gn, 0, none⟩) k cg)) (a := (.slice (some ⟨go, 0, none⟩) m3 c3)) (b := (.slice (some ⟨ge, 0, none⟩) p3 e3)) hAB
        have qt : (X.setCell ⟨w.heap.size, 0, none⟩ (.slice (some ⟨gn, 0, none⟩) k cg)).cell? ⟨bG, 0, none⟩ = some (.slice (some ⟨gn, 0, none⟩) k cg) := (World.cell?_setCell_other _ _ _ _ (by intro e; have := congrArg Addr.block e; simp at this; omega)).trans qG
        have qt0 : (X.setCell ⟨w.heap.size, 0, none⟩ (.slice (some ⟨gn, 0, none⟩) k cg)).cell? ⟨bS, 0, none⟩ = some (.slice (some ⟨go, 0, none⟩) m3 c3) := (World.cell?_setCell_other _ _ _ _ (by intro e; have := congrArg Addr.block e; simp at this; omega)).trans qS0
        have qt1 : (X.setCell ⟨w.heap.size, 0, none⟩ (.slice (some ⟨gn, 0, none⟩) k cg)).cell? ⟨bS, 1, none⟩ = some (.slice (some ⟨ge, 0, none⟩) p3 e3) := (World.cell?_setCell_other _ _ _ _ (by intro e; have := congrArg Addr.block e; simp at this; omega)).trans qS1
        have hAX := AS.block w.heap.size (.slice (some ⟨gn, 0, none⟩) k cg) (.slice (some ⟨go, 0, none⟩) m3 c3) (.slice (some ⟨ge, 0, none⟩) p3 e3) X
        have qu : (AS w.heap.size (.slice (some ⟨gn, 0, none⟩) k cg) (.slice (some ⟨go, 0, none⟩) m3 c3) (.slice (some ⟨ge, 0, none⟩) p3 e3) X).cell? ⟨bG, 0, none⟩ = some (.slice (some ⟨gn, 0, none⟩) k cg) := (World.cell?_of_block (a := ⟨bG, 0, none⟩) (hAX bG (.inl (by omega)))).trans qG
        have qu0 : (AS w.heap.size (.slice (some ⟨gn, 0, none⟩) k cg) (.slice (some ⟨go, 0, none⟩) m3 c3) (.slice (some ⟨ge, 0, none⟩) p3 e3) X).cell? ⟨bS, 0, none⟩ = some (.slice (some ⟨go, 0, none⟩) m3 c3) := (World.cell?_of_block (a := ⟨bS, 0, none⟩) (hAX bS (.inl (by omega)))).trans qS0
        have qu1 : (AS w.heap.size (.slice (some ⟨gn, 0, none⟩) k cg) (.slice (some ⟨go, 0, none⟩) m3 c3) (.slice (some ⟨ge, 0, none⟩) p3 e3) X).cell? ⟨bS, 1, none⟩ = some (.slice (some ⟨ge, 0, none⟩) p3 e3) := (World.cell?_of_block (a := ⟨bS, 1, none⟩) (hAX bS (.inl (by omega)))).trans qS1
        obtain ⟨r0, r1, r2, r3, r4, r5⟩ := hAB
        unfold AS at k0 k1 k2 qu qu0 qu1
        clear hAX
        refine wp_region_held_drew (S := fun w' => w'.cell? ⟨bG, 0, none⟩ = some (.slice (some ⟨gn, 0, none⟩) k cg) ∧ w'.cell? ⟨bS, 0, none⟩ = some (.slice (some ⟨go, 0, none⟩) m3 c3) ∧ w'.cell? ⟨bS, 1, none⟩ = some (.slice (some ⟨ge, 0, none⟩) p3 e3)) (by kernel_rfl) ⟨qG, qS0, qS1⟩ (fun hHeld => ?_)
        refine wpAnyH_take (i := 0) (oi := ⟨some 61, _, _, _, _, _⟩) (v := ?_) rfl (by kernel_rfl) (by kernel_rfl) (by kernel_rfl) (fun _ _ _ h => h) (Or.inl ⟨by rfl, ?_⟩) (by assumption) ?_; rotate_left; (focus (intro w hSw; (try dsimp only at hSw); go_simp; (try with_reducible rfl))); (try simp only [Act.put, List.setIfInBounds_toArray, List.set_cons_zero, List.set_cons_succ])
        refine wpAnyH_take (i := 1) (oi := ⟨some 62, _, _, _, _, _⟩) (v := ?_) rfl (by kernel_rfl) (by kernel_rfl) (by kernel_rfl) (fun _ _ _ h => h) (Or.inl ⟨by rfl, ?_⟩) (by assumption) ?_; rotate_left; (focus (intro w hSw; (try dsimp only at hSw); go_simp; (try with_reducible rfl))); (try simp only [Act.put, List.setIfInBounds_toArray, List.set_cons_zero, List.set_cons_succ])
        refine wpAnyH_ready (rs := [2]) (by kernel_rfl) (by simp) ?_; refine AllReadyH.cons (o := ⟨none, _, _, _, _, _⟩) rfl (fun K hK => ?_) AllReadyH.nil; go_simp
        refine hK.out _ _ ⟨qt, qt0, qt1⟩ (fun hHeld => ?_); clear hK K; (try simp only [Act.put, List.setIfInBounds_toArray, List.set_cons_zero, List.set_cons_succ])
        refine wpAnyH_ready (rs := [3]) (by kernel_rfl) (by simp) ?_; refine AllReadyH.cons (o := ⟨none, _, _, _, _, _⟩) rfl (fun K hK => ?_) AllReadyH.nil; go_simp
        refine hK.out _ _ ⟨qu, qu0, qu1⟩ (fun hHeld => ?_); clear hK K; (try simp only [Act.put, List.setIfInBounds_toArray, List.set_cons_zero, List.set_cons_succ])
        refine wpAnyH_done (by kernel_rfl) ?_ _
        go_wp2
        refine bodyPost_ret (v := .tuple #[.agg #[(.slice (some ⟨gn, 0, none⟩) k cg)], .agg #[(.slice (some ⟨go, 0, none⟩) m3 c3), (.slice (some ⟨ge, 0, none⟩) p3 e3)]]) (by simp [results, Try.results44, go_sem, k0, k1, k2]) rfl ?_
        exact (EgP.fin (Q := P + 2700) (X := X) (st := ⟨st.vs, st.rs.set j [0]⟩) hgw hk2 hk10 hsm HMS.out (by simpa using HPS.out) (hem.row j) HOX.out HEX.out hhi (HRX.out.mono (by omega)) HFX.out).drew
      by_cases hx2 : x = 2
      · subst hx2
        clear hx0 hx1
        have hce : p3 ≤ e3 := by
          obtain ⟨us, hul, hou, _⟩ := HS8.out.it.inner
          exact own_ncap hou.1
        have hc1 : ¬ e3 = 1 := by omega
        have hc2 : ¬ e3 - 1 = 0 := by omega
        have h1p : (1 : Int) ≤ (p3 : Int) := by omega
        have hpe : (p3 : Int) ≤ (e3 : Int) := by omega
        have fz := HZ8.out.it
        obtain ⟨B9, hB9⟩ : ∃ B9 : Value, B9 = .slice (some ⟨ge, 1, none⟩) (p3 - 1) (e3 - 1) := ⟨_, rfl⟩
        have HEX : Hid (ESL (w.heap.size + 2) bS (some ⟨go, 0, none⟩) (some ⟨ge, 1, none⟩) ⟨st.vs, st.rs.drop 1⟩ (w8.setCell ⟨bS, 1, none⟩ (.slice (some ⟨ge, 1, none⟩) (p3 - 1) (e3 - 1)))) := by
          have h0 := (HS8.out.it.esl).mono (show w.heap.size + 2 ≤ w4.heap.size by omega) (show w5.heap.size ≤ bS by omega)
          exact ESL.loc _ _ _ _ _ w8 _ (show ESL _ _ _ _ ⟨st.vs, st.rs.drop 1⟩ w8 from ⟨h0.1, h0.2.drop1⟩) fun b x y => Below.heap_setCell _ _ _ _ (by show b ≠ bS; omega)
        have HT := Lib.hid (Tch.of_grown (a := bS) (b := bS + 1) (grown_setCell0 w8 bS 1 (.slice (some ⟨ge, 1, none⟩) (p3 - 1) (e3 - 1))) fun k hk => by cases hk; exact ⟨Nat.le_refl _, Nat.lt_succ_self _⟩)
        have HOX := Lib.hid (((HO8.out.turn HT.out (.inr (by omega))).it).mono (Nat.le_refl _) (show bG ≤ bS by omega))
        have HABX := Lib.hid (HB8.out.turn HT.out (.inr (by omega)))
        have HGX := Lib.hid (HG8.out.turn HT.out (.inr (by omega)))
        have HRX := Lib.hid (HR8.out.turn HT.out (by omega))
        have HFX := Lib.hid (HF8.out.trans (Frd.of_below ((Below.refl w.heap.size w8).setCell (p := ⟨bS, 1, none⟩) (by show w.heap.size ≤ bS; omega) (.slice (some ⟨ge, 1, none⟩) (p3 - 1) (e3 - 1))) (Nat.le_refl _)))
        have hhi : bS ≤ (w8.setCell ⟨bS, 1, none⟩ (.slice (some ⟨ge, 1, none⟩) (p3 - 1) (e3 - 1))).heap.size := by simp [World.setCell]; omega
        have HQ0 : Hid ((w8.setCell ⟨bS, 1, none⟩ (.slice (some ⟨ge, 1, none⟩) (p3 - 1) (e3 - 1))).cell? ⟨bS, 0, none⟩ = some (.slice (some ⟨go, 0, none⟩) m3 c3)) := (World.cell?_setCell_other _ _ _ _ (by intro e; cases e)).trans qS0
        have HQ1 : Hid ((w8.setCell ⟨bS, 1, none⟩ (.slice (some ⟨ge, 1, none⟩) (p3 - 1) (e3 - 1))).cell? ⟨bS, 1, none⟩ = some (.slice (some ⟨ge, 1, none⟩) (p3 - 1) (e3 - 1))) := World.cell?_setCell_same _ _ _ qS1
        clear hB9 HS8 HX8 HZ8 HO8 HB8 HG8 HF8 HR8
        go_upto_region 13 with fail
        have hAB := HABX.out.it
        have qG := HGX.out.it
        have qS0 := HQ0.out
        have qS1 := HQ1.out
        generalize w8.setCell ⟨bS, 1, none⟩ (.slice (some ⟨ge, 1, none⟩) (p3 - 1) (e3 - 1)) = X at *
        obtain ⟨k0, k1, k2⟩ := AS.cells (x := (.slice (some ⟨gn, 0, none⟩) k cg)) (a := (.slice (some ⟨go, 0, none⟩) m3 c3)) (b := (.slice (some ⟨ge, 1, none⟩) (p3 - 1) (e3 - 1))) hAB
        have qt : (X.setCell ⟨w.heap.size, 0, none⟩ (.slice (some ⟨gn, 0, none⟩) k cg)).cell? ⟨bG, 0, none⟩ = some (.slice (some ⟨gn, 0, none⟩) k cg) := (World.cell?_setCell_other _ _ _ _ (by intro e; have := congrArg Addr.block e; simp at this; omega)).trans qG
        have qt0 : (X.setCell ⟨w.heap.size, 0, none⟩ (.slice (some ⟨gn, 0, none⟩) k cg)).cell? ⟨bS, 0, none⟩ = some (.slice (some ⟨go, 0, none⟩) m3 c3) := (World.cell?_setCell_other _ _ _ _ (by intro e; have := congrArg Addr.block e; simp at this; omega)).trans qS0
        have qt1 : (X.setCell ⟨w.heap.size, 0, none⟩ (.slice (some ⟨gn, 0, none⟩) k cg)).cell? ⟨bS, 1, none⟩ = some (.slice (some ⟨ge, 1, none⟩) (p3 - 1) (e3 - 1)) := (World.cell?_setCell_other _ _ _ _ (by intro e; have := congrArg Addr.block e; simp at this; omega)).trans qS1
        have hAX := AS.block w.heap.size (.slice (some ⟨gn, 0, none⟩) k cg) (.slice (some ⟨go, 0, none⟩) m3 c3) (.slice (some ⟨ge, 1, none⟩) (p3 - 1) (e3 - 1)) X
        have qu : (AS w.heap.size (.slice (some ⟨gn, 0, none⟩) k cg) (.slice (some ⟨go, 0, none⟩) m3 c3) (.slice (some ⟨ge, 1, none⟩) (p3 - 1) (e3 - 1)) X).cell? ⟨bG, 0, none⟩ = some (.slice (some ⟨gn, 0, none⟩) k cg) := (World.cell?_of_block (a := ⟨bG, 0, none⟩) (hAX bG (.inl (by omega)))).trans qG
        have qu0 : (AS w.heap.size (.slice (some ⟨gn, 0, none⟩) k cg) (.slice (some ⟨go, 0, none⟩) m3 c3) (.slice (some ⟨ge, 1, none⟩) (p3 - 1) (e3 - 1)) X).cell? ⟨bS, 0, none⟩ = some (.slice (some ⟨go, 0, none⟩) m3 c3) := (World.cell?_of_block (a := ⟨bS, 0, none⟩) (hAX bS (.inl (by omega)))).trans qS0
        have qu1 : (AS w.heap.size (.slice (some ⟨gn, 0, none⟩) k cg) (.slice (some ⟨go, 0, none⟩) m3 c3) (.slice (some ⟨ge, 1, none⟩) (p3 - 1) (e3 - 1)) X).cell? ⟨bS, 1, none⟩ = some (.slice (some ⟨ge, 1, none⟩) (p3 - 1) (e3 - 1)) := (World.cell?_of_block (a := ⟨bS, 1, none⟩) (hAX bS (.inl (by omega)))).trans qS1
        obtain ⟨r0, r1, r2, r3, r4, r5⟩ := hAB
        unfold AS at k0 k1 k2 qu qu0 qu1
        clear hAX
        refine wp_region_held_drew (S := fun w' => w'.cell? ⟨bG, 0, none⟩ = some (.slice (some ⟨gn, 0, none⟩) k cg) ∧ w'.cell? ⟨bS, 0, none⟩ = some (.slice (some ⟨go, 0, none⟩) m3 c3) ∧ w'.cell? ⟨bS, 1, none⟩ = some (.slice (some ⟨ge, 1, none⟩) (p3 - 1) (e3 - 1))) (by kernel_rfl) ⟨qG, qS0, qS1⟩ (fun hHeld => ?_)
        refine wpAnyH_take (i := 0) (oi := ⟨some 61, _, _, _, _, _⟩) (v := ?_) rfl (by kernel_rfl) (by kernel_rfl) (by kernel_rfl) (fun _ _ _ h => h) (Or.inl ⟨by rfl, ?_⟩) (by assumption) ?_; rotate_left; (focus (intro w hSw; (try dsimp only at hSw); go_simp; (try with_reducible rfl))); (try simp only [Act.put, List.setIfInBounds_toArray, List.set_cons_zero, List.set_cons_succ])
        refine wpAnyH_take (i := 1) (oi := ⟨some 62, _, _, _, _, _⟩) (v := ?_) rfl (by kernel_rfl) (by kernel_rfl) (by kernel_rfl) (fun _ _ _ h => h) (Or.inl ⟨by rfl, ?_⟩) (by assumption) ?_; rotate_left; (focus (intro w hSw; (try dsimp only at hSw); go_simp; (try with_reducible rfl))); (try simp only [Act.put, List.setIfInBounds_toArray, List.set_cons_zero, List.set_cons_succ])
        refine wpAnyH_ready (rs := [2]) (by kernel_rfl) (by simp) ?_; refine AllReadyH.cons (o := ⟨none, _, _, _, _, _⟩) rfl (fun K hK => ?_) AllReadyH.nil; go_simp
        refine hK.out _ _ ⟨qt, qt0, qt1⟩ (fun hHeld => ?_); clear hK K; (try simp only [Act.put, List.setIfInBounds_toArray, List.set_cons_zero, List.set_cons_succ])
        refine wpAnyH_ready (rs := [3]) (by kernel_rfl) (by simp) ?_; refine AllReadyH.cons (o := ⟨none, _, _, _, _, _⟩) rfl (fun K hK => ?_) AllReadyH.nil; go_simp
        refine hK.out _ _ ⟨qu, qu0, qu1⟩ (fun hHeld => ?_); clear hK K; (try simp only [Act.put, List.setIfInBounds_toArray, List.set_cons_zero, List.set_cons_succ])
        refine wpAnyH_done (by kernel_rfl) ?_ _
        go_wp2
        refine bodyPost_ret (v := .tuple #[.agg #[(.slice (some ⟨gn, 0, none⟩) k cg)], .agg #[(.slice (some ⟨go, 0, none⟩) m3 c3), (.slice (some ⟨ge, 1, none⟩) (p3 - 1) (e3 - 1))]]) (by simp [results, Try.results44, go_sem, k0, k1, k2]) rfl ?_
        exact (EgP.fin (Q := P + 2700) (X := X) (st := ⟨st.vs, st.rs.drop 1⟩) hgw hk2 hk10 hsm HMS.out (by have := HPS.out; simp; omega) hem.drop HOX.out HEX.out hhi (HRX.out.mono (by omega)) HFX.out).drew
      · have hAB := HB8.out.it
        have HOX := Lib.hid (HO8.out.it.mono (Nat.le_refl _) (show bG ≤ bS by omega))
        have HEX := Lib.hid ((HS8.out.it.esl).mono (show w.heap.size + 2 ≤ w4.heap.size by omega) (show w5.heap.size ≤ bS by omega))
        have HRX := Lib.hid HR8.out
        have HFX := Lib.hid HF8.out
        have hhi : bS ≤ w8.heap.size := by omega
        go_upto_region 13 with fail
        generalize w8 = X at *
        obtain ⟨k0, k1, k2⟩ := AS.cells (x := (.slice (some ⟨gn, 0, none⟩) k cg)) (a := (.slice (some ⟨go, 0, none⟩) m3 c3)) (b := (.slice (some ⟨ge, 0, none⟩) p3 e3)) hAB
        have qt : (X.setCell ⟨w.heap.size, 0, none⟩ (.slice (some ⟨gn, 0, none⟩) k cg)).cell? ⟨bG, 0, none⟩ = some (.slice (some ⟨gn, 0, none⟩) k cg) := (World.cell?_setCell_other _ _ _ _ (by intro e; have := congrArg Addr.block e; simp at this; omega)).trans qG
        have qt0 : (X.setCell ⟨w.heap.size, 0, none⟩ (.slice (some ⟨gn, 0, none⟩) k cg)).cell? ⟨bS, 0, none⟩ = some (.slice (some ⟨go, 0, none⟩) m3 c3) := (World.cell?_setCell_other _ _ _ _ (by intro e; have := congrArg Addr.block e; simp at this; omega)).trans qS0
        have qt1 : (X.setCell ⟨w.heap.size, 0, none⟩ (.slice (some ⟨gn, 0, none⟩) k cg)).cell? ⟨bS, 1, none⟩ = some (.slice (some ⟨ge, 0, none⟩) p3 e3) := (World.cell?_setCell_other _ _ _ _ (by intro e; have := congrArg Addr.block e; simp at this; omega)).trans qS1
        have hAX := AS.block w.heap.size (.slice (some ⟨gn, 0, none⟩) k cg) (.slice (some ⟨go, 0, none⟩) m3 c3) (.slice (some ⟨ge, 0, none⟩) p3 e3) X
        have qu : (AS w.heap.size (.slice (some ⟨gn, 0, none⟩) k cg) (.slice (some ⟨go, 0, none⟩) m3 c3) (.slice (some ⟨ge, 0, none⟩) p3 e3) X).cell? ⟨bG, 0, none⟩ = some (.slice (some ⟨gn, 0, none⟩) k cg) := (World.cell?_of_block (a := ⟨bG, 0, none⟩) (hAX bG (.inl (by omega)))).trans qG
        have qu0 : (AS w.heap.size (.slice (some ⟨gn, 0, none⟩) k cg) (.slice (some ⟨go, 0, none⟩) m3 c3) (.slice (some ⟨ge, 0, none⟩) p3 e3) X).cell? ⟨bS, 0, none⟩ = some (.slice (some ⟨go, 0, none⟩) m3 c3) := (World.cell?_of_block (a := ⟨bS, 0, none⟩) (hAX bS (.inl (by omega)))).trans qS0
        have qu1 : (AS w.heap.size (.slice (some ⟨gn, 0, none⟩) k cg) (.slice (some ⟨go, 0, none⟩) m3 c3) (.slice (some ⟨ge, 0, none⟩) p3 e3) X).cell? ⟨bS, 1, none⟩ = some (.slice (some ⟨ge, 0, none⟩) p3 e3) := (World.cell?_of_block (a := ⟨bS, 1, none⟩) (hAX bS (.inl (by omega)))).trans qS1
        obtain ⟨r0, r1, r2, r3, r4, r5⟩ := hAB
        unfold AS at k0 k1 k2 qu qu0 qu1
        clear hAX
        refine wp_region_held_drew (S := fun w' => w'.cell? ⟨bG, 0, none⟩ = some (.slice (some ⟨gn, 0, none⟩) k cg) ∧ w'.cell? ⟨bS, 0, none⟩ = some (.slice (some ⟨go, 0, none⟩) m3 c3) ∧ w'.cell? ⟨bS, 1, none⟩ = some (.slice (some ⟨ge, 0, none⟩) p3 e3)) (by kernel_rfl) ⟨qG, qS0, qS1⟩ (fun hHeld => ?_)
        refine wpAnyH_take (i := 0) (oi := ⟨some 61, _, _, _, _, _⟩) (v := ?_) rfl (by kernel_rfl) (by kernel_rfl) (by kernel_rfl) (fun _ _ _ h => h) (Or.inl ⟨by rfl, ?_⟩) (by assumption) ?_; rotate_left; (focus (intro w hSw; (try dsimp only at hSw); go_simp; (try with_reducible rfl))); (try simp only [Act.put, List.setIfInBounds_toArray, List.set_cons_zero, List.set_cons_succ])
        refine wpAnyH_take (i := 1) (oi := ⟨some 62, _, _, _, _, _⟩) (v := ?_) rfl (by kernel_rfl) (by kernel_rfl) (by kernel_rfl) (fun _ _ _ h => h) (Or.inl ⟨by rfl, ?_⟩) (by assumption) ?_; rotate_left; (focus (intro w hSw; (try dsimp only at hSw); go_simp; (try with_reducible rfl))); (try simp only [Act.put, List.setIfInBounds_toArray, List.set_cons_zero, List.set_cons_succ])
        refine wpAnyH_ready (rs := [2]) (by kernel_rfl) (by simp) ?_; refine AllReadyH.cons (o := ⟨none, _, _, _, _, _⟩) rfl (fun K hK => ?_) AllReadyH.nil; go_simp
        refine hK.out _ _ ⟨qt, qt0, qt1⟩ (fun hHeld => ?_); clear hK K; (try simp only [Act.put, List.setIfInBounds_toArray, List.set_cons_zero, List.set_cons_succ])
        refine wpAnyH_ready (rs := [3]) (by kernel_rfl) (by simp) ?_; refine AllReadyH.cons (o := ⟨none, _, _, _, _, _⟩) rfl (fun K hK => ?_) AllReadyH.nil; go_simp
        refine hK.out _ _ ⟨qu, qu0, qu1⟩ (fun hHeld => ?_); clear hK K; (try simp only [Act.put, List.setIfInBounds_toArray, List.set_cons_zero, List.set_cons_succ])
        refine wpAnyH_done (by kernel_rfl) ?_ _
        go_wp2
        refine bodyPost_ret (v := .tuple #[.agg #[(.slice (some ⟨gn, 0, none⟩) k cg)], .agg #[(.slice (some ⟨go, 0, none⟩) m3 c3), (.slice (some ⟨ge, 0, none⟩) p3 e3)]]) (by simp [results, Try.results44, go_sem, k0, k1, k2]) rfl ?_
        exact (EgP.fin (Q := P + 2700) (X := X) (st := st) hgw hk2 hk10 hsm HMS.out HPS.out hem HOX.out HEX.out hhi (HRX.out.mono (by omega)) HFX.out).drew
end Go.Proofs.Ytgclikdienlhdaa

/- What the laws of ValidEager and CellsOf draw. -/
namespace Go.Proofs.Ytgclikdienlhdaa
set_option linter.unusedSimpArgs false
set_option linter.unusedVariables false
open Go.RowKit

/-- Returns a graph and an eager state that lie in memory. -/
def DrGE (w : World) (e : Ending) (w' : World) : Prop :=
  ∃ (A : Option Addr) (n c : Nat) (gs : List Nd) (A2 : Option Addr) (m c2 : Nat) (E : Option Addr) (p e2 : Nat) (st : Eg), e = .returned (.tuple #[.agg #[.slice A n c], .agg #[.slice A2 m c2, .slice E p e2]]) ∧ n = gs.length ∧ 2 ≤ n ∧ n ≤ 10 ∧ n ≤ c ∧ (∀ j, (gs.getD j default).ps.length ≤ 40) ∧ m = st.vs.length ∧ p = st.rs.length ∧ EM st ∧ GS w' w'.heap.size A gs ∧ ES w' w'.heap.size A2 E st ∧ Below w.heap.size w w'

set_option maxHeartbeats 1600000 in
theorem spec_DrawValidEager (A : Option Addr) (n c : Nat) (bs : List Int) (w : World) (hn : n = bs.length) (hnc : n ≤ c) (h : BS w w.heap.size A bs) (hy : BY bs) (hs : n ≤ 1048576) :
    Calls Try.prog 19 #[.slice A n c] w fun e w' => DrGE w e w' := by
  have h1 : BS ((w.alloc (.cells #[.slice none 0 0] 25)).alloc (.cells #[.slice none 0 0, .slice none 0 0] 31)) w.heap.size A bs := h.keep fun p hp => (World.cell?_alloc_lt (w.alloc (.cells #[.slice none 0 0] 25)) (.cells #[.slice none 0 0, .slice none 0 0] 31) p (by simp; omega)).trans (World.cell?_alloc_lt w _ p (by omega))
  have HC := Lib.hid (spec_newReader A n c bs _ w.heap.size (by simp; omega) hn hnc h1 hy hs)
  have HB0 : Hid (As w.heap.size (w.heap.size + 2) (AB w.heap.size) ((w.alloc (.cells #[.slice none 0 0] 25)).alloc (.cells #[.slice none 0 0, .slice none 0 0] 31))) := ⟨⟨by go_simp, by go_simp, by go_simp, by go_simp, by go_simp, by go_simp⟩, by simp, AB.loc _⟩
  have HE0 := Lib.hid (((Below.refl w.heap.size w).alloc (Nat.le_refl _) (.cells #[.slice none 0 0] 25)).alloc (by simp) (.cells #[.slice none 0 0, .slice none 0 0] 31))
  clear hn hnc h h1 hy hs
  go_enter Try.func19, Try.ntmps19
  go_wp2_with fail
  refine HC.out.mono ?_
  rintro e w1 ⟨g, A1, n1, c1, ds, rfl, hn1, hn2, hy1, hr, hg, hb⟩
  have hg2 : w.heap.size + 2 ≤ g := by simpa using hg
  have hl1 : w.heap.size + 2 ≤ w1.heap.size := by have := hb.size; simpa using this
  have HB1 := Lib.hid (HB0.out.step hb)
  have HE1 := Lib.hid (HE0.out.trans (hb.mono (by simp; omega)))
  have hgl := hr.lt
  have HS := Lib.hid (eagerOf_any g A1 n1 c1 ds 0 w1 hr hn1 hy1 hn2 (by omega))
  clear hn1 hr hb HC hy1 HB0 HE0
  go_wp2_with fail
  refine HS.out.mono ?_
  rintro e w2 ⟨V, k, gs, A2, m2, c2, E2, p2, e2, st, rfl, hk2, hk10, hsm, hm, hp, hem, hO, hE, _, ht⟩
  obtain ⟨A3, c3, rfl⟩ := hO.form
  have hz := ht.size
  have HB2 := Lib.hid (HB1.out.turn ht (.inr (by omega)))
  have HE2 := Lib.hid (HE1.out.trans (ht.below (B := w.heap.size) (by omega) (by omega)))
  have HO := Lib.hid hO
  have HEs := Lib.hid hE
  have HM := Lib.hid hm
  have HP := Lib.hid hp
  obtain ⟨k0, k1, k2⟩ := AS.cells (x := .slice A3 k c3) (a := .slice A2 m2 c2) (b := .slice E2 p2 e2) HB2.out.it
  unfold AS at k0 k1 k2
  have K0 := Lib.hid k0
  have K1 := Lib.hid k1
  have K2 := Lib.hid k2
  obtain ⟨r0, r1, r2, r3, r4, r5⟩ := HB2.out.it
  clear ht hO hE hm hp k0 k1 k2 HS HB1 HE1
  go_wp2
  have k0 := K0.out
  have k1 := K1.out
  have k2 := K2.out
  refine bodyPost_ret (v := .tuple #[.agg #[.slice A3 k c3], .agg #[.slice A2 m2 c2, .slice E2 p2 e2]]) (by simp [results, Try.results19, go_sem, k0, k1, k2]) rfl ?_
  have hblk : ∀ b, w1.heap.size ≤ b → b < w2.heap.size → (AS w.heap.size (.slice A3 k c3) (.slice A2 m2 c2) (.slice E2 p2 e2) w2).heap[b]? = w2.heap[b]? := fun b x _ => AS.block _ _ _ _ _ b (.inl (by omega))
  have h3 := OwG.loc _ _ _ _ _ _ _ HO.out hblk
  have h4 := (ESL.loc _ _ _ _ _ _ _ HEs.out hblk).es
  have hsz := AS.size w.heap.size (.slice A3 k c3) (.slice A2 m2 c2) (.slice E2 p2 e2) w2
  exact (show DrGE w _ (AS w.heap.size (.slice A3 k c3) (.slice A2 m2 c2) (.slice E2 p2 e2) w2) from ⟨A3, k, c3, gs, A2, m2, c2, E2, p2, e2, st, rfl, h3.1, hk2, hk10, h3.ncap, hsm, HM.out, HP.out, hem, h3.nodes.more (by rw [hsz]; exact Nat.le_refl _), h4.more (by rw [hsz]; exact Nat.le_refl _), HE2.out.trans (AS.below _ _ _ _ w2)⟩)

set_option maxHeartbeats 1600000 in
theorem spec_DrawCellsOf (A : Option Addr) (n c : Nat) (bs : List Int) (w : World) (hn : n = bs.length) (hnc : n ≤ c) (h : BS w w.heap.size A bs) (hy : BY bs) (hs : n ≤ 1048576) :
    Calls Try.prog 21 #[.slice A n c] w fun e w' => DrGE w e w' := by
  have h1 : BS ((w.alloc (.cells #[.slice none 0 0] 25)).alloc (.cells #[.slice none 0 0, .slice none 0 0] 31)) w.heap.size A bs := h.keep fun p hp => (World.cell?_alloc_lt (w.alloc (.cells #[.slice none 0 0] 25)) (.cells #[.slice none 0 0, .slice none 0 0] 31) p (by simp; omega)).trans (World.cell?_alloc_lt w _ p (by omega))
  have HC := Lib.hid (spec_newReader A n c bs _ w.heap.size (by simp; omega) hn hnc h1 hy hs)
  have HB0 : Hid (As w.heap.size (w.heap.size + 2) (AB w.heap.size) ((w.alloc (.cells #[.slice none 0 0] 25)).alloc (.cells #[.slice none 0 0, .slice none 0 0] 31))) := ⟨⟨by go_simp, by go_simp, by go_simp, by go_simp, by go_simp, by go_simp⟩, by simp, AB.loc _⟩
  have HE0 := Lib.hid (((Below.refl w.heap.size w).alloc (Nat.le_refl _) (.cells #[.slice none 0 0] 25)).alloc (by simp) (.cells #[.slice none 0 0, .slice none 0 0] 31))
  clear hn hnc h h1 hy hs
  go_enter Try.func21, Try.ntmps21
  go_wp2_with fail
  refine HC.out.mono ?_
  rintro e w1 ⟨g, A1, n1, c1, ds, rfl, hn1, hn2, hy1, hr, hg, hb⟩
  have hg2 : w.heap.size + 2 ≤ g := by simpa using hg
  have hl1 : w.heap.size + 2 ≤ w1.heap.size := by have := hb.size; simpa using this
  have HB1 := Lib.hid (HB0.out.step hb)
  have HE1 := Lib.hid (HE0.out.trans (hb.mono (by simp; omega)))
  have hgl := hr.lt
  have HS := Lib.hid (eagerOf_any g A1 n1 c1 ds 0 w1 hr hn1 hy1 hn2 (by omega))
  clear hn1 hr hb HC hy1 HB0 HE0
  go_wp2_with fail
  refine HS.out.mono ?_
  rintro e w2 ⟨V, k, gs, A2, m2, c2, E2, p2, e2, st, rfl, hk2, hk10, hsm, hm, hp, hem, hO, hE, _, ht⟩
  obtain ⟨A3, c3, rfl⟩ := hO.form
  have hz := ht.size
  have HB2 := Lib.hid (HB1.out.turn ht (.inr (by omega)))
  have HE2 := Lib.hid (HE1.out.trans (ht.below (B := w.heap.size) (by omega) (by omega)))
  have HO := Lib.hid hO
  have HEs := Lib.hid hE
  have HM := Lib.hid hm
  have HP := Lib.hid hp
  obtain ⟨k0, k1, k2⟩ := AS.cells (x := .slice A3 k c3) (a := .slice A2 m2 c2) (b := .slice E2 p2 e2) HB2.out.it
  unfold AS at k0 k1 k2
  have K0 := Lib.hid k0
  have K1 := Lib.hid k1
  have K2 := Lib.hid k2
  obtain ⟨r0, r1, r2, r3, r4, r5⟩ := HB2.out.it
  clear ht hO hE hm hp k0 k1 k2 HS HB1 HE1
  go_wp2
  have k0 := K0.out
  have k1 := K1.out
  have k2 := K2.out
  refine bodyPost_ret (v := .tuple #[.agg #[.slice A3 k c3], .agg #[.slice A2 m2 c2, .slice E2 p2 e2]]) (by simp [results, Try.results21, go_sem, k0, k1, k2]) rfl ?_
  have hblk : ∀ b, w1.heap.size ≤ b → b < w2.heap.size → (AS w.heap.size (.slice A3 k c3) (.slice A2 m2 c2) (.slice E2 p2 e2) w2).heap[b]? = w2.heap[b]? := fun b x _ => AS.block _ _ _ _ _ b (.inl (by omega))
  have h3 := OwG.loc _ _ _ _ _ _ _ HO.out hblk
  have h4 := (ESL.loc _ _ _ _ _ _ _ HEs.out hblk).es
  have hsz := AS.size w.heap.size (.slice A3 k c3) (.slice A2 m2 c2) (.slice E2 p2 e2) w2
  exact (show DrGE w _ (AS w.heap.size (.slice A3 k c3) (.slice A2 m2 c2) (.slice E2 p2 e2) w2) from ⟨A3, k, c3, gs, A2, m2, c2, E2, p2, e2, st, rfl, h3.1, hk2, hk10, h3.ncap, hsm, HM.out, HP.out, hem, h3.nodes.more (by rw [hsz]; exact Nat.le_refl _), h4.more (by rw [hsz]; exact Nat.le_refl _), HE2.out.trans (AS.below _ _ _ _ w2)⟩)
end Go.Proofs.Ytgclikdienlhdaa

/- The laws' own helpers on lists of lists and on eager states. -/
namespace Go.Proofs.Ytgclikdienlhdaa
set_option linter.unusedSimpArgs false
set_option linter.unusedVariables false
open Go.RowKit

theorem ES.step {A E : Option Addr} {st : Eg} {wk wl : World} (h : ES wk wk.heap.size A E st) (hb : Below wk.heap.size wk wl) : ES wl wl.heap.size A E st := ⟨h.1.step hb, h.2.step hb⟩

set_option maxRecDepth 100000 in
set_option maxHeartbeats 1600000 in
theorem laws_equalLists (A A' : Option Addr) (n n' c c' : Nat) (xss yss : List (List Int)) (w : World) (B : Nat) (hB : B ≤ w.heap.size) (hn : n = xss.length) (hn' : n' = yss.length) (h : SS w B A xss) (h' : SS w B A' yss) (hb1 : SB xss) (hb2 : SB yss) :
    Calls Try.prog 15 #[.slice A n c, .slice A' n' c'] w fun e w' => e = .returned (.bool (decide (xss = yss))) ∧ Below w.heap.size w w' := by
  have hm1 : n ≤ 1048576 := by rw [hn]; exact hb1.1
  have hm2 : n' ≤ 1048576 := by rw [hn']; exact hb2.1
  by_cases hl : n = n'
  · have hne : ((n : Int) != (n' : Int)) = false := by simp [hl]
    have HL := Lib.hid hl
    have HN := Lib.hid hn
    have HN' := Lib.hid hn'
    have H := Lib.hid h
    have H' := Lib.hid h'
    have HB1 := Lib.hid hb1
    have HB2 := Lib.hid hb2
    clear hl hn hn' h h' hb1 hb2
    go_enter Try.func15, Try.ntmps15
    go_wp2
    go_loopw [5] (fun i wr => ∃ k : Nat, k ≤ n ∧ i = .int .i64 k ∧ Hid (xss.take k = yss.take k) ∧ Below w.heap.size w wr) (fun i _ => n - (intOf i).toNat)
    case atStart => exact ⟨0, Nat.zero_le _, rfl, by simp [Hid], Below.refl _ _⟩
    case round =>
      obtain ⟨k, hk, rfl, HT, hb⟩ := hrel
      by_cases hlt : k < n
      · obtain ⟨b, off, rfl, hbB, hc⟩ := H.out (by have := HN.out; omega)
        obtain ⟨b', off', rfl, hbB', hc'⟩ := H'.out (by have := HN'.out; have := HL.out; omega)
        obtain ⟨A1, n1, c1, c2, hn1', hps⟩ := hc k (by have := HN.out; omega)
        obtain ⟨A2, n2, d1, d2, hn2', hqs⟩ := hc' k (by have := HN'.out; have := HL.out; omega)
        have hx1 := HB1.out.2 k
        have hx2 := HB2.out.2 k
        clear hc hc' H H'
        have hlt' : k < n' := by have := HL.out; omega
        have b1 := (hb.cell (p := ⟨b, off + k, none⟩) (by simp; omega)).trans c2
        have e1 := (hb.cell (p := ⟨b', off' + k, none⟩) (by simp; omega)).trans d2
        have HPS := Lib.hid (hps.below hb hB)
        have HQS := Lib.hid (hqs.below hb hB)
        clear c2 d2 hps hqs
        have hpd : xss.getD k [] = xss.getD k default := rfl
        have hqd : yss.getD k [] = yss.getD k default := rfl
        rw [hpd] at *
        rw [hqd] at *
        clear hpd hqd
        generalize hp : xss.getD k default = p at *
        generalize hq : yss.getD k default = q at *
        have HP := Lib.hid hp
        have HQ := Lib.hid hq
        have HN1 := Lib.hid hn1'
        have HN2 := Lib.hid hn2'
        have hy1 : n1 ≤ 2000000 := by omega
        have hy2 : n2 ≤ 2000000 := by omega
        have HEQ := Lib.hid fun (w' : World) (hB : B ≤ w'.heap.size) (h : IS w' B A1 p) (h' : IS w' B A2 q) => laws_equalInts A1 A2 n1 n2 c1 d1 p q w' B hB HN1.out HN2.out h h' hy1 hy2
        obtain ⟨r, hr⟩ : ∃ r : Bool, r = decide (p = q) := ⟨_, rfl⟩
        rw [← hr] at HEQ
        have HR := Lib.hid hr
        clear hp hq hn1' hn2' hx1 hx2 hr
        go_wp2
        go_still_tail 8, (by kernel_rfl)
        go_wp2_with fail
        refine (HEQ.out wr.drew (Nat.le_trans hB hb.size) HPS.out HQS.out).mono ?_
        rintro e w1 ⟨rfl, hb1⟩
        cases r
        · go_wp2
          go_ret
          refine ⟨ret_b ?_, hb.drew.trans (hb1.mono hb.size)⟩
          have hne : xss.getD k default ≠ yss.getD k default := by
            rw [HP.out, HQ.out]; exact of_decide_eq_false HR.out.symm
          simp [getD_ne xss yss k hne]
        · have he : xss.getD k default = yss.getD k default := by
            rw [HP.out, HQ.out]; exact of_decide_eq_true HR.out.symm
          have hts := take_step xss yss k (by have := HN.out; omega) (by have := HN'.out; omega) HT.out he
          have HTS := Lib.hid hts
          clear he hts
          go_wp2
          go_roundw
          case rel => exact ⟨k + 1, by omega, by go_num, HTS.out, hb.drew.trans (hb1.mono hb.size)⟩
          case measure => simp [intOf]; omega
      · go_wp2
        go_ret
        refine ⟨ret_b ?_, hb⟩
        have hkn : k = n := by omega
        have := take_all_eq xss yss n HN.out (HL.out.trans HN'.out) (by rw [← hkn]; exact HT.out)
        simp [this]
  · have hne : ((n : Int) != (n' : Int)) = true := by simp; omega
    have hf : decide (xss = yss) = false := by
      rw [decide_eq_false_iff_not]; rintro rfl; omega
    rw [hf]
    clear hl hn hn' h h' hf hb1 hb2
    go_enter Try.func15, Try.ntmps15
    go_wp2
    go_ret
    exact ⟨rfl, Below.refl _ _⟩


set_option maxHeartbeats 1600000 in
theorem laws_equalEager (A E A' E' : Option Addr) (n c en ec c' ec' : Nat) (st : Eg) (w : World) (hn : n = st.vs.length) (he : en = st.rs.length) (h : ES w w.heap.size A E st) (h' : ES w w.heap.size A' E' st) (hb : EB st) :
    Calls Try.prog 10 #[.agg #[.slice A n c, .slice E en ec], .agg #[.slice A' n c', .slice E' en ec']] w fun e w' => e = .returned (.bool true) ∧ Below w.heap.size w w' := by
  have H := Lib.hid h
  have H' := Lib.hid h'
  have HI := Lib.hid fun (w' : World) (B : Nat) (hB : B ≤ w'.heap.size) (h : IS w' B A st.vs) (h' : IS w' B A' st.vs) => laws_equalInts A A' n n c c' st.vs st.vs w' B hB hn hn h h' (by have := hb.1; omega) (by have := hb.1; omega)
  have HL := Lib.hid fun (w' : World) (B : Nat) (hB : B ≤ w'.heap.size) (h : SS w' B E st.rs) (h' : SS w' B E' st.rs) => laws_equalLists E E' en en ec ec' st.rs st.rs w' B hB he he h h' hb.2.1 hb.2.1
  rw [show decide (st.vs = st.vs) = true from decide_eq_true rfl] at HI
  rw [show decide (st.rs = st.rs) = true from decide_eq_true rfl] at HL
  clear h h' hn he hb
  go_enter Try.func10, Try.ntmps10
  go_wp2_with fail
  refine (HI.out _ w.heap.size (by simp; omega) ((H.out.1.alloc (Nat.le_refl _) _).alloc (by simp) _) ((H'.out.1.alloc (Nat.le_refl _) _).alloc (by simp) _)).mono ?_
  rintro e w1 ⟨rfl, hb⟩
  have q1 : w1.cell? ⟨w.heap.size, 1, none⟩ = some (.slice E en ec) := (hb.cell (p := ⟨w.heap.size, 1, none⟩) (by simp; omega)).trans (by go_simp)
  have q2 : w1.cell? ⟨w.heap.size + 1, 1, none⟩ = some (.slice E' en ec') := (hb.cell (p := ⟨w.heap.size + 1, 1, none⟩) (by simp)).trans (by go_simp)
  have HS := Lib.hid (((H.out.2.alloc (Nat.le_refl _) (.cells #[.slice A n c, .slice E en ec] 31)).alloc (by simp) (.cells #[.slice A' n c', .slice E' en ec'] 31)).below hb (by simp; omega))
  have HS' := Lib.hid (((H'.out.2.alloc (Nat.le_refl _) (.cells #[.slice A n c, .slice E en ec] 31)).alloc (by simp) (.cells #[.slice A' n c', .slice E' en ec'] 31)).below hb (by simp; omega))
  have HB1 := Lib.hid ((((Below.refl w.heap.size w).alloc (Nat.le_refl _) (.cells #[.slice A n c, .slice E en ec] 31)).alloc (by simp) (.cells #[.slice A' n c', .slice E' en ec'] 31)).trans (hb.mono (by simp; omega)))
  have hs1 : w.heap.size ≤ w1.heap.size := HB1.out.size
  clear hb
  go_wp2_with fail
  refine (HL.out _ w.heap.size hs1 HS.out HS'.out).mono ?_
  rintro e w2 ⟨rfl, hb⟩
  go_wp2
  go_ret
  exact ⟨rfl, HB1.out.trans (hb.mono hs1)⟩
end Go.Proofs.Ytgclikdienlhdaa

/- Plain facts for the laws of promises on eager states: states begin with the meaning; cells and states go back and forth. -/
namespace Go.Proofs.Ytgclikdienlhdaa
set_option linter.unusedSimpArgs false
set_option linter.unusedVariables false
open Go.RowKit

theorem ext_getD {α : Type} [Inhabited α] (l m : List α) (h : l.length = m.length) (he : ∀ i, i < l.length → l.getD i default = m.getD i default) : l = m := by
  apply List.ext_getElem h
  intro i h1 h2
  have := he i h1
  simpa [List.getD, h1, h2] using this
theorem ext_getD0 (l m : List Int) (h : l.length = m.length) (he : ∀ i, i < l.length → l.getD i 0 = m.getD i 0) : l = m := ext_getD l m h he
theorem ext_getDn (l m : List (List Int)) (h : l.length = m.length) (he : ∀ i, i < l.length → l.getD i [] = m.getD i []) : l = m := ext_getD l m h he

theorem celTo_get (gs : List Nd) (vs : List Int) (k i : Nat) (hi : i < vs.length) : (celTo gs vs k).getD i 0 = if i < k ∧ ((gs.getD i default).k == 0) = false then 0 else vs.getD i 0 := by
  induction k with
  | zero => simp [celTo]
  | succ k ih =>
    rw [celTo_succ]
    have hl := celTo_len gs vs k
    cases hk : ((gs.getD k default).k == 0)
    · simp only [Bool.false_eq_true, if_false]
      by_cases e : k = i
      · subst e
        rw [if_pos ⟨Nat.lt_succ_self _, hk⟩]
        simp [List.getD, List.getElem?_set, show k < (celTo gs vs k).length by omega]
      · have h1 : ((celTo gs vs k).set k 0).getD i 0 = (celTo gs vs k).getD i 0 := by simp [List.getD, List.getElem?_set, e]
        rw [h1, ih]
        by_cases h2 : i < k
        · simp [h2, show i < k + 1 by omega]
        · simp [h2, show ¬ i < k + 1 by omega]
    · simp only [if_true]
      rw [ih]
      by_cases e : k = i
      · subst e
        rw [hk]
        simp
      · by_cases h2 : i < k
        · simp [h2, show i < k + 1 by omega]
        · simp [h2, show ¬ i < k + 1 by omega]

theorem depTo_get (gs : List Nd) (vs : List Int) (n i : Nat) (h : i < n) : (depTo gs vs n).getD i [] = depF gs vs i := by
  unfold depTo
  simp [List.getD, h]

theorem start_valid (gs : List Nd) (xs : List Int) (h : okC gs xs = true) : validE gs (startF gs xs) = true := by
  obtain ⟨hg, hc⟩ := okC_parts gs xs h
  have hml : (mean gs xs).length = gs.length := meanTo_len gs xs gs.length
  have hvo := meanTo_VOK gs xs h gs.length (Nat.le_refl _)
  unfold startF
  rw [h, if_pos rfl]
  unfold validE
  rw [hg, decide_eq_true hml, decide_eq_true (depTo_len gs (mean gs xs) gs.length)]
  simp only [Bool.true_and, Bool.and_eq_true]
  refine ⟨allR_true _ _ _ fun k hk => ?_, allE_fin _ _ fun i hi => ?_⟩
  · have := hvo k hk
    unfold rng
    simpa [mean] using this
  · unfold okE
    rw [depTo_get gs (mean gs xs) gs.length i hi]
    simp only [Bool.and_eq_true, beq_iff_eq, decide_true, and_true]
    unfold valE
    cases hk : ((gs.getD i default).k == 0)
    · obtain ⟨h1, h2⟩ := mean_node gs xs h i hi hk
      unfold valF at h2
      rw [h1, if_pos rfl] at h2
      simpa using h2
    · simp

theorem cells_start (gs : List Nd) (xs : List Int) (h : okC gs xs = true) : cellsF gs (startF gs xs) = xs := by
  obtain ⟨hg, hc⟩ := okC_parts gs xs h
  obtain ⟨hl, hco⟩ := validC_parts gs xs hc
  have hml : (mean gs xs).length = gs.length := meanTo_len gs xs gs.length
  have hv := start_valid gs xs h
  unfold cellsF
  rw [hv, if_pos rfl]
  have hs : (startF gs xs).vs = mean gs xs := by unfold startF; rw [h]; rfl
  rw [hs]
  refine ext_getD0 _ _ (by rw [celTo_len]; omega) fun i hi => ?_
  rw [celTo_len] at hi
  rw [celTo_get gs _ _ i hi]
  have hco := hco i (by omega)
  cases hk : ((gs.getD i default).k == 0)
  · rw [if_pos ⟨by omega, rfl⟩]
    unfold cellOK at hco
    rw [hk] at hco
    simp at hco
    simpa [List.getD] using hco.2.symm
  · rw [if_neg (by simp)]
    exact mean_cell gs xs i (by omega) hk

section
variable (gs : List Nd) (st : Eg)
theorem cells_ok (h : validE gs st = true) : okC gs (cellsF gs st) = true ∧ (cellsF gs st).length = gs.length := by
  obtain ⟨hg, hl, hr, ha, ho⟩ := validE_parts gs st h
  have hcl : (cellsF gs st).length = gs.length := by unfold cellsF; rw [h, if_pos rfl, celTo_len]; exact hl
  refine ⟨?_, hcl⟩
  unfold okC
  rw [hg, Bool.true_and]
  refine validC_fin _ _ hcl fun i hi => ?_
  have hget : (cellsF gs st).getD i 0 = if i < gs.length ∧ ((gs.getD i default).k == 0) = false then 0 else st.vs.getD i 0 := by
    unfold cellsF; rw [h, if_pos rfl]; exact celTo_get gs st.vs gs.length i (by omega)
  unfold cellOK
  rw [hget]
  cases hk : ((gs.getD i default).k == 0)
  · rw [if_pos ⟨hi, rfl⟩]; rfl
  · rw [if_neg (by simp)]
    have hx : rng (st.vs.getD i 0) 0 999 = true := by
      cases hx : rng (st.vs.getD i 0) 0 999
      · rw [allR_false st.vs 0 999 i (by omega) hx] at ha; cases ha
      · rfl
    rw [hx]; rfl

theorem mean_cells (h : validE gs st = true) : mean gs (cellsF gs st) = st.vs := by
  obtain ⟨hg, hl, hr, ha, ho⟩ := validE_parts gs st h
  have key : ∀ i, i ≤ gs.length → meanTo gs (cellsF gs st) i = st.vs.take i := by
    intro i
    induction i with
    | zero => intro _; rfl
    | succ i ih =>
      intro hi
      have ih := ih (by omega)
      have hget : (cellsF gs st).getD i 0 = if i < gs.length ∧ ((gs.getD i default).k == 0) = false then 0 else st.vs.getD i 0 := by
        unfold cellsF; rw [h, if_pos rfl]; exact celTo_get gs st.vs gs.length i (by omega)
      have hoi := ho i (by omega)
      unfold okE valE at hoi
      simp only [Bool.and_eq_true, beq_iff_eq, decide_eq_true_eq] at hoi
      have hts : st.vs.take (i + 1) = st.vs.take i ++ [st.vs.getD i 0] := take_succ_getD st.vs i (by omega)
      rw [hts]
      show meanTo gs (cellsF gs st) i ++ [_] = _
      rw [ih]
      congr 2
      cases hk : ((gs.getD i default).k == 0)
      · have hkn : ¬ (gs.getD i default).k = 0 := by simpa using hk
        rw [if_neg hkn] at hoi
        simp only [Bool.false_eq_true, if_false]
        rw [← hoi.1]
        have hvf := (nodeOK_formula gs i ((validG_parts gs hg).2 i (by omega)) hk).1
        have hok : (whole (gs.getD i default).ps).ok i := whole_ok _ i hvf (each_ahead gs i i hg (by omega) hk (Nat.le_refl _))
        refine (ev_agree (whole (gs.getD i default).ps) (st.vs) (st.vs.take i) i hok fun x hx => ?_).1
        obtain ⟨q, hq, rfl⟩ := rds_lt _ _ i hok x hx
        simp [List.getD, List.getElem?_take, hq]
      · simp only [if_true]
        rw [hget, if_neg (by rw [hk]; simp)]
  unfold mean
  rw [key gs.length (Nat.le_refl _), List.take_of_length_le (by omega)]

theorem start_cells (h : validE gs st = true) : startF gs (cellsF gs st) = st := by
  obtain ⟨hg, hl, hr, ha, ho⟩ := validE_parts gs st h
  unfold startF
  rw [(cells_ok gs st h).1, if_pos rfl, mean_cells gs st h]
  have hd : depTo gs st.vs gs.length = st.rs := by
    refine ext_getDn _ _ (by rw [depTo_len]; exact hr.symm) fun i hi => ?_
    rw [depTo_len] at hi
    rw [depTo_get gs st.vs gs.length i hi]
    have hoi := ho i hi
    unfold okE at hoi
    simp only [Bool.and_eq_true, beq_iff_eq, decide_eq_true_eq] at hoi
    exact hoi.2
  rw [hd]
end

theorem start_parts (gs : List Nd) (xs : List Int) (h : okC gs xs = true) : (startF gs xs).vs = meanF gs xs ∧ (startF gs xs).rs = depsF gs xs := by
  unfold startF meanF depsF
  rw [h]
  exact ⟨rfl, rfl⟩
end Go.Proofs.Ytgclikdienlhdaa

/- laws.FnCellsOf returns true for all bytes, and writes nothing that was there. (Made by genpl.py.) -/
namespace Go.Proofs.Ytgclikdienlhdaa
set_option linter.unusedSimpArgs false
set_option linter.unusedVariables false
open Go.RowKit

set_option maxRecDepth 100000 in
set_option maxHeartbeats 6400000 in
theorem plaw_CellsOf (A : Option Addr) (n c : Nat) (bs : List Int) (w : World) (hn : n = bs.length) (hnc : n ≤ c) (h : BS w w.heap.size A bs) (hy : BY bs) (hm : n ≤ 9223372036854775807) :
    Calls Try.prog 5 #[.slice A n c] w fun e w' => e = .returned (.bool true) ∧ Below w.heap.size w w' := by
  by_cases hs : 1048576 < n
  · clear hn hnc h hy
    go_enter Try.func5, Try.ntmps5
    go_wp2
    go_ret
    exact ⟨rfl, Below.refl _ _⟩
  have HC := Lib.hid (spec_DrawCellsOf A n c bs w hn hnc h hy (by omega))
  clear hn hnc h hy
  go_enter Try.func5, Try.ntmps5
  go_wp2_with fail
  refine HC.out.mono ?_
  rintro e w1 ⟨A1, n1, c1, gs, A3, m3, c3, E3, p3, e3, st, rfl, hp1, hp2, hp3, hnc1, hsm, hm, hp, hem, hP, hE, hb⟩
  have HN1 := Lib.hid hp1
  have HG := Lib.hid (GB.of_drawn (by omega) hsm)
  have HM3 := Lib.hid hm
  have HP3 := Lib.hid hp
  have HEB := Lib.hid hem.eb
  have P_1 := Lib.hid (hP)
  have S_1 := Lib.hid (hE)
  have B_1 := Lib.hid (hb)
  have hvl : st.vs.length ≤ 11 := hem.1
  clear hP hp1 hb HC hsm hm hp hE
  go_wp2_with fail
  obtain ⟨w2, hw2⟩ : ∃ W, W = w1.alloc (.cells #[.slice A1 n1 c1] 25) := ⟨_, rfl⟩
  have hb : Below w1.heap.size w1 w2 := by rw [hw2]; exact (Below.refl _ _).alloc (Nat.le_refl _) _
  have P_2 := Lib.hid (P_1.out.step hb)
  clear P_1
  have S_2 := Lib.hid (S_1.out.step hb)
  clear S_1
  have B_2 := Lib.hid (B_1.out.trans (hb.mono B_1.out.size))
  clear B_1
  have F_2 : Hid (As w1.heap.size (w1.heap.size + 1) (fun w' => w'.cell? ⟨w1.heap.size, 0, none⟩ = some (.slice A1 n1 c1)) w2) := by rw [hw2]; exact box_new _ _ _
  clear hb
  have hsz2 : w2.heap.size = w1.heap.size + 1 := by rw [hw2]; simp
  obtain ⟨w3, hw3⟩ : ∃ W, W = w2.alloc (.cells #[.slice A3 m3 c3, .slice E3 p3 e3] 31) := ⟨_, rfl⟩
  have hb : Below w2.heap.size w2 w3 := by rw [hw3]; exact (Below.refl _ _).alloc (Nat.le_refl _) _
  have P_3 := Lib.hid (P_2.out.step hb)
  clear P_2
  have S_3 := Lib.hid (S_2.out.step hb)
  clear S_2
  have B_3 := Lib.hid (B_2.out.trans (hb.mono B_2.out.size))
  clear B_2
  have F_3 := Lib.hid (F_2.out.step hb)
  clear F_2
  have X_3 : Hid (As w2.heap.size (w2.heap.size + 1) (fun w' => w'.cell? ⟨w2.heap.size, 0, none⟩ = some (.slice A3 m3 c3) ∧ w'.cell? ⟨w2.heap.size, 1, none⟩ = some (.slice E3 p3 e3)) w3) := by rw [hw3]; exact box2_new _ _ _ _
  clear hb
  rw [hsz2] at X_3
  rw [← hw2]
  rw [← hw3]
  clear hw2 hw3 hsz2
  have HVE := Lib.hid fun (w' : World) (h : GS w' w'.heap.size A1 gs) (h' : ES w' w'.heap.size A3 E3 st) => top_impl_ValidEager gs st HG.out HEB.out A1 n1 c1 A3 m3 c3 E3 p3 e3 w' HN1.out hnc1 h HM3.out HP3.out h'
  have HVS := Lib.hid fun (w' : World) (h : GS w' w'.heap.size A1 gs) (h' : ES w' w'.heap.size A3 E3 st) => top_spec_ValidEager gs st HG.out HEB.out A1 n1 c1 A3 m3 c3 E3 p3 e3 w' HN1.out hnc1 h HM3.out HP3.out h'
  have HCE := Lib.hid fun (w' : World) (h : GS w' w'.heap.size A1 gs) (h' : ES w' w'.heap.size A3 E3 st) => top_impl_CellsOf gs st HG.out HEB.out A1 n1 c1 A3 m3 c3 E3 p3 e3 w' HN1.out hnc1 h HM3.out HP3.out h'
  have HCS := Lib.hid fun (w' : World) (h : GS w' w'.heap.size A1 gs) (h' : ES w' w'.heap.size A3 E3 st) => top_spec_CellsOf gs st HG.out HEB.out A1 n1 c1 A3 m3 c3 E3 p3 e3 w' HN1.out hnc1 h HM3.out HP3.out h'
  clear HVE HVS
  have hcl := cellsF_len gs st
  have HVC := Lib.hid fun (E : Option Addr) (d : Nat) (w' : World) (h : GS w' w'.heap.size A1 gs) (h' : IS w' w'.heap.size E (cellsF gs st)) => top_impl_ValidCells gs (cellsF gs st) HG.out (by omega) A1 n1 c1 E (cellsF gs st).length d w' HN1.out hnc1 h rfl h'
  have HMO := Lib.hid fun (E : Option Addr) (d : Nat) (w' : World) (h : GS w' w'.heap.size A1 gs) (h' : IS w' w'.heap.size E (cellsF gs st)) => top_impl_MeaningOf gs (cellsF gs st) HG.out (by omega) A1 n1 c1 E (cellsF gs st).length d w' HN1.out hnc1 h rfl h'
  have HOK := Lib.hid fun (h : validE gs st = true) => (cells_ok gs st h).1
  have HLN := Lib.hid fun (h : validE gs st = true) => (cells_ok gs st h).2
  have HME := Lib.hid fun (h : validE gs st = true) => show meanF gs (cellsF gs st) = st.vs from by unfold meanF; rw [(cells_ok gs st h).1, if_pos rfl, mean_cells gs st h]
  have HNIL := Lib.hid fun (h : validE gs st = false) => show cellsF gs st = [] from by unfold cellsF; rw [h]; rfl
  generalize validE gs st = v at *
  generalize okC gs (cellsF gs st) = ok at *
  generalize meanF gs (cellsF gs st) = mf at *
  generalize cellsF gs st = cf at *
  have qf := F_3.out.it
  obtain ⟨xf, yf⟩ := X_3.out.it
  go_wp2_with fail
  refine (HCE.out w3 P_3.out S_3.out).mono ?_
  rintro e w4 ⟨v1, rfl, ho, hb⟩
  obtain ⟨A5, c5, rfl, hI9⟩ := OwnI.form ho
  have P_4 := Lib.hid (P_3.out.step hb)
  clear P_3
  have S_4 := Lib.hid (S_3.out.step hb)
  clear S_3
  have B_4 := Lib.hid (B_3.out.trans (hb.mono B_3.out.size))
  clear B_3
  have F_4 := Lib.hid (F_3.out.step hb)
  clear F_3
  have X_4 := Lib.hid (X_3.out.step hb)
  clear X_3
  clear hb qf xf yf
  obtain ⟨rl, hrl2⟩ : ∃ l, l = cf.length := ⟨_, rfl⟩
  have HRL := Lib.hid hrl2
  have R_4 := Lib.hid (hI9)
  clear ho hI9
  rw [← hrl2] at hcl
  rw [← hrl2]
  rw [← hrl2] at HVC HMO
  clear hrl2
  have qf := F_4.out.it
  obtain ⟨xf, yf⟩ := X_4.out.it
  go_wp2_with fail
  refine (HCS.out w4 P_4.out S_4.out).mono ?_
  rintro e w5 ⟨v2, rfl, ho, hb⟩
  obtain ⟨A4, c4, rfl, hI9⟩ := OwnI.form ho
  have P_5 := Lib.hid (P_4.out.step hb)
  clear P_4
  have S_5 := Lib.hid (S_4.out.step hb)
  clear S_4
  have B_5 := Lib.hid (B_4.out.trans (hb.mono B_4.out.size))
  clear B_4
  have F_5 := Lib.hid (F_4.out.step hb)
  clear F_4
  have X_5 := Lib.hid (X_4.out.step hb)
  clear X_4
  have R_5 := Lib.hid (R_4.out.step hb)
  clear R_4
  clear hb qf xf yf
  rw [← HRL.out]
  have HEQ := Lib.hid (laws_equalInts A5 A4 rl rl c5 c4 cf cf w5 w5.heap.size (Nat.le_refl _) HRL.out HRL.out R_5.out hI9 (by omega) (by omega))
  rw [show decide (cf = cf) = true from decide_eq_true rfl] at HEQ
  clear ho hI9
  have qf := F_5.out.it
  obtain ⟨xf, yf⟩ := X_5.out.it
  go_wp2_with fail
  refine (HEQ.out).mono ?_
  rintro e w6 ⟨rfl, hb⟩
  have P_6 := Lib.hid (P_5.out.step hb)
  clear P_5
  have S_6 := Lib.hid (S_5.out.step hb)
  clear S_5
  have B_6 := Lib.hid (B_5.out.trans (hb.mono B_5.out.size))
  clear B_5
  have F_6 := Lib.hid (F_5.out.step hb)
  clear F_5
  have X_6 := Lib.hid (X_5.out.step hb)
  clear X_5
  have R_6 := Lib.hid (R_5.out.step hb)
  clear R_5
  clear hb qf xf yf
  clear HEQ
  cases v
  · have hnil := HNIL.out (by first | rfl | trivial)
    have hr0 : rl = 0 := by rw [HRL.out, hnil]; rfl
    have hz : ((rl : Int) == 0) = true := by simp [hr0]
    clear hr0 hnil HNIL
    have qf := F_6.out.it
    obtain ⟨xf, yf⟩ := X_6.out.it
    go_wp2_with fail
    refine (HCS.out w6 P_6.out S_6.out).mono ?_
    rintro e w7 ⟨v2, rfl, ho, hb⟩
    obtain ⟨A4, c4, rfl, hI9⟩ := OwnI.form ho
    have P_7 := Lib.hid (P_6.out.step hb)
    clear P_6
    have S_7 := Lib.hid (S_6.out.step hb)
    clear S_6
    have B_7 := Lib.hid (B_6.out.trans (hb.mono B_6.out.size))
    clear B_6
    have F_7 := Lib.hid (F_6.out.step hb)
    clear F_6
    have X_7 := Lib.hid (X_6.out.step hb)
    clear X_6
    have R_7 := Lib.hid (R_6.out.step hb)
    clear R_6
    clear hb qf xf yf
    rw [← HRL.out]
    have HEQ := Lib.hid (laws_equalInts A5 A4 rl rl c5 c4 cf cf w7 w7.heap.size (Nat.le_refl _) HRL.out HRL.out R_7.out hI9 (by omega) (by omega))
    rw [show decide (cf = cf) = true from decide_eq_true rfl] at HEQ
    clear ho hI9
    have qf := F_7.out.it
    obtain ⟨xf, yf⟩ := X_7.out.it
    go_wp2_with fail
    refine (HEQ.out).mono ?_
    rintro e w8 ⟨rfl, hb⟩
    have P_8 := Lib.hid (P_7.out.step hb)
    clear P_7
    have S_8 := Lib.hid (S_7.out.step hb)
    clear S_7
    have B_8 := Lib.hid (B_7.out.trans (hb.mono B_7.out.size))
    clear B_7
    have F_8 := Lib.hid (F_7.out.step hb)
    clear F_7
    have X_8 := Lib.hid (X_7.out.step hb)
    clear X_7
    have R_8 := Lib.hid (R_7.out.step hb)
    clear R_7
    clear hb qf xf yf
    clear HEQ
    go_wp2
    go_ret
    exact ⟨rfl, B_8.out⟩
  · have hok := HOK.out (by first | rfl | trivial)
    have hln := HLN.out (by first | rfl | trivial)
    have hme := HME.out (by first | rfl | trivial)
    have hr0 : rl = n1 := by rw [HRL.out, hln]; exact HN1.out.symm
    have hz : ((rl : Int) == 0) = false := by simp; omega
    subst hok hme
    have hr1 : ¬ (rl = 0) := by omega
    clear hr0 hln HOK HLN HME HNIL HCE HCS
    go_wp2
    have q0 := F_6.out.it
    obtain ⟨x0, y0⟩ := X_6.out.it
    refine wp_region_held_drew (S := fun w' => w'.cell? ⟨w1.heap.size, 0, none⟩ = some (.slice A1 n1 c1) ∧ w'.cell? ⟨w1.heap.size + 1, 0, none⟩ = some (.slice A3 m3 c3) ∧ w'.cell? ⟨w1.heap.size + 1, 1, none⟩ = some (.slice E3 p3 e3)) (by kernel_rfl) ⟨q0, x0, y0⟩ (fun hHeld => ?_)
    refine wpAnyH_take (i := 0) (oi := ⟨some 33, _, _, _, _, _⟩) (v := ?_) rfl (by kernel_rfl) (by kernel_rfl) (by kernel_rfl) (fun _ _ _ h => h) (Or.inl ⟨by rfl, ?_⟩) (by assumption) ?_; rotate_left; (focus (intro w hSw; (try dsimp only at hSw); go_simp; (try with_reducible rfl))); (try simp only [Act.put, List.setIfInBounds_toArray, List.set_cons_zero, List.set_cons_succ])
    refine wpAnyH_take (i := 1) (oi := ⟨some 34, _, _, _, _, _⟩) (v := ?_) rfl (by kernel_rfl) (by kernel_rfl) (by kernel_rfl) (fun _ _ _ h => h) (Or.inl ⟨by rfl, ?_⟩) (by assumption) ?_; rotate_left; (focus (intro w hSw; (try dsimp only at hSw); go_simp; (try with_reducible rfl))); (try simp only [Act.put, List.setIfInBounds_toArray, List.set_cons_zero, List.set_cons_succ])
    refine wpAnyH_ready (rs := [2]) (by kernel_rfl) (by simp) ?_; refine AllReadyH.cons (o := ⟨some 35, _, _, _, _, _⟩) rfl (fun K hK => ?_) AllReadyH.nil; go_simp
    go_at_call 12
    refine (HVC.out A5 c5 w6.drew P_6.out R_6.out).mono ?_
    rintro e w7 ⟨rfl, hb'⟩
    have hb : Below w6.heap.size w6 w7 := below_of_drew hb'
    have P_7 := Lib.hid (P_6.out.step hb)
    clear P_6
    have S_7 := Lib.hid (S_6.out.step hb)
    clear S_6
    have B_7 := Lib.hid (B_6.out.trans (hb.mono B_6.out.size))
    clear B_6
    have F_7 := Lib.hid (F_6.out.step hb)
    clear F_6
    have X_7 := Lib.hid (X_6.out.step hb)
    clear X_6
    have R_7 := Lib.hid (R_6.out.step hb)
    clear R_6
    clear hb hb'
    have q9 := F_7.out.it
    obtain ⟨x9, y9⟩ := X_7.out.it
    refine hK.out _ _ ⟨q9, x9, y9⟩ (fun hHeld => ?_); clear hK K; (try simp only [Act.put, List.setIfInBounds_toArray, List.set_cons_zero, List.set_cons_succ])
    refine wpAnyH_take (i := 3) (oi := ⟨some 36, _, _, _, _, _⟩) (v := ?_) rfl (by kernel_rfl) (by kernel_rfl) (by kernel_rfl) (fun _ _ _ h => h) (Or.inl ⟨by rfl, ?_⟩) (by assumption) ?_; rotate_left; (focus (intro w hSw; (try dsimp only at hSw); go_simp; (try with_reducible rfl))); (try simp only [Act.put, List.setIfInBounds_toArray, List.set_cons_zero, List.set_cons_succ])
    refine wpAnyH_take (i := 4) (oi := ⟨some 37, _, _, _, _, _⟩) (v := ?_) rfl (by kernel_rfl) (by kernel_rfl) (by kernel_rfl) (fun _ _ _ h => h) (Or.inl ⟨by rfl, ?_⟩) (by assumption) ?_; rotate_left; (focus (intro w hSw; (try dsimp only at hSw); go_simp; (try with_reducible rfl))); (try simp only [Act.put, List.setIfInBounds_toArray, List.set_cons_zero, List.set_cons_succ])
    refine wpAnyH_take (i := 5) (oi := ⟨some 38, _, _, _, _, _⟩) (v := ?_) rfl (by kernel_rfl) (by kernel_rfl) (by kernel_rfl) (fun _ _ _ h => h) (Or.inl ⟨by rfl, ?_⟩) (by assumption) ?_; rotate_left; (focus (intro w hSw; (try dsimp only at hSw); go_simp; (try with_reducible rfl))); (try simp only [Act.put, List.setIfInBounds_toArray, List.set_cons_zero, List.set_cons_succ])
    refine wpAnyH_take (i := 7) (oi := ⟨some 40, _, _, _, _, _⟩) (v := ?_) rfl (by kernel_rfl) (by kernel_rfl) (by kernel_rfl) (fun _ _ _ h => h) (Or.inl ⟨by rfl, ?_⟩) (by assumption) ?_; rotate_left; (focus (intro w hSw; (try dsimp only at hSw); go_simp; (try with_reducible rfl))); (try simp only [Act.put, List.setIfInBounds_toArray, List.set_cons_zero, List.set_cons_succ])
    refine wpAnyH_take (i := 8) (oi := ⟨some 41, _, _, _, _, _⟩) (v := ?_) rfl (by kernel_rfl) (by kernel_rfl) (by kernel_rfl) (fun _ _ _ h => h) (Or.inl ⟨by rfl, ?_⟩) (by assumption) ?_; rotate_left; (focus (intro w hSw; (try dsimp only at hSw); go_simp; (try with_reducible rfl))); (try simp only [Act.put, List.setIfInBounds_toArray, List.set_cons_zero, List.set_cons_succ])
    refine wpAnyH_ready (rs := [6]) (by kernel_rfl) (by simp) ?_; refine AllReadyH.cons (o := ⟨some 39, _, _, _, _, _⟩) rfl (fun K hK => ?_) AllReadyH.nil; go_simp
    go_at_call 14
    refine (HMO.out A5 c5 w7 P_7.out R_7.out).mono ?_
    rintro e w8 ⟨v3, rfl, ho, hb⟩
    obtain ⟨A6, c6, rfl, hI6⟩ := OwnI.form ho
    have P_8 := Lib.hid (P_7.out.step hb)
    clear P_7
    have S_8 := Lib.hid (S_7.out.step hb)
    clear S_7
    have B_8 := Lib.hid (B_7.out.trans (hb.mono B_7.out.size))
    clear B_7
    have F_8 := Lib.hid (F_7.out.step hb)
    clear F_7
    have X_8 := Lib.hid (X_7.out.step hb)
    clear X_7
    have R_8 := Lib.hid (R_7.out.step hb)
    clear R_7
    clear hb
    rw [← HM3.out]
    have q9 := F_8.out.it
    obtain ⟨x9, y9⟩ := X_8.out.it
    refine hK.out _ _ ⟨q9, x9, y9⟩ (fun hHeld => ?_); clear hK K; (try simp only [Act.put, List.setIfInBounds_toArray, List.set_cons_zero, List.set_cons_succ])
    have hm11 : m3 ≤ 11 := by have := HM3.out; omega
    refine wpAnyH_ready (rs := [9]) (by kernel_rfl) (by simp) ?_; refine AllReadyH.cons (o := ⟨some 42, _, _, _, _, _⟩) rfl (fun K hK => ?_) AllReadyH.nil; go_simp
    go_at_call 13
    refine (laws_equalInts A6 A3 m3 m3 c6 c3 st.vs st.vs w8 w8.heap.size (Nat.le_refl _) HM3.out HM3.out hI6 S_8.out.1 (by omega) (by omega)).mono ?_
    rintro e w9 ⟨rfl, hb⟩
    have P_9 := Lib.hid (P_8.out.step hb)
    clear P_8
    have S_9 := Lib.hid (S_8.out.step hb)
    clear S_8
    have B_9 := Lib.hid (B_8.out.trans (hb.mono B_8.out.size))
    clear B_8
    have F_9 := Lib.hid (F_8.out.step hb)
    clear F_8
    have X_9 := Lib.hid (X_8.out.step hb)
    clear X_8
    have R_9 := Lib.hid (R_8.out.step hb)
    clear R_8
    clear hb
    rw [show decide (st.vs = st.vs) = true from decide_eq_true rfl]
    clear ho hI6
    have q9 := F_9.out.it
    obtain ⟨x9, y9⟩ := X_9.out.it
    refine hK.out _ _ ⟨q9, x9, y9⟩ (fun hHeld => ?_); clear hK K; (try simp only [Act.put, List.setIfInBounds_toArray, List.set_cons_zero, List.set_cons_succ])
    refine wpAnyH_take (i := 10) (oi := ⟨some 43, _, _, _, _, _⟩) (v := ?_) rfl (by kernel_rfl) (by kernel_rfl) (by kernel_rfl) (fun _ _ _ h => h) (Or.inl ⟨by rfl, ?_⟩) (by assumption) ?_; rotate_left; (focus (intro w hSw; (try dsimp only at hSw); go_simp; (try with_reducible rfl))); (try simp only [Act.put, List.setIfInBounds_toArray, List.set_cons_zero, List.set_cons_succ])
    refine wpAnyH_take (i := 11) (oi := ⟨some 2, _, _, _, _, _⟩) (v := ?_) rfl (by kernel_rfl) (by kernel_rfl) (by kernel_rfl) (fun _ _ _ h => h) (Or.inl ⟨by rfl, ?_⟩) (by assumption) ?_; rotate_left; (focus (intro w hSw; (try dsimp only at hSw); go_simp; (try with_reducible rfl))); (try simp only [Act.put, List.setIfInBounds_toArray, List.set_cons_zero, List.set_cons_succ])
    refine wpAnyH_done (by kernel_rfl) ?_ _
    go_wp2
    go_ret
    exact ⟨rfl, B_9.out⟩
end Go.Proofs.Ytgclikdienlhdaa


namespace Go.Proofs.Ytgclikdienlhdaa
set_option linter.unusedSimpArgs false
set_option linter.unusedVariables false
open Go.ChangeShapes Go.WideShapes Go.ChangeAt Go.RowKit

set_option maxRecDepth 100000 in
theorem plifted_CellsOf (os : Os) (started : os.Started) (H : Type) (enc : TypeId × Value → H) :
    ReturnsInHanded {} Try.checked os 5 .any (Rows.fnCellsOfSpec.pre6 enc Try.prog Try.f5 Rows.fnCellsOfRow.domain false) (Rows.fnCellsOfSpec.post enc Try.prog Try.f5 false true false false) := by
  refine returnsInHanded_of_change (C := Try.checked) own started (by kernel_rfl) Try.func5
    (ChangeSpec.witness6 (enc := enc) (C := Try.checked) false ⟨#[], #[.slice none 0 0], []⟩ 8 (by kernel_rfl) (by kernel_rfl) (by kernel_rfl) (by kernel_rfl)) ?_
  intro W base args ds gs before hval0 hW hcnd _
  have hval : ∀ (j : Nat) t v, Try.f5.params[j]? = some t → args[j]? = some v → Value.okWide Try.prog W .any base t v := hval0
  have hW' := hW
  obtain ⟨p, q, hA0, hV, rfl, hfz, hnd⟩ := hW
  have hA : DataW.TrodAll enc Try.prog W 0 (fun _ => true) true Try.f5.params.toList args.toList ds p := hA0
  rw [Try.params5] at hA hval
  obtain ⟨v0, vs0, d0, ds0, p0, q0, hargs, rfl, rfl, h0, r0⟩ := trodAll_cons hA
  obtain ⟨rfl, rfl, rfl⟩ := trodAll_nil r0
  obtain rfl : args = #[v0] := by cases args; simp_all
  obtain ⟨rfl, rfl⟩ := trodVars_none hV
  have k0 := h0
  have lt0 : ∀ x ∈ p0, x.block < W.heap.size := by obtain ⟨m, hm⟩ := k0; exact DataW.trod_lt m _ _ _ hm
  obtain ⟨A, n, c, bs, rfl, hn, hnc, hm, hy, hbs⟩ := open_code (hval 0 22 v0 rfl rfl) h0
  clear hA0 hval0
  refine (plaw_CellsOf A n c bs W hn hnc hbs hy hm).mono fun e W' ⟨he, bel⟩ => ?_
  subst he
  exact ⟨_, rfl, _, _, _, [], _, [], hW', trodAll_mk1 (shut_bool Try.underlying4 _), (trodAll_cons_mk (Below.trod laidOut (by kernel_rfl) (of_decide_eq_true (by kernel_rfl)) k0 bel lt0) trodAll_mk0), rfl, bel.frame _, fun h => by cases h⟩

theorem pproved_CellsOf : Rows.FnCellsOfSaid :=
  OpenClaim.holds_of_wide 5 Try.f5 rfl rfl rfl rfl rfl rfl rfl ⟨rfl, rfl, rfl, rfl, rfl⟩ rfl rfl rfl rfl rfl (by kernel_rfl) Try.func5 (by kernel_rfl)
    (of_decide_eq_true (by kernel_rfl)) (by unfold Func.isWrapper; first | (rw [if_pos (by decide +kernel)]; kernel_rfl) | (rw [if_neg (by decide +kernel)]; exact ⟨rfl, rfl⟩))
    (fun os started H enc _ => plifted_CellsOf os started H enc)
#print axioms pproved_CellsOf
end Go.Proofs.Ytgclikdienlhdaa
