/- For all bytes the law FnValidActs holds: the first acts of a session are a session; and the bytes stay as they were. Conditions: none. -/
import Derived.Test.YtgclikdienlhdaaZ06
import Derived.Laws.MakeOwn
import Derived.WalkSmall
import Derived.Deep.RegionWith
import Derived.Deep.RegionHeld3
/- Words for acts of a session: a slice of acts that reads as a list; copies, comparisons, sizes, marks. -/
namespace Go.Proofs.Ytgclikdienlhdaa
set_option linter.unusedSimpArgs false
set_option linter.unusedVariables false
open Go.RowKit

/-- An act of a session. -/
structure Ac where
  k : Int
  a : Int
  b : Int
deriving DecidableEq, Inhabited

def Ac.cells (p : Ac) : List Value := [.int .i64 p.k, .int .i64 p.a, .int .i64 p.b]

/-- The slice at A reads as the acts ps; it lies below block B. -/
def CS (w : World) (B : Nat) (A : Option Addr) (ps : List Ac) : Prop :=
  0 < ps.length → ∃ b off, A = some ⟨b, off, none⟩ ∧ b < B ∧ ∀ j, j < ps.length →
    w.cell? ⟨b, off + j * 3, none⟩ = some (.int .i64 (ps.getD j default).k) ∧ w.cell? ⟨b, off + j * 3 + 1, none⟩ = some (.int .i64 (ps.getD j default).a) ∧
    w.cell? ⟨b, off + j * 3 + 2, none⟩ = some (.int .i64 (ps.getD j default).b)

theorem CS.keep {w w' : World} {B : Nat} {A : Option Addr} {ps : List Ac} (h : CS w B A ps) (hk : ∀ p : Addr, p.block < B → w'.cell? p = w.cell? p) : CS w' B A ps := by
  intro hn
  obtain ⟨b, off, e, hb, hc⟩ := h hn
  refine ⟨b, off, e, hb, fun j hj => ?_⟩
  obtain ⟨h0, h1, h2⟩ := hc j hj
  exact ⟨(hk _ hb).trans h0, (hk _ hb).trans h1, (hk _ hb).trans h2⟩
theorem CS.more {w : World} {B B' : Nat} {A : Option Addr} {ps : List Ac} (h : CS w B A ps) (hB : B ≤ B') : CS w B' A ps := by
  intro hn
  obtain ⟨b, off, e, hb, hc⟩ := h hn
  exact ⟨b, off, e, by omega, hc⟩
theorem CS.below {w w' : World} {B C : Nat} {A : Option Addr} {ps : List Ac} (h : CS w B A ps) (hb : Below C w w') (hC : B ≤ C) : CS w' B A ps :=
  h.keep fun _ hp => hb.cell (Nat.lt_of_lt_of_le hp hC)
theorem CS.alloc {w : World} {B : Nat} {A : Option Addr} {ps : List Ac} (h : CS w B A ps) (hB : B ≤ w.heap.size) (o : Obj) : CS (w.alloc o) B A ps :=
  h.keep fun p hp => World.cell?_alloc_lt w o p (by omega)
theorem CS.nil (w : World) (B : Nat) (A : Option Addr) : CS w B A [] := fun h => absurd h (by simp)
theorem CS.step {A : Option Addr} {ps : List Ac} {wk wl : World} (h : CS wk wk.heap.size A ps) (hb : Below wk.heap.size wk wl) : CS wl wl.heap.size A ps := (h.below hb (Nat.le_refl _)).more hb.size
theorem CS.loc (B : Nat) (A : Option Addr) (ps : List Ac) : Loc 0 B fun w => CS w B A ps :=
  fun w w' h hk => h.keep fun p hp => World.cell?_of_block (hk p.block (Nat.zero_le _) hp)

/-- Three cells written one after the other. -/
def set3 (xs : List Value) (j : Nat) (p : Ac) : List Value :=
  ((xs.set j (.int .i64 p.k)).set (j + 1) (.int .i64 p.a)).set (j + 2) (.int .i64 p.b)

theorem take_set3 (xs : List Value) (j : Nat) (p : Ac) (h : j + 3 ≤ xs.length) : (set3 xs j p).take (j + 3) = xs.take j ++ p.cells := by
  apply List.ext_getElem?
  intro i
  have hl : (xs.take j).length = j := by simp; omega
  rcases Nat.lt_or_ge i j with h1 | h1
  · rw [List.getElem?_append_left (by omega)]
    simp [set3, show i < j + 3 by omega, h1, show ¬ j = i by omega, show ¬ j + 1 = i by omega, show ¬ j + 2 = i by omega]
  · rw [List.getElem?_append_right (by omega), hl]
    obtain ⟨d, rfl⟩ : ∃ d, i = j + d := ⟨i - j, by omega⟩
    rw [Nat.add_sub_cancel_left]
    match d with
    | 0 => simp [set3, Ac.cells, List.getElem?_set]; omega
    | 1 => simp [set3, Ac.cells, List.getElem?_set]; omega
    | 2 => simp [set3, Ac.cells, List.getElem?_set]; omega
    | d + 3 => simp [Ac.cells]; omega

theorem own_set3 {w : World} {base e n cap g : Nat} {xs : List Value} (h : w.ownsRow base e 3 (.slice (some ⟨g, 0, none⟩) n cap) n xs) (j : Nat) (p : Ac) :
    (((w.setCell ⟨g, j, none⟩ (.int .i64 p.k)).setCell ⟨g, j + 1, none⟩ (.int .i64 p.a)).setCell ⟨g, j + 2, none⟩ (.int .i64 p.b)).ownsRow base e 3 (.slice (some ⟨g, 0, none⟩) n cap) n (set3 xs j p) :=
  (((h.stored j (.int .i64 p.k)).1.stored (j + 1) (.int .i64 p.a)).1.stored (j + 2) (.int .i64 p.b)).1

theorem below_set3 {B : Nat} {a w : World} (h : Below B a w) {g : Nat} (hg : B ≤ g) (j : Nat) (p : Ac) :
    Below B a (((w.setCell ⟨g, j, none⟩ (.int .i64 p.k)).setCell ⟨g, j + 1, none⟩ (.int .i64 p.a)).setCell ⟨g, j + 2, none⟩ (.int .i64 p.b)) :=
  ((h.setCell (p := ⟨g, j, none⟩) hg _).setCell (p := ⟨g, j + 1, none⟩) hg _).setCell (p := ⟨g, j + 2, none⟩) hg _

theorem length_acells (ps : List Ac) : (ps.flatMap Ac.cells).length = ps.length * 3 := by
  induction ps with
  | nil => rfl
  | cons p l ih => simp [List.flatMap_cons, ih, Ac.cells]; omega

theorem acells_get (ps : List Ac) (j : Nat) (h : j < ps.length) : (ps.flatMap Ac.cells)[j * 3]? = some (.int .i64 (ps.getD j default).k) ∧ (ps.flatMap Ac.cells)[j * 3 + 1]? = some (.int .i64 (ps.getD j default).a) ∧
    (ps.flatMap Ac.cells)[j * 3 + 2]? = some (.int .i64 (ps.getD j default).b) := by
  induction ps generalizing j with
  | nil => simp at h
  | cons p l ih =>
    have e : (p :: l).flatMap Ac.cells = p.cells ++ l.flatMap Ac.cells := by simp [List.flatMap_cons]
    rw [e]
    match j with
    | 0 => simp [Ac.cells]
    | j + 1 =>
      have hj : j < l.length := by simpa using h
      have hc : p.cells.length = 3 := rfl
      obtain ⟨a0, a1, a2⟩ := ih j hj
      have s (d : Nat) : (p.cells ++ l.flatMap Ac.cells)[(j + 1) * 3 + d]? = (l.flatMap Ac.cells)[j * 3 + d]? := by
        rw [List.getElem?_append_right (by omega), hc]; congr 1; omega
      have s0 := s 0
      simp only [Nat.add_zero] at s0
      rw [s0, s 1, s 2]
      simpa using ⟨a0, a1, a2⟩

theorem CS.of_own {w : World} {base e n c : Nat} {A : Option Addr} {ps : List Ac} (h : w.ownsRow base e 3 (.slice A n c) n (ps.flatMap Ac.cells)) : CS w w.heap.size A ps := by
  intro hn
  have hl : ps.length = n := by have := h.1; rw [length_acells] at this; omega
  rcases h.2 with ⟨_, h0⟩ | ⟨g, cap, cur, hv, _, hh, _⟩
  · omega
  · simp only [Value.slice.injEq] at hv
    obtain ⟨rfl, _, rfl⟩ := hv
    have hg : g < w.heap.size := by
      rcases Nat.lt_or_ge g w.heap.size with hlt | hge
      · exact hlt
      · rw [Array.getElem?_eq_none hge] at hh; cases hh
    refine ⟨g, 0, rfl, hg, fun j hj => ?_⟩
    obtain ⟨a0, a1, a2⟩ := acells_get ps j hj
    simp only [Nat.zero_add]
    rw [h.cellAt _ (by omega), h.cellAt _ (by omega), h.cellAt _ (by omega)]
    exact ⟨a0, a1, a2⟩

/-- The slice value is one of the call's own, of acts. -/
def OwnA (w : World) (base : Nat) (v : Value) (xs : List Ac) : Prop := w.ownsRow base 72 3 v xs.length (xs.flatMap Ac.cells)
/-- Returns a slice of fresh acts. -/
def RetA (w : World) (xs : List Ac) (e : Ending) (w' : World) : Prop := ∃ v, e = .returned v ∧ OwnA w' w.heap.size v xs ∧ Below w.heap.size w w'
theorem RetA.nil {w w' : World} (hb : Below w.heap.size w w') : RetA w [] (.returned (.slice none 0 0)) w' := ⟨_, rfl, World.ownsRow_nil _ _ _ _, hb⟩

theorem OwR.acts {lo hi : Nat} {n c : Nat} {A : Option Addr} {ps : List Ac} {w : World} (h : OwR lo hi 72 3 (.slice A n c) n (ps.flatMap Ac.cells) w) : CS w hi A ps := by
  intro hn
  obtain ⟨b, off, rfl, _, hc⟩ := CS.of_own h.1 hn
  exact ⟨b, off, rfl, h.2 b rfl, hc⟩
theorem As.acts {lo hi n c : Nat} {A : Option Addr} {ps : List Ac} {w : World} (h : As lo hi (OwR lo hi 72 3 (.slice A n c) n (ps.flatMap Ac.cells)) w) : CS w w.heap.size A ps := h.it.acts.more h.le

def eqAc (p q : Ac) : Bool := p.k == q.k && p.a == q.a && p.b == q.b

theorem eqAc_iff (p q : Ac) : eqAc p q = true ↔ p = q := by
  obtain ⟨a, b, c⟩ := p
  obtain ⟨a', b', c'⟩ := q
  simp [eqAc, and_assoc]

theorem info_act : (Try.prog.info? 72).map (fun i => (i.zero, i.size, i.bytes)) = some (some (.agg #[.int .i64 0, .int .i64 0, .int .i64 0]), 3, 24) := by kernel_rfl

theorem mks_three (k k3 : Int) (m : Nat) (h : k3 = k + m) : mks k (m + 3) = mks k m ++ (⟨k3, k3 + 1, k3 + 1 + 1⟩ : Ac).cells := by
  have e : (⟨k3, k3 + 1, k3 + 1 + 1⟩ : Ac) = ⟨k + m, k + m + 1, k + m + 2⟩ := by subst h; congr 1; omega
  rw [e, mks_succ k (m + 2), mks_succ k (m + 1), mks_succ k m]
  simp [Ac.cells]
  omega

end Go.Proofs.Ytgclikdienlhdaa

/- The drawing of sessions: effects, words for someActs. -/
namespace Go.Proofs.Ytgclikdienlhdaa
set_option linter.unusedSimpArgs false
set_option linter.unusedVariables false
open Go.RowKit

set_option maxRecDepth 100000 in
set_option maxHeartbeats 1600000 in
theorem spec_effects_any (A : Option Addr) (n c : Nat) (gs : List Nd) (w : World) (B : Nat) (hB : B ≤ w.heap.size) (hn : n = gs.length) (h : GS w B A gs) (hs : n ≤ 1000) :
    Calls Try.prog 99 #[.agg #[.slice A n c]] w fun e w' => ∃ (v : Value) (xs : List Int), e = .returned v ∧ xs.length ≤ n ∧ OwnI w' w.heap.size v xs ∧ Below w.heap.size w w' := by
  obtain ⟨i0, hi, hz0, hz1, hz2⟩ := info_parts info_int
  have H := Lib.hid (h.alloc hB (.cells #[.slice A n c] 25))
  have HN := Lib.hid hn
  have hrow0 := World.ownsRow_lit (e := 3) (size := 1) (base := w.heap.size + 1) (w.alloc (.cells #[.slice A n c] 25)) #[] 0 (by simp) (by unfold maxLen; omega) (by simp)
  have HROW := Lib.hid hrow0
  clear h hn hrow0
  go_enter Try.func99, Try.ntmps99
  go_wp2
  go_loopw [3, 4] (fun v u wr => ∃ (k : Nat) (xs : List Int), k ≤ n ∧ u = .int .i64 k ∧ xs.length ≤ k ∧ Hid (wr.ownsRow (w.heap.size + 1) 3 1 v xs.length (xs.map (Value.int .i64))) ∧ Hid (Below (w.heap.size + 1) (w.alloc (.cells #[.slice A n c] 25)) wr)) (fun _ u _ => n - (intOf u).toNat)
  case atStart => exact ⟨0, [], Nat.zero_le _, rfl, Nat.le_refl _, by simpa [Hid] using HROW.out, (Below.refl _ _).alloc (by simp) _⟩
  case round =>
    obtain ⟨k, xs, hk, rfl, hxk, HO, HB⟩ := hrel
    obtain ⟨Av, cv, rfl⟩ := row_form' HO.out
    have hwr : w.heap.size + 1 ≤ wr.heap.size := by have := HB.out.size; simpa using this
    have hbox : wr.cell? ⟨w.heap.size, 0, none⟩ = some (.slice A n c) := (HB.out.cell (p := ⟨w.heap.size, 0, none⟩) (by simp)).trans (by go_simp)
    obtain ⟨l, hl⟩ : ∃ l, l = xs.length := ⟨_, rfl⟩
    have HL := Lib.hid hl
    rw [← hl] at HO hxk ⊢
    clear hl
    by_cases hlt : k < n
    · obtain ⟨b, off, rfl, hbB, hcc⟩ := H.out (by have := HN.out; omega)
      obtain ⟨c0, _⟩ := hcc k (by have := HN.out; omega)
      have e0 := (HB.out.cell (p := ⟨b, off + k * 2, none⟩) (by show b < w.heap.size + 1; omega)).trans c0
      have hbw : b < wr.heap.size := by omega
      clear c0 hcc
      generalize gs.getD k default = d at *
      cases hd : (d.k == 2)
      · go_wp2
        go_roundw
        case rel => exact ⟨k + 1, xs, by omega, by go_num, by have := HL.out; omega, by rw [← HL.out]; exact HO.out, HB.out⟩
        case measure => simp [intOf]; omega
      · go_wp2_with (at_builtin; refine wpList_append_own _ rfl _ _ 26 rfl (w.heap.size + 1) 3 i0 (.int .i64 0) 1 8 Try.underlying26 hi hz0 hz1 hz2 rfl (by decide) _ _ _ rfl (HO.out.alloc _) ⟨_, 0, none⟩ 1 1 [.int .i64 k] rfl rfl (cell_one_new _ _ _) ?c2 ?c3 ?c4 ?c5 ?_)
        case c2 => first | rfl | (intro u hu; simp at hu; subst hu; rfl)
        case c3 => unfold maxLen; omega
        case c4 => omega
        case c5 => first | omega | (simp; omega)
        intro v' w3 hown' hgrow _
        have hpos := (HO.out.alloc (.cells #[.int .i64 k] 3)).lt
        have HB3 : Hid (Below (w.heap.size + 1) (w.alloc (.cells #[.slice (some ⟨b, off, none⟩) n c] 25)) w3) := (HB.out.alloc hwr (.cells #[.int .i64 k] 3)).grown hgrow (by simp; omega) (fun q hq => (hpos q hq).1)
        have HO3 : Hid (w3.ownsRow (w.heap.size + 1) 3 1 v' (xs ++ [(k : Int)]).length ((xs ++ [(k : Int)]).map (Value.int .i64))) := by
          rw [List.length_append, ← HL.out]; simpa [Hid] using hown'
        clear hown' hgrow hpos
        go_wp2
        go_roundw
        case rel => exact ⟨k + 1, xs ++ [(k : Int)], by omega, by go_num, by rw [List.length_append, ← HL.out]; simp; omega, HO3.out, HB3.out⟩
        case measure => simp [intOf]; omega
    · obtain rfl : k = n := by omega
      go_wp2
      go_ret
      refine ⟨_, xs, rfl, by rw [← HL.out]; omega, ?_, ((Below.refl w.heap.size w).alloc (Nat.le_refl _) _).trans (HB.out.mono (by omega))⟩
      unfold OwnI
      rw [← HL.out]
      exact own_mono HO.out (by omega)

/-- The state of the drawing of a session: the graph's box at s, the acts ac, the effects el. -/
structure SA (g s : Nat) (A : Option Addr) (n c : Nat) (bs : List Int) (Ag : Option Addr) (k cg lo hi : Nat) (gs : List Nd) (Ae : Option Addr) (ne ce : Nat) (el : List Int) (w0 : World) (P : Nat) (v : Value) (l : Nat) (ac : List Ac) (w : World) : Prop where
  g_s : g < s
  lohi : g < lo ∧ hi ≤ s
  frd : Frd g s w0 w
  rd : Rdr g A n c bs P w
  lt : s < w.heap.size
  gb : w.cell? ⟨s, 0, none⟩ = some (.slice Ag k cg)
  gr : As lo hi (OwG lo hi (.slice Ag k cg) k gs) w
  en : ne = el.length
  er : w.ownsRow (s + 1) 3 1 (.slice Ae ne ce) ne (el.map (Value.int .i64))
  an : l = ac.length
  ar : w.ownsRow (s + 1) 72 3 v l (ac.flatMap Ac.cells)

theorem int_ne_act : (3 : TypeId) ≠ 72 := by decide
section
variable {g s : Nat} {A : Option Addr} {n c : Nat} {bs : List Int} {Ag : Option Addr} {k cg lo hi : Nat} {gs : List Nd} {Ae : Option Addr} {ne ce : Nat} {el : List Int} {w0 : World} {P P' : Nat} {v : Value} {l : Nat} {ac : List Ac} {w w' : World}
theorem SA.keep (h : SA g s A n c bs Ag k cg lo hi gs Ae ne ce el w0 P v l ac w) (hk : ∀ b, b ≠ g → b < w.heap.size → w'.heap[b]? = w.heap[b]?) (hr : Rdr g A n c bs P' w') (hf : Frd g s w w') : SA g s A n c bs Ag k cg lo hi gs Ae ne ce el w0 P' v l ac w' := by
  have h1 := h.g_s
  have h2 := h.lt
  have h3 := h.lohi
  have h4 := h.gr.le
  exact ⟨h.g_s, h.lohi, h.frd.trans hf, hr, Nat.lt_of_lt_of_le h.lt hf.size, (World.cell?_of_block (a := ⟨s, 0, none⟩) (hk s (by omega) h.lt)).trans h.gb,
    h.gr.keep (fun b x y => hk b (by omega) (by omega)) hf.size, h.en, own_keep h.er fun b x y => hk b (by omega) y, h.an, own_keep h.ar fun b x y => hk b (by omega) y⟩
theorem SA.mono (h : SA g s A n c bs Ag k cg lo hi gs Ae ne ce el w0 P v l ac w) (hP : P ≤ P') : SA g s A n c bs Ag k cg lo hi gs Ae ne ce el w0 P' v l ac w :=
  ⟨h.g_s, h.lohi, h.frd, h.rd.mono hP, h.lt, h.gb, h.gr, h.en, h.er, h.an, h.ar⟩
theorem SA.pick (h : SA g s A n c bs Ag k cg lo hi gs Ae ne ce el w0 P v l ac w) (hr : Rdr g A n c bs P' w') (ht : Tch g (g + 1) w w') : SA g s A n c bs Ag k cg lo hi gs Ae ne ce el w0 P' v l ac w' :=
  h.keep (fun b x y => ht.block b y (by omega)) hr (Frd.of_tch ht (by have := h.lt; omega))
theorem SA.step (h : SA g s A n c bs Ag k cg lo hi gs Ae ne ce el w0 P v l ac w) (hb : Below w.heap.size w w') : SA g s A n c bs Ag k cg lo hi gs Ae ne ce el w0 P v l ac w' :=
  h.keep (fun b _ y => hb.block b y) (h.rd.step hb) (Frd.of_below hb (by have := h.lt; omega))
theorem SA.alloc (h : SA g s A n c bs Ag k cg lo hi gs Ae ne ce el w0 P v l ac w) (o : Obj) : SA g s A n c bs Ag k cg lo hi gs Ae ne ce el w0 P v l ac (w.alloc o) := h.step ((Below.refl _ _).alloc (Nat.le_refl _) o)
/-- One act more. -/
theorem SA.more {v' : Value} {a : Ac} (h : SA g s A n c bs Ag k cg lo hi gs Ae ne ce el w0 P v l ac w) (hg : w.grownBy w' v.ownBlock) (hv : w'.ownsRow (s + 1) 72 3 v' (l + 1) (ac.flatMap Ac.cells ++ a.cells)) : SA g s A n c bs Ag k cg lo hi gs Ae ne ce el w0 P v' (l + 1) (ac ++ [a]) w' := by
  have h1 := h.g_s
  have h2 := h.lt
  have h3 := h.lohi
  have h4 := h.gr.le
  have hlt := h.ar.lt
  have hb : Below (s + 1) w w' := (Below.refl _ _).grown hg (by omega) fun q hq => (hlt q hq).1
  have ht : Tch (s + 1) (w.heap.size + s + 1) w w' := ⟨hg.os, hg.tape, hg.output, hg.size, fun k hk hx => hb.block k (by omega)⟩
  exact ⟨h.g_s, h.lohi, h.frd.trans (Frd.of_below hb (by omega)), h.rd.turn ht (by omega), Nat.lt_of_lt_of_le h.lt hg.size, (hb.cell (p := ⟨s, 0, none⟩) (by show s < s + 1; omega)).trans h.gb,
    h.gr.turn ht (.inr (by omega)), h.en, h.er.kept hg (blocks_ne h.er h.ar int_ne_act), by rw [List.length_append, ← h.an]; rfl, by rw [List.flatMap_append]; simpa using hv⟩
end

/-- Returns acts in fresh blocks; the reader has picked Q times at most. -/
def AcP (g : Nat) (A : Option Addr) (n c : Nat) (bs : List Int) (Q : Nat) (w : World) (e : Ending) (w' : World) : Prop :=
  ∃ (v : Value) (ac : List Ac), e = .returned v ∧ ac.length ≤ 12 ∧ OwnA w' w.heap.size v ac ∧ Rdr g A n c bs Q w' ∧ Tch g (g + 1) w w'
end Go.Proofs.Ytgclikdienlhdaa

/- The drawing of sessions: someActs. -/
namespace Go.Proofs.Ytgclikdienlhdaa
set_option linter.unusedSimpArgs false
set_option linter.unusedVariables false
open Go.RowKit

theorem acts_set0 (ac : List Ac) (a : Ac) (h : 0 < ac.length) : set3 (ac.flatMap Ac.cells) 0 a = (ac.set 0 a).flatMap Ac.cells := by
  cases ac with
  | nil => simp at h
  | cons p l => simp [set3, Ac.cells]

set_option maxRecDepth 100000 in
set_option maxHeartbeats 12800000 in
theorem someActs_any (g : Nat) (A : Option Addr) (n c : Nat) (bs : List Int) (P : Nat) (Ag : Option Addr) (k cg lo hi : Nat) (gs : List Nd) (w : World) (h : Rdr g A n c bs P w) (hn : n = bs.length) (hby : BY bs) (hs : n ≤ 2000) (hP : P ≤ 800000)
    (hg : As lo hi (OwG lo hi (.slice Ag k cg) k gs) w) (hlo : g < lo) (hk1 : 1 ≤ k) (hk : k ≤ 10) :
    Calls Try.prog 79 #[.pointer (some ⟨g, 0, none⟩), .agg #[.slice Ag k cg]] w fun e w' => AcP g A n c bs (P + 100) w e w' := by
  obtain ⟨i1, hi1, hy0, hy1, hy2⟩ := info_parts info_act
  have hgw := h.lt
  have hhi := hg.le
  have hkl := hg.it.1
  have HN := Lib.hid hn
  have HKL := Lib.hid hkl
  have HR0 := Lib.hid ((h.alloc (.cells #[.slice Ag k cg] 25)).alloc (.cells #[] 72))
  have HA0 := Lib.hid ((hg.alloc (.cells #[.slice Ag k cg] 25)).alloc (.cells #[] 72))
  have hrow0 := World.ownsRow_lit (e := 72) (size := 3) (base := w.heap.size + 1) (w.alloc (.cells #[.slice Ag k cg] 25)) #[] 0 (by simp) (by unfold maxLen; omega) (by simp)
  have HROW := Lib.hid hrow0
  have hBW : Below w.heap.size w ((w.alloc (.cells #[.slice Ag k cg] 25)).alloc (.cells #[] 72)) := ((Below.refl _ _).alloc (Nat.le_refl _) _).alloc (by simp) _
  have HF0 := Lib.hid (Frd.of_below (g := g) (s := w.heap.size) hBW (Nat.le_refl _))
  clear h hn hg hkl hrow0 hBW
  go_enter Try.func79, Try.ntmps79
  go_wp2_with fail
  refine (spec_effects_any Ag k cg gs _ hi (by simp; omega) HKL.out HA0.out.it.nodes (by omega)).mono ?_
  rintro e w1 ⟨ve, el, rfl, hel, howe, hb1⟩
  obtain ⟨Ae, ce, rfl, _⟩ := OwnI.form howe
  unfold OwnI at howe
  simp only [World.size_alloc] at howe
  obtain ⟨ne, hne⟩ : ∃ ne, ne = el.length := ⟨_, rfl⟩
  have HNE := Lib.hid hne
  rw [← hne] at howe hel
  have hs1 : w.heap.size + 2 ≤ w1.heap.size := by have := hb1.size; simpa using this
  have HS1 : Hid (SA g w.heap.size A n c bs Ag k cg lo hi gs Ae ne ce el w P (.slice (some ⟨w.heap.size + 1, 0, none⟩) 0 0) 0 [] w1) :=
    ⟨hgw, ⟨hlo, hhi⟩, HF0.out.trans (Frd.of_below hb1 (by simp; omega)), HR0.out.step hb1, by omega, (hb1.cell (p := ⟨w.heap.size, 0, none⟩) (by simp; omega)).trans (by go_simp), HA0.out.step hb1, hne, own_mono howe (by omega), rfl, by simpa using own_below HROW.out hb1⟩
  rw [← hne]
  have HS2 := Lib.hid (HS1.out.alloc (.cells #[.int .i64 6, .int .i64 8, .int .i64 4, .int .i64 12, .int .i64 2, .int .i64 0] 3))
  clear hne howe hb1 HR0 HA0 HF0 HROW HS1
  go_wp2_with fail
  refine (one_any g A n c bs P w1.heap.size 0 6 6 [6, 8, 4, 12, 2, 0] _ HS2.out.rd HN.out hby hs (by omega) rfl (by omega) (by omega) ?_ (by omega) (by simp)).mono ?_
  · intro j hj
    have : j = 0 ∨ j = 1 ∨ j = 2 ∨ j = 3 ∨ j = 4 ∨ j = 5 := by omega
    rcases this with rfl | rfl | rfl | rfl | rfl | rfl <;> go_simp
  rintro e w2 ⟨x, rfl, hxm, hr2, ht2⟩
  obtain ⟨N, rfl, hN12⟩ : ∃ N : Nat, x = (N : Int) ∧ N ≤ 12 := by
    simp only [List.mem_cons, List.not_mem_nil, or_false] at hxm
    exact ⟨x.toNat, by omega, by omega⟩
  have HS3 := Lib.hid (HS2.out.pick hr2 ht2)
  clear hxm hr2 ht2 HS2
  go_wp2
  go_loopw [5, 7] (fun v u wr => ∃ (j m l : Nat) (ac : List Ac), j + m = N ∧ u = .int .i64 m ∧ l ≤ j ∧ Hid (SA g w.heap.size A n c bs Ag k cg lo hi gs Ae ne ce el w (P + 1 + 5 * j) v l ac wr)) (fun _ u _ => (intOf u).toNat)
  case atStart => exact ⟨0, N, 0, [], by omega, rfl, Nat.le_refl _, HS3.out⟩
  case round =>
    obtain ⟨j, m, l, ac, hjm, rfl, hlj, HS⟩ := hrel
    obtain ⟨Av, cv, rfl⟩ := row_form' HS.out.ar
    clear HS3
    by_cases hm : 0 < m
    · obtain ⟨P1, hP1⟩ : ∃ P1, P1 = P + 1 + 5 * j := ⟨_, rfl⟩
      rw [← hP1] at HS
      have hP2 : P1 ≤ 800100 := by omega
      go_wp2_with fail
      refine (pick_any g A n c bs P1 8 _ HS.out.rd HN.out hby hs (by omega) (by omega)).mono ?_
      rintro e w3 ⟨x, rfl, _, _, hr3, ht3⟩
      have HS4 := Lib.hid (HS.out.pick hr3 ht3)
      have gb4 := HS4.out.gb
      have lt4 := HS4.out.lt
      clear hr3 ht3 HS
      by_cases hx0 : x = 0
      · subst hx0
        have HSa := Lib.hid (HS4.out.alloc (.cells #[.int .i64 2, .int .i64 0, .int .i64 0] 72))
        go_wp2_with (at_builtin; refine wpList_append_own _ rfl _ _ 44 rfl (w.heap.size + 1) 72 i1 _ 3 24 Try.underlying44 hi1 hy0 hy1 hy2 rfl (by decide) _ _ _ rfl HSa.out.ar ⟨_, 0, none⟩ 1 1 (Ac.cells ⟨2, 0, 0⟩) rfl rfl (cells_new _ _ _ _ rfl) ?c2 ?c3 ?c4 ?c5 ?_)
        case c2 => intro u hu; simp [Ac.cells] at hu; rcases hu with rfl | rfl | rfl <;> rfl
        case c3 => unfold maxLen; omega
        case c4 => omega
        case c5 => have := HS4.out.lt; first | omega | (simp; omega)
        intro v9 w9 hown9 hgrow9 _
        have HS9 := Lib.hid (HSa.out.more (a := ⟨2, 0, 0⟩) hgrow9 hown9)
        clear hown9 hgrow9 HSa
        go_wp2
        go_roundw
        case rel => exact ⟨j + 1, m - 1, l + 1, _, by omega, by go_num, by omega, HS9.out.mono (by omega)⟩
        case measure => simp [intOf]; omega
      by_cases hx1 : x = 1
      · subst hx1
        clear hx0
        have HSa := Lib.hid (HS4.out.alloc (.cells #[.int .i64 3, .int .i64 0, .int .i64 0] 72))
        go_wp2_with (at_builtin; refine wpList_append_own _ rfl _ _ 44 rfl (w.heap.size + 1) 72 i1 _ 3 24 Try.underlying44 hi1 hy0 hy1 hy2 rfl (by decide) _ _ _ rfl HSa.out.ar ⟨_, 0, none⟩ 1 1 (Ac.cells ⟨3, 0, 0⟩) rfl rfl (cells_new _ _ _ _ rfl) ?c2 ?c3 ?c4 ?c5 ?_)
        case c2 => intro u hu; simp [Ac.cells] at hu; rcases hu with rfl | rfl | rfl <;> rfl
        case c3 => unfold maxLen; omega
        case c4 => omega
        case c5 => have := HS4.out.lt; first | omega | (simp; omega)
        intro v9 w9 hown9 hgrow9 _
        have HS9 := Lib.hid (HSa.out.more (a := ⟨3, 0, 0⟩) hgrow9 hown9)
        clear hown9 hgrow9 HSa
        go_wp2
        go_roundw
        case rel => exact ⟨j + 1, m - 1, l + 1, _, by omega, by go_num, by omega, HS9.out.mono (by omega)⟩
        case measure => simp [intOf]; omega
      by_cases hx2 : x = 2
      · subst hx2
        clear hx0 hx1
        have HSa := Lib.hid (HS4.out.alloc (.cells #[.int .i64 3, .int .i64 0, .int .i64 0] 72))
        go_wp2_with (at_builtin; refine wpList_append_own _ rfl _ _ 44 rfl (w.heap.size + 1) 72 i1 _ 3 24 Try.underlying44 hi1 hy0 hy1 hy2 rfl (by decide) _ _ _ rfl HSa.out.ar ⟨_, 0, none⟩ 1 1 (Ac.cells ⟨3, 0, 0⟩) rfl rfl (cells_new _ _ _ _ rfl) ?c2 ?c3 ?c4 ?c5 ?_)
        case c2 => intro u hu; simp [Ac.cells] at hu; rcases hu with rfl | rfl | rfl <;> rfl
        case c3 => unfold maxLen; omega
        case c4 => omega
        case c5 => have := HS4.out.lt; first | omega | (simp; omega)
        intro v9 w9 hown9 hgrow9 _
        have HS9 := Lib.hid (HSa.out.more (a := ⟨3, 0, 0⟩) hgrow9 hown9)
        clear hown9 hgrow9 HSa
        go_wp2
        go_roundw
        case rel => exact ⟨j + 1, m - 1, l + 1, _, by omega, by go_num, by omega, HS9.out.mono (by omega)⟩
        case measure => simp [intOf]; omega
      by_cases hx3 : x = 3
      · subst hx3
        clear hx0 hx1 hx2
        by_cases hne0 : 0 < ne
        · go_wp2_with fail
          refine (pick_any g A n c bs (P1 + 1) 3 _ HS4.out.rd HN.out hby hs (by omega) (by omega)).mono ?_
          rintro e w5 ⟨x5, rfl, _, _, hr5, ht5⟩
          have HS5 := Lib.hid (HS4.out.pick hr5 ht5)
          clear hr5 ht5
          cases hx5 : ((x5 : Int) == 0)
          · skip
            go_wp2
            go_roundw
            case rel => exact ⟨j + 1, m - 1, l, ac, by omega, by go_num, by omega, HS5.out.mono (by omega)⟩
            case measure => simp [intOf]; omega
          · go_wp2_with fail
            refine (pick_any g A n c bs (P1 + 2) ne _ HS5.out.rd HN.out hby hs (by omega) (by omega)).mono ?_
            rintro e w6 ⟨t, rfl, ht, _, hr6, ht6⟩
            have htn : t < ne := by have := ht (by omega); omega
            have HS6 := Lib.hid (HS5.out.pick hr6 ht6)
            obtain ⟨b, off, rfl, hbB, hcc⟩ := IS.of_own HS6.out.er (by have := HNE.out; omega)
            have c0 := hcc t (by have := HNE.out; omega)
            generalize el.getD t 0 = y at c0
            clear hr6 ht6 hcc ht HS5 HS4
            have HSa := Lib.hid (HS6.out.alloc (.cells #[.int .i64 1, .int .i64 y, .int .i64 0] 72))
            go_wp2_with (at_builtin; refine wpList_append_own _ rfl _ _ 44 rfl (w.heap.size + 1) 72 i1 _ 3 24 Try.underlying44 hi1 hy0 hy1 hy2 rfl (by decide) _ _ _ rfl HSa.out.ar ⟨_, 0, none⟩ 1 1 (Ac.cells ⟨1, y, 0⟩) rfl rfl (cells_new _ _ _ _ rfl) ?c2 ?c3 ?c4 ?c5 ?_)
            case c2 => intro u hu; simp [Ac.cells] at hu; rcases hu with rfl | rfl | rfl <;> rfl
            case c3 => unfold maxLen; omega
            case c4 => omega
            case c5 => have := HS6.out.lt; first | omega | (simp; omega)
            intro v9 w9 hown9 hgrow9 _
            have HS9 := Lib.hid (HSa.out.more (a := ⟨1, y, 0⟩) hgrow9 hown9)
            clear hown9 hgrow9 HSa
            go_wp2
            go_roundw
            case rel => exact ⟨j + 1, m - 1, l + 1, _, by omega, by go_num, by omega, HS9.out.mono (by omega)⟩
            case measure => simp [intOf]; omega
        · obtain rfl : ne = 0 := by omega
          go_wp2
          go_roundw
          case rel => exact ⟨j + 1, m - 1, l, ac, by omega, by go_num, by omega, HS4.out.mono (by omega)⟩
          case measure => simp [intOf]; omega
      have e0 : ((x : Int) == 0) = false := by simp [hx0]
      have e1 : ((x : Int) == 1) = false := by simp; omega
      have e2 : ((x : Int) == 2) = false := by simp; omega
      have e3 : ((x : Int) == 3) = false := by simp; omega
      clear hx0 hx1 hx2 hx3
      go_wp2_with fail
      refine (pick_any g A n c bs (P1 + 1) k _ HS4.out.rd HN.out hby hs (by omega) (by omega)).mono ?_
      rintro e w5 ⟨t, rfl, ht, _, hr5, ht5⟩
      have htk : t < k := by have := ht (by omega); omega
      have HS5 := Lib.hid (HS4.out.pick hr5 ht5)
      have gb5 := HS5.out.gb
      have lt5 := HS5.out.lt
      have HIC := Lib.hid (spec_isCell Ag k cg gs (t : Int) w5 w5.heap.size (Nat.le_refl _) HKL.out (HS5.out.gr.it.nodes.more HS5.out.gr.le) (by omega))
      generalize isC gs (t : Int) = r at *
      clear ht hr5 ht5 HS4 gb4 lt4
      go_wp2_with fail
      refine HIC.out.mono ?_
      rintro e w8 ⟨rfl, hb8⟩
      have HS8 := Lib.hid (HS5.out.step hb8)
      have gb8 := HS8.out.gb
      have lt8 := HS8.out.lt
      clear HIC hb8 HS5 gb5 lt5
      cases r
      · have HID := Lib.hid (spec_isCell Ag k cg gs 0 w8 w8.heap.size (Nat.le_refl _) HKL.out (HS8.out.gr.it.nodes.more HS8.out.gr.le) (by omega))
        generalize isC gs 0 = r at *
        go_wp2_with fail
        refine HID.out.mono ?_
        rintro e w10 ⟨rfl, hb10⟩
        have HS10 := Lib.hid (HS8.out.step hb10)
        clear HID hb10 HS8 gb8 lt8
        cases r
        · skip
          go_wp2
          go_roundw
          case rel => exact ⟨j + 1, m - 1, l, ac, by omega, by go_num, by omega, HS10.out.mono (by omega)⟩
          case measure => simp [intOf]; omega
        · skip
          go_wp2_with fail
          refine (pick_any g A n c bs (P1 + 2) 1000 _ HS10.out.rd HN.out hby hs (by omega) (by omega)).mono ?_
          rintro e w6 ⟨y, rfl, _, _, hr6, ht6⟩
          have HS6 := Lib.hid ((HS10.out.pick hr6 ht6).alloc (.cells #[.int .i64 0, .int .i64 1, .int .i64 y, .int .i64 3] 3))
          have hl6 := HS6.out.lt
          have hg6 : g < w6.heap.size := hr6.lt
          clear hr6 ht6
          go_wp2_with fail
          refine (one_any g A n c bs (P1 + 2 + 1) w6.heap.size 0 4 4 [0, 1, y, 3] _ HS6.out.rd HN.out hby hs (by omega) rfl (by omega) (by omega) ?_ (by omega) (by simp)).mono ?_
          · intro i hi
            have : i = 0 ∨ i = 1 ∨ i = 2 ∨ i = 3 := by omega
            rcases this with rfl | rfl | rfl | rfl <;> go_simp
          rintro e w7 ⟨z, rfl, _, hr7, ht7⟩
          have HS7 := Lib.hid (HS6.out.pick hr7 ht7)
          clear hr7 ht7 HS6
          have HSa := Lib.hid (HS7.out.alloc (.cells #[.int .i64 0, .int .i64 0, .int .i64 z] 72))
          go_wp2_with (at_builtin; refine wpList_append_own _ rfl _ _ 44 rfl (w.heap.size + 1) 72 i1 _ 3 24 Try.underlying44 hi1 hy0 hy1 hy2 rfl (by decide) _ _ _ rfl HSa.out.ar ⟨_, 0, none⟩ 1 1 (Ac.cells ⟨0, 0, z⟩) rfl rfl (cells_new _ _ _ _ rfl) ?c2 ?c3 ?c4 ?c5 ?_)
          case c2 => intro u hu; simp [Ac.cells] at hu; rcases hu with rfl | rfl | rfl <;> rfl
          case c3 => unfold maxLen; omega
          case c4 => omega
          case c5 => have := HS7.out.lt; first | omega | (simp; omega)
          intro v9 w9 hown9 hgrow9 _
          have HS9 := Lib.hid (HSa.out.more (a := ⟨0, 0, z⟩) hgrow9 hown9)
          clear hown9 hgrow9 HSa
          go_wp2
          go_roundw
          case rel => exact ⟨j + 1, m - 1, l + 1, _, by omega, by go_num, by omega, HS9.out.mono (by omega)⟩
          case measure => simp [intOf]; omega
      · skip
        go_wp2_with fail
        refine (pick_any g A n c bs (P1 + 2) 1000 _ HS8.out.rd HN.out hby hs (by omega) (by omega)).mono ?_
        rintro e w6 ⟨y, rfl, _, _, hr6, ht6⟩
        have HS6 := Lib.hid ((HS8.out.pick hr6 ht6).alloc (.cells #[.int .i64 0, .int .i64 1, .int .i64 y, .int .i64 3] 3))
        have hl6 := HS6.out.lt
        have hg6 : g < w6.heap.size := hr6.lt
        clear hr6 ht6
        go_wp2_with fail
        refine (one_any g A n c bs (P1 + 2 + 1) w6.heap.size 0 4 4 [0, 1, y, 3] _ HS6.out.rd HN.out hby hs (by omega) rfl (by omega) (by omega) ?_ (by omega) (by simp)).mono ?_
        · intro i hi
          have : i = 0 ∨ i = 1 ∨ i = 2 ∨ i = 3 := by omega
          rcases this with rfl | rfl | rfl | rfl <;> go_simp
        rintro e w7 ⟨z, rfl, _, hr7, ht7⟩
        have HS7 := Lib.hid (HS6.out.pick hr7 ht7)
        clear hr7 ht7 HS6
        have HSa := Lib.hid (HS7.out.alloc (.cells #[.int .i64 0, .int .i64 t, .int .i64 z] 72))
        go_wp2_with (at_builtin; refine wpList_append_own _ rfl _ _ 44 rfl (w.heap.size + 1) 72 i1 _ 3 24 Try.underlying44 hi1 hy0 hy1 hy2 rfl (by decide) _ _ _ rfl HSa.out.ar ⟨_, 0, none⟩ 1 1 (Ac.cells ⟨0, t, z⟩) rfl rfl (cells_new _ _ _ _ rfl) ?c2 ?c3 ?c4 ?c5 ?_)
        case c2 => intro u hu; simp [Ac.cells] at hu; rcases hu with rfl | rfl | rfl <;> rfl
        case c3 => unfold maxLen; omega
        case c4 => omega
        case c5 => have := HS7.out.lt; first | omega | (simp; omega)
        intro v9 w9 hown9 hgrow9 _
        have HS9 := Lib.hid (HSa.out.more (a := ⟨0, t, z⟩) hgrow9 hown9)
        clear hown9 hgrow9 HSa
        go_wp2
        go_roundw
        case rel => exact ⟨j + 1, m - 1, l + 1, _, by omega, by go_num, by omega, HS9.out.mono (by omega)⟩
        case measure => simp [intOf]; omega
    · obtain rfl : m = 0 := by omega
      by_cases hl0 : 0 < l
      · go_wp2_with fail
        refine (pick_any g A n c bs (P + 1 + 5 * j) 24 _ HS.out.rd HN.out hby hs (by omega) (by omega)).mono ?_
        rintro e w3 ⟨x, rfl, _, _, hr3, ht3⟩
        have HS4 := Lib.hid (HS.out.pick hr3 ht3)
        clear hr3 ht3 HS
        by_cases hx0 : x = 0
        · subst hx0
          obtain ⟨go, co, hv⟩ := row_pos HS4.out.ar hl0
          cases hv
          have hgo := (HS4.out.ar.lt go rfl).1
          have HS5 := Lib.hid (HS4.out.alloc (.cells #[.int .i64 (-1), .int .i64 4, .int .i64 2] 3))
          have lt4 := HS4.out.lt
          have hg4 : g < w3.heap.size := by omega
          go_wp2_with fail
          refine (one_any g A n c bs (P + 1 + 5 * j + 1) w3.heap.size 0 3 3 [-1, 4, 2] _ HS5.out.rd HN.out hby hs (by omega) rfl (by omega) (by omega) ?_ (by have := HS4.out.rd.lt; omega) (by simp)).mono ?_
          · intro i hi
            have : i = 0 ∨ i = 1 ∨ i = 2 := by omega
            rcases this with rfl | rfl | rfl <;> go_simp
          rintro e w5 ⟨z, rfl, _, hr5, ht5⟩
          have HS6 := Lib.hid (HS5.out.pick hr5 ht5)
          have hal : ac.length = l := HS6.out.an.symm
          have u0 := HS6.out.ar.cellAt 0 (by omega)
          have u1 := HS6.out.ar.cellAt 1 (by omega)
          have u2 := HS6.out.ar.cellAt 2 (by omega)
          have hcl := length_acells ac
          rw [List.getElem?_eq_getElem (by omega)] at u0 u1 u2
          have f0 := HS6.out.ar.frozenAt 0
          have f1 := HS6.out.ar.frozenAt 1
          have f2 := HS6.out.ar.frozenAt 2
          generalize (ac.flatMap Ac.cells)[0]'_ = v0 at u0
          generalize (ac.flatMap Ac.cells)[1]'_ = v1 at u1
          generalize (ac.flatMap Ac.cells)[2]'_ = v2 at u2
          have hst := own_set3 HS6.out.ar 0 ⟨z, 0, 1⟩
          rw [acts_set0 ac ⟨z, 0, 1⟩ (by omega)] at hst
          have HST := Lib.hid hst
          have hb9 := below_set3 (Below.refl w.heap.size w5) (show w.heap.size ≤ go by omega) 0 ⟨z, 0, 1⟩
          have HF9 := Lib.hid (HS6.out.frd.trans (Frd.of_below hb9 (Nat.le_refl _)))
          have HR9 := Lib.hid (((HS6.out.rd.set1 (show g < go by omega) 0 (.int .i64 z)).set1 (show g < go by omega) 1 (.int .i64 0)).set1 (show g < go by omega) 2 (.int .i64 1))
          have HAL := Lib.hid hal
          clear hr5 ht5 hst hb9 hal hcl HS4 HS5 HS6
          go_wp2
          go_ret
          refine ⟨_, ac.set 0 ⟨z, 0, 1⟩, rfl, by rw [List.length_set, HAL.out]; omega, ?_, HR9.out.mono (by omega), HF9.out.tch⟩
          unfold OwnA
          rw [List.length_set, HAL.out]
          exact own_mono HST.out (by omega)
        · go_wp2
          go_ret
          have hal := HS4.out.an
          exact ⟨_, ac, rfl, by omega, by unfold OwnA; rw [← hal]; exact own_mono HS4.out.ar (by omega), HS4.out.rd.mono (by omega), HS4.out.frd.tch⟩
      · obtain rfl : l = 0 := by omega
        go_wp2
        go_ret
        have hal := HS.out.an
        exact ⟨_, ac, rfl, by omega, by unfold OwnA; rw [← hal]; exact own_mono HS.out.ar (by omega), HS.out.rd.mono (by omega), HS.out.frd.tch⟩
end Go.Proofs.Ytgclikdienlhdaa

/- The drawing of sessions: sessionOf, what the law of ValidActs draws. -/
namespace Go.Proofs.Ytgclikdienlhdaa
set_option linter.unusedSimpArgs false
set_option linter.unusedVariables false
open Go.RowKit

/-- Returns a graph, cells and acts in fresh blocks. -/
def SeP (g : Nat) (A : Option Addr) (n c : Nat) (bs : List Int) (Q : Nat) (w : World) (e : Ending) (w' : World) : Prop :=
  ∃ (V : Value) (k : Nat) (gs : List Nd) (v : Value) (xs : List Int) (u : Value) (ac : List Ac), e = .returned (.tuple #[.agg #[V], v, u]) ∧ 2 ≤ k ∧ k ≤ 10 ∧ (∀ j, (gs.getD j default).ps.length ≤ 40) ∧ k ≤ xs.length ∧ xs.length ≤ k + 1 ∧ ac.length ≤ 12 ∧ OwG w.heap.size w'.heap.size V k gs w' ∧ OwnI w' w.heap.size v xs ∧ OwnA w' w.heap.size u ac ∧ Rdr g A n c bs Q w' ∧ Tch g (g + 1) w w'

set_option maxRecDepth 100000 in
set_option maxHeartbeats 3200000 in
theorem sessionOf_any (g : Nat) (A : Option Addr) (n c : Nat) (bs : List Int) (P : Nat) (w : World) (h : Rdr g A n c bs P w) (hn : n = bs.length) (hby : BY bs) (hs : n ≤ 2000) (hP : P ≤ 600000) :
    Calls Try.prog 47 #[.pointer (some ⟨g, 0, none⟩)] w fun e w' => SeP g A n c bs (P + 2800) w e w' := by
  have hgw := h.lt
  have HN := Lib.hid hn
  have HR0 := Lib.hid (h.alloc (.cells #[.slice none 0 0] 25))
  clear h hn
  go_enter Try.func47, Try.ntmps47
  go_wp2_with fail
  refine (graphOf_any g A n c bs P _ HR0.out HN.out hby hs (by omega)).mono ?_
  rintro e w1 ⟨V, k, gs, vI, xs, rfl, hk2, hk10, hsm, hx1, hx2, hown, hownI, hr1, ht1⟩
  obtain ⟨E5, c5, rfl, _⟩ := OwnI.form hownI
  unfold OwnI at hownI
  simp only [World.size_alloc] at hownI
  have hs1 : w.heap.size + 1 ≤ w1.heap.size := by have := ht1.size; simpa using this
  obtain ⟨gn, cg, rfl⟩ := hown.pos (by omega)
  simp only [World.size_alloc] at hown
  obtain ⟨bG, hbG⟩ : ∃ bG, bG = w1.heap.size := ⟨_, rfl⟩
  have HBG := Lib.hid hbG
  have k0 : w1.cell? ⟨w.heap.size, 0, none⟩ = some (.slice none 0 0) := (World.cell?_of_block (a := ⟨w.heap.size, 0, none⟩) (ht1.block w.heap.size (by simp) (.inr (by omega)))).trans (by go_simp)
  have k1 : w1.frozen? ⟨w.heap.size, 0, none⟩ = false := (World.frozen?_of_block (a := ⟨w.heap.size, 0, none⟩) (ht1.block w.heap.size (by simp) (.inr (by omega)))).trans (by go_simp)
  have HB1 : Hid (As w.heap.size (w.heap.size + 1) (fun w' => w'.cell? ⟨w.heap.size, 0, none⟩ = some (.slice none 0 0) ∧ w'.frozen? ⟨w.heap.size, 0, none⟩ = false) w1) :=
    ⟨⟨k0, k1⟩, hs1, fun w w' h hk => ⟨(World.cell?_of_block (a := ⟨_, 0, none⟩) (hk _ (Nat.le_refl _) (Nat.lt_succ_self _))).trans h.1, (World.frozen?_of_block (a := ⟨_, 0, none⟩) (hk _ (Nat.le_refl _) (Nat.lt_succ_self _))).trans h.2⟩⟩
  have HO1 : Hid (As (w.heap.size + 1) bG (OwG (w.heap.size + 1) bG (.slice (some ⟨gn, 0, none⟩) k cg) k gs) w1) := by rw [hbG]; exact graph_start hown
  have HC1 : Hid (As (w.heap.size + 1) bG (OwR (w.heap.size + 1) bG 3 1 (.slice E5 xs.length c5) xs.length (xs.map (Value.int .i64))) w1) := by rw [hbG]; exact row_start hownI
  have HF1 := Lib.hid ((Frd.of_below (g := g) (s := w.heap.size) ((Below.refl w.heap.size w).alloc (Nat.le_refl _) (.cells #[.slice none 0 0] 25)) (Nat.le_refl _)).trans (Frd.of_tch ht1 (by simp)))
  have HR2 := Lib.hid (hr1.alloc (.cells #[.slice (some ⟨gn, 0, none⟩) k cg] 25))
  have HO2 := Lib.hid (HO1.out.alloc (.cells #[.slice (some ⟨gn, 0, none⟩) k cg] 25))
  have HC2 := Lib.hid (HC1.out.alloc (.cells #[.slice (some ⟨gn, 0, none⟩) k cg] 25))
  have HB2 := Lib.hid (HB1.out.alloc (.cells #[.slice (some ⟨gn, 0, none⟩) k cg] 25))
  have HG2 := box_new w1 (.slice (some ⟨gn, 0, none⟩) k cg) 25
  rw [← hbG] at HG2
  have HG2 := Lib.hid HG2
  have HF2 := Lib.hid (HF1.out.trans (Frd.of_below (w' := w1.alloc (.cells #[.slice (some ⟨gn, 0, none⟩) k cg] 25)) ((Below.refl w1.heap.size w1).alloc (Nat.le_refl _) _) (by omega)))
  have hz2 : bG < (w1.alloc (.cells #[.slice (some ⟨gn, 0, none⟩) k cg] 25)).heap.size := by rw [hbG]; simp
  have hsG : w.heap.size + 1 ≤ bG := by omega
  have hgG : g < bG := by omega
  clear k0 k1 HB1 HO1 HC1 HF1 HR0 hown hownI hr1 ht1 hbG
  have q2 := HG2.out.it
  obtain ⟨p0, p1⟩ := HB2.out.it
  have hwz : w.heap.size < (w1.alloc (.cells #[.slice (some ⟨gn, 0, none⟩) k cg] 25)).heap.size := by omega
  go_wp2
  rw [← HBG.out]
  generalize w1.alloc (.cells #[.slice (some ⟨gn, 0, none⟩) k cg] 25) = W2 at *
  refine wp_region_held_drew (S := fun w' => w'.cell? ⟨bG, 0, none⟩ = some (.slice (some ⟨gn, 0, none⟩) k cg)) (by kernel_rfl) q2 (fun hHeld => ?_)
  refine wpAnyH_take (i := 0) (oi := ⟨some 12, _, _, _, _, _⟩) (v := ?_) rfl (by kernel_rfl) (by kernel_rfl) (by kernel_rfl) (fun _ _ _ h => h) (Or.inl ⟨by rfl, ?_⟩) (by assumption) ?_; rotate_left; (focus (intro w hSw; (try dsimp only at hSw); go_simp; (try with_reducible rfl))); (try simp only [Act.put, List.setIfInBounds_toArray, List.set_cons_zero, List.set_cons_succ])
  refine wpAnyH_take (i := 1) (oi := ⟨some 13, _, _, _, _, _⟩) (v := ?_) rfl (by kernel_rfl) (by kernel_rfl) (by kernel_rfl) (fun _ _ _ h => h) (Or.inl ⟨by rfl, ?_⟩) (by assumption) ?_; rotate_left; (focus (intro w hSw; (try dsimp only at hSw); go_simp; (try with_reducible rfl))); (try simp only [Act.put, List.setIfInBounds_toArray, List.set_cons_zero, List.set_cons_succ])
  refine wpAnyH_take (i := 2) (oi := ⟨some 14, _, _, _, _, _⟩) (v := ?_) rfl (by kernel_rfl) (by kernel_rfl) (by kernel_rfl) (fun _ _ _ h => h) (Or.inl ⟨by rfl, ?_⟩) (by assumption) ?_; rotate_left; (focus (intro w hSw; (try dsimp only at hSw); go_simp; (try with_reducible rfl))); (try simp only [Act.put, List.setIfInBounds_toArray, List.set_cons_zero, List.set_cons_succ])
  refine wpAnyH_take (i := 3) (oi := ⟨some 15, _, _, _, _, _⟩) (v := ?_) rfl (by kernel_rfl) (by kernel_rfl) (by kernel_rfl) (fun _ _ _ h => h) (Or.inl ⟨by rfl, ?_⟩) (by assumption) ?_; rotate_left; (focus (intro w hSw; (try dsimp only at hSw); go_simp; (try with_reducible rfl))); (try simp only [Act.put, List.setIfInBounds_toArray, List.set_cons_zero, List.set_cons_succ])
  refine wpAnyH_ready (rs := [4]) (by kernel_rfl) (by simp) ?_; refine AllReadyH.cons (o := ⟨some 16, _, _, _, _, _⟩) rfl (fun K hK => ?_) AllReadyH.nil; go_simp
  go_at_call 79
  refine (someActs_any g A n c bs (P + 2600) (some ⟨gn, 0, none⟩) k cg (w.heap.size + 1) bG gs _ HR2.out.drew HN.out hby hs (by omega) ⟨OwG.loc _ _ _ _ _ _ _ HO2.out.it fun _ _ _ => rfl, HO2.out.le, HO2.out.loc⟩ (by omega) (by omega) hk10).mono ?_
  rintro e w5 ⟨v5, ac, rfl, hal, hown5, hr5, ht5'⟩
  have ht5 : Tch g (g + 1) W2 w5 := ⟨ht5'.os, ht5'.tape, ht5'.output, ht5'.size, ht5'.block⟩
  have hz5 := ht5.size
  unfold OwnA at hown5
  obtain ⟨A5, d5, rfl⟩ := row_form' hown5
  have HO6 := Lib.hid (HO2.out.turn ht5 (.inl (by omega)))
  have HC6 := Lib.hid (HC2.out.turn ht5 (.inl (by omega)))
  have HB6 := Lib.hid (HB2.out.turn ht5 (.inl (by omega)))
  have HG6 := Lib.hid (HG2.out.turn ht5 (.inl (by omega)))
  have HF6 := Lib.hid (HF2.out.trans (Frd.of_tch ht5 (by omega)))
  have HR6 := Lib.hid hr5
  have HA6 := Lib.hid (show w5.ownsRow W2.heap.size 72 3 (.slice A5 ac.length d5) ac.length (ac.flatMap Ac.cells) from hown5)
  have q6 := HG6.out.it
  obtain ⟨r0, r1⟩ := HB6.out.it
  have q7 : (w5.setCell ⟨w.heap.size, 0, none⟩ (.slice (some ⟨gn, 0, none⟩) k cg)).cell? ⟨bG, 0, none⟩ = some (.slice (some ⟨gn, 0, none⟩) k cg) := (World.cell?_setCell_other _ _ _ _ (by intro e; have := congrArg Addr.block e; simp at this; omega)).trans q6
  clear hown5 hr5 ht5 ht5' HO2 HC2 HB2 HG2 HF2 HR2
  refine hK.out _ _ q6 (fun hHeld => ?_); clear hK K; (try simp only [Act.put, List.setIfInBounds_toArray, List.set_cons_zero, List.set_cons_succ])
  refine wpAnyH_ready (rs := [5]) (by kernel_rfl) (by simp) ?_; refine AllReadyH.cons (o := ⟨none, _, _, _, _, _⟩) rfl (fun K hK => ?_) AllReadyH.nil; go_simp
  refine hK.out _ _ q7 (fun hHeld => ?_); clear hK K; (try simp only [Act.put, List.setIfInBounds_toArray, List.set_cons_zero, List.set_cons_succ])
  refine wpAnyH_take (i := 6) (oi := ⟨some 3, _, _, _, _, _⟩) (v := ?_) rfl (by kernel_rfl) (by kernel_rfl) (by kernel_rfl) (fun _ _ _ h => h) (Or.inl ⟨by rfl, ?_⟩) (by assumption) ?_; rotate_left; (focus (intro w hSw; (try dsimp only at hSw); go_simp; (try with_reducible rfl))); (try simp only [Act.put, List.setIfInBounds_toArray, List.set_cons_zero, List.set_cons_succ])
  refine wpAnyH_take (i := 7) (oi := ⟨some 4, _, _, _, _, _⟩) (v := ?_) rfl (by kernel_rfl) (by kernel_rfl) (by kernel_rfl) (fun _ _ _ h => h) (Or.inl ⟨by rfl, ?_⟩) (by assumption) ?_; rotate_left; (focus (intro w hSw; (try dsimp only at hSw); go_simp; (try with_reducible rfl))); (try simp only [Act.put, List.setIfInBounds_toArray, List.set_cons_zero, List.set_cons_succ])
  refine wpAnyH_done (by kernel_rfl) ?_ _
  have r2 : (w5.setCell ⟨w.heap.size, 0, none⟩ (.slice (some ⟨gn, 0, none⟩) k cg)).cell? ⟨w.heap.size, 0, none⟩ = some (.slice (some ⟨gn, 0, none⟩) k cg) := World.cell?_setCell_same _ _ _ r0
  go_wp2
  refine bodyPost_ret (v := .tuple #[.agg #[.slice (some ⟨gn, 0, none⟩) k cg], .slice E5 xs.length c5, .slice A5 ac.length d5]) (by simp [results, Try.results47, go_sem, r2]) rfl ?_
  have hsz : (w5.setCell ⟨w.heap.size, 0, none⟩ (.slice (some ⟨gn, 0, none⟩) k cg)).heap.size = w5.heap.size := by simp [World.setCell]
  refine ⟨_, k, gs, _, xs, _, ac, rfl, hk2, hk10, hsm, hx1, hx2, hal, ?_, ?_, ?_, (HR6.out.mono (by omega)).set1 hgw 0 _, (HF6.out.trans (Frd.of_below ((Below.refl w.heap.size _).setCell (p := ⟨w.heap.size, 0, none⟩) (Nat.le_refl _) _) (Nat.le_refl _))).tch⟩
  · rw [hsz]
    exact (OwG.loc _ _ _ _ _ _ _ HO6.out.it fun b x y => Below.heap_setCell _ _ _ _ (by show b ≠ w.heap.size; omega)).mono (by omega) (by omega)
  · unfold OwnI
    exact own_mono (own_keep HC6.out.it.1 fun b x y => Below.heap_setCell _ _ _ _ (by show b ≠ w.heap.size; omega)) (by omega)
  · unfold OwnA
    exact own_mono (own_keep HA6.out fun b x y => Below.heap_setCell _ _ _ _ (by show b ≠ w.heap.size; omega)) (by omega)

/-- Returns a graph and acts that lie in memory. -/
def DrGA (w : World) (e : Ending) (w' : World) : Prop :=
  ∃ (A : Option Addr) (n c : Nat) (gs : List Nd) (E : Option Addr) (m d : Nat) (ac : List Ac), e = .returned (.tuple #[.agg #[.slice A n c], .slice E m d]) ∧ n = gs.length ∧ 2 ≤ n ∧ n ≤ 10 ∧ n ≤ c ∧ (∀ j, (gs.getD j default).ps.length ≤ 40) ∧ m = ac.length ∧ m ≤ 12 ∧ m ≤ d ∧ GS w' w'.heap.size A gs ∧ CS w' w'.heap.size E ac ∧ Below w.heap.size w w'

set_option maxHeartbeats 1600000 in
theorem spec_DrawValidActs (A : Option Addr) (n c : Nat) (bs : List Int) (w : World) (hn : n = bs.length) (hnc : n ≤ c) (h : BS w w.heap.size A bs) (hy : BY bs) (hs : n ≤ 1048576) :
    Calls Try.prog 23 #[.slice A n c] w fun e w' => DrGA w e w' := by
  have h1 : BS (w.alloc (.cells #[.slice none 0 0] 25)) w.heap.size A bs := h.keep fun p hp => World.cell?_alloc_lt w _ p (by omega)
  have HC := Lib.hid (spec_newReader A n c bs _ w.heap.size (by simp) hn hnc h1 hy hs)
  clear hn hnc h h1 hy hs
  go_enter Try.func23, Try.ntmps23
  go_wp2_with fail
  refine HC.out.mono ?_
  rintro e w1 ⟨g, A1, n1, c1, ds, rfl, hn1, hn2, hy1, hr, hg, hb⟩
  have q0 : w1.cell? ⟨w.heap.size, 0, none⟩ = some (.slice none 0 0) := (hb.cell (p := ⟨w.heap.size, 0, none⟩) (by simp)).trans (by go_simp)
  have f0 : w1.frozen? ⟨w.heap.size, 0, none⟩ = false := (hb.frozen (p := ⟨w.heap.size, 0, none⟩) (by simp)).trans (by go_simp)
  have hl1 : w.heap.size < w1.heap.size := by have := hb.size; simp at this; omega
  have hgw : w.heap.size < g := by simp at hg; omega
  have HB1 := Lib.hid (((Below.refl w.heap.size w).alloc (Nat.le_refl _) (.cells #[.slice none 0 0] 25)).trans (hb.mono (by simp)))
  have HS := Lib.hid (sessionOf_any g A1 n1 c1 ds 0 w1 hr hn1 hy1 hn2 (by omega))
  clear hn1 hr hb HC hy1
  go_wp2_with fail
  refine HS.out.mono ?_
  rintro e w2 ⟨V, k, gs, v3, xs, v4, ac, rfl, hk2, hk10, hsm, hx1, hx2, hal, ho, ho3, ho4, _, ht⟩
  obtain ⟨A2, c2, rfl⟩ := ho.form
  obtain ⟨A3, c3, rfl, _⟩ := OwnI.form ho3
  unfold OwnA at ho4
  obtain ⟨A4, c4, rfl⟩ := row_form' ho4
  have q1 := (World.cell?_of_block (a := ⟨w.heap.size, 0, none⟩) (ht.block w.heap.size hl1 (.inl hgw))).trans q0
  have f1 := (World.frozen?_of_block (a := ⟨w.heap.size, 0, none⟩) (ht.block w.heap.size hl1 (.inl hgw))).trans f0
  have hl2 : w.heap.size < w2.heap.size := Nat.lt_of_lt_of_le hl1 ht.size
  have HB2 := Lib.hid (((HB1.out.trans (ht.below (B := w.heap.size) (by omega) (by omega))).setCell (p := ⟨w.heap.size, 0, none⟩) (Nat.le_refl _) (.slice A2 k c2)).alloc (by simp [World.setCell]; omega) (.cells #[.slice A2 k c2] 25))
  have HO := Lib.hid (((graph_start ho).keep (w' := (w2.setCell ⟨w.heap.size, 0, none⟩ (.slice A2 k c2))) (fun b x y => Below.heap_setCell _ _ _ _ (by show b ≠ w.heap.size; omega)) (by simp [World.setCell])).alloc (.cells #[.slice A2 k c2] 25))
  have HO4 := Lib.hid ((own_keep (w' := (w2.setCell ⟨w.heap.size, 0, none⟩ (.slice A2 k c2))) ho4 fun b x y => Below.heap_setCell _ _ _ _ (by show b ≠ w.heap.size; omega)).alloc (.cells #[.slice A2 k c2] 25))
  have r2 : ((w2.setCell ⟨w.heap.size, 0, none⟩ (.slice A2 k c2)).alloc (.cells #[.slice A2 k c2] 25)).cell? ⟨w.heap.size, 0, none⟩ = some (.slice A2 k c2) := (World.cell?_alloc_lt (w2.setCell ⟨w.heap.size, 0, none⟩ (.slice A2 k c2)) _ _ (by simpa [World.setCell] using hl2)).trans (World.cell?_setCell_same _ _ _ q1)
  have R2 := Lib.hid r2
  clear ho ht q0 f0 ho3 ho4 r2
  go_wp2
  have r2 := R2.out
  refine bodyPost_ret (v := .tuple #[.agg #[.slice A2 k c2], .slice A4 ac.length c4]) (by simp [results, Try.results23, go_sem, r2]) rfl ?_
  have h3 := HO.out.it
  have hle := HO.out.le
  exact ⟨A2, k, c2, gs, A4, ac.length, c4, ac, rfl, h3.1, hk2, hk10, h3.ncap, hsm, rfl, hal, own_ncap HO4.out, h3.nodes.more hle, CS.of_own HO4.out, HB2.out⟩
end Go.Proofs.Ytgclikdienlhdaa

/- Acts of a session: what is valid; the small functions of the program. -/
namespace Go.Proofs.Ytgclikdienlhdaa
set_option linter.unusedSimpArgs false
set_option linter.unusedVariables false
open Go.RowKit

/-- Whether there is such a node of a kind. -/
def isK (gs : List Nd) (x k : Int) : Bool := hasN gs x && ((gs.getD x.toNat default).k == k)
theorem isC_isK (gs : List Nd) (x : Int) : isC gs x = isK gs x 0 := rfl

def actOK (gs : List Nd) (a : Ac) : Bool :=
  if a.k = 0 then isK gs a.a 0 && rng a.b 0 999
  else if a.k = 1 then isK gs a.a 2 && (a.b == 0)
  else if a.k = 2 ∨ a.k = 3 then (a.a == 0) && (a.b == 0) else false
def validA (gs : List Nd) (l : List Ac) : Bool := validG gs && decide (l.length ≤ 30) && l.all (actOK gs)

theorem all_no {α : Type} [Inhabited α] (l : List α) (p : α → Bool) (k : Nat) (h : k < l.length) (hp : p (l.getD k default) = false) : l.all p = false := by
  rw [Bool.eq_false_iff]
  intro ha
  rw [List.all_eq_true] at ha
  have := ha (l.getD k default) (by simp [List.getD, h])
  rw [hp] at this
  cases this
theorem all_yes {α : Type} [Inhabited α] (l : List α) (p : α → Bool) (n : Nat) (h : n = l.length) (hp : ∀ j, j < n → p (l.getD j default) = true) : l.all p = true := by
  rw [List.all_eq_true]
  intro x hx
  obtain ⟨i, hi, rfl⟩ := List.mem_iff_getElem.1 hx
  have := hp i (by omega)
  simpa [List.getD, hi] using this
theorem validA_short (gs : List Nd) (l : List Ac) (h : validA gs l = true) : l.length ≤ 30 := by
  unfold validA at h
  simp only [Bool.and_eq_true, decide_eq_true_eq] at h
  exact h.1.2
theorem validA_graph (gs : List Nd) (l : List Ac) (h : validA gs l = true) : validG gs = true := by
  unfold validA at h
  simp only [Bool.and_eq_true, decide_eq_true_eq] at h
  exact h.1.1

set_option maxHeartbeats 800000 in
theorem impl_isOfKind (A : Option Addr) (n c : Nat) (gs : List Nd) (x k : Int) (w : World) (B : Nat) (hB : B ≤ w.heap.size) (hn : n = gs.length) (h : GS w B A gs) (hs : n ≤ 2000000) :
    Calls Try.prog 80 #[.agg #[.slice A n c], .int .i64 x, .int .i64 k] w fun e w' => e = .returned (.bool (isK gs x k)) ∧ Below w.heap.size w w' := by
  have hr : hasN gs x = rng x 0 ((n : Int) - 1) := by rw [hn]; rfl
  have hi : isK gs x k = (hasN gs x && ((gs.getD x.toNat default).k == k)) := rfl
  cases hh : hasN gs x
  · have hf : isK gs x k = false := by rw [hi, hh]; rfl
    rw [hf]
    have hr' : rng x 0 ((n : Int) - 1) = false := by rw [← hr, hh]
    clear h hn hr hi hf hh
    go_enter Try.func80, Try.ntmps80
    go_wp2_with (go_at_call 67; refine (impl_inRange _ _ _).mono ?_; rintro e w' ⟨rfl, rfl⟩)
    go_ret
    exact ⟨rfl, (Below.refl _ _).alloc (Nat.le_refl _) _⟩
  · obtain ⟨t, rfl, ht⟩ := hasN_nat gs x hh
    have hr' : rng (t : Int) 0 ((n : Int) - 1) = true := by rw [← hr, hh]
    have hf : isK gs t k = ((gs.getD t default).k == k) := by rw [hi, hh]; simp
    rw [hf]
    obtain ⟨b, off, rfl, hbB, c0, _⟩ := h.at_ t ht
    have htn : t < n := by omega
    have hbw : b < w.heap.size := by omega
    clear h hn hr hi hf hh ht
    generalize gs.getD t default = d at *
    cases hd : (d.k == k)
    all_goals
      go_enter Try.func80, Try.ntmps80
      go_wp2_with (go_at_call 67; refine (impl_inRange _ _ _).mono ?_; rintro e w' ⟨rfl, rfl⟩)
      go_ret
      exact ⟨rfl, (Below.refl _ _).alloc (Nat.le_refl _) _⟩

set_option maxRecDepth 100000 in
set_option maxHeartbeats 1600000 in
theorem impl_fitsGraph (A : Option Addr) (n c : Nat) (gs : List Nd) (p : Ac) (w : World) (B : Nat) (hB : B ≤ w.heap.size) (hn : n = gs.length) (h : GS w B A gs) (hs : n ≤ 2000000) :
    Calls Try.prog 48 #[.agg #[.slice A n c], .agg #[.int .i64 p.k, .int .i64 p.a, .int .i64 p.b]] w fun e w' => e = .returned (.bool (actOK gs p)) ∧ Below w.heap.size w w' := by
  obtain ⟨k, a, b⟩ := p
  have H := Lib.hid h
  have HK := Lib.hid fun (y : Int) (w' : World) (hB : B ≤ w'.heap.size) (h : GS w' B A gs) => impl_isOfKind A n c gs a y w' B hB hn h hs
  clear h hn
  by_cases h0 : k = 0
  · subst h0
    have hf : actOK gs ⟨0, a, b⟩ = (isK gs a 0 && rng b 0 999) := rfl
    have HI := Lib.hid (HK.out 0)
    rw [hf]
    clear HK hf
    generalize isK gs a 0 = r at *
    cases hq : rng b 0 999 <;> cases r
    all_goals
      go_enter Try.func48, Try.ntmps48
      go_wp2_with fail
      refine (HI.out _ (by simp; omega) ((H.out.alloc hB _).alloc (by simp; omega) _)).mono ?_
      rintro e w1 ⟨rfl, hb⟩
      have q1 : w1.cell? ⟨w.heap.size + 1, 2, none⟩ = some (.int .i64 b) := (hb.cell (p := ⟨w.heap.size + 1, 2, none⟩) (by simp)).trans (by go_simp)
      go_wp2_with (go_at_call 67; refine (impl_inRange _ _ _).mono ?_; rintro e w' ⟨rfl, rfl⟩)
      all_goals
        go_ret
        exact ⟨ret_b (by simp_all), (((Below.refl _ _).alloc (Nat.le_refl _) _).alloc (by simp) _).trans (hb.mono (by simp; omega))⟩
  by_cases h1 : k = 1
  · subst h1
    have hf : actOK gs ⟨1, a, b⟩ = (isK gs a 2 && (b == 0)) := rfl
    have HI := Lib.hid (HK.out 2)
    rw [hf]
    clear HK hf
    generalize isK gs a 2 = r at *
    cases hq : (b == 0) <;> cases r
    all_goals
      go_enter Try.func48, Try.ntmps48
      go_wp2_with fail
      refine (HI.out _ (by simp; omega) ((H.out.alloc hB _).alloc (by simp; omega) _)).mono ?_
      rintro e w1 ⟨rfl, hb⟩
      have q1 : w1.cell? ⟨w.heap.size + 1, 2, none⟩ = some (.int .i64 b) := (hb.cell (p := ⟨w.heap.size + 1, 2, none⟩) (by simp)).trans (by go_simp)
      go_wp2
      all_goals
        go_ret
        exact ⟨ret_b (by simp_all), (((Below.refl _ _).alloc (Nat.le_refl _) _).alloc (by simp) _).trans (hb.mono (by simp; omega))⟩
  have e0 : (k == 0) = false := by simp [h0]
  have e1 : (k == 1) = false := by simp [h1]
  have hf : actOK gs ⟨k, a, b⟩ = if k = 2 ∨ k = 3 then (a == 0) && (b == 0) else false := by unfold actOK; simp [h0, h1]
  rw [hf]
  clear hf HK H h0 h1
  cases e2 : (k == 2) <;> cases e3 : (k == 3)
  · have : ¬ (k = 2 ∨ k = 3) := by simp at e2 e3; omega
    rw [if_neg this]
    clear this
    go_enter Try.func48, Try.ntmps48
    go_wp2
    go_ret
    exact ⟨rfl, ((Below.refl _ _).alloc (Nat.le_refl _) _).alloc (by simp) _⟩
  all_goals
    have : k = 2 ∨ k = 3 := by simp at e2 e3; omega
    rw [if_pos this]
    clear this
    cases ha : (a == 0) <;> cases hb : (b == 0)
    all_goals
      go_enter Try.func48, Try.ntmps48
      go_wp2
      all_goals
        go_ret
        exact ⟨rfl, ((Below.refl _ _).alloc (Nat.le_refl _) _).alloc (by simp) _⟩

theorem CS.at_ {w : World} {B : Nat} {A : Option Addr} {ps : List Ac} (h : CS w B A ps) (k : Nat) (hk : k < ps.length) : ∃ b off, A = some ⟨b, off, none⟩ ∧ b < B ∧ w.cell? ⟨b, off + k * 3, none⟩ = some (.int .i64 (ps.getD k default).k) ∧ w.cell? ⟨b, off + k * 3 + 1, none⟩ = some (.int .i64 (ps.getD k default).a) ∧ w.cell? ⟨b, off + k * 3 + 2, none⟩ = some (.int .i64 (ps.getD k default).b) := by
  obtain ⟨b, off, rfl, hb, hc⟩ := h (by omega)
  exact ⟨b, off, rfl, hb, hc k hk⟩

set_option maxRecDepth 100000 in
set_option maxHeartbeats 1600000 in
theorem impl_ValidActs (gs : List Nd) (ac : List Ac) (hG : GB gs) (hL : ac.length ≤ 1048576) (A : Option Addr) (n c : Nat) (A' : Option Addr) (m c' : Nat) (w : World) (B : Nat) (hB : B ≤ w.heap.size) (hn : n = gs.length) (hnc : n ≤ c) (h : GS w B A gs) (hm : m = ac.length) (h' : CS w B A' ac) :
    Calls Try.prog 24 #[.agg #[.slice A n c], .slice A' m c'] w fun e w' => e = .returned (.bool (validA gs ac)) ∧ Below w.heap.size w w' := by
  have hm1 : m ≤ 2000000 := by omega
  have hn1 : n ≤ 2000000 := by have := hG.1; omega
  have H := Lib.hid h
  have HX := Lib.hid h'
  have HM := Lib.hid hm
  have HC := Lib.hid fun (w' : World) (hB : B ≤ w'.heap.size) (h : GS w' B A gs) => impl_ValidGraph A n c gs w' B hB hn h hG hnc
  have HF := Lib.hid fun (p : Ac) (w' : World) (hB : B ≤ w'.heap.size) (h : GS w' B A gs) => impl_fitsGraph A n c gs p w' B hB hn h hn1
  have hv : validA gs ac = (validG gs && decide (m ≤ 30) && ac.all (actOK gs)) := by rw [hm]; rfl
  have HNO := Lib.hid fun (k : Nat) (hk : k < ac.length) (hp : actOK gs (ac.getD k default) = false) => all_no ac (actOK gs) k hk hp
  have HYE := Lib.hid fun (hp : ∀ j, j < m → actOK gs (ac.getD j default) = true) => all_yes ac (actOK gs) m hm hp
  rw [hv]
  generalize ac.all (actOK gs) = R at *
  clear h h' hn hm hG hv
  cases hg : validG gs
  · rw [hg] at HC
    go_enter Try.func24, Try.ntmps24
    go_wp2_with fail
    refine (HC.out _ (by simp; omega) (H.out.alloc hB _)).mono ?_
    rintro e w1 ⟨rfl, hb⟩
    go_wp2
    go_ret
    exact ⟨rfl, ((Below.refl _ _).alloc (Nat.le_refl _) _).trans (hb.mono (by simp))⟩
  rw [hg] at HC
  clear hg
  by_cases h30 : m ≤ 30
  case neg =>
    rw [show decide (m ≤ 30) = false by simpa using h30]
    have h30' : (30 : Int) < (m : Int) := by omega
    go_enter Try.func24, Try.ntmps24
    go_wp2_with fail
    refine (HC.out _ (by simp; omega) (H.out.alloc hB _)).mono ?_
    rintro e w1 ⟨rfl, hb⟩
    go_wp2
    go_ret
    exact ⟨rfl, ((Below.refl _ _).alloc (Nat.le_refl _) _).trans (hb.mono (by simp))⟩
  rw [show decide (m ≤ 30) = true by simpa using h30]
  simp only [Bool.true_and]
  go_enter Try.func24, Try.ntmps24
  go_wp2_with fail
  refine (HC.out _ (by simp; omega) (H.out.alloc hB _)).mono ?_
  rintro e w1 ⟨rfl, hb⟩
  have q1 : w1.cell? ⟨w.heap.size, 0, none⟩ = some (.slice A n c) := (hb.cell (p := ⟨w.heap.size, 0, none⟩) (by simp)).trans (by go_simp)
  have HG1 := Lib.hid ((H.out.alloc hB (.cells #[.slice A n c] 25)).below hb (by simp; omega))
  have HX1 := Lib.hid ((HX.out.alloc hB (.cells #[.slice A n c] 25)).below hb (by simp; omega))
  have hB1 := Lib.hid (((Below.refl w.heap.size w).alloc (Nat.le_refl _) (.cells #[.slice A n c] 25)).trans (hb.mono (by simp)))
  have hl1 : w.heap.size < w1.heap.size := by have := hb.size; simp at this; omega
  clear hb
  go_wp2
  go_loopw [17] (fun i wr => ∃ k : Nat, k ≤ m ∧ i = .int .i64 k ∧ Hid (∀ j, j < k → actOK gs (ac.getD j default) = true) ∧ Hid (Below w1.heap.size w1 wr) ∧ w1.heap.size ≤ wr.heap.size) (fun i _ => m - (intOf i).toNat)
  case atStart => exact ⟨0, Nat.zero_le _, rfl, fun j hj => absurd hj (Nat.not_lt_zero _), Below.refl _ _, Nat.le_refl _⟩
  case round =>
    obtain ⟨k, hk, rfl, HT, HB, hwr⟩ := hrel
    by_cases hlt : k < m
    · obtain ⟨b, off, rfl, hbB, c0, c1, c2⟩ := HX1.out.at_ k (by have := HM.out; omega)
      have b0 := (HB.out.cell (p := ⟨b, off + k * 3, none⟩) (show b < w1.heap.size by omega)).trans c0
      have b1 := (HB.out.cell (p := ⟨b, off + k * 3 + 1, none⟩) (show b < w1.heap.size by omega)).trans c1
      have b2 := (HB.out.cell (p := ⟨b, off + k * 3 + 2, none⟩) (show b < w1.heap.size by omega)).trans c2
      have q2 := (HB.out.cell (p := ⟨w.heap.size, 0, none⟩) hl1).trans q1
      have hbr : b < wr.heap.size := by omega
      have hwl : w.heap.size < wr.heap.size := by omega
      have hno := HNO.out k (by have := HM.out; omega)
      clear c0 c1 c2
      generalize hp : ac.getD k default = p at *
      have HP := Lib.hid hp
      have HNK := Lib.hid hno
      clear hp hno
      have HFP := Lib.hid (HF.out p)
      have HG2 := Lib.hid ((HG1.out.below HB.out (by omega)).alloc (by omega) (.cells #[.int .i64 p.k, .int .i64 p.a, .int .i64 p.b] 72))
      obtain ⟨pk, pa, pb⟩ := p
      generalize hok : actOK gs ⟨pk, pa, pb⟩ = r at *
      have HOK := Lib.hid hok
      clear hok
      go_wp2_with fail
      refine (HFP.out _ (by simp; omega) HG2.out).mono ?_
      rintro e w3 ⟨rfl, hb3⟩
      have hB3 : Below w1.heap.size w1 w3 := (HB.out.alloc (by omega) (.cells #[.int .i64 pk, .int .i64 pa, .int .i64 pb] 72)).trans (hb3.mono (by simp; omega))
      cases r
      · have hR := HNK.out rfl
        go_wp2
        go_ret
        exact ⟨ret_b hR.symm, hB1.out.trans (hB3.mono (by omega))⟩
      · go_wp2
        go_roundw
        case rel => exact ⟨k + 1, by omega, by go_num, fun j hj => by
          rcases Nat.lt_or_ge j k with h1 | h1
          · exact HT.out j h1
          · obtain rfl : j = k := by omega
            rw [HP.out]; exact HOK.out, hB3, hB3.size⟩
        case measure => simp [intOf]; omega
    · obtain rfl : k = m := by omega
      have hR := HYE.out HT.out
      go_wp2
      go_ret
      exact ⟨ret_b hR.symm, hB1.out.trans (HB.out.mono (by omega))⟩
end Go.Proofs.Ytgclikdienlhdaa

/- The standing contracts of ValidActs. -/
namespace Go.Proofs.Ytgclikdienlhdaa
set_option linter.unusedSimpArgs false
set_option linter.unusedVariables false
open Go.RowKit

theorem getD_mem_box {w : World} {x y z : Value} {t : TypeId} : (w.alloc (.cells #[x, y, z] t)).cell? ⟨w.heap.size, 0, none⟩ = some x := by go_simp

set_option maxRecDepth 100000 in
set_option maxHeartbeats 3200000 in
theorem spec_validActs (gs : List Nd) (ac : List Ac) (hG : GB gs) (hL : ac.length ≤ 1048576) (A : Option Addr) (n c : Nat) (A' : Option Addr) (m c' : Nat) (w : World) (B : Nat) (hB : B ≤ w.heap.size) (hn : n = gs.length) (h : GS w B A gs) (hm : m = ac.length) (h' : CS w B A' ac) :
    Calls Try.prog 49 #[.agg #[.slice A n c], .slice A' m c'] w fun e w' => e = .returned (.bool (validA gs ac)) ∧ Below w.heap.size w w' := by
  have hm1 : m ≤ 2000000 := by omega
  have hn1 : n ≤ 2000000 := by have := hG.1; omega
  have H := Lib.hid (h.alloc hB (.cells #[.slice A n c] 25))
  have HX := Lib.hid (h'.alloc hB (.cells #[.slice A n c] 25))
  have HM := Lib.hid hm
  have HN := Lib.hid hn
  have HC := Lib.hid fun (w' : World) (hB : B ≤ w'.heap.size) (h : GS w' B A gs) => spec_validGraph A n c gs w' B hB hn h hG
  have HF := Lib.hid fun (x : Int) (w' : World) (hB : B ≤ w'.heap.size) (h : GS w' B A gs) => spec_isCell A n c gs x w' B hB hn h hn1
  have hv : validA gs ac = (validG gs && decide (m ≤ 30) && ac.all (actOK gs)) := by rw [hm]; rfl
  have HNO := Lib.hid fun (k : Nat) (hk : k < ac.length) (hp : actOK gs (ac.getD k default) = false) => all_no ac (actOK gs) k hk hp
  have HYE := Lib.hid fun (hp : ∀ j, j < m → actOK gs (ac.getD j default) = true) => all_yes ac (actOK gs) m hm hp
  rw [hv]
  generalize ac.all (actOK gs) = R at *
  generalize validG gs = V at *
  have hle : w.heap.size < (w.alloc (.cells #[.slice A n c] 25)).heap.size := by simp
  have hq : (w.alloc (.cells #[.slice A n c] 25)).cell? ⟨w.heap.size, 0, none⟩ = some (.slice A n c) := by go_simp
  have HB0 := Lib.hid ((Below.refl w.heap.size w).alloc (Nat.le_refl _) (.cells #[.slice A n c] 25))
  clear h h' hn hm hG hv
  go_enter Try.func49, Try.ntmps49
  generalize hw1 : w.alloc (.cells #[.slice A n c] 25) = w1 at *
  go_wp2
  try simp only [hw1]
  go_loopw [5] (fun i wr => ∃ k : Nat, k ≤ m ∧ i = .int .i64 k ∧ Hid (∀ j, j < k → actOK gs (ac.getD j default) = true) ∧ Hid (Below w1.heap.size w1 wr) ∧ w1.heap.size ≤ wr.heap.size) (fun i _ => m - (intOf i).toNat)
  case atStart => exact ⟨0, Nat.zero_le _, rfl, fun j hj => absurd hj (Nat.not_lt_zero _), Below.refl _ _, Nat.le_refl _⟩
  case round =>
    obtain ⟨k, hk, rfl, HT, HB, hwr⟩ := hrel
    have q2 := (HB.out.cell (p := ⟨w.heap.size, 0, none⟩) hle).trans hq
    by_cases hlt : k < m
    · obtain ⟨b, off, rfl, hbB, c0, c1, c2⟩ := HX.out.at_ k (by have := HM.out; omega)
      have b0 := (HB.out.cell (p := ⟨b, off + k * 3, none⟩) (show b < w1.heap.size by omega)).trans c0
      have b1 := (HB.out.cell (p := ⟨b, off + k * 3 + 1, none⟩) (show b < w1.heap.size by omega)).trans c1
      have b2 := (HB.out.cell (p := ⟨b, off + k * 3 + 2, none⟩) (show b < w1.heap.size by omega)).trans c2
      have hbr : b < wr.heap.size := by omega
      have hwl : w.heap.size < wr.heap.size := by omega
      have hno := HNO.out k (by have := HM.out; omega)
      clear c0 c1 c2
      generalize hp : ac.getD k default = p at *
      have HP := Lib.hid hp
      have HNK := Lib.hid hno
      clear hp hno
      obtain ⟨pk, pa, pb⟩ := p
      have HG2 := Lib.hid ((H.out.below HB.out (by omega)).alloc (by omega) (.cells #[.int .i64 pk, .int .i64 pa, .int .i64 pb] 72))
      have HB2 := Lib.hid (HB.out.alloc (by omega) (.cells #[.int .i64 pk, .int .i64 pa, .int .i64 pb] 72))
      have HREL := Lib.hid fun (hok : actOK gs ⟨pk, pa, pb⟩ = true) (j : Nat) (hj : j < k + 1) => show actOK gs (ac.getD j default) = true from by
          rcases Nat.lt_or_ge j k with h1 | h1
          · exact HT.out j h1
          · obtain rfl : j = k := by omega
            rw [HP.out]; exact hok
      by_cases h0 : pk = 0
      · subst h0
        have hf : actOK gs ⟨0, pa, pb⟩ = (isC gs pa && rng pb 0 999) := rfl
        have HFP := Lib.hid (HF.out pa)
        generalize actOK gs ⟨0, pa, pb⟩ = ok at *
        generalize isC gs pa = r at *
        cases hq9 : rng pb 0 999 <;> cases r
        all_goals
          rw [hq9] at hf
          subst hf
          go_wp2_with fail
          refine (HFP.out _ (by simp; omega) HG2.out).mono ?_
          rintro e w3 ⟨rfl, hb3⟩
          have hB3 := Lib.hid (HB2.out.trans (hb3.mono (by simp; omega)))
          have hs3 : wr.heap.size + 1 ≤ w3.heap.size := by have := hb3.size; simpa using this
          have p2 : w3.cell? ⟨wr.heap.size, 2, none⟩ = some (.int .i64 pb) := (hb3.cell (p := ⟨wr.heap.size, 2, none⟩) (by simp)).trans (by go_simp)
          clear hb3
          go_wp2_with (go_at_call 65; refine (spec_inRange _ _ _ _).mono ?_; rintro e w' ⟨rfl, rfl⟩)
        · go_ret
          exact ⟨ret_b (by rw [HNK.out rfl]; simp), HB0.out.trans (hB3.out.mono (by omega))⟩
        · go_ret
          exact ⟨ret_b (by rw [HNK.out rfl]; simp), HB0.out.trans (hB3.out.mono (by omega))⟩
        · go_ret
          exact ⟨ret_b (by rw [HNK.out rfl]; simp), HB0.out.trans (hB3.out.mono (by omega))⟩
        · go_roundw
          case rel => exact ⟨k + 1, by omega, by go_num, HREL.out rfl, hB3.out, hB3.out.size⟩
          case measure => simp [intOf]; omega
      have e0 : (pk == 0) = false := by simp [h0]
      by_cases h1 : pk = 1
      · subst h1
        clear h0 e0
        have hf : actOK gs ⟨1, pa, pb⟩ = (isK gs pa 2 && (pb == 0)) := rfl
        have hr : hasN gs pa = rng pa 0 ((n : Int) - 1) := by rw [HN.out]; rfl
        have hi : isK gs pa 2 = (hasN gs pa && ((gs.getD pa.toNat default).k == 2)) := rfl
        cases hh : hasN gs pa
        · rw [hi, hh] at hf
          rw [hh] at hr
          have HNF := Lib.hid (HNK.out (by rw [hf]; rfl))
          have hr' := hr.symm
          clear hf hi hh hr
          go_wp2_with (go_at_call 65; refine (spec_inRange _ _ _ _).mono ?_; rintro e w' ⟨rfl, rfl⟩)
          go_ret
          exact ⟨ret_b (by rw [HNF.out]; simp), HB0.out.trans (HB2.out.mono (by omega))⟩
        · obtain ⟨t, rfl, ht⟩ := hasN_nat gs pa hh
          rw [hi, hh] at hf
          have htn : t < n := by have := HN.out; omega
          obtain ⟨b9, off9, rfl, hb9, d0, _⟩ := H.out.at_ t ht
          have g0 := (HB.out.cell (p := ⟨b9, off9 + t * 2, none⟩) (show b9 < w1.heap.size by omega)).trans d0
          have hbr9 : b9 < wr.heap.size := by omega
          rw [hh] at hr
          have hr' := hr.symm
          have hf' : actOK gs ⟨1, (t : Int), pb⟩ = (((gs.getD t default).k == 2) && (pb == 0)) := by rw [hf]; simp
          clear hf hi hh hr d0 ht
          generalize gs.getD t default = d at *
          cases hd : (d.k == 2)
          · have HNF := Lib.hid (HNK.out (by rw [hf', hd]; rfl))
            have hd' : (d.k != 2) = true := by simp [bne, hd]
            clear hf'
            go_wp2_with (go_at_call 65; refine (spec_inRange _ _ _ _).mono ?_; rintro e w' ⟨rfl, rfl⟩)
            go_ret
            exact ⟨ret_b (by rw [HNF.out]; simp), HB0.out.trans (HB2.out.mono (by omega))⟩
          · have hd' : (d.k != 2) = false := by simp [bne, hd]
            cases hb : (pb == 0)
            · have HNF := Lib.hid (HNK.out (by rw [hf', hd, hb]; rfl))
              have hb' : (pb != 0) = true := by simp [bne, hb]
              clear hf'
              go_wp2_with (go_at_call 65; refine (spec_inRange _ _ _ _).mono ?_; rintro e w' ⟨rfl, rfl⟩)
              go_ret
              exact ⟨ret_b (by rw [HNF.out]; simp), HB0.out.trans (HB2.out.mono (by omega))⟩
            · have HYF := Lib.hid (HREL.out (by rw [hf', hd, hb]; rfl))
              have hb' : (pb != 0) = false := by simp [bne, hb]
              clear hf'
              go_wp2_with (go_at_call 65; refine (spec_inRange _ _ _ _).mono ?_; rintro e w' ⟨rfl, rfl⟩)
              go_roundw
              case rel => exact ⟨k + 1, by omega, by go_num, HYF.out, HB2.out, HB2.out.size⟩
              case measure => simp [intOf]; omega
      have e1 : (pk == 1) = false := by simp [h1]
      have hf : actOK gs ⟨pk, pa, pb⟩ = if pk = 2 ∨ pk = 3 then (pa == 0) && (pb == 0) else false := by unfold actOK; simp [h0, h1]
      clear h0 h1
      cases e2 : (pk == 2) <;> cases e3 : (pk == 3)
      · have hk : ¬ (pk = 2 ∨ pk = 3) := by simp at e2 e3; omega
        rw [if_neg hk] at hf
        have HNF := Lib.hid (HNK.out hf)
        clear hf hk
        go_wp2
        go_ret
        exact ⟨ret_b (by rw [HNF.out]; simp), HB0.out.trans (HB2.out.mono (by omega))⟩
      all_goals
        have hk : pk = 2 ∨ pk = 3 := by simp at e2 e3; omega
        rw [if_pos hk] at hf
        clear hk
        cases ha : (pa == 0)
        · have HNF := Lib.hid (HNK.out (by rw [hf, ha]; rfl))
          have ha' : (pa != 0) = true := by simp [bne, ha]
          clear hf
          go_wp2
          go_ret
          exact ⟨ret_b (by rw [HNF.out]; simp), HB0.out.trans (HB2.out.mono (by omega))⟩
        · have ha' : (pa != 0) = false := by simp [bne, ha]
          cases hb : (pb == 0)
          · have HNF := Lib.hid (HNK.out (by rw [hf, ha, hb]; rfl))
            have hb' : (pb != 0) = true := by simp [bne, hb]
            clear hf
            go_wp2
            go_ret
            exact ⟨ret_b (by rw [HNF.out]; simp), HB0.out.trans (HB2.out.mono (by omega))⟩
          · have HYF := Lib.hid (HREL.out (by rw [hf, ha, hb]; rfl))
            have hb' : (pb != 0) = false := by simp [bne, hb]
            clear hf
            go_wp2
            go_roundw
            case rel => exact ⟨k + 1, by omega, by go_num, HYF.out, HB2.out, HB2.out.size⟩
            case measure => simp [intOf]; omega
    · obtain rfl : k = m := by omega
      have hR := HYE.out HT.out
      subst hR
      have HG2 := Lib.hid (H.out.below HB.out (by omega))
      by_cases h30 : k ≤ 30 <;> cases V
      all_goals
        go_wp2_with fail
        refine (HC.out _ (by omega) HG2.out).mono ?_
        rintro e w3 ⟨rfl, hb3⟩
        go_wp2
        all_goals
          go_ret
          exact ⟨ret_b (by first | (simp; omega) | simp), HB0.out.trans ((HB.out.trans (hb3.mono (by omega))).mono (by omega))⟩
end Go.Proofs.Ytgclikdienlhdaa

/- The standing contracts of BatchAll. -/
namespace Go.Proofs.Ytgclikdienlhdaa
set_option linter.unusedSimpArgs false
set_option linter.unusedVariables false
open Go.RowKit

theorem acells_new (w : World) (cs : Array Value) (t : TypeId) (xs : List Value) (hx : cs.toList = xs) : ∀ j u, xs[j]? = some u → (w.alloc (.cells cs t)).cell? ((⟨w.heap.size, 0, none⟩ : Addr).add j) = some u := by
  subst hx
  intro j u hj
  have hadd : (⟨w.heap.size, 0, none⟩ : Addr).add j = ⟨w.heap.size, j, none⟩ := by unfold Addr.add; split <;> simp_all
  rw [hadd, cell_of_row _ w.heap.size j cs t (0, 0) (heap_alloc_new w _)]
  simpa using hj

def plainA (a : Ac) : Bool := (a.k != 2) && (a.k != 3)
def preA (l : List Ac) (k : Nat) : List Ac := ⟨2, 0, 0⟩ :: (l.take k).filter plainA
theorem preA_yes (l : List Ac) (k : Nat) (h : k < l.length) (hp : plainA (l.getD k default) = true) : preA l (k + 1) = preA l k ++ [l.getD k default] := by
  unfold preA
  rw [take_succ_getD l k h, List.filter_append, show ([l.getD k default].filter plainA) = [l.getD k default] by rw [List.filter_cons, hp]; rfl]
  rfl
theorem preA_no (l : List Ac) (k : Nat) (h : k < l.length) (hp : plainA (l.getD k default) = false) : preA l (k + 1) = preA l k := by
  unfold preA
  rw [take_succ_getD l k h, List.filter_append, show ([l.getD k default].filter plainA) = [] by rw [List.filter_cons, hp]; rfl]
  simp
theorem preA_len (l : List Ac) (k : Nat) : (preA l k).length ≤ k + 1 := by
  unfold preA
  have := List.length_filter_le plainA (l.take k)
  simp only [List.length_cons, List.length_take] at *
  omega
def batchL (l : List Ac) : List Ac := preA l l.length ++ [⟨3, 0, 0⟩]
def batchF (gs : List Nd) (l : List Ac) : List Ac := if validA gs l && decide ((batchL l).length ≤ 30) then batchL l else []
theorem batchF_len (gs : List Nd) (l : List Ac) : (batchF gs l).length ≤ 30 := by
  unfold batchF
  split
  · rename_i h
    simp only [Bool.and_eq_true, decide_eq_true_eq] at h
    exact h.2
  · simp

theorem top_impl_ValidActs (gs : List Nd) (ac : List Ac) (hG : GB gs) (hL : ac.length ≤ 1048576) : ∀ (A : Option Addr) (n c : Nat) (A' : Option Addr) (m c' : Nat) (w : World), n = gs.length → n ≤ c → GS w w.heap.size A gs → m = ac.length → CS w w.heap.size A' ac →
    Calls Try.prog 24 #[.agg #[.slice A n c], .slice A' m c'] w fun e w' => e = .returned (.bool (validA gs ac)) ∧ Below w.heap.size w w' :=
  fun A n c A' m c' w hn hc h hm h' => impl_ValidActs gs ac hG hL A n c A' m c' w w.heap.size (Nat.le_refl _) hn hc h hm h'

set_option maxHeartbeats 800000 in
theorem top_spec_ValidActs (gs : List Nd) (ac : List Ac) (hG : GB gs) (hL : ac.length ≤ 1048576) : ∀ (A : Option Addr) (n c : Nat) (A' : Option Addr) (m c' : Nat) (w : World), n = gs.length → n ≤ c → GS w w.heap.size A gs → m = ac.length → CS w w.heap.size A' ac →
    Calls Try.prog 25 #[.agg #[.slice A n c], .slice A' m c'] w fun e w' => e = .returned (.bool (validA gs ac)) ∧ Below w.heap.size w w' := by
  intro A n c A' m c' w hn hnc h hm h'
  have H := Lib.hid h
  have HX := Lib.hid h'
  have HC := Lib.hid fun (w' : World) (hB : w.heap.size ≤ w'.heap.size) (h : GS w' w.heap.size A gs) (h' : CS w' w.heap.size A' ac) => spec_validActs gs ac hG hL A n c A' m c' w' w.heap.size hB hn h hm h'
  generalize validA gs ac = r at *
  clear h h' hn hm
  go_enter Try.func25, Try.ntmps25
  go_wp2_with fail
  refine (HC.out _ (by simp) (H.out.alloc (Nat.le_refl _) _) (HX.out.alloc (Nat.le_refl _) _)).mono ?_
  rintro e w1 ⟨rfl, hb⟩
  go_wp2
  go_ret
  exact ⟨rfl, ((Below.refl _ _).alloc (Nat.le_refl _) _).trans (hb.mono (by simp))⟩

theorem retA_own {w w1 w' : World} {v : Value} {n : Nat} {xs : List Ac} {vs : List Value} (hn : n = xs.length) (hv : vs = xs.flatMap Ac.cells) (h : w'.ownsRow w1.heap.size 72 3 v n vs) (h1 : w.heap.size ≤ w1.heap.size) (hb : Below w.heap.size w w') : RetA w xs (.returned v) w' := by
  subst hn hv
  exact ⟨_, rfl, own_mono h h1, hb⟩

end Go.Proofs.Ytgclikdienlhdaa

/- laws.FnValidActs returns true for all bytes, and writes nothing that was there. (Made by genpl.py.) -/
namespace Go.Proofs.Ytgclikdienlhdaa
set_option linter.unusedSimpArgs false
set_option linter.unusedVariables false
open Go.RowKit

theorem CS.pre {w : World} {B : Nat} {A : Option Addr} {ps : List Ac} (h : CS w B A ps) (k : Nat) : CS w B A (ps.take k) := by
  intro hn
  rw [List.length_take] at hn
  obtain ⟨b, off, e, hb, hc⟩ := h (by omega)
  refine ⟨b, off, e, hb, fun j hj => ?_⟩
  rw [List.length_take] at hj
  have : (ps.take k).getD j default = ps.getD j default := by simp only [List.getD, List.getElem?_take, if_pos (show j < k by omega)]
  rw [this]
  exact hc j (by omega)
theorem validA_pre (gs : List Nd) (ac : List Ac) (k : Nat) (h : validA gs ac = true) : validA gs (ac.take k) = true := by
  unfold validA at *
  simp only [Bool.and_eq_true, decide_eq_true_eq, List.all_eq_true, List.length_take] at *
  exact ⟨⟨h.1.1, by omega⟩, fun x hx => h.2 x (List.mem_of_mem_take hx)⟩
theorem validA_nil (gs : List Nd) (ac : List Ac) (h : validA gs ac = true) : validA gs [] = true := validA_pre gs ac 0 h

set_option maxRecDepth 100000 in
set_option maxHeartbeats 6400000 in
theorem plaw_ValidActs (A : Option Addr) (n c : Nat) (bs : List Int) (w : World) (hn : n = bs.length) (hnc : n ≤ c) (h : BS w w.heap.size A bs) (hy : BY bs) (hm : n ≤ 9223372036854775807) :
    Calls Try.prog 6 #[.slice A n c] w fun e w' => e = .returned (.bool true) ∧ Below w.heap.size w w' := by
  by_cases hs : 1048576 < n
  · clear hn hnc h hy
    go_enter Try.func6, Try.ntmps6
    go_wp2
    go_ret
    exact ⟨rfl, Below.refl _ _⟩
  have HC := Lib.hid (spec_DrawValidActs A n c bs w hn hnc h hy (by omega))
  clear hn hnc h hy
  go_enter Try.func6, Try.ntmps6
  go_wp2_with fail
  refine HC.out.mono ?_
  rintro e w1 ⟨A1, n1, c1, gs, E1, m1, d1, ac, rfl, hp1, hp2, hp3, hnc1, hsm, hm1, hm12, hmd, hP, hI, hb⟩
  have HN1 := Lib.hid hp1
  have HG := Lib.hid (GB.of_drawn (by omega) hsm)
  have P_1 := Lib.hid (hP)
  have HM1 := Lib.hid hm1
  have I_1 := Lib.hid (hI)
  have B_1 := Lib.hid (hb)
  clear hP hp1 hb HC hsm hI hm1
  go_wp2_with fail
  obtain ⟨w2, hw2⟩ : ∃ W, W = w1.alloc (.cells #[.slice A1 n1 c1] 25) := ⟨_, rfl⟩
  have hb : Below w1.heap.size w1 w2 := by rw [hw2]; exact (Below.refl _ _).alloc (Nat.le_refl _) _
  have P_2 := Lib.hid (P_1.out.step hb)
  clear P_1
  have I_2 := Lib.hid (I_1.out.step hb)
  clear I_1
  have B_2 := Lib.hid (B_1.out.trans (hb.mono B_1.out.size))
  clear B_1
  have F_2 : Hid (As w1.heap.size (w1.heap.size + 1) (fun w' => w'.cell? ⟨w1.heap.size, 0, none⟩ = some (.slice A1 n1 c1)) w2) := by rw [hw2]; exact box_new _ _ _
  clear hb
  rw [← hw2]
  clear hw2
  have HIM := Lib.hid fun (w' : World) (h : GS w' w'.heap.size A1 gs) (h' : CS w' w'.heap.size E1 ac) => top_impl_ValidActs gs ac HG.out (by have := HM1.out; omega) A1 n1 c1 E1 m1 d1 w' HN1.out hnc1 h HM1.out h'
  have HSP := Lib.hid fun (w' : World) (h : GS w' w'.heap.size A1 gs) (h' : CS w' w'.heap.size E1 ac) => top_spec_ValidActs gs ac HG.out (by have := HM1.out; omega) A1 n1 c1 E1 m1 d1 w' HN1.out hnc1 h HM1.out h'
  have HPR := Lib.hid fun (q : Nat) (hq : q ≤ m1) (w' : World) (h : GS w' w'.heap.size A1 gs) (h' : CS w' w'.heap.size E1 ac) => top_impl_ValidActs gs (ac.take q) HG.out (by have := HM1.out; rw [List.length_take]; omega) A1 n1 c1 E1 q d1 w' HN1.out hnc1 h (by rw [List.length_take, ← HM1.out]; omega) (h'.pre q)
  have HNI := Lib.hid fun (w' : World) (h : GS w' w'.heap.size A1 gs) => top_impl_ValidActs gs [] HG.out (by simp) A1 n1 c1 none 0 0 w' HN1.out hnc1 h rfl (CS.nil _ _ _)
  have HVP := Lib.hid fun (h : validA gs ac = true) (q : Nat) => validA_pre gs ac q h
  have HVN := Lib.hid fun (h : validA gs ac = true) => validA_nil gs ac h
  generalize validA gs ac = v at *
  have q0 := F_2.out.it
  go_wp2_with fail
  refine (HIM.out w2 P_2.out I_2.out).mono ?_
  rintro e w3 ⟨rfl, hb⟩
  have P_3 := Lib.hid (P_2.out.step hb)
  clear P_2
  have I_3 := Lib.hid (I_2.out.step hb)
  clear I_2
  have B_3 := Lib.hid (B_2.out.trans (hb.mono B_2.out.size))
  clear B_2
  have F_3 := Lib.hid (F_2.out.step hb)
  clear F_2
  clear hb
  clear q0
  have q0 := F_3.out.it
  go_wp2_with fail
  refine (HSP.out w3 P_3.out I_3.out).mono ?_
  rintro e w4 ⟨rfl, hb⟩
  have P_4 := Lib.hid (P_3.out.step hb)
  clear P_3
  have I_4 := Lib.hid (I_3.out.step hb)
  clear I_3
  have B_4 := Lib.hid (B_3.out.trans (hb.mono B_3.out.size))
  clear B_3
  have F_4 := Lib.hid (F_3.out.step hb)
  clear F_3
  clear hb
  clear q0
  cases v
  · skip
    have q0 := F_4.out.it
    go_wp2_with fail
    refine (HSP.out w4 P_4.out I_4.out).mono ?_
    rintro e w5 ⟨rfl, hb⟩
    have P_5 := Lib.hid (P_4.out.step hb)
    clear P_4
    have I_5 := Lib.hid (I_4.out.step hb)
    clear I_4
    have B_5 := Lib.hid (B_4.out.trans (hb.mono B_4.out.size))
    clear B_4
    have F_5 := Lib.hid (F_4.out.step hb)
    clear F_4
    clear hb
    clear q0
    go_wp2
    go_ret
    exact ⟨rfl, B_5.out⟩
  · have hvn := HVN.out (by first | rfl | trivial)
    obtain ⟨q, hq, hqm⟩ : ∃ q : Nat, ((m1 : Int).tdiv 2) = (q : Int) ∧ q ≤ m1 := ⟨m1 / 2, by rw [Int.tdiv_eq_ediv_of_nonneg (by omega)]; omega, by omega⟩
    have hwq : IntKind.i64.wrap (q : Int) = (q : Int) := by rw [IntKind.wrap_i64]; omega
    have hqd : (q : Int) ≤ (d1 : Int) := by omega
    have hq0 : (0 : Int) ≤ (q : Int) := by omega
    have hvp := HVP.out (by first | rfl | trivial) q
    have HPQ := HPR.out q hqm
    rw [hvp] at HPQ
    rw [hvn] at HNI
    have HPQ2 := Lib.hid HPQ
    clear hvn hvp HPQ HPR HVP HVN
    have hqc : q ≤ d1 := by omega
    have q0 := F_4.out.it
    go_wp2
    refine wp_region_held_drew (S := fun w' => w'.cell? ⟨w1.heap.size, 0, none⟩ = some (.slice A1 n1 c1)) (by kernel_rfl) q0 (fun hHeld => ?_)
    refine wpAnyH_take (i := 0) (oi := ⟨some 31, _, _, _, _, _⟩) (v := ?_) rfl (by kernel_rfl) (by kernel_rfl) (by kernel_rfl) (fun _ _ _ h => h) (Or.inl ⟨by rfl, ?_⟩) (by assumption) ?_; rotate_left; (focus (intro w hSw; (try dsimp only at hSw); go_simp; (try with_reducible rfl))); (try simp only [Act.put, List.setIfInBounds_toArray, List.set_cons_zero, List.set_cons_succ])
    refine wpAnyH_take (i := 1) (oi := ⟨some 32, _, _, _, _, _⟩) (v := ?_) rfl (by kernel_rfl) (by kernel_rfl) (by kernel_rfl) (fun _ _ _ h => h) (Or.inl ⟨by rfl, ?_⟩) (by assumption) ?_; rotate_left; (focus (intro w hSw; (try dsimp only at hSw); go_simp; (try with_reducible rfl))); (try simp only [Act.put, List.setIfInBounds_toArray, List.set_cons_zero, List.set_cons_succ])
    refine wpAnyH_take (i := 2) (oi := ⟨some 33, _, _, _, _, _⟩) (v := ?_) rfl (by kernel_rfl) (by kernel_rfl) (by kernel_rfl) (fun _ _ _ h => h) (Or.inl ⟨by rfl, ?_⟩) (by assumption) ?_; rotate_left; (focus (intro w hSw; (try dsimp only at hSw); go_simp; (try with_reducible rfl))); (try simp only [Act.put, List.setIfInBounds_toArray, List.set_cons_zero, List.set_cons_succ])
    refine wpAnyH_take (i := 3) (oi := ⟨some 34, _, _, _, _, _⟩) (v := ?_) rfl (by kernel_rfl) (by kernel_rfl) (by kernel_rfl) (fun _ _ _ h => h) (Or.inl ⟨by rfl, ?_⟩) (by assumption) ?_; rotate_left; (focus (intro w hSw; (try dsimp only at hSw); go_simp; (try with_reducible rfl))); (try simp only [Act.put, List.setIfInBounds_toArray, List.set_cons_zero, List.set_cons_succ])
    refine wpAnyH_take (i := 4) (oi := ⟨some 35, _, _, _, _, _⟩) (v := ?_) rfl (by kernel_rfl) (by kernel_rfl) (by kernel_rfl) (fun _ _ _ h => h) (Or.inl ⟨by rfl, ?_⟩) (by assumption) ?_; rotate_left; (focus (intro w hSw; (try dsimp only at hSw); go_simp; (try with_reducible rfl))); (try simp only [Act.put, List.setIfInBounds_toArray, List.set_cons_zero, List.set_cons_succ])
    refine wpAnyH_take (i := 5) (oi := ⟨some 36, _, _, _, _, _⟩) (v := ?_) rfl (by kernel_rfl) (by kernel_rfl) (by kernel_rfl) (fun _ _ _ h => h) (Or.inl ⟨by rfl, ?_⟩) (by assumption) ?_; rotate_left; (focus (intro w hSw; (try dsimp only at hSw); go_simp; (try with_reducible rfl))); (try simp only [Act.put, List.setIfInBounds_toArray, List.set_cons_zero, List.set_cons_succ])
    refine wpAnyH_ready (rs := [6]) (by kernel_rfl) (by simp) ?_; refine AllReadyH.cons (o := ⟨some 37, _, _, _, _, _⟩) rfl (fun K hK => ?_) AllReadyH.nil; go_simp
    go_at_call 24
    refine (HPQ2.out w4.drew P_4.out I_4.out).mono ?_
    rintro e w5 ⟨rfl, hb'⟩
    have hb : Below w4.heap.size w4 w5 := below_of_drew hb'
    have P_5 := Lib.hid (P_4.out.step hb)
    clear P_4
    have I_5 := Lib.hid (I_4.out.step hb)
    clear I_4
    have B_5 := Lib.hid (B_4.out.trans (hb.mono B_4.out.size))
    clear B_4
    have F_5 := Lib.hid (F_4.out.step hb)
    clear F_4
    clear hb hb'
    have q9 := F_5.out.it
    refine hK.out _ _ q9 (fun hHeld => ?_); clear hK K; (try simp only [Act.put, List.setIfInBounds_toArray, List.set_cons_zero, List.set_cons_succ])
    refine wpAnyH_take (i := 7) (oi := ⟨some 38, _, _, _, _, _⟩) (v := ?_) rfl (by kernel_rfl) (by kernel_rfl) (by kernel_rfl) (fun _ _ _ h => h) (Or.inl ⟨by rfl, ?_⟩) (by assumption) ?_; rotate_left; (focus (intro w hSw; (try dsimp only at hSw); go_simp; (try with_reducible rfl))); (try simp only [Act.put, List.setIfInBounds_toArray, List.set_cons_zero, List.set_cons_succ])
    refine wpAnyH_take (i := 8) (oi := ⟨some 39, _, _, _, _, _⟩) (v := ?_) rfl (by kernel_rfl) (by kernel_rfl) (by kernel_rfl) (fun _ _ _ h => h) (Or.inl ⟨by rfl, ?_⟩) (by assumption) ?_; rotate_left; (focus (intro w hSw; (try dsimp only at hSw); go_simp; (try with_reducible rfl))); (try simp only [Act.put, List.setIfInBounds_toArray, List.set_cons_zero, List.set_cons_succ])
    refine wpAnyH_ready (rs := [9]) (by kernel_rfl) (by simp) ?_; refine AllReadyH.cons (o := ⟨some 40, _, _, _, _, _⟩) rfl (fun K hK => ?_) AllReadyH.nil; go_simp
    go_at_call 24
    refine (HNI.out w5 P_5.out).mono ?_
    rintro e w6 ⟨rfl, hb⟩
    have P_6 := Lib.hid (P_5.out.step hb)
    clear P_5
    have I_6 := Lib.hid (I_5.out.step hb)
    clear I_5
    have B_6 := Lib.hid (B_5.out.trans (hb.mono B_5.out.size))
    clear B_5
    have F_6 := Lib.hid (F_5.out.step hb)
    clear F_5
    clear hb
    have q9 := F_6.out.it
    refine hK.out _ _ q9 (fun hHeld => ?_); clear hK K; (try simp only [Act.put, List.setIfInBounds_toArray, List.set_cons_zero, List.set_cons_succ])
    refine wpAnyH_take (i := 10) (oi := ⟨some 41, _, _, _, _, _⟩) (v := ?_) rfl (by kernel_rfl) (by kernel_rfl) (by kernel_rfl) (fun _ _ _ h => h) (Or.inl ⟨by rfl, ?_⟩) (by assumption) ?_; rotate_left; (focus (intro w hSw; (try dsimp only at hSw); go_simp; (try with_reducible rfl))); (try simp only [Act.put, List.setIfInBounds_toArray, List.set_cons_zero, List.set_cons_succ])
    refine wpAnyH_take (i := 11) (oi := ⟨some 2, _, _, _, _, _⟩) (v := ?_) rfl (by kernel_rfl) (by kernel_rfl) (by kernel_rfl) (fun _ _ _ h => h) (Or.inl ⟨by rfl, ?_⟩) (by assumption) ?_; rotate_left; (focus (intro w hSw; (try dsimp only at hSw); go_simp; (try with_reducible rfl))); (try simp only [Act.put, List.setIfInBounds_toArray, List.set_cons_zero, List.set_cons_succ])
    refine wpAnyH_done (by kernel_rfl) ?_ _
    go_wp2
    go_ret
    exact ⟨rfl, B_6.out⟩
end Go.Proofs.Ytgclikdienlhdaa


namespace Go.Proofs.Ytgclikdienlhdaa
set_option linter.unusedSimpArgs false
set_option linter.unusedVariables false
open Go.ChangeShapes Go.WideShapes Go.ChangeAt Go.RowKit

set_option maxRecDepth 100000 in
theorem plifted_ValidActs (os : Os) (started : os.Started) (H : Type) (enc : TypeId × Value → H) :
    ReturnsInHanded {} Try.checked os 6 .any (Rows.fnValidActsSpec.pre6 enc Try.prog Try.f6 Rows.fnValidActsRow.domain false) (Rows.fnValidActsSpec.post enc Try.prog Try.f6 false true false false) := by
  refine returnsInHanded_of_change (C := Try.checked) own started (by kernel_rfl) Try.func6
    (ChangeSpec.witness6 (enc := enc) (C := Try.checked) false ⟨#[], #[.slice none 0 0], []⟩ 8 (by kernel_rfl) (by kernel_rfl) (by kernel_rfl) (by kernel_rfl)) ?_
  intro W base args ds gs before hval0 hW hcnd _
  have hval : ∀ (j : Nat) t v, Try.f6.params[j]? = some t → args[j]? = some v → Value.okWide Try.prog W .any base t v := hval0
  have hW' := hW
  obtain ⟨p, q, hA0, hV, rfl, hfz, hnd⟩ := hW
  have hA : DataW.TrodAll enc Try.prog W 0 (fun _ => true) true Try.f6.params.toList args.toList ds p := hA0
  rw [Try.params6] at hA hval
  obtain ⟨v0, vs0, d0, ds0, p0, q0, hargs, rfl, rfl, h0, r0⟩ := trodAll_cons hA
  obtain ⟨rfl, rfl, rfl⟩ := trodAll_nil r0
  obtain rfl : args = #[v0] := by cases args; simp_all
  obtain ⟨rfl, rfl⟩ := trodVars_none hV
  have k0 := h0
  have lt0 : ∀ x ∈ p0, x.block < W.heap.size := by obtain ⟨m, hm⟩ := k0; exact DataW.trod_lt m _ _ _ hm
  obtain ⟨A, n, c, bs, rfl, hn, hnc, hm, hy, hbs⟩ := open_code (hval 0 22 v0 rfl rfl) h0
  clear hA0 hval0
  refine (plaw_ValidActs A n c bs W hn hnc hbs hy hm).mono fun e W' ⟨he, bel⟩ => ?_
  subst he
  exact ⟨_, rfl, _, _, _, [], _, [], hW', trodAll_mk1 (shut_bool Try.underlying4 _), (trodAll_cons_mk (Below.trod laidOut (by kernel_rfl) (of_decide_eq_true (by kernel_rfl)) k0 bel lt0) trodAll_mk0), rfl, bel.frame _, fun h => by cases h⟩

theorem pproved_ValidActs : Rows.FnValidActsSaid :=
  OpenClaim.holds_of_wide 6 Try.f6 rfl rfl rfl rfl rfl rfl rfl ⟨rfl, rfl, rfl, rfl, rfl⟩ rfl rfl rfl rfl rfl (by kernel_rfl) Try.func6 (by kernel_rfl)
    (of_decide_eq_true (by kernel_rfl)) (by unfold Func.isWrapper; first | (rw [if_pos (by decide +kernel)]; kernel_rfl) | (rw [if_neg (by decide +kernel)]; exact ⟨rfl, rfl⟩))
    (fun os started H enc _ => plifted_ValidActs os started H enc)
#print axioms pproved_ValidActs
end Go.Proofs.Ytgclikdienlhdaa
