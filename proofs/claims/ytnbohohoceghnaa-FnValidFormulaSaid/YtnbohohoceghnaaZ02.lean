/- Texts put together: A8 LW A6 A7 A9 A20 G0. -/
import Derived.Test.YtnbohohoceghnaaZ01
import Derived.Deep.RegionWith
import Derived.Deep.RegionHeld3
import Derived.BigRegion
/- Terms: the interface values that chapter 1 makes of a formula; the contracts of termAt and wholeOf. -/
namespace Go.Proofs.Ytnbohohoceghnaa
set_option linter.unusedSimpArgs false
set_option linter.unusedVariables false
open Go.RowKit

theorem below_of_drew {C : Nat} {w w' : World} (h : Below C w.drew w') : Below C w w' := ⟨h.os, h.tape, h.output, h.size, h.block⟩

inductive Tm where
  | num (v : Int)
  | rd (v : Int)
  | pr (k : Int) (l r : Tm)
  | ch (t a b : Tm)

def Tm.val : Tm → Value
  | .num v => .iface 72 (.agg #[.int .i64 v])
  | .rd v => .iface 74 (.agg #[.int .i64 v])
  | .pr k l r => .iface 76 (.agg #[.int .i64 k, l.val, r.val])
  | .ch t a b => .iface 79 (.agg #[t.val, a.val, b.val])

theorem Tm.val_form (t : Tm) : ∃ T x, t.val = .iface T x := by
  cases t <;> exact ⟨_, _, rfl⟩

/-- The term of the part at an index; the number bounds how deep one goes. -/
def tmAt (ps : List Pt) : Nat → Nat → Tm
  | 0, _ => .num 0
  | f + 1, i =>
    let p := ps.getD i default
    if p.k == 0 then .num p.n
    else if p.k == 1 then .rd p.n
    else if p.k == 8 then .ch (tmAt ps f p.a.toNat) (tmAt ps f p.b.toNat) (tmAt ps f p.c.toNat)
    else .pr p.k (tmAt ps f p.a.toNat) (tmAt ps f p.b.toNat)

/-- All parts are good. -/
def AllGood (ps : List Pt) : Prop := ∀ i, i < ps.length → goodPt (ps.getD i default) i = true

/-- Returns a term. -/
def RetT (w : World) (t : Tm) (e : Ending) (w' : World) : Prop := ∃ T x, e = .returned (.iface T x) ∧ Tm.val t = .iface T x ∧ Below w.heap.size w w'

theorem good_bel_nat (p : Pt) (i : Nat) (h : goodPt p i = true) : (2 ≤ p.k ∧ p.k ≤ 7 → ∃ a b : Nat, p.a = a ∧ p.b = b ∧ a < i ∧ b < i) ∧ (p.k = 8 → ∃ a b c : Nat, p.a = a ∧ p.b = b ∧ p.c = c ∧ a < i ∧ b < i ∧ c < i) := by
  have hb := good_bel p i h
  constructor
  · intro hk
    have h2 : ar p.k = 2 := by unfold ar; rw [if_neg (by omega), if_pos hk]
    have h1 : bel p = [p.a, p.b] := by simp [bel, h2]
    rw [h1] at hb
    have ha := hb p.a (by simp)
    have hb' := hb p.b (by simp)
    exact ⟨p.a.toNat, p.b.toNat, by omega, by omega, by omega, by omega⟩
  · intro hk
    have h2 : ar p.k = 3 := by unfold ar; rw [if_neg (by omega), if_neg (by omega), if_pos hk]
    have h1 : bel p = [p.a, p.b, p.c] := by simp [bel, h2]
    rw [h1] at hb
    have ha := hb p.a (by simp)
    have hb' := hb p.b (by simp)
    have hc := hb p.c (by simp)
    exact ⟨p.a.toNat, p.b.toNat, p.c.toNat, by omega, by omega, by omega, by omega, by omega, by omega⟩

theorem good_kind (p : Pt) (i : Int) (h : goodPt p i = true) : p.k = 0 ∨ p.k = 1 ∨ (2 ≤ p.k ∧ p.k ≤ 7) ∨ p.k = 8 := by
  rcases ar_cases p.k with h1 | h1 | h1 | h1 | h1 | h1 | h1 | h1 | h1 | h1
  all_goals try omega
  exfalso
  have ha : ar p.k = -1 := by unfold ar; rw [if_neg (by omega), if_neg (by omega), if_neg (by omega)]
  simp [goodPt, ha] at h

set_option maxRecDepth 100000 in
set_option maxHeartbeats 3200000 in
theorem impl_termAt (A : Option Addr) (n c : Nat) (ps : List Pt) (B : Nat) (hn : n = ps.length) (hg : AllGood ps) (hs : n ≤ 2000000) (f : Nat) :
    ∀ (i : Nat) (w : World), i < f → i < n → B ≤ w.heap.size → PS w B A ps →
    Calls Try.prog 69 #[.slice A n c, .int .i64 i] w fun e w' => RetT w (tmAt ps f i) e w' := by
  induction f with
  | zero => intro i w hi; omega
  | succ f ih =>
    intro i w hif hin hB h
    obtain ⟨b, off, rfl, hbB, hc⟩ := h (by omega)
    obtain ⟨c0, c1, c2, c3, c4⟩ := hc i (by omega)
    clear hc
    have hgi := hg i (by omega)
    have H := Lib.hid h
    have IH := Lib.hid ih
    have HG := Lib.hid hg
    have HN := Lib.hid hn
    clear h ih hg hn
    generalize hp : ps.getD i default = p at *
    have HP := Lib.hid hp
    clear hp
    rcases good_kind p i hgi with h0 | h1 | h2 | h8
    · have k0 : (p.k == 0) = true := by simp [h0]
      have hr : tmAt ps (f + 1) i = .num p.n := by simp only [tmAt, HP.out, k0, if_true]
      rw [hr]
      clear hr h0 hgi
      go_enter Try.func69, Try.ntmps69
      go_wp2
      go_ret
      exact ⟨_, _, rfl, rfl, (Below.refl _ _).alloc (Nat.le_refl _) _⟩
    · have k0 : (p.k == 0) = false := by simp [h1]
      have k1 : (p.k == 1) = true := by simp [h1]
      have hr : tmAt ps (f + 1) i = .rd p.n := by simp only [tmAt, HP.out, k0, k1, if_true, if_false, Bool.false_eq_true]
      rw [hr]
      clear hr h1 hgi
      go_enter Try.func69, Try.ntmps69
      go_wp2
      go_ret
      exact ⟨_, _, rfl, rfl, (Below.refl _ _).alloc (Nat.le_refl _) _⟩
    · have k0 : (p.k == 0) = false := by simp; omega
      have k1 : (p.k == 1) = false := by simp; omega
      have k8 : (p.k == 8) = false := by simp; omega
      have hr : tmAt ps (f + 1) i = .pr p.k (tmAt ps f p.a.toNat) (tmAt ps f p.b.toNat) := by simp only [tmAt, HP.out, k0, k1, k8, if_false, Bool.false_eq_true]
      rw [hr]
      obtain ⟨ta, tb, ea, eb, la, lb⟩ := (good_bel_nat p i hgi).1 h2
      rw [ea, eb]
      rw [ea] at c1
      rw [eb] at c2
      simp only [Int.toNat_natCast]
      clear hr h2 hgi ea eb
      go_enter Try.func69, Try.ntmps69
      go_wp2_with fail
      have q0 : (w.alloc (.cells #[.int .i64 p.k, .int .i64 ta, .int .i64 tb, .int .i64 p.c, .int .i64 p.n] 54)).cell? ⟨w.heap.size, 0, none⟩ = some (.int .i64 p.k) := by go_simp
      have q1 : (w.alloc (.cells #[.int .i64 p.k, .int .i64 ta, .int .i64 tb, .int .i64 p.c, .int .i64 p.n] 54)).cell? ⟨w.heap.size, 1, none⟩ = some (.int .i64 ta) := by go_simp
      have q2 : (w.alloc (.cells #[.int .i64 p.k, .int .i64 ta, .int .i64 tb, .int .i64 p.c, .int .i64 p.n] 54)).cell? ⟨w.heap.size, 2, none⟩ = some (.int .i64 tb) := by go_simp
      have hB0 := (Below.refl w.heap.size w).alloc (Nat.le_refl _) (.cells #[.int .i64 p.k, .int .i64 ta, .int .i64 tb, .int .i64 p.c, .int .i64 p.n] 54)
      have hz : w.heap.size < (w.alloc (.cells #[.int .i64 p.k, .int .i64 ta, .int .i64 tb, .int .i64 p.c, .int .i64 p.n] 54)).heap.size := by simp
      have HW := Lib.hid (H.out.alloc hB (.cells #[.int .i64 p.k, .int .i64 ta, .int .i64 tb, .int .i64 p.c, .int .i64 p.n] 54))
      clear c0 c1 c2 c3 c4 H
      generalize w.alloc (.cells #[.int .i64 p.k, .int .i64 ta, .int .i64 tb, .int .i64 p.c, .int .i64 p.n] 54) = W at *
      go_region_held3 (fun w' => w'.cell? ⟨w.heap.size, 0, none⟩ = some (.int .i64 p.k) ∧ w'.cell? ⟨w.heap.size, 1, none⟩ = some (.int .i64 ta) ∧ w'.cell? ⟨w.heap.size, 2, none⟩ = some (.int .i64 tb)) (first | exact ⟨q0, q1, q2⟩ | exact ⟨q0', q1', q2'⟩ | exact ⟨q0'', q1'', q2''⟩)
        (first
          | (go_at_call_of 69 (Value.int IntKind.i64 ta); refine (IH.out ta _ (by omega) (by omega) ?_ ?_).mono ?_; (have := hB; show B ≤ W.heap.size; omega); exact HW.out; rintro e w1 ⟨T1, x1, rfl, hT1, hb1'⟩; have hb1 : Below W.heap.size W w1 := below_of_drew hb1'; have HT1 := Lib.hid hT1; clear hT1 hb1'; have q0' := (hb1.cell (p := ⟨w.heap.size, 0, none⟩) hz).trans q0; have q1' := (hb1.cell (p := ⟨w.heap.size, 1, none⟩) hz).trans q1; have q2' := (hb1.cell (p := ⟨w.heap.size, 2, none⟩) hz).trans q2)
          | (go_at_call_of 69 (Value.int IntKind.i64 tb); refine (IH.out tb _ (by omega) (by omega) ?_ ?_).mono ?_; (have := hb1.size; omega); exact HW.out.below hb1 (by omega); rintro e w2 ⟨T2, x2, rfl, hT2, hb2⟩; have HT2 := Lib.hid hT2; clear hT2; have q0'' := (hb2.cell (p := ⟨w.heap.size, 0, none⟩) (by have := hb1.size; show w.heap.size < w1.heap.size; omega)).trans q0'; have q1'' := (hb2.cell (p := ⟨w.heap.size, 1, none⟩) (by have := hb1.size; show w.heap.size < w1.heap.size; omega)).trans q1'; have q2'' := (hb2.cell (p := ⟨w.heap.size, 2, none⟩) (by have := hb1.size; show w.heap.size < w1.heap.size; omega)).trans q2'))
      go_wp2
      go_ret
      refine ⟨_, _, rfl, ?_, hB0.trans ((hb1.trans (hb2.mono hb1.size)).mono (by omega))⟩
      have e1 := HT1.out
      have e2 := HT2.out
      simp [Tm.val, e1, e2]
    · have k0 : (p.k == 0) = false := by simp; omega
      have k1 : (p.k == 1) = false := by simp; omega
      have k8 : (p.k == 8) = true := by simp; omega
      have hr : tmAt ps (f + 1) i = .ch (tmAt ps f p.a.toNat) (tmAt ps f p.b.toNat) (tmAt ps f p.c.toNat) := by simp only [tmAt, HP.out, k0, k1, k8, if_true, if_false, Bool.false_eq_true]
      rw [hr]
      obtain ⟨ta, tb, tc, ea, eb, ec, la, lb, lc⟩ := (good_bel_nat p i hgi).2 h8
      rw [ea, eb, ec]
      rw [ea] at c1
      rw [eb] at c2
      rw [ec] at c3
      simp only [Int.toNat_natCast]
      clear hr h8 hgi ea eb ec
      go_enter Try.func69, Try.ntmps69
      go_wp2_with fail
      have q1 : (w.alloc (.cells #[.int .i64 p.k, .int .i64 ta, .int .i64 tb, .int .i64 tc, .int .i64 p.n] 54)).cell? ⟨w.heap.size, 1, none⟩ = some (.int .i64 ta) := by go_simp
      have q2 : (w.alloc (.cells #[.int .i64 p.k, .int .i64 ta, .int .i64 tb, .int .i64 tc, .int .i64 p.n] 54)).cell? ⟨w.heap.size, 2, none⟩ = some (.int .i64 tb) := by go_simp
      have q3 : (w.alloc (.cells #[.int .i64 p.k, .int .i64 ta, .int .i64 tb, .int .i64 tc, .int .i64 p.n] 54)).cell? ⟨w.heap.size, 3, none⟩ = some (.int .i64 tc) := by go_simp
      have hB0 := (Below.refl w.heap.size w).alloc (Nat.le_refl _) (.cells #[.int .i64 p.k, .int .i64 ta, .int .i64 tb, .int .i64 tc, .int .i64 p.n] 54)
      have hz : w.heap.size < (w.alloc (.cells #[.int .i64 p.k, .int .i64 ta, .int .i64 tb, .int .i64 tc, .int .i64 p.n] 54)).heap.size := by simp
      have HW := Lib.hid (H.out.alloc hB (.cells #[.int .i64 p.k, .int .i64 ta, .int .i64 tb, .int .i64 tc, .int .i64 p.n] 54))
      clear c0 c1 c2 c3 c4 H
      generalize w.alloc (.cells #[.int .i64 p.k, .int .i64 ta, .int .i64 tb, .int .i64 tc, .int .i64 p.n] 54) = W at *
      go_region_held3 (fun w' => w'.cell? ⟨w.heap.size, 1, none⟩ = some (.int .i64 ta) ∧ w'.cell? ⟨w.heap.size, 2, none⟩ = some (.int .i64 tb) ∧ w'.cell? ⟨w.heap.size, 3, none⟩ = some (.int .i64 tc)) (first | exact ⟨q1, q2, q3⟩ | exact ⟨q1', q2', q3'⟩ | exact ⟨q1'', q2'', q3''⟩ | exact ⟨q1''', q2''', q3'''⟩)
        (first
          | (go_at_call_of 69 (Value.int IntKind.i64 ta); refine (IH.out ta _ (by omega) (by omega) ?_ ?_).mono ?_; (have := hB; show B ≤ W.heap.size; omega); exact HW.out; rintro e w1 ⟨T1, x1, rfl, hT1, hb1'⟩; have hb1 : Below W.heap.size W w1 := below_of_drew hb1'; have HT1 := Lib.hid hT1; clear hT1 hb1'; have hz1 : w.heap.size < w1.heap.size := Nat.lt_of_lt_of_le hz hb1.size; have HW1 := Lib.hid (HW.out.below hb1 (by omega)); have q1' := (hb1.cell (p := ⟨w.heap.size, 1, none⟩) hz).trans q1; have q2' := (hb1.cell (p := ⟨w.heap.size, 2, none⟩) hz).trans q2; have q3' := (hb1.cell (p := ⟨w.heap.size, 3, none⟩) hz).trans q3)
          | (go_at_call_of 69 (Value.int IntKind.i64 tb); refine (IH.out tb _ (by omega) (by omega) ?_ ?_).mono ?_; (omega); exact HW1.out; rintro e w2 ⟨T2, x2, rfl, hT2, hb2⟩; have HT2 := Lib.hid hT2; clear hT2; have hz2 : w.heap.size < w2.heap.size := Nat.lt_of_lt_of_le hz1 hb2.size; have HW2 := Lib.hid (HW1.out.below hb2 (by omega)); have q1'' := (hb2.cell (p := ⟨w.heap.size, 1, none⟩) (by first | exact hz | (have := hz1; show w.heap.size < w1.heap.size; omega))).trans q1'; have q2'' := (hb2.cell (p := ⟨w.heap.size, 2, none⟩) (by first | exact hz | (have := hz1; show w.heap.size < w1.heap.size; omega))).trans q2'; have q3'' := (hb2.cell (p := ⟨w.heap.size, 3, none⟩) (by first | exact hz | (have := hz1; show w.heap.size < w1.heap.size; omega))).trans q3')
          | (go_at_call_of 69 (Value.int IntKind.i64 tc); refine (IH.out tc _ (by omega) (by omega) ?_ ?_).mono ?_; (omega); exact HW2.out; rintro e w3 ⟨T3, x3, rfl, hT3, hb3⟩; have HT3 := Lib.hid hT3; clear hT3; have hz3 : w.heap.size < w3.heap.size := Nat.lt_of_lt_of_le hz2 hb3.size; have HW3 := Lib.hid (HW2.out.below hb3 (by omega)); have q1''' := (hb3.cell (p := ⟨w.heap.size, 1, none⟩) (by first | exact hz | (have := hz2; show w.heap.size < w2.heap.size; omega))).trans q1''; have q2''' := (hb3.cell (p := ⟨w.heap.size, 2, none⟩) (by first | exact hz | (have := hz2; show w.heap.size < w2.heap.size; omega))).trans q2''; have q3''' := (hb3.cell (p := ⟨w.heap.size, 3, none⟩) (by first | exact hz | (have := hz2; show w.heap.size < w2.heap.size; omega))).trans q3''))
      go_wp2
      go_ret
      refine ⟨_, _, rfl, ?_, hB0.trans ((hb1.trans ((hb2.trans (hb3.mono hb2.size)).mono hb1.size)).mono (by omega))⟩
      have e1 := HT1.out
      have e2 := HT2.out
      have e3 := HT3.out
      simp [Tm.val, e1, e2, e3]
end Go.Proofs.Ytnbohohoceghnaa

/- Words for the walks of laws: what holds of the arguments, of a formula in a box, of a list, from call to call. -/
namespace Go.Proofs.Ytnbohohoceghnaa
set_option linter.unusedSimpArgs false
set_option linter.unusedVariables false
open Go.RowKit

/-- The law's arguments: the formula in its box, the list; nothing that was there has turned. -/
structure LS (w : World) (A : Option Addr) (n c : Nat) (ps : List Pt) (A' : Option Addr) (vs : List Int) (wk : World) : Prop where
  bel : Below w.heap.size w wk
  lt : w.heap.size < wk.heap.size
  box : wk.cell? ⟨w.heap.size, 0, none⟩ = some (.slice A n c)
  parts : PS wk w.heap.size A ps
  ints : IS wk w.heap.size A' vs

section
variable {w : World} {A : Option Addr} {n c : Nat} {ps : List Pt} {A' : Option Addr} {vs : List Int} {wk wl : World}
theorem LS.start (h : PS w w.heap.size A ps) (h' : IS w w.heap.size A' vs) (t : TypeId) : LS w A n c ps A' vs (w.alloc (.cells #[.slice A n c] t)) :=
  ⟨(Below.refl _ _).alloc (Nat.le_refl _) _, by simp, by go_simp, h.alloc (Nat.le_refl _) _, h'.alloc (Nat.le_refl _) _⟩
theorem LS.step (h : LS w A n c ps A' vs wk) (hb : Below wk.heap.size wk wl) : LS w A n c ps A' vs wl :=
  ⟨h.bel.trans (hb.mono (by have := h.lt; omega)), Nat.lt_of_lt_of_le h.lt hb.size, (hb.cell (p := ⟨w.heap.size, 0, none⟩) h.lt).trans h.box, h.parts.below hb (by have := h.lt; omega), h.ints.below hb (by have := h.lt; omega)⟩
theorem LS.alloc (h : LS w A n c ps A' vs wk) (o : Obj) : LS w A n c ps A' vs (wk.alloc o) := h.step ((Below.refl _ _).alloc (Nat.le_refl _) o)
end

/-- A formula in a box of the call's own. -/
structure FB (g : Nat) (A : Option Addr) (n c : Nat) (ps : List Pt) (wk : World) : Prop where
  lt : g < wk.heap.size
  box : wk.cell? ⟨g, 0, none⟩ = some (.slice A n c)
  parts : PS wk wk.heap.size A ps

section
variable {g : Nat} {A : Option Addr} {n c : Nat} {ps : List Pt} {wk wl : World}
theorem FB.start (h : PS wk wk.heap.size A ps) (t : TypeId) : FB wk.heap.size A n c ps (wk.alloc (.cells #[.slice A n c] t)) :=
  ⟨by simp, by go_simp, (h.alloc (Nat.le_refl _) _).more (by simp)⟩
theorem FB.step (h : FB g A n c ps wk) (hb : Below wk.heap.size wk wl) : FB g A n c ps wl :=
  ⟨Nat.lt_of_lt_of_le h.lt hb.size, (hb.cell (p := ⟨g, 0, none⟩) h.lt).trans h.box, (h.parts.below hb (Nat.le_refl _)).more hb.size⟩
end

theorem PS.step {A : Option Addr} {ps : List Pt} {wk wl : World} (h : PS wk wk.heap.size A ps) (hb : Below wk.heap.size wk wl) : PS wl wl.heap.size A ps := (h.below hb (Nat.le_refl _)).more hb.size
theorem IS.step {A : Option Addr} {xs : List Int} {wk wl : World} (h : IS wk wk.heap.size A xs) (hb : Below wk.heap.size wk wl) : IS wl wl.heap.size A xs := (h.below hb (Nat.le_refl _)).more hb.size
theorem below_new (wk : World) (o : Obj) : Below wk.heap.size wk (wk.alloc o) := (Below.refl _ _).alloc (Nat.le_refl _) o
end Go.Proofs.Ytnbohohoceghnaa

/- The contract of spec.validFormula. -/
namespace Go.Proofs.Ytnbohohoceghnaa
set_option linter.unusedSimpArgs false
set_option linter.unusedVariables false
open Go.RowKit


/-- The counts stand in the block. -/
def Cnt (w : World) (base g n : Nat) (L : List Int) : Prop :=
  ∃ us : List Int, w.ownsRow base 3 1 (.slice (some ⟨g, 0, none⟩) n n) n (us.map (Value.int .i64)) ∧ us.length = n ∧ ∀ j, j < n → us.getD j 0 = (L.count (j : Int) : Int)

theorem Cnt.at_ {w : World} {base g n : Nat} {L : List Int} (h : Cnt w base g n L) (t : Nat) (ht : t < n) : w.cell? ⟨g, t, none⟩ = some (.int .i64 (L.count (t : Int) : Int)) ∧ w.frozen? ⟨g, t, none⟩ = false := by
  obtain ⟨us, h1, h2, h3⟩ := h
  refine ⟨?_, h1.frozenAt t⟩
  rw [h1.cellAt t (by omega), ← h3 t ht]
  simp [List.getD, h2, ht]

theorem Cnt.step {w : World} {base g n : Nat} {L L' : List Int} (h : Cnt w base g n L) (t : Nat) (ht : t < n) (x : Int) (hx : x = (L'.count (t : Int) : Int)) (hL : ∀ j : Nat, (L'.count (j : Int) : Int) = (L.count (j : Int) : Int) + if j = t then 1 else 0) : Cnt (w.setCell ⟨g, t, none⟩ (.int .i64 x)) base g n L' := by
  obtain ⟨us, h1, h2, h3⟩ := h
  refine ⟨us.set t x, ?_, by simpa using h2, fun j hj => ?_⟩
  · have := (h1.stored t (.int .i64 x)).1
    rwa [← List.map_set] at this
  · by_cases e : j = t
    · subst e; simp [List.getD, h2, ht, hx]
    · have := h3 j hj
      rw [hL j, if_neg e]
      simp [List.getD, List.getElem?_set, show ¬ t = j by omega] at this ⊢
      exact this

theorem Cnt.drew {w : World} {base g n : Nat} {L : List Int} (h : Cnt w base g n L) : Cnt w.drew base g n L := h
theorem Cnt.lt {w : World} {base g n : Nat} {L : List Int} (h : Cnt w base g n L) : g < w.heap.size := by
  obtain ⟨us, h1, _⟩ := h
  exact (h1.lt g rfl).2

set_option maxRecDepth 100000 in
set_option maxHeartbeats 1600000 in
theorem spec_validFormula (A : Option Addr) (n c : Nat) (ps : List Pt) (w : World) (B : Nat) (hB : B ≤ w.heap.size) (hn : n = ps.length) (h : PS w B A ps) (hs : n ≤ 2000000) :
    Calls Try.prog 46 #[.agg #[.slice A n c]] w fun e w' => e = .returned (.bool (validF ps)) ∧ Below w.heap.size w w' := by
  obtain ⟨i0, hi, hz0, hz1, hz2⟩ := info_parts info_int
  obtain ⟨w0, hmk, hown0, hgr0⟩ := run_make_full (P := Try.prog) (w.alloc (.cells #[.slice A n c] 25)) (w.heap.size + 1) 26 3 i0 _ 1 Try.underlying26 hi hz0 hz1 .i64 .i64 n (by rw [hz2]; omega) (by unfold maxLen; omega) (by simp)
  simp only [World.size_alloc] at hmk hown0
  have hcn : Cnt w0 (w.heap.size + 1) (w.heap.size + 1) n [] := by
    refine ⟨List.replicate n 0, ?_, by simp, fun j hj => by simp [List.getD, hj]⟩
    simpa [Value.cells, toList_madeCells_one] using hown0
  have hb0 : Below (w.heap.size + 1) (w.alloc (.cells #[.slice A n c] 25)) w0 := ⟨hgr0.os, hgr0.tape, hgr0.output, hgr0.size, fun k hk => hgr0.block k (by simpa using hk) (by simp)⟩
  have H := Lib.hid h
  have HN := Lib.hid hn
  have HC := Lib.hid hcn
  clear hn h hown0 hcn hgr0 hi hz0 hz1 hz2
  go_enter Try.func46, Try.ntmps46
  go_wp2
  go_loopw [4] (fun i wr => ∃ k : Nat, k ≤ n ∧ i = .int .i64 k ∧ Hid (Cnt wr (w.heap.size + 1) (w.heap.size + 1) n ((ps.take k).flatMap bel)) ∧ Hid (∀ j, j < k → goodPt (ps.getD j default) j = true) ∧ Below (w.heap.size + 1) (w.alloc (.cells #[.slice A n c] 25)) wr) (fun i _ => n - (intOf i).toNat)
  case atStart => exact ⟨0, Nat.zero_le _, rfl, HC.out, by intro j hj; omega, hb0⟩
  case round =>
    obtain ⟨k, hk, rfl, HU, HG, hb⟩ := hrel
    clear hmk hb0 HC
    have hbox : wr.cell? ⟨w.heap.size, 0, none⟩ = some (.slice A n c) := (hb.cell (p := ⟨w.heap.size, 0, none⟩) (by simp)).trans (by go_simp)
    have hwr : w.heap.size + 1 ≤ wr.heap.size := by have := hb.size; simpa using this
    by_cases hlt : k < n
    · obtain ⟨b, off, rfl, hbB, hc⟩ := H.out (by have := HN.out; omega)
      obtain ⟨c0, c1, c2, c3, c4⟩ := hc k (by have := HN.out; omega)
      clear hc
      have hbw : b < w.heap.size := by omega
      have b0 := ((hb.cell (p := ⟨b, off + k * 5, none⟩) (by simp; omega)).trans (World.cell?_alloc_lt _ _ _ (by simpa using hbw))).trans c0
      have b1 := ((hb.cell (p := ⟨b, off + k * 5 + 1, none⟩) (by simp; omega)).trans (World.cell?_alloc_lt _ _ _ (by simpa using hbw))).trans c1
      have b2 := ((hb.cell (p := ⟨b, off + k * 5 + 2, none⟩) (by simp; omega)).trans (World.cell?_alloc_lt _ _ _ (by simpa using hbw))).trans c2
      have b3 := ((hb.cell (p := ⟨b, off + k * 5 + 3, none⟩) (by simp; omega)).trans (World.cell?_alloc_lt _ _ _ (by simpa using hbw))).trans c3
      have b4 := ((hb.cell (p := ⟨b, off + k * 5 + 4, none⟩) (by simp; omega)).trans (World.cell?_alloc_lt _ _ _ (by simpa using hbw))).trans c4
      clear c0 c1 c2 c3 c4 H
      generalize hp : ps.getD k default = p at *
      have HP := Lib.hid hp
      clear hp
      have hws : w.heap.size < wr.heap.size := by omega
      have hbr : b < wr.heap.size := by omega
      clear hwr
      cases hg : goodPt p k
      · go_wp2_with (go_at_call 71; refine (spec_goodPart p k (by omega) _).mono ?_; rintro e w1 ⟨rfl, hb1⟩)
        go_ret
        refine ⟨ret_b ?_, ((Below.refl _ _).alloc (Nat.le_refl _) _).trans ((hb.trans (hb1.mono (by omega))).mono (by omega))⟩
        simp [validF_bad ps k (by have := HN.out; omega) (by rw [HP.out]; exact hg)]
      · go_wp2_with (first | (go_at_call 71; refine (spec_goodPart p k (by omega) _).mono ?_; rintro e w1 ⟨rfl, hb1⟩; obtain ⟨hc1, hf1⟩ := bcell hb1) | (go_at_call 72; refine (spec_below p _).mono ?_; rintro e w2 ⟨v, rfl, hown, hb2⟩; obtain ⟨A2, c2, rfl, hI⟩ := hown.form))
        have hG1 := Lib.hid hg
        clear hc1 hf1 hg hbox b0 b1 b2 b3 b4
        have hb12 : Below wr.heap.size wr w2 := hb1.trans (hb2.mono hb1.size)
        have hbw2 := hb.trans (hb12.mono (by omega))
        have HU2 : Hid (Cnt w2 (w.heap.size + 1) (w.heap.size + 1) n ((ps.take k).flatMap bel ++ (bel p).take 0)) := by
          obtain ⟨us, h1, h2, h3⟩ := HU.out
          exact ⟨us, own_below h1 hb12, h2, by simpa using h3⟩
        have hwg : w.heap.size + 1 < w1.heap.size := by have := HU.out.lt; have := hb1.size; omega
        have HO := Lib.hid hown
        clear hI hb1 hb2 hb12 HU hb hws hbr hown
        generalize hL : (bel p).length = L at *
        have HL := Lib.hid hL
        have hL3 : L ≤ 3 := by rw [← hL]; exact bel_len p
        clear hL
        go_wp2
        go_loopw [6] (fun i wi => ∃ m : Nat, m ≤ L ∧ i = .int .i64 m ∧ Hid (Cnt wi (w.heap.size + 1) (w.heap.size + 1) n ((ps.take k).flatMap bel ++ (bel p).take m)) ∧ Hid (wi.ownsRow w1.heap.size 3 1 (.slice A2 L c2) L ((bel p).map (Value.int .i64))) ∧ Hid (Below (w.heap.size + 1) w2 wi)) (fun i _ => L - (intOf i).toNat)
        case atStart => exact ⟨0, Nat.zero_le _, rfl, HU2.out, by have := HO.out; rw [OwnI, HL.out] at this; exact this, Below.refl _ _⟩
        case round =>
          clear HU2 HO
          obtain ⟨m, hm, rfl, HU, HO, HB⟩ := hrel
          by_cases hml : m < L
          · obtain ⟨b2, off2, rfl, hb2, hc2⟩ := (IS.of_own HO.out) (by have := HL.out; omega)
            have hx := hc2 m (by have := HL.out; omega)
            clear hc2
            obtain ⟨t, ht⟩ : ∃ t : Nat, (bel p).getD m 0 = (t : Int) ∧ t < n := by
              have hmem : (bel p).getD m 0 ∈ bel p := by
                have hl : m < (bel p).length := by have := HL.out; omega
                simp [List.getD, hl]
              have := good_bel p k hG1.out _ hmem
              exact ⟨((bel p).getD m 0).toNat, by omega, by omega⟩
            obtain ⟨ht1, ht2⟩ := ht
            rw [ht1] at hx
            have HT := Lib.hid ht1
            clear ht1
            obtain ⟨hu1, hu2⟩ := HU.out.at_ t ht2
            have hcl := count_le ps (bel p) m k (by omega) (by have := HL.out; omega) (t : Int)
            generalize hcn : (((ps.take k).flatMap bel ++ (bel p).take m).count (t : Int)) = cn at *
            have HCN := Lib.hid hcn
            clear hcn
            go_wp2
            go_region
            go_wp2
            go_roundw
            case rel =>
              have hst := count_step ((ps.take k).flatMap bel) (bel p) m t (by have := HL.out; omega) HT.out
              have hn1 := (HU.out.step t ht2 ((cn : Int) + 1) (by rw [hst t, if_pos rfl, HCN.out]) hst).drew
              have hn2 : (wr.setCell ⟨w.heap.size + 1, t, none⟩ (.int .i64 ((cn : Int) + 1))).drew.ownsRow w1.heap.size 3 1 (.slice (some ⟨b2, off2, none⟩) L c2) L ((bel p).map (Value.int .i64)) :=
                ownsRow_setCell_below HO.out (a := ⟨w.heap.size + 1, t, none⟩) (by simpa using hwg) _
              exact ⟨m + 1, by omega, by go_num, hn1, hn2, (HB.out.setCell (p := ⟨w.heap.size + 1, t, none⟩) (by simp) _).drew⟩
            case measure => simp [intOf]; omega
          · go_wp2
            go_roundw
            case rel =>
              have hkl : k < ps.length := by have := HN.out; omega
              have hf := take_flat ps k hkl
              rw [HP.out] at hf
              have hU : Cnt wr (w.heap.size + 1) (w.heap.size + 1) n ((ps.take (k + 1)).flatMap bel) := by
                rw [hf]
                have := HU.out
                rwa [show (bel p).take m = bel p from List.take_of_length_le (by have := HL.out; omega)] at this
              exact ⟨k + 1, by omega, by go_num, hU, fun j hj => by
                rcases Nat.lt_or_ge j k with h1 | h1
                · exact HG.out j h1
                · obtain rfl : j = k := by omega
                  rw [HP.out]; exact hG1.out, hbw2.trans HB.out⟩
            case measure => simp [intOf]; omega
    · obtain rfl : k = n := by omega
      rw [List.take_of_length_le (by have := HN.out; omega)] at HU
      clear hlt hk H
      go_wp2
      go_loopw [7] (fun i wi => ∃ m : Nat, m ≤ k ∧ i = .int .i64 m ∧ Hid (∀ j, j < m → j + 1 < k → (ps.flatMap bel).count (j : Int) = 1) ∧ wi = wr) (fun i _ => k - (intOf i).toNat)
      case atStart => exact ⟨0, Nat.zero_le _, rfl, by intro j hj; omega, rfl⟩
      case round =>
        obtain ⟨m, hm, rfl, HQ, rfl⟩ := hrel
        by_cases hmk : m + 1 < k
        · obtain ⟨hu1, _⟩ := HU.out.at_ m (by omega)
          cases hcn : ((ps.flatMap bel).count (m : Int) == 1)
          · have hne : (((ps.flatMap bel).count (m : Int) : Int) != 1) = true := by simp at hcn ⊢; omega
            have HNE := Lib.hid hcn
            clear hcn
            go_wp2
            go_ret
            refine ⟨ret_b ?_, ((Below.refl _ _).alloc (Nat.le_refl _) _).trans (hb.mono (by omega))⟩
            have := validF_cnt ps m (by have := HN.out; omega) (by have := HNE.out; simpa using this)
            simp [this]
          · have hne : (((ps.flatMap bel).count (m : Int) : Int) != 1) = false := by simp at hcn ⊢; omega
            have HNE := Lib.hid hcn
            clear hcn
            go_wp2
            go_roundw
            case rel =>
              exact ⟨m + 1, by omega, by go_num, fun j hj hjk => by
                rcases Nat.lt_or_ge j m with h1 | h1
                · exact HQ.out j h1 hjk
                · obtain rfl : j = m := by omega
                  have := HNE.out
                  simpa using this, by first | rfl | trivial⟩
            case measure => simp [intOf]; omega
        · go_wp2_with (go_at_call 73; refine (spec_inRange _ _ _ _).mono ?_; rintro e w' ⟨rfl, rfl⟩)
          go_ret
          refine ⟨ret_b ?_, ((Below.refl _ _).alloc (Nat.le_refl _) _).trans (hb.mono (by omega))⟩
          have hkn := HN.out
          have := validF_fin ps (fun i hi => HG.out i (by omega)) (fun i hi => HQ.out i (by omega) (by omega))
          rw [this, ← hkn]
          try simp
end Go.Proofs.Ytnbohohoceghnaa

/- The contract of impl.ValidFormula. -/
namespace Go.Proofs.Ytnbohohoceghnaa
set_option linter.unusedSimpArgs false
set_option linter.unusedVariables false
open Go.RowKit

/-- Twelve marks: which numbers stand in the list. -/
def Mrk (w : World) (g : Nat) (L : List Int) : Prop :=
  g < w.heap.size ∧ ∀ t : Nat, t < 12 → w.cell? ⟨g, t, none⟩ = some (.bool (decide ((t : Int) ∈ L))) ∧ w.frozen? ⟨g, t, none⟩ = false

theorem Mrk.below {w w' : World} {g : Nat} {L : List Int} (h : Mrk w g L) (hb : Below w.heap.size w w') : Mrk w' g L :=
  ⟨Nat.lt_of_lt_of_le h.1 hb.size, fun t ht => ⟨(hb.cell (p := ⟨g, t, none⟩) h.1).trans (h.2 t ht).1, (hb.frozen (p := ⟨g, t, none⟩) h.1).trans (h.2 t ht).2⟩⟩

theorem Mrk.set {w : World} {g : Nat} {L : List Int} (h : Mrk w g L) (t : Nat) (ht : t < 12) : Mrk (w.setCell ⟨g, t, none⟩ (.bool true)) g (L ++ [(t : Int)]) := by
  refine ⟨by simpa [World.setCell] using h.1, fun j hj => ?_⟩
  obtain ⟨h1, h2⟩ := h.2 j hj
  by_cases e : j = t
  · subst e
    refine ⟨?_, by simpa using h2⟩
    rw [World.cell?_setCell_same _ _ _ h1]; try simp
  · refine ⟨?_, by simpa using h2⟩
    rw [World.cell?_setCell_other _ _ _ _ (by intro e'; simp at e'; try omega), h1]
    have : ((j : Int) = (t : Int)) = False := by simp; omega
    simp [this]

set_option maxRecDepth 100000 in
set_option maxHeartbeats 1600000 in
theorem impl_ValidFormula (A : Option Addr) (n c : Nat) (ps : List Pt) (w : World) (B : Nat) (hB : B ≤ w.heap.size) (hn : n = ps.length) (h : PS w B A ps) (hs : n ≤ 2000000) :
    Calls Try.prog 21 #[.agg #[.slice A n c]] w fun e w' => e = .returned (.bool (validF ps)) ∧ Below w.heap.size w w' := by
  by_cases h1 : n < 1
  · have hf : validF ps = false := by
      unfold validF rng
      have : ¬ (1 ≤ (ps.length : Int) ∧ (ps.length : Int) ≤ 12) := by omega
      simp [this]
    rw [hf]
    clear hn h hf
    go_enter Try.func21, Try.ntmps21
    go_wp2
    go_ret
    exact ⟨rfl, (Below.refl _ _).alloc (Nat.le_refl _) _⟩
  by_cases h12 : 12 < n
  · have hf : validF ps = false := by
      unfold validF rng
      have : ¬ (1 ≤ (ps.length : Int) ∧ (ps.length : Int) ≤ 12) := by omega
      simp [this]
    rw [hf]
    clear hn h hf
    go_enter Try.func21, Try.ntmps21
    go_wp2
    go_ret
    exact ⟨rfl, (Below.refl _ _).alloc (Nat.le_refl _) _⟩
  have H := Lib.hid h
  have HN := Lib.hid hn
  clear hn h
  go_enter Try.func21, Try.ntmps21
  go_wp2
  go_loopw [24, 4] (fun i u wr => ∃ k : Nat, k ≤ n ∧ i = .int .i64 k ∧ u = .int .i64 (((ps.take k).flatMap bel).length : Nat) ∧ Hid (Mrk wr (w.heap.size + 1) ((ps.take k).flatMap bel)) ∧ Hid (((ps.take k).flatMap bel).Nodup) ∧ Hid (∀ j, j < k → goodPt (ps.getD j default) j = true) ∧ Below (w.heap.size + 1) (w.alloc (.cells #[.slice A n c] 25)) wr) (fun i _ _ => n - (intOf i).toNat)
  case atStart =>
    refine ⟨0, Nat.zero_le _, rfl, rfl, ⟨by simp, fun t ht => ?_⟩, List.nodup_nil, by intro j hj; omega, (Below.refl _ _).alloc (by simp) _⟩
    have ht' : t = 0 ∨ t = 1 ∨ t = 2 ∨ t = 3 ∨ t = 4 ∨ t = 5 ∨ t = 6 ∨ t = 7 ∨ t = 8 ∨ t = 9 ∨ t = 10 ∨ t = 11 := by omega
    rcases ht' with rfl | rfl | rfl | rfl | rfl | rfl | rfl | rfl | rfl | rfl | rfl | rfl <;> exact ⟨by go_simp, by go_simp⟩
  case round =>
    obtain ⟨k, hk, rfl, rfl, HM, HD, HG, hb⟩ := hrel
    have hbox : wr.cell? ⟨w.heap.size, 0, none⟩ = some (.slice A n c) := (hb.cell (p := ⟨w.heap.size, 0, none⟩) (by simp)).trans (by go_simp)
    have hgs : w.heap.size + 1 < wr.heap.size := HM.out.1
    have hfl : ((ps.take k).flatMap bel).length ≤ 36 := by
      have h2 := flat_len (ps.take k)
      have h3 : (ps.take k).length ≤ k := List.length_take_le _ _
      omega
    by_cases hlt : k < n
    · obtain ⟨b, off, rfl, hbB, hc⟩ := H.out (by have := HN.out; omega)
      obtain ⟨c0, c1, c2, c3, c4⟩ := hc k (by have := HN.out; omega)
      clear hc
      have hbw : b < w.heap.size := by omega
      have hbr : b < wr.heap.size := by omega
      have b0 := ((hb.cell (p := ⟨b, off + k * 5, none⟩) (by simp; omega)).trans (World.cell?_alloc_lt _ _ _ (by simpa using hbw))).trans c0
      have b1 := ((hb.cell (p := ⟨b, off + k * 5 + 1, none⟩) (by simp; omega)).trans (World.cell?_alloc_lt _ _ _ (by simpa using hbw))).trans c1
      have b2 := ((hb.cell (p := ⟨b, off + k * 5 + 2, none⟩) (by simp; omega)).trans (World.cell?_alloc_lt _ _ _ (by simpa using hbw))).trans c2
      have b3 := ((hb.cell (p := ⟨b, off + k * 5 + 3, none⟩) (by simp; omega)).trans (World.cell?_alloc_lt _ _ _ (by simpa using hbw))).trans c3
      have b4 := ((hb.cell (p := ⟨b, off + k * 5 + 4, none⟩) (by simp; omega)).trans (World.cell?_alloc_lt _ _ _ (by simpa using hbw))).trans c4
      clear c0 c1 c2 c3 c4 H
      generalize hp : ps.getD k default = p at *
      have HP := Lib.hid hp
      clear hp
      generalize hF : (ps.take k).flatMap bel = Fk at *
      have HF := Lib.hid hF
      clear hF
      go_wp2_with fail
      refine (impl_partsBelow p _).mono ?_
      rintro e w2 ⟨v, rfl, hown, hb2⟩
      obtain ⟨A2, c2, rfl, hI⟩ := hown.form
      clear hI
      rw [pbI_bel] at hown ⊢
      have HO := Lib.hid hown
      have HM2 : Hid (Mrk w2 (w.heap.size + 1) (Fk ++ (bel p).take 0)) := by
        have := (HM.out.below ((Below.refl _ _).alloc (Nat.le_refl _) _)).below hb2
        simpa [Hid] using this
      have hbw2 := (hb.alloc (by omega) _).trans (hb2.mono (by simp; omega))
      clear hown HM hb b0 b1 b2 b3 b4
      cases hok : pbOk p
      · go_wp2
        go_ret
        refine ⟨ret_b ?_, ((Below.refl _ _).alloc (Nat.le_refl _) _).trans (hbw2.mono (by omega))⟩
        have hgf : goodPt p k = false := by rw [good_iff, hok]; rfl
        simp [validF_bad ps k (by have := HN.out; omega) (by rw [HP.out]; exact hgf)]
      · have HOK := Lib.hid hok
        clear hok
        generalize hL : (bel p).length = L at *
        have HL := Lib.hid hL
        have hL3 : L ≤ 3 := by rw [← hL]; exact bel_len p
        clear hL hbox
        go_wp2
        go_loopw [38, 4] (fun i u wi => ∃ m : Nat, m ≤ L ∧ i = .int .i64 m ∧ u = .int .i64 ((Fk.length + m : Nat)) ∧ Hid (Mrk wi (w.heap.size + 1) (Fk ++ (bel p).take m)) ∧ Hid ((Fk ++ (bel p).take m).Nodup) ∧ Hid (∀ x ∈ (bel p).take m, 0 ≤ x ∧ x ≤ (k : Int) - 1) ∧ Hid (wi.ownsRow (wr.heap.size + 1) 3 1 (.slice A2 L c2) L ((bel p).map (Value.int .i64))) ∧ Hid (Below (w.heap.size + 1) w2 wi)) (fun i _ _ => L - (intOf i).toNat)
        case atStart => exact ⟨0, Nat.zero_le _, rfl, rfl, HM2.out, by simpa [Hid] using HD.out, by simp [Hid], by have := HO.out; simp only [OwnI, World.size_alloc] at this; rw [HL.out] at this; exact this, Below.refl _ _⟩
        case round =>
          clear HM2 HO
          obtain ⟨m, hm, rfl, rfl, HM, HD2, HR, HO, HB⟩ := hrel
          by_cases hml : m < L
          · obtain ⟨b2, off2, rfl, hb2', hc2⟩ := (IS.of_own HO.out) (by have := HL.out; omega)
            have hx := hc2 m (by have := HL.out; omega)
            clear hc2
            generalize hxx : (bel p).getD m 0 = x at *
            have HX := Lib.hid hxx
            clear hxx
            cases hr : rng x 0 ((k : Int) - 1)
            · go_wp2_with (go_at_call 52; refine (impl_inRange _ _ _).mono ?_; rintro e w' ⟨rfl, rfl⟩)
              go_ret
              refine ⟨ret_b ?_, ((Below.refl _ _).alloc (Nat.le_refl _) _).trans ((hbw2.trans HB.out).mono (by omega))⟩
              have hgf : goodPt p k = false := by
                cases hgg : goodPt p k
                · rfl
                · have := good_bel p k hgg x (by rw [← HX.out]; simp [List.getD, show m < (bel p).length by have := HL.out; omega])
                  simp [rng] at hr
                  omega
              simp [validF_bad ps k (by have := HN.out; omega) (by rw [HP.out]; exact hgf)]
            · obtain ⟨t, rfl⟩ : ∃ t : Nat, x = (t : Int) := ⟨x.toNat, by simp [rng] at hr; omega⟩
              have htk : t < k := by simp [rng] at hr; omega
              obtain ⟨hu1, hu2⟩ := HM.out.2 t (by omega)
              cases hin : decide ((t : Int) ∈ Fk ++ (bel p).take m)
              · have HIN := Lib.hid hin
                rw [hin] at hu1
                clear hin
                go_wp2_with (go_at_call 52; refine (impl_inRange _ _ _).mono ?_; rintro e w' ⟨rfl, rfl⟩)
                go_roundw
                case rel =>
                  have hts := take_succ_int (bel p) m _ (by have := HL.out; omega) HX.out
                  have hn0 := HM.out.set t (by omega)
                  have hnm : ¬ (t : Int) ∈ Fk ++ (bel p).take m := of_decide_eq_false HIN.out
                  have hown := ownsRow_setCell_below HO.out (a := ⟨w.heap.size + 1, t, none⟩) (by simp; try omega) (.bool true)
                  refine ⟨m + 1, by omega, by go_num, by go_num, ?_, ?_, ?_, hown, HB.out.setCell (p := ⟨w.heap.size + 1, t, none⟩) (by simp) _⟩
                  · rw [hts, ← List.append_assoc]; exact hn0
                  · rw [hts, ← List.append_assoc]
                    refine List.nodup_append.2 ⟨HD2.out, by simp, ?_⟩
                    intro a ha b hb e
                    simp at hb
                    subst hb
                    subst e
                    exact hnm ha
                  · rw [hts]
                    intro y hy
                    rcases List.mem_append.1 hy with hy | hy
                    · exact HR.out y hy
                    · simp at hy; omega
                case measure => simp [intOf]; omega
              · have HIN := Lib.hid hin
                rw [hin] at hu1
                clear hin
                go_wp2_with (go_at_call 52; refine (impl_inRange _ _ _).mono ?_; rintro e w' ⟨rfl, rfl⟩)
                go_ret
                refine ⟨ret_b ?_, ((Below.refl _ _).alloc (Nat.le_refl _) _).trans ((hbw2.trans HB.out).mono (by omega))⟩
                have hfd : validF ps = false := by
                  refine validF_dup ps k m (by have := HN.out; omega) (by rw [HP.out]; have := HL.out; omega) t (by rw [HP.out]; exact HX.out) htk ?_
                  rw [HF.out, HP.out]
                  exact of_decide_eq_true HIN.out
                simp [hfd]
          · go_wp2
            go_roundw
            case rel =>
              have hf := take_flat ps k (by have := HN.out; omega)
              rw [HP.out, HF.out] at hf
              have hmL : m = L := by omega
              have htm : (bel p).take m = bel p := List.take_of_length_le (by have := HL.out; omega)
              have hlen : ((Fk.length + m : Nat)) = ((ps.take (k + 1)).flatMap bel).length := by rw [hf, List.length_append, HL.out, hmL]
              refine ⟨k + 1, by omega, by go_num, by rw [← hlen]; try go_num, ?_, ?_, ?_, hbw2.trans HB.out⟩
              · rw [hf]; have := HM.out; rwa [htm] at this
              · rw [hf]; have := HD2.out; rwa [htm] at this
              · intro j hj
                rcases Nat.lt_or_ge j k with h1 | h1
                · exact HG.out j h1
                · obtain rfl : j = k := by omega
                  rw [HP.out, good_iff, HOK.out, Bool.true_and]
                  have := HR.out
                  rw [htm] at this
                  exact decide_eq_true this
            case measure => simp [intOf]; omega
    · obtain rfl : k = n := by omega
      rw [List.take_of_length_le (by have := HN.out; omega)] at HM HD hfl ⊢
      go_wp2
      go_ret
      refine ⟨ret_b ?_, ((Below.refl _ _).alloc (Nat.le_refl _) _).trans (hb.mono (by omega))⟩
      have hkn := HN.out
      rw [validF_marks ps (by omega) (by omega) (fun i hi => HG.out i (by omega)) HD.out, ← hkn]
      try simp
end Go.Proofs.Ytnbohohoceghnaa

/- Depth of formulas: the contracts of wholeOf, below, deepest, spec.deep, and both DeepOf. -/
namespace Go.Proofs.Ytnbohohoceghnaa
set_option linter.unusedSimpArgs false
set_option linter.unusedVariables false
open Go.RowKit

def Tm.kids : Tm → List Tm
  | .num _ => []
  | .rd _ => []
  | .pr _ l r => [l, r]
  | .ch t a b => [t, a, b]

def Tm.deep : Tm → Nat
  | .num _ => 1
  | .rd _ => 1
  | .pr _ l r => max l.deep r.deep + 1
  | .ch t a b => max (max t.deep a.deep) b.deep + 1

theorem Tm.deep_kids (t : Tm) : t.deep = (t.kids.map Tm.deep).foldl max 0 + 1 := by
  cases t <;> simp [Tm.kids, Tm.deep]

theorem tmAt_deep (ps : List Pt) (f i : Nat) : (tmAt ps f i).deep ≤ f + 1 := by
  induction f generalizing i with
  | zero => simp [tmAt, Tm.deep]
  | succ f ih =>
    have ha := ih (ps.getD i default).a.toNat
    have hb := ih (ps.getD i default).b.toNat
    have hc := ih (ps.getD i default).c.toNat
    unfold tmAt
    dsimp only
    split
    · simp [Tm.deep]
    · split
      · simp [Tm.deep]
      · split
        · simp only [Tm.deep]; omega
        · simp only [Tm.deep]; omega

theorem getD_mem {α : Type} [Inhabited α] (l : List α) (m : Nat) (h : m < l.length) : l.getD m default ∈ l := by
  simp [List.getD, h]

theorem le_foldl_max (l : List Nat) (a x : Nat) (h : x ∈ l) : x ≤ l.foldl max a := by
  induction l generalizing a with
  | nil => cases h
  | cons y l ih =>
    rw [List.foldl_cons]
    rcases List.mem_cons.1 h with rfl | h
    · have hmono : ∀ (l : List Nat) (a : Nat), a ≤ l.foldl max a := by
        intro l
        induction l with
        | nil => intro a; exact Nat.le_refl _
        | cons z l ih => intro a; rw [List.foldl_cons]; exact Nat.le_trans (Nat.le_max_left _ _) (ih _)
      exact Nat.le_trans (Nat.le_max_right _ _) (hmono _ _)
    · exact ih _ h

theorem foldl_max_mono (l : List Nat) (a : Nat) : a ≤ l.foldl max a := by
  induction l generalizing a with
  | nil => exact Nat.le_refl _
  | cons z l ih => rw [List.foldl_cons]; exact Nat.le_trans (Nat.le_max_left _ _) (ih _)

theorem foldl_max_take (ks : List Tm) (m : Nat) : ((ks.take m).map Tm.deep).foldl max 0 ≤ (ks.map Tm.deep).foldl max 0 := by
  conv => rhs; rw [← List.take_append_drop m ks]
  rw [List.map_append, List.foldl_append]
  exact foldl_max_mono _ _

instance : Inhabited Tm := ⟨.num 0⟩

theorem tmAt_kids (ps : List Pt) (f i : Nat) (hg : goodPt (ps.getD i default) i = true) : (tmAt ps (f + 1) i).kids = (bel (ps.getD i default)).map fun b => tmAt ps f b.toNat := by
  rw [show tmAt ps (f + 1) i = (if (ps.getD i default).k == 0 then .num (ps.getD i default).n else if (ps.getD i default).k == 1 then .rd (ps.getD i default).n
    else if (ps.getD i default).k == 8 then .ch (tmAt ps f (ps.getD i default).a.toNat) (tmAt ps f (ps.getD i default).b.toNat) (tmAt ps f (ps.getD i default).c.toNat)
    else .pr (ps.getD i default).k (tmAt ps f (ps.getD i default).a.toNat) (tmAt ps f (ps.getD i default).b.toNat)) from rfl]
  generalize ps.getD i default = p at *
  rcases good_kind _ _ hg with h0 | h1 | h2 | h8
  · simp [h0, Tm.kids, bel, ar]
  · simp [h1, Tm.kids, bel, ar]
  · have k0 : (p.k == 0) = false := by simp only [beq_eq_false_iff_ne, ne_eq]; omega
    have k1 : (p.k == 1) = false := by simp only [beq_eq_false_iff_ne, ne_eq]; omega
    have k8 : (p.k == 8) = false := by simp only [beq_eq_false_iff_ne, ne_eq]; omega
    have ha : ar p.k = 2 := by unfold ar; rw [if_neg (by omega), if_pos h2]
    simp only [k0, k1, k8, Bool.false_eq_true, if_false, Tm.kids, bel, ha, if_true, List.map_cons, List.map_nil]
  · simp [h8, Tm.kids, bel, ar]

/-- The slice at A reads as the values xs. -/
def VS (w : World) (B : Nat) (A : Option Addr) (xs : List Value) : Prop :=
  0 < xs.length → ∃ b off, A = some ⟨b, off, none⟩ ∧ b < B ∧ ∀ j, j < xs.length → w.cell? ⟨b, off + j, none⟩ = xs[j]?

theorem VS.of_own {w : World} {base e n c : Nat} {A : Option Addr} {xs : List Value} (h : w.ownsRow base e 1 (.slice A n c) n xs) : VS w w.heap.size A xs := by
  intro hn
  have hl : xs.length = n := by simpa using h.1
  rcases h.2 with ⟨_, h0⟩ | ⟨g, cap, cur, hv, _, hh, _⟩
  · omega
  · simp only [Value.slice.injEq] at hv
    obtain ⟨rfl, _, rfl⟩ := hv
    have hg : g < w.heap.size := by
      rcases Nat.lt_or_ge g w.heap.size with hlt | hge
      · exact hlt
      · rw [Array.getElem?_eq_none hge] at hh; cases hh
    refine ⟨g, 0, rfl, hg, fun j hj => ?_⟩
    rw [Nat.zero_add, h.cellAt _ (by omega)]

theorem own_form {w : World} {base e size n : Nat} {v : Value} {xs : List Value} (h : w.ownsRow base e size v n xs) : ∃ A c, v = .slice A n c := by
  rcases h.2 with ⟨hv, h0⟩ | ⟨g, cap, cur, hv, _⟩
  · exact ⟨none, 0, by rw [hv, h0]⟩
  · exact ⟨_, _, hv⟩

/-- The slice value is one of the call's own, of terms. -/
def OwnT (w : World) (base : Nat) (v : Value) (ts : List Tm) : Prop := w.ownsRow base 46 1 v ts.length (ts.map Tm.val)

def RetTs (w : World) (ts : List Tm) (e : Ending) (w' : World) : Prop := ∃ v, e = .returned v ∧ OwnT w' w.heap.size v ts ∧ Below w.heap.size w w'

theorem retTs_lit {w w1 : World} (hb : Below w.heap.size w w1) (ts : List Tm) (cs : Array Value) (n : Nat) (hn : n = ts.length) (hm : n ≤ maxLen) (hc : cs.toList = ts.map Tm.val) (e : Ending)
    (he : e = .returned (.slice (some ⟨w1.heap.size, 0, none⟩) n n)) : RetTs w ts e (w1.alloc (.cells cs 46)) := by
  subst hn
  refine ⟨_, he, ?_, hb.alloc hb.size _⟩
  have h := World.ownsRow_lit (e := 46) (size := 1) w1 cs ts.length hb.size hm (by rw [← Array.length_toList, hc]; simp)
  rw [hc] at h
  exact h

set_option maxHeartbeats 400000 in
theorem number_below (v : Int) (w : World) : Calls Try.prog 101 #[.agg #[.int .i64 v]] w fun e w' => RetTs w [] e w' := by
  go_enter Try.func101, Try.ntmps101
  go_wp2
  go_ret
  exact ⟨_, rfl, World.ownsRow_nil _ _ _ _, (Below.refl _ _).alloc (Nat.le_refl _) _⟩

set_option maxHeartbeats 400000 in
theorem reading_below (v : Int) (w : World) : Calls Try.prog 103 #[.agg #[.int .i64 v]] w fun e w' => RetTs w [] e w' := by
  go_enter Try.func103, Try.ntmps103
  go_wp2
  go_ret
  exact ⟨_, rfl, World.ownsRow_nil _ _ _ _, (Below.refl _ _).alloc (Nat.le_refl _) _⟩

set_option maxHeartbeats 400000 in
theorem pair_below (k : Int) (l r : Tm) (w : World) : Calls Try.prog 105 #[.agg #[.int .i64 k, l.val, r.val]] w fun e w' => RetTs w [l, r] e w' := by
  obtain ⟨T1, x1, h1⟩ := l.val_form
  obtain ⟨T2, x2, h2⟩ := r.val_form
  rw [h1, h2]
  have H1 := Lib.hid h1
  have H2 := Lib.hid h2
  clear h1 h2
  go_enter Try.func105, Try.ntmps105
  go_wp2
  go_ret
  exact retTs_lit ((Below.refl _ _).alloc (Nat.le_refl _) _) _ _ 2 rfl (by unfold maxLen; omega) (by simp [H1.out, H2.out]) _ (by simp)

set_option maxHeartbeats 400000 in
theorem choice_below (t a b : Tm) (w : World) : Calls Try.prog 107 #[.agg #[t.val, a.val, b.val]] w fun e w' => RetTs w [t, a, b] e w' := by
  obtain ⟨T1, x1, h1⟩ := t.val_form
  obtain ⟨T2, x2, h2⟩ := a.val_form
  obtain ⟨T3, x3, h3⟩ := b.val_form
  rw [h1, h2, h3]
  have H1 := Lib.hid h1
  have H2 := Lib.hid h2
  have H3 := Lib.hid h3
  clear h1 h2 h3
  go_enter Try.func107, Try.ntmps107
  go_wp2
  go_ret
  exact retTs_lit ((Below.refl _ _).alloc (Nat.le_refl _) _) _ _ 3 rfl (by unfold maxLen; omega) (by simp [H1.out, H2.out, H3.out]) _ (by simp)

set_option maxHeartbeats 400000 in
theorem impl_wholeOf (A : Option Addr) (n c : Nat) (ps : List Pt) (B : Nat) (hn : n = ps.length) (hg : AllGood ps) (hs : n ≤ 2000000) (h1 : 1 ≤ n) (w : World) (hB : B ≤ w.heap.size) (h : PS w B A ps) :
    Calls Try.prog 43 #[.agg #[.slice A n c]] w fun e w' => RetT w (tmAt ps n (n - 1)) e w' := by
  have H := Lib.hid h
  have HN := Lib.hid hn
  have HG := Lib.hid hg
  clear h hn hg
  obtain ⟨m, rfl⟩ : ∃ m, n = m + 1 := ⟨n - 1, by omega⟩
  go_enter Try.func43, Try.ntmps43
  go_wp2_with fail
  refine (impl_termAt A (m + 1) c ps B HN.out HG.out hs (m + 1) m _ (by omega) (by omega) (by simp; omega) (H.out.alloc hB _)).mono ?_
  rintro e w1 ⟨T, x, rfl, hT, hb⟩
  have HT := Lib.hid hT
  clear hT
  go_wp2
  go_ret
  exact ⟨T, x, by simp, HT.out, ((Below.refl _ _).alloc (Nat.le_refl _) _).trans (hb.mono (by simp))⟩

theorem below_inv (t : Tm) : ∃ (T : TypeId) (x : Value) (fn : FuncId), t.val = .iface T x ∧ (∀ w, (method 215 T x "loop.example/signalgraph/impl.below").run Try.prog w = .ok (fn, x) w) ∧ (∀ w, (callFunc fn #[x]).run Try.prog w = .ok (.enter fn #[x]) w) ∧ ∀ w, Calls Try.prog fn #[x] w fun e w' => RetTs w t.kids e w' := by
  cases t with
  | num v => exact ⟨_, _, 101, rfl, fun w => by kernel_rfl, fun w => by kernel_rfl, fun w => number_below v w⟩
  | rd v => exact ⟨_, _, 103, rfl, fun w => by kernel_rfl, fun w => by kernel_rfl, fun w => reading_below v w⟩
  | pr k l r => exact ⟨_, _, 105, rfl, fun w => by kernel_rfl, fun w => by kernel_rfl, fun w => pair_below k l r w⟩
  | ch t a b => exact ⟨_, _, 107, rfl, fun w => by kernel_rfl, fun w => by kernel_rfl, fun w => choice_below t a b w⟩

set_option maxRecDepth 100000 in
set_option maxHeartbeats 1600000 in
theorem impl_deepest (D : Nat) : ∀ (t : Tm) (w : World), t.deep ≤ D → D ≤ 2000001 →
    Calls Try.prog 61 #[t.val] w fun e w' => e = .returned (.int .i64 (t.deep : Nat)) ∧ Below w.heap.size w w' := by
  induction D with
  | zero => intro t w ht; have := t.deep_kids; omega
  | succ D ih =>
    intro t w ht hD
    obtain ⟨T, x, fn, hv, hme, hcf, hbe⟩ := below_inv t
    rw [hv]
    have IH := Lib.hid ih
    have HBE := Lib.hid hbe
    have HDK := Lib.hid t.deep_kids
    have HTD := Lib.hid ht
    clear ih hbe hv ht
    have hk3 : t.kids.length ≤ 3 := by cases t <;> simp [Tm.kids]
    generalize hK : t.kids = ks at *
    generalize hd : t.deep = d at *
    clear hK hd
    go_enter Try.func61, Try.ntmps61
    go_wp2_with fail
    refine (HBE.out _).mono ?_
    rintro e w1 ⟨v, rfl, hown, hb1⟩
    obtain ⟨A2, c2, rfl⟩ := own_form hown
    clear hme hcf HBE
    have HO := Lib.hid hown
    have hks : ks.length ≤ 3 := hk3
    have hdk : ∀ t ∈ ks, t.deep ≤ D := by
      intro t ht
      have := le_foldl_max (ks.map Tm.deep) 0 t.deep (List.mem_map_of_mem ht)
      have := HDK.out
      have := HTD.out
      omega
    have HDD := Lib.hid hdk
    generalize hL : ks.length = L at *
    have HL := Lib.hid hL
    clear hown hL hk3 hdk
    go_wp2
    go_loopw [3, 9] (fun u i wr => ∃ m : Nat, m ≤ L ∧ i = .int .i64 m ∧ u = .int .i64 ((((ks.take m).map Tm.deep).foldl max 0 : Nat)) ∧ Hid (wr.ownsRow w.heap.size 46 1 (.slice A2 L c2) L (ks.map Tm.val)) ∧ Below w.heap.size w wr) (fun _ i _ => L - (intOf i).toNat)
    case atStart => exact ⟨0, Nat.zero_le _, rfl, rfl, by have := HO.out; rw [OwnT, HL.out] at this; exact this, hb1⟩
    case round =>
      clear HO
      obtain ⟨m, hm, rfl, rfl, HO, hb⟩ := hrel
      by_cases hml : m < L
      · obtain ⟨b, off, rfl, hbl, hc⟩ := (VS.of_own HO.out) (by have := HL.out; simp; omega)
        have hcm := hc m (by have := HL.out; simp; omega)
        have hcm' : wr.cell? ⟨b, off + m, none⟩ = some (ks.getD m default).val := by
          have hlm : m < ks.length := by have := HL.out; omega
          rw [hcm]; simp [List.getD, hlm]
        clear hc hcm
        have hdm : (ks.getD m default).deep ≤ D := HDD.out _ (getD_mem ks m (by have := HL.out; omega))
        have HTS := Lib.hid (show ks.take (m + 1) = ks.take m ++ [ks.getD m default] by
          have hlm : m < ks.length := by have := HL.out; omega
          rw [List.take_succ_eq_append_getElem hlm]; simp [List.getD, hlm])
        generalize hx : ks.getD m default = tm at *
        clear hx
        generalize hq : ((ks.take m).map Tm.deep).foldl max 0 = q at *
        have hqD : q ≤ 2000000 := by
          have := foldl_max_take ks m
          have := HDK.out
          have := HTD.out
          omega
        have HQ := Lib.hid hq
        clear hq
        go_wp2_with (go_at_call 61; refine (IH.out tm _ hdm (by omega)).mono ?_; rintro e w2 ⟨rfl, hb2⟩)
        go_roundw
        case rel =>
          have hmx : ((ks.take (m + 1)).map Tm.deep).foldl max 0 = max q tm.deep := by
            rw [HTS.out, List.map_append, List.foldl_append, HQ.out]; rfl
          refine ⟨m + 1, by omega, by go_num, ?_, own_below HO.out hb2, hb.trans (hb2.mono hb.size)⟩
          rw [hmx]
          split
          · rw [Nat.max_eq_right (by omega)]
          · rw [Nat.max_eq_left (by omega)]
        case measure => simp [intOf]; omega
      · have hmL : m = L := by omega
        have htk : ks.take m = ks := List.take_of_length_le (by have := HL.out; omega)
        rw [htk]
        have hdd : ((ks.map Tm.deep).foldl max 0) + 1 = d := HDK.out.symm
        generalize (ks.map Tm.deep).foldl max 0 = q at *
        have hq : q ≤ 2000000 := by have := HTD.out; omega
        have HD := Lib.hid hdd
        clear hdd htk
        go_wp2
        go_ret
        exact ⟨ret_i (by have := HD.out; (try simp); omega), hb⟩

set_option maxRecDepth 100000 in
set_option maxHeartbeats 1600000 in
theorem spec_deep (A : Option Addr) (n c : Nat) (ps : List Pt) (B : Nat) (hn : n = ps.length) (hg : AllGood ps) (hs : n ≤ 1999999) (f : Nat) (hfn : f ≤ n) :
    ∀ (i : Nat) (w : World), i < f → i < n → B ≤ w.heap.size → PS w B A ps →
    Calls Try.prog 62 #[.agg #[.slice A n c], .int .i64 i] w fun e w' => e = .returned (.int .i64 ((tmAt ps f i).deep : Nat)) ∧ Below w.heap.size w w' := by
  induction f with
  | zero => intro i w hi; omega
  | succ f ih =>
    intro i w hif hin hB h
    obtain ⟨b, off, rfl, hbB, hc⟩ := h (by omega)
    obtain ⟨c0, c1, c2, c3, c4⟩ := hc i (by omega)
    clear hc
    have hgi := hg i (by omega)
    have hkids := tmAt_kids ps f i hgi
    have hdeep := (tmAt ps (f + 1) i).deep_kids
    have hdle := tmAt_deep ps (f + 1) i
    rw [hkids, List.map_map] at hdeep
    replace hdeep : (tmAt ps (f + 1) i).deep = ((bel (ps.getD i default)).map fun b => (tmAt ps f b.toNat).deep).foldl max 0 + 1 := hdeep
    generalize (tmAt ps (f + 1) i).deep = d at *
    have H := Lib.hid h
    have IH := Lib.hid (ih (by omega))
    have HG := Lib.hid hg
    have HN := Lib.hid hn
    have HD := Lib.hid hdeep
    have hbw : b < w.heap.size := by omega
    clear h ih hg hn hdeep hkids
    generalize hp : ps.getD i default = p at *
    have HP := Lib.hid hp
    have HGI := Lib.hid hgi
    clear hp hgi
    go_enter Try.func62, Try.ntmps62
    go_wp2_with fail
    refine (spec_below p _).mono ?_
    rintro e w1 ⟨v, rfl, hown, hb1⟩
    obtain ⟨A2, cc, rfl, hI⟩ := hown.form
    have hbox : w1.cell? ⟨w.heap.size, 0, none⟩ = some (.slice (some ⟨b, off, none⟩) n c) := (hb1.cell (p := ⟨w.heap.size, 0, none⟩) (by simp)).trans (by go_simp)
    have HO := Lib.hid hown
    have HW1 := Lib.hid ((H.out.alloc hB _).below hb1 (by simp; omega))
    have hB1 : Below (w.heap.size) w w1 := ((Below.refl _ _).alloc (Nat.le_refl _) _).trans (hb1.mono (by simp))
    have hz1 : w.heap.size < w1.heap.size := by have := hb1.size; simp at this; omega
    clear c0 c1 c2 c3 c4 H hI hb1 hown
    generalize hL : (bel p).length = L at *
    have HL := Lib.hid hL
    have hL3 : L ≤ 3 := by rw [← hL]; exact bel_len p
    clear hL
    go_wp2
    go_loopw [5, 7] (fun u k wr => ∃ m : Nat, m ≤ L ∧ k = .int .i64 m ∧ u = .int .i64 (((((bel p).take m).map fun b => (tmAt ps f b.toNat).deep).foldl max 0 : Nat)) ∧ Hid (wr.ownsRow (w.heap.size + 1) 3 1 (.slice A2 L cc) L ((bel p).map (Value.int .i64))) ∧ Hid (Below w1.heap.size w1 wr)) (fun _ i _ => L - (intOf i).toNat)
    case atStart => exact ⟨0, Nat.zero_le _, rfl, rfl, by have := HO.out; simp only [OwnI, World.size_alloc] at this; rw [HL.out] at this; exact this, Below.refl _ _⟩
    case round =>
      clear HO
      obtain ⟨m, hm, rfl, rfl, HO, HB⟩ := hrel
      have hboxr : wr.cell? ⟨w.heap.size, 0, none⟩ = some (.slice (some ⟨b, off, none⟩) n c) := (HB.out.cell (p := ⟨w.heap.size, 0, none⟩) hz1).trans hbox
      by_cases hml : m < L
      · obtain ⟨b2, off2, rfl, hb2, hc2⟩ := (IS.of_own HO.out) (by have := HL.out; omega)
        have hx := hc2 m (by have := HL.out; omega)
        clear hc2
        obtain ⟨t, ht1, ht2⟩ : ∃ t : Nat, (bel p).getD m 0 = (t : Int) ∧ t < i := by
          have hmem : (bel p).getD m 0 ∈ bel p := by
            have hl : m < (bel p).length := by have := HL.out; omega
            simp [List.getD, hl]
          have := good_bel p i HGI.out _ hmem
          exact ⟨((bel p).getD m 0).toNat, by omega, by omega⟩
        rw [ht1] at hx
        have HTS := Lib.hid (take_succ_int (bel p) m t (by have := HL.out; omega) ht1)
        have hqle : (((bel p).take m).map fun b => (tmAt ps f b.toNat).deep).foldl max 0 ≤ 2000000 := by
          have h1 : (((bel p).take m).map fun b => (tmAt ps f b.toNat).deep).foldl max 0 ≤ ((bel p).map fun b => (tmAt ps f b.toNat).deep).foldl max 0 := by
            conv => rhs; rw [← List.take_append_drop m (bel p)]
            rw [List.map_append, List.foldl_append]
            exact foldl_max_mono _ _
          have := HD.out
          omega
        have hdt := tmAt_deep ps f t
        generalize hq : (((bel p).take m).map fun b => (tmAt ps f b.toNat).deep).foldl max 0 = q at *
        have HQ := Lib.hid hq
        have HT1 := Lib.hid ht1
        have HW2 := Lib.hid (HW1.out.below HB.out (by omega))
        have hzr : w1.heap.size ≤ wr.heap.size := HB.out.size
        have hIHt := IH.out t
        have hIH := Lib.hid hIHt
        clear hq ht1 hbox HW1 hIHt IH
        go_wp2
        go_region_held3 (fun w' => w'.cell? ⟨w.heap.size, 0, none⟩ = some (.slice (some ⟨b, off, none⟩) n c) ∧ w'.cell? ⟨b2, off2 + m, none⟩ = some (.int .i64 t)) (first | exact ⟨hboxr, hx⟩ | exact ⟨hboxr', hx'⟩)
          (first
            | (go_at_call 62; refine (hIH.out wr.drew (by omega) (by omega) (by show B ≤ wr.heap.size; omega) (show PS wr.drew B _ ps from HW2.out)).mono ?_; rintro e w2 ⟨rfl, hb2'⟩; have hb3 : Below wr.heap.size wr w2 := below_of_drew hb2'; clear hb2'; have hboxr' := (hb3.cell (p := ⟨w.heap.size, 0, none⟩) (by show w.heap.size < wr.heap.size; omega)).trans hboxr; have hx' := (hb3.cell (p := ⟨b2, off2 + m, none⟩) hb2).trans hx))
        go_wp2
        go_roundw
        case rel =>
          have hmx : (((bel p).take (m + 1)).map fun b => (tmAt ps f b.toNat).deep).foldl max 0 = max q (tmAt ps f t).deep := by
            rw [HTS.out, List.map_append, List.foldl_append, HQ.out]; rfl
          refine ⟨m + 1, by omega, by go_num, ?_, own_below HO.out hb3, HB.out.trans (hb3.mono hzr)⟩
          rw [hmx]
          split
          · rw [Nat.max_eq_right (by omega)]
          · rw [Nat.max_eq_left (by omega)]
        case measure => simp [intOf]; omega
      · have hmL : m = L := by omega
        have htk : (bel p).take m = bel p := List.take_of_length_le (by have := HL.out; omega)
        rw [htk]
        have hdd := HD.out
        generalize ((bel p).map fun b => (tmAt ps f b.toNat).deep).foldl max 0 = q at *
        have hq : q ≤ 2000000 := by omega
        have HDD := Lib.hid hdd
        clear hdd htk
        go_wp2
        go_ret
        exact ⟨ret_i (by have := HDD.out; (try simp); omega), hB1.trans (HB.out.mono (by omega))⟩

/-- The depth that DeepOf tells. -/
def deepF (ps : List Pt) : Int := if validF ps then ((tmAt ps ps.length (ps.length - 1)).deep : Int) else -1

theorem validF_good (ps : List Pt) (h : validF ps = true) : AllGood ps ∧ 1 ≤ ps.length ∧ ps.length ≤ 12 := by
  unfold validF rng at h
  simp only [Bool.and_eq_true, decide_eq_true_eq] at h
  exact ⟨h.1.1, by omega, by omega⟩

set_option maxHeartbeats 400000 in
theorem spec_DeepOf (A : Option Addr) (n c : Nat) (ps : List Pt) (w : World) (B : Nat) (hB : B ≤ w.heap.size) (hn : n = ps.length) (h : PS w B A ps) (hs : n ≤ 1999999) :
    Calls Try.prog 36 #[.agg #[.slice A n c]] w fun e w' => e = .returned (.int .i64 (deepF ps)) ∧ Below w.heap.size w w' := by
  have H := Lib.hid h
  have HN := Lib.hid hn
  clear h hn
  cases hv : validF ps
  · have hd : deepF ps = -1 := by simp [deepF, hv]
    rw [hd]
    have HV := Lib.hid hv
    clear hd hv
    go_enter Try.func36, Try.ntmps36
    go_wp2_with fail
    refine (spec_validFormula _ _ _ ps _ B (by simp; omega) HN.out (H.out.alloc hB _) (by omega)).mono ?_
    rintro e w1 ⟨rfl, hb⟩
    rw [HV.out]
    go_wp2
    go_ret
    exact ⟨rfl, ((Below.refl _ _).alloc (Nat.le_refl _) _).trans (hb.mono (by simp))⟩
  · obtain ⟨hg, h1, h12⟩ := validF_good ps hv
    have hd : deepF ps = ((tmAt ps n (n - 1)).deep : Int) := by rw [deepF, if_pos hv, HN.out]
    rw [hd]
    have h1' : 1 ≤ n := by have := HN.out; omega
    obtain ⟨m, rfl⟩ : ∃ m, n = m + 1 := ⟨n - 1, by omega⟩
    have HV := Lib.hid hv
    have HG := Lib.hid hg
    clear hd hv hg h1 h12 h1'
    go_enter Try.func36, Try.ntmps36
    go_wp2_with fail
    refine (spec_validFormula _ _ _ ps _ B (by simp; omega) HN.out (H.out.alloc hB _) (by omega)).mono ?_
    rintro e w1 ⟨rfl, hb⟩
    rw [HV.out]
    have hbox : w1.cell? ⟨w.heap.size, 0, none⟩ = some (.slice A (m + 1) c) := (hb.cell (p := ⟨w.heap.size, 0, none⟩) (by simp)).trans (by go_simp)
    have HW := Lib.hid ((H.out.alloc hB _).below hb (by simp; omega))
    go_wp2_with fail
    refine (spec_deep A (m + 1) c ps B HN.out HG.out hs (m + 1) (Nat.le_refl _) m _ (by omega) (by omega) (by have := hb.size; simp at this; omega) HW.out).mono ?_
    rintro e w2 ⟨rfl, hb2⟩
    go_wp2
    go_ret
    exact ⟨by simp, ((Below.refl _ _).alloc (Nat.le_refl _) _).trans ((hb.trans (hb2.mono hb.size)).mono (by simp))⟩

set_option maxHeartbeats 400000 in
theorem impl_DeepOf (A : Option Addr) (n c : Nat) (ps : List Pt) (w : World) (B : Nat) (hB : B ≤ w.heap.size) (hn : n = ps.length) (h : PS w B A ps) (hs : n ≤ 1999999) :
    Calls Try.prog 35 #[.agg #[.slice A n c]] w fun e w' => e = .returned (.int .i64 (deepF ps)) ∧ Below w.heap.size w w' := by
  have H := Lib.hid h
  have HN := Lib.hid hn
  clear h hn
  cases hv : validF ps
  · have hd : deepF ps = -1 := by simp [deepF, hv]
    rw [hd]
    have HV := Lib.hid hv
    clear hd hv
    go_enter Try.func35, Try.ntmps35
    go_wp2_with fail
    refine (impl_ValidFormula _ _ _ ps _ B (by simp; omega) HN.out (H.out.alloc hB _) (by omega)).mono ?_
    rintro e w1 ⟨rfl, hb⟩
    rw [HV.out]
    go_wp2
    go_ret
    exact ⟨rfl, ((Below.refl _ _).alloc (Nat.le_refl _) _).trans (hb.mono (by simp))⟩
  · obtain ⟨hg, h1, h12⟩ := validF_good ps hv
    have hd : deepF ps = ((tmAt ps n (n - 1)).deep : Int) := by rw [deepF, if_pos hv, HN.out]
    rw [hd]
    have h1' : 1 ≤ n := by have := HN.out; omega
    have HV := Lib.hid hv
    have HG := Lib.hid hg
    clear hd hv hg h1 h12
    go_enter Try.func35, Try.ntmps35
    go_wp2_with fail
    refine (impl_ValidFormula _ _ _ ps _ B (by simp; omega) HN.out (H.out.alloc hB _) (by omega)).mono ?_
    rintro e w1 ⟨rfl, hb⟩
    rw [HV.out]
    have hbox : w1.cell? ⟨w.heap.size, 0, none⟩ = some (.slice A n c) := (hb.cell (p := ⟨w.heap.size, 0, none⟩) (by simp)).trans (by go_simp)
    have HW := Lib.hid ((H.out.alloc hB _).below hb (by simp; omega))
    go_wp2_with fail
    refine (impl_wholeOf A n c ps B HN.out HG.out (by omega) h1' _ (by have := hb.size; simp at this; omega) HW.out).mono ?_
    rintro e w2 ⟨T, x, rfl, hT, hb2⟩
    have HT := Lib.hid hT
    clear hT
    go_wp2_with fail
    rw [← HT.out]
    have hle := tmAt_deep ps n (n - 1)
    refine (impl_deepest (n + 1) _ _ hle (by omega)).mono ?_
    rintro e w3 ⟨rfl, hb3⟩
    go_wp2
    go_ret
    exact ⟨by simp, ((Below.refl _ _).alloc (Nat.le_refl _) _).trans (((hb.trans (hb2.mono hb.size)).trans (hb3.mono (Nat.le_trans hb.size hb2.size))).mono (by simp))⟩
end Go.Proofs.Ytnbohohoceghnaa

/- Marks: laws.markIntS, markPartS, markFormula write a row of numbers, heldIntS, heldPartS, heldFormula read it; what lies in other blocks stays. -/
namespace Go.Proofs.Ytnbohohoceghnaa
set_option linter.unusedSimpArgs false
set_option linter.unusedVariables false
open Go.RowKit

/-- A row of numbers from k on. -/
def mks (k : Int) (m : Nat) : List Value := (List.range m).map fun j : Nat => Value.int .i64 (k + j)

theorem mks_len (k : Int) (m : Nat) : (mks k m).length = m := by simp [mks]
theorem mks_get (k : Int) (m j : Nat) (h : j < m) : (mks k m)[j]? = some (.int .i64 (k + j)) := by simp [mks, h]
theorem mks_succ (k : Int) (m : Nat) : mks k (m + 1) = mks k m ++ [.int .i64 (k + m)] := by simp [mks, List.range_succ]

theorem mks_five (k : Int) (m : Nat) : mks k (m + 5) = mks k m ++ (⟨k + m, k + m + 1, k + m + 2, k + m + 3, k + m + 4⟩ : Pt).cells := by
  rw [mks_succ k (m + 4), mks_succ k (m + 3), mks_succ k (m + 2), mks_succ k (m + 1), mks_succ k m]
  simp [Pt.cells]
  omega

theorem mks_five' (k k5 : Int) (m : Nat) (h : k5 = k + m) : mks k (m + 5) = mks k m ++ (⟨k5, k5 + 1, k5 + 1 + 1, k5 + 1 + 1 + 1, k5 + 1 + 1 + 1 + 1⟩ : Pt).cells := by
  have e : (⟨k5, k5 + 1, k5 + 1 + 1, k5 + 1 + 1 + 1, k5 + 1 + 1 + 1 + 1⟩ : Pt) = ⟨k + m, k + m + 1, k + m + 2, k + m + 3, k + m + 4⟩ := by subst h; congr 1; omega; omega; omega
  rw [mks_five, e]

theorem grown_tr {a b c : World} {row : Option Nat} (h : a.grownBy b row) (k : b.grownBy c row) : a.grownBy c row :=
  ⟨k.os.trans h.os, k.tape.trans h.tape, k.output.trans h.output, Nat.le_trans h.size k.size, fun i hi hr => (k.block i (Nat.lt_of_lt_of_le hi h.size) hr).trans (h.block i hi hr)⟩
theorem grown_refl (a : World) (row : Option Nat) : a.grownBy a row := ⟨rfl, rfl, rfl, Nat.le_refl _, fun _ _ _ => rfl⟩
theorem grown_below {w w' : World} (h : Below w.heap.size w w') (row : Option Nat) : w.grownBy w' row :=
  ⟨h.os, h.tape, h.output, h.size, fun k hk _ => h.block k hk⟩

/-- What a mark leaves. -/
def Marked (w : World) (base : Nat) (e : TypeId) (size : Nat) (v : Value) (n : Nat) (k : Int) (r : Ending) (w' : World) : Prop :=
  r = .returned (.int .i64 (k + ((n * size : Nat) : Int))) ∧ w'.ownsRow base e size v n (mks k (n * size)) ∧ w.grownBy w' v.ownBlock

theorem ownBlock_lt {w : World} {base n size : Nat} {e : TypeId} {v : Value} {xs : List Value} (h : w.ownsRow base e size v n xs) (o : Obj) : v.ownBlock ≠ some w.heap.size := by
  intro hk
  have := (h.lt _ hk).2
  omega

end Go.Proofs.Ytnbohohoceghnaa

/- Words for laws: what lies in blocks of its own (lo to hi - 1) and how it is kept from call to call. -/
namespace Go.Proofs.Ytnbohohoceghnaa
set_option linter.unusedSimpArgs false
set_option linter.unusedVariables false
open Go.RowKit

/-- Only blocks from a to b - 1 have turned, of those that were there. -/
structure Tch (a b : Nat) (w w' : World) : Prop where
  os : w'.os = w.os
  tape : w'.tape = w.tape
  output : w'.output = w.output
  size : w.heap.size ≤ w'.heap.size
  block : ∀ k, k < w.heap.size → (k < a ∨ b ≤ k) → w'.heap[k]? = w.heap[k]?

theorem grown_setCell0 (w : World) (g j : Nat) (x : Value) : w.grownBy (w.setCell ⟨g, j, none⟩ x) (some g) :=
  ⟨rfl, rfl, rfl, by simp [World.setCell], fun k hk hr => Below.heap_setCell _ _ _ _ (by intro e; exact hr (by rw [e]))⟩

theorem Tch.refl (a b : Nat) (w : World) : Tch a b w w := ⟨rfl, rfl, rfl, Nat.le_refl _, fun _ _ _ => rfl⟩
theorem Tch.trans {a b : Nat} {w w1 w2 : World} (h : Tch a b w w1) (k : Tch a b w1 w2) : Tch a b w w2 :=
  ⟨k.os.trans h.os, k.tape.trans h.tape, k.output.trans h.output, Nat.le_trans h.size k.size, fun i hi hr => (k.block i (Nat.lt_of_lt_of_le hi h.size) hr).trans (h.block i hi hr)⟩
theorem Tch.of_below {a b : Nat} {w w' : World} (h : Below w.heap.size w w') : Tch a b w w' := ⟨h.os, h.tape, h.output, h.size, fun k hk _ => h.block k hk⟩
theorem Tch.of_grown {a b : Nat} {w w' : World} {row : Option Nat} (h : w.grownBy w' row) (hr : ∀ k, row = some k → a ≤ k ∧ k < b) : Tch a b w w' :=
  ⟨h.os, h.tape, h.output, h.size, fun k hk ho => h.block k hk fun e => by have := hr k e.symm; omega⟩
theorem Tch.below {a b B : Nat} {w w' : World} (h : Tch a b w w') (hB : B ≤ a) (hs : B ≤ w.heap.size) : Below B w w' :=
  ⟨h.os, h.tape, h.output, h.size, fun k hk => h.block k (by omega) (by omega)⟩
theorem Tch.mono {a b a' b' : Nat} {w w' : World} (h : Tch a b w w') (ha : a' ≤ a) (hb : b ≤ b') : Tch a' b' w w' :=
  ⟨h.os, h.tape, h.output, h.size, fun k hk ho => h.block k hk (by omega)⟩
theorem Tch.drew {a b : Nat} {w w' : World} (h : Tch a b w w') : Tch a b w w'.drew := ⟨h.os, h.tape, h.output, h.size, h.block⟩

/-- P speaks of blocks lo to hi - 1 alone. -/
def Loc (lo hi : Nat) (P : World → Prop) : Prop := ∀ w w' : World, P w → (∀ k, lo ≤ k → k < hi → w'.heap[k]? = w.heap[k]?) → P w'

/-- P holds, of blocks lo to hi - 1. -/
structure As (lo hi : Nat) (P : World → Prop) (w : World) : Prop where
  it : P w
  le : hi ≤ w.heap.size
  loc : Loc lo hi P

section
variable {lo hi a b : Nat} {P : World → Prop} {w w' : World}
theorem As.step (h : As lo hi P w) (hb : Below w.heap.size w w') : As lo hi P w' :=
  ⟨h.loc _ _ h.it fun k _ hk => hb.block k (Nat.lt_of_lt_of_le hk h.le), Nat.le_trans h.le hb.size, h.loc⟩
theorem As.turn (h : As lo hi P w) (ht : Tch a b w w') (hd : b ≤ lo ∨ hi ≤ a) : As lo hi P w' :=
  ⟨h.loc _ _ h.it fun k hl hk => ht.block k (Nat.lt_of_lt_of_le hk h.le) (by omega), Nat.le_trans h.le ht.size, h.loc⟩
theorem As.alloc (h : As lo hi P w) (o : Obj) : As lo hi P (w.alloc o) := h.step ((Below.refl _ _).alloc (Nat.le_refl _) o)
theorem As.keep (h : As lo hi P w) (hk : ∀ k, lo ≤ k → k < hi → w'.heap[k]? = w.heap[k]?) (hs : w.heap.size ≤ w'.heap.size) : As lo hi P w' :=
  ⟨h.loc _ _ h.it hk, Nat.le_trans h.le hs, h.loc⟩
end

theorem Loc.and {lo hi : Nat} {P Q : World → Prop} (hP : Loc lo hi P) (hQ : Loc lo hi Q) : Loc lo hi fun w => P w ∧ Q w :=
  fun w w' h hk => ⟨hP w w' h.1 hk, hQ w w' h.2 hk⟩
theorem Loc.mono {lo hi lo' hi' : Nat} {P : World → Prop} (h : Loc lo hi P) (h1 : lo' ≤ lo) (h2 : hi ≤ hi') : Loc lo' hi' P :=
  fun w w' hp hk => h w w' hp fun k a b => hk k (by omega) (by omega)

theorem IS.loc (B : Nat) (A : Option Addr) (xs : List Int) : Loc 0 B fun w => IS w B A xs :=
  fun w w' h hk => h.keep fun p hp => World.cell?_of_block (hk p.block (Nat.zero_le _) hp)
theorem PS.loc (B : Nat) (A : Option Addr) (ps : List Pt) : Loc 0 B fun w => PS w B A ps :=
  fun w w' h hk => h.keep fun p hp => World.cell?_of_block (hk p.block (Nat.zero_le _) hp)

/-- A box of the call's own. -/
theorem box_loc (g : Nat) (v : Value) : Loc g (g + 1) fun w => w.cell? ⟨g, 0, none⟩ = some v :=
  fun w w' h hk => (World.cell?_of_block (a := ⟨g, 0, none⟩) (hk g (Nat.le_refl _) (Nat.lt_succ_self _))).trans h
theorem box_new (w : World) (v : Value) (t : TypeId) : As w.heap.size (w.heap.size + 1) (fun w' => w'.cell? ⟨w.heap.size, 0, none⟩ = some v) (w.alloc (.cells #[v] t)) :=
  ⟨by go_simp, by simp, box_loc _ _⟩
theorem box2_loc (g : Nat) (v u : Value) : Loc g (g + 1) fun w => w.cell? ⟨g, 0, none⟩ = some v ∧ w.cell? ⟨g, 1, none⟩ = some u :=
  fun w w' h hk => ⟨(World.cell?_of_block (a := ⟨g, 0, none⟩) (hk g (Nat.le_refl _) (Nat.lt_succ_self _))).trans h.1, (World.cell?_of_block (a := ⟨g, 1, none⟩) (hk g (Nat.le_refl _) (Nat.lt_succ_self _))).trans h.2⟩
theorem box2_new (w : World) (v u : Value) (t : TypeId) : As w.heap.size (w.heap.size + 1) (fun w' => w'.cell? ⟨w.heap.size, 0, none⟩ = some v ∧ w'.cell? ⟨w.heap.size, 1, none⟩ = some u) (w.alloc (.cells #[v, u] t)) :=
  ⟨⟨by go_simp, by go_simp⟩, by simp, box2_loc _ _ _⟩
theorem box3_loc (g : Nat) (v u x : Value) : Loc g (g + 1) fun w => w.cell? ⟨g, 0, none⟩ = some v ∧ w.cell? ⟨g, 1, none⟩ = some u ∧ w.cell? ⟨g, 2, none⟩ = some x :=
  fun w w' h hk => ⟨(World.cell?_of_block (a := ⟨g, 0, none⟩) (hk g (Nat.le_refl _) (Nat.lt_succ_self _))).trans h.1, (World.cell?_of_block (a := ⟨g, 1, none⟩) (hk g (Nat.le_refl _) (Nat.lt_succ_self _))).trans h.2.1, (World.cell?_of_block (a := ⟨g, 2, none⟩) (hk g (Nat.le_refl _) (Nat.lt_succ_self _))).trans h.2.2⟩
theorem box3_new (w : World) (v u x : Value) (t : TypeId) : As w.heap.size (w.heap.size + 1) (fun w' => w'.cell? ⟨w.heap.size, 0, none⟩ = some v ∧ w'.cell? ⟨w.heap.size, 1, none⟩ = some u ∧ w'.cell? ⟨w.heap.size, 2, none⟩ = some x) (w.alloc (.cells #[v, u, x] t)) :=
  ⟨⟨by go_simp, by go_simp, by go_simp⟩, by simp, box3_loc _ _ _ _⟩

/-- A row of the call's own in blocks lo to hi - 1. -/
def OwR (lo hi : Nat) (e : TypeId) (size : Nat) (v : Value) (n : Nat) (xs : List Value) (w : World) : Prop :=
  w.ownsRow lo e size v n xs ∧ ∀ k, v.ownBlock = some k → k < hi

section
variable {lo hi lo' hi' : Nat} {e : TypeId} {size n : Nat} {v : Value} {xs : List Value} {w w' : World}
theorem OwR.start (h : w.ownsRow lo e size v n xs) : OwR lo w.heap.size e size v n xs w := ⟨h, fun k hk => (h.lt k hk).2⟩
theorem OwR.mono (h : OwR lo hi e size v n xs w) (h1 : lo' ≤ lo) (h2 : hi ≤ hi') : OwR lo' hi' e size v n xs w := ⟨own_mono h.1 h1, fun k hk => Nat.lt_of_lt_of_le (h.2 k hk) h2⟩
theorem OwR.keep (h : OwR lo hi e size v n xs w) (hk : ∀ k, lo ≤ k → k < hi → w'.heap[k]? = w.heap[k]?) : OwR lo hi e size v n xs w' := by
  refine ⟨⟨h.1.1, ?_⟩, h.2⟩
  rcases h.1.2 with hn | ⟨g, cap, cur, rfl, hb, hg, r⟩
  · exact .inl hn
  · exact .inr ⟨g, cap, cur, rfl, hb, by rw [hk g hb (h.2 g rfl)]; exact hg, r⟩
theorem OwR.loc (lo hi : Nat) (e : TypeId) (size : Nat) (v : Value) (n : Nat) (xs : List Value) : Loc lo hi (OwR lo hi e size v n xs) := fun w w' h hk => h.keep hk
theorem OwR.nil (lo hi : Nat) (e : TypeId) (size : Nat) (w : World) : OwR lo hi e size (.slice none 0 0) 0 [] w := ⟨World.ownsRow_nil _ _ _ _, fun k hk => by simp [Value.ownBlock] at hk⟩
theorem OwR.step (h : OwR lo hi e size v n xs w) (hb : Below w.heap.size w w') : OwR lo hi e size v n xs w' := by
  refine ⟨own_below h.1 hb, h.2⟩
end

theorem own_start {lo hi : Nat} {e : TypeId} {size n : Nat} {v : Value} {xs : List Value} {w : World} (h : OwR lo hi e size v n xs w) (hs : hi ≤ w.heap.size) : As lo hi (OwR lo hi e size v n xs) w := ⟨h, hs, OwR.loc _ _ _ _ _ _ _⟩

section
variable {lo hi : Nat} {n c : Nat} {A : Option Addr} {ps : List Pt} {xs : List Int} {w : World}
theorem OwR.ints (h : OwR lo hi 3 1 (.slice A n c) n (xs.map (Value.int .i64)) w) : IS w hi A xs := by
  intro hn
  obtain ⟨b, off, rfl, _, hc⟩ := IS.of_own h.1 hn
  exact ⟨b, off, rfl, h.2 b rfl, hc⟩
theorem OwR.parts (h : OwR lo hi 54 5 (.slice A n c) n (ps.flatMap Pt.cells) w) : PS w hi A ps := by
  intro hn
  obtain ⟨b, off, rfl, _, hc⟩ := PS.of_own h.1 hn
  exact ⟨b, off, rfl, h.2 b rfl, hc⟩
end

/-- A row whose content does not matter. -/
def Rw (lo hi : Nat) (e : TypeId) (size : Nat) (v : Value) (n : Nat) (w : World) : Prop := ∃ xs, OwR lo hi e size v n xs w

theorem Rw.of {lo hi : Nat} {e : TypeId} {size : Nat} {v : Value} {n : Nat} {xs : List Value} {w : World} (h : OwR lo hi e size v n xs w) : Rw lo hi e size v n w := ⟨xs, h⟩
theorem Rw.keep {lo hi : Nat} {e : TypeId} {size : Nat} {v : Value} {n : Nat} {w w' : World} (h : Rw lo hi e size v n w) (hk : ∀ k, lo ≤ k → k < hi → w'.heap[k]? = w.heap[k]?) : Rw lo hi e size v n w' := h.imp fun _ h => h.keep hk

/-- A row of the same kind was written to: whether it is this one or another one, this is still a row. -/
theorem Rw.after {lo hi lo' : Nat} {e e' : TypeId} {size size' n n' : Nat} {v u : Value} {w w' : World} {ys ys' : List Value} (h : Rw lo hi e size v n w) (hu : w.ownsRow lo' e' size' u n' ys) (hu' : w'.ownsRow lo' e' size' u n' ys') (hg : w.grownBy w' u.ownBlock) (hs : 0 < size) : Rw lo hi e size v n w' := by
  obtain ⟨xs, h⟩ := h
  by_cases hb : v.ownBlock = none ∨ v.ownBlock ≠ u.ownBlock
  · exact ⟨xs, h.1.kept hg hb, h.2⟩
  · have hv : v.ownBlock ≠ none := fun e => hb (.inl e)
    have hvu : v.ownBlock = u.ownBlock := Classical.byContradiction fun e => hb (.inr e)
    rcases h.1.2 with ⟨rfl, _⟩ | ⟨g, cap, cur, rfl, hlo, hh, h1, h2, h3, h4⟩
    · exact absurd rfl hv
    · rcases hu.2 with ⟨rfl, _⟩ | ⟨g', cap', cur', rfl, hlo', hh', k1, k2, k3, k4⟩
      · simp [Value.ownBlock] at hvu
      · simp [Value.ownBlock] at hvu
        subst hvu
        rw [hh] at hh'
        simp only [Option.some.injEq, Obj.cells.injEq] at hh'
        obtain ⟨rfl, rfl, _⟩ := hh'
        rcases hu'.2 with ⟨hx, _⟩ | ⟨g2, cap2, cur2, hx, _, hh2, m1, m2, m3, m4⟩
        · simp at hx
        · simp only [Value.slice.injEq, Option.some.injEq, Addr.mk.injEq, and_true, true_and] at hx
          obtain ⟨rfl, rfl⟩ := hx
          refine ⟨cur2.toList.take (n * size), ⟨?_, .inr ⟨g, cap, cur2, rfl, hlo, hh2, h1, h2, ?_, rfl⟩⟩, h.2⟩
          · rw [List.length_take, Array.length_toList, m3, ← k3, h3]
            have := Nat.mul_le_mul_right size h1
            omega
          · rw [m3, ← k3, h3]
end Go.Proofs.Ytnbohohoceghnaa
