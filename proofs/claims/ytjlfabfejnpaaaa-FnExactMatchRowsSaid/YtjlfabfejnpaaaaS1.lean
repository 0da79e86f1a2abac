/- Words and contracts for memory that the texts behind use. -/
import Derived.Test.YtjlfabfejnpaaaaS0
import Derived.WalkKit
import Derived.Laws.OwnMore
import Derived.Deep.Draws
import Derived.Test.YtjlfabfejnpaaaaProg
import Derived.WalkSpells
import Derived.WalkLawsBesides
import Derived.Outline
import Derived.Lib.Hide
import Derived.BigQuiet
import Derived.Deep.QuietTactic
import Derived.StillTailTactics
import Derived.Deep.LoopGhost
import Derived.Laws.MakeOwn
import Derived.WalkSmall
import Derived.RegionTactic
import Derived.BigRegion
import Derived.Deep.RegionWith
import Derived.Deep.RegionHeld3
import Derived.Maps.AppendAt
import Derived.Test.YtjlfabfejnpaaaaRows
import Derived.ProofKit
import Derived.OpenShut
import Derived.ShutString
import Derived.ChangeOld
import Derived.Below
import Derived.Deep.Slices
import Derived.Deep.Fields

namespace Go.Proofs.Ytjlfabfejnpaaaa
set_option linter.unusedSimpArgs false
set_option linter.unusedVariables false
open Go.RowKit
/-- A part of a formula. -/
structure Pt where
  k : Int
  a : Int
  b : Int
  c : Int
  n : Int
deriving DecidableEq, Inhabited
def Pt.cells (p : Pt) : List Value := [.int .i64 p.k, .int .i64 p.a, .int .i64 p.b, .int .i64 p.c, .int .i64 p.n]
/-- The slice at A reads as the parts ps; it lies below block B. -/
def PS (w : World) (B : Nat) (A : Option Addr) (ps : List Pt) : Prop :=
  0 < ps.length → ∃ b off, A = some ⟨b, off, none⟩ ∧ b < B ∧ ∀ j, j < ps.length →
    w.cell? ⟨b, off + j * 5, none⟩ = some (.int .i64 (ps.getD j default).k) ∧ w.cell? ⟨b, off + j * 5 + 1, none⟩ = some (.int .i64 (ps.getD j default).a) ∧
    w.cell? ⟨b, off + j * 5 + 2, none⟩ = some (.int .i64 (ps.getD j default).b) ∧ w.cell? ⟨b, off + j * 5 + 3, none⟩ = some (.int .i64 (ps.getD j default).c) ∧
    w.cell? ⟨b, off + j * 5 + 4, none⟩ = some (.int .i64 (ps.getD j default).n)
theorem PS.keep {w w' : World} {B : Nat} {A : Option Addr} {ps : List Pt} (h : PS w B A ps) (hk : ∀ p : Addr, p.block < B → w'.cell? p = w.cell? p) : PS w' B A ps := by
  intro hn
  obtain ⟨b, off, e, hb, hc⟩ := h hn
  refine ⟨b, off, e, hb, fun j hj => ?_⟩
  obtain ⟨h0, h1, h2, h3, h4⟩ := hc j hj
  exact ⟨(hk _ hb).trans h0, (hk _ hb).trans h1, (hk _ hb).trans h2, (hk _ hb).trans h3, (hk _ hb).trans h4⟩
theorem IS.more {w : World} {B B' : Nat} {A : Option Addr} {xs : List Int} (h : IS w B A xs) (hB : B ≤ B') : IS w B' A xs := by
  intro hn
  obtain ⟨b, off, e, hb, hc⟩ := h hn
  exact ⟨b, off, e, by omega, hc⟩
theorem PS.more {w : World} {B B' : Nat} {A : Option Addr} {ps : List Pt} (h : PS w B A ps) (hB : B ≤ B') : PS w B' A ps := by
  intro hn
  obtain ⟨b, off, e, hb, hc⟩ := h hn
  exact ⟨b, off, e, by omega, hc⟩
theorem PS.below {w w' : World} {B C : Nat} {A : Option Addr} {ps : List Pt} (h : PS w B A ps) (hb : Below C w w') (hC : B ≤ C) : PS w' B A ps :=
  h.keep fun _ hp => hb.cell (Nat.lt_of_lt_of_le hp hC)
theorem IS.alloc {w : World} {B : Nat} {A : Option Addr} {xs : List Int} (h : IS w B A xs) (hB : B ≤ w.heap.size) (o : Obj) : IS (w.alloc o) B A xs :=
  h.keep fun p hp => World.cell?_alloc_lt w o p (by omega)
theorem PS.alloc {w : World} {B : Nat} {A : Option Addr} {ps : List Pt} (h : PS w B A ps) (hB : B ≤ w.heap.size) (o : Obj) : PS (w.alloc o) B A ps :=
  h.keep fun p hp => World.cell?_alloc_lt w o p (by omega)
theorem IS.nil (w : World) (B : Nat) (A : Option Addr) : IS w B A [] := fun h => absurd h (by simp)
theorem PS.nil (w : World) (B : Nat) (A : Option Addr) : PS w B A [] := fun h => absurd h (by simp)
theorem IS.of_own {w : World} {base e n c : Nat} {A : Option Addr} {xs : List Int} (h : w.ownsRow base e 1 (.slice A n c) n (xs.map (Value.int .i64))) : IS w w.heap.size A xs := by
  intro hn
  have hl : xs.length = n := by simpa using h.1
  rcases h.2 with ⟨_, h0⟩ | ⟨g, cap, cur, hv, _, hh, _⟩
  · omega
  · simp only [Value.slice.injEq] at hv
    obtain ⟨rfl, _, rfl⟩ := hv
    have hg : g < w.heap.size := by
      rcases Nat.lt_or_ge g w.heap.size with hlt | hge
      · exact hlt
      · rw [Array.getElem?_eq_none hge] at hh; cases hh
    refine ⟨g, 0, rfl, hg, fun j hj => ?_⟩
    rw [h.cellAt _ (by omega)]
    simp [List.getD, hj]
theorem length_cells (ps : List Pt) : (ps.flatMap Pt.cells).length = ps.length * 5 := by
  induction ps with
  | nil => rfl
  | cons p l ih => simp [List.flatMap_cons, ih, Pt.cells]; omega
theorem cells_get (ps : List Pt) (j : Nat) (h : j < ps.length) : (ps.flatMap Pt.cells)[j * 5]? = some (.int .i64 (ps.getD j default).k) ∧ (ps.flatMap Pt.cells)[j * 5 + 1]? = some (.int .i64 (ps.getD j default).a) ∧
    (ps.flatMap Pt.cells)[j * 5 + 2]? = some (.int .i64 (ps.getD j default).b) ∧ (ps.flatMap Pt.cells)[j * 5 + 3]? = some (.int .i64 (ps.getD j default).c) ∧ (ps.flatMap Pt.cells)[j * 5 + 4]? = some (.int .i64 (ps.getD j default).n) := by
  induction ps generalizing j with
  | nil => simp at h
  | cons p l ih =>
    have e : (p :: l).flatMap Pt.cells = p.cells ++ l.flatMap Pt.cells := by simp [List.flatMap_cons]
    rw [e]
    match j with
    | 0 => simp [Pt.cells]
    | j + 1 =>
      have hj : j < l.length := by simpa using h
      have hc : p.cells.length = 5 := rfl
      obtain ⟨a0, a1, a2, a3, a4⟩ := ih j hj
      have s (d : Nat) : (p.cells ++ l.flatMap Pt.cells)[(j + 1) * 5 + d]? = (l.flatMap Pt.cells)[j * 5 + d]? := by
        rw [List.getElem?_append_right (by omega), hc]; congr 1; omega
      have s0 := s 0
      simp only [Nat.add_zero] at s0
      rw [s0, s 1, s 2, s 3, s 4]
      simpa using ⟨a0, a1, a2, a3, a4⟩
theorem PS.of_own {w : World} {base e n c : Nat} {A : Option Addr} {ps : List Pt} (h : w.ownsRow base e 5 (.slice A n c) n (ps.flatMap Pt.cells)) : PS w w.heap.size A ps := by
  intro hn
  have hl : ps.length = n := by have := h.1; rw [length_cells] at this; omega
  rcases h.2 with ⟨_, h0⟩ | ⟨g, cap, cur, hv, _, hh, _⟩
  · omega
  · simp only [Value.slice.injEq] at hv
    obtain ⟨rfl, _, rfl⟩ := hv
    have hg : g < w.heap.size := by
      rcases Nat.lt_or_ge g w.heap.size with hlt | hge
      · exact hlt
      · rw [Array.getElem?_eq_none hge] at hh; cases hh
    refine ⟨g, 0, rfl, hg, fun j hj => ?_⟩
    obtain ⟨a0, a1, a2, a3, a4⟩ := cells_get ps j hj
    simp only [Nat.zero_add]
    rw [h.cellAt _ (by omega), h.cellAt _ (by omega), h.cellAt _ (by omega), h.cellAt _ (by omega), h.cellAt _ (by omega)]
    exact ⟨a0, a1, a2, a3, a4⟩
end Go.Proofs.Ytjlfabfejnpaaaa

namespace Go.Proofs.Ytjlfabfejnpaaaa
set_option linter.unusedSimpArgs false
set_option linter.unusedVariables false
open Go.RowKit
/-- How many parts a kind has below. -/
def ar (k : Int) : Int := if k = 0 ∨ k = 1 then 0 else if 2 ≤ k ∧ k ≤ 7 then 2 else if k = 8 then 3 else -1
end Go.Proofs.Ytjlfabfejnpaaaa

namespace Go.Proofs.Ytjlfabfejnpaaaa
set_option linter.unusedSimpArgs false
set_option linter.unusedVariables false
open Go.RowKit
theorem take_succ_getD {α : Type} [Inhabited α] (l : List α) (k : Nat) (h : k < l.length) : l.take (k + 1) = l.take k ++ [l.getD k default] := by
  rw [List.take_succ_eq_append_getElem h]; simp [List.getD, h]
theorem take_step {α : Type} [Inhabited α] (l m : List α) (k : Nat) (h : k < l.length) (h' : k < m.length) (ht : l.take k = m.take k) (he : l.getD k default = m.getD k default) : l.take (k + 1) = m.take (k + 1) := by
  rw [take_succ_getD l k h, take_succ_getD m k h', ht, he]
theorem take_all_eq {α : Type} (l m : List α) (n : Nat) (h : n = l.length) (h' : n = m.length) (ht : l.take n = m.take n) : l = m := by
  rw [List.take_of_length_le (by omega), List.take_of_length_le (by omega)] at ht
  exact ht
theorem getD_ne {α : Type} [Inhabited α] [DecidableEq α] (l m : List α) (k : Nat) (h : l.getD k default ≠ m.getD k default) : decide (l = m) = false := by
  rw [decide_eq_false_iff_not]; rintro rfl; exact h rfl
end Go.Proofs.Ytjlfabfejnpaaaa

namespace Go.Proofs.Ytjlfabfejnpaaaa
set_option linter.unusedSimpArgs false
set_option linter.unusedVariables false
open Go.RowKit
theorem own_below {w w' : World} {base e size n : Nat} {v : Value} {xs : List Value} (h : w.ownsRow base e size v n xs) (hb : Below w.heap.size w w') : w'.ownsRow base e size v n xs :=
  h.kept (row := none) ⟨hb.os, hb.tape, hb.output, hb.size, fun k hk _ => hb.block k hk⟩ (by cases v.ownBlock <;> simp)
theorem own_mono {w : World} {base base' e size n : Nat} {v : Value} {xs : List Value} (h : w.ownsRow base e size v n xs) (hb : base' ≤ base) : w.ownsRow base' e size v n xs :=
  ⟨h.1, h.2.imp_right fun ⟨g, cap, cur, h1, h2, h3⟩ => ⟨g, cap, cur, h1, by omega, h3⟩⟩
end Go.Proofs.Ytjlfabfejnpaaaa

namespace Go.Proofs.Ytjlfabfejnpaaaa
set_option linter.unusedSimpArgs false
set_option linter.unusedVariables false
open Go.RowKit
def bel (p : Pt) : List Int := if ar p.k = 2 then [p.a, p.b] else if ar p.k = 3 then [p.a, p.b, p.c] else []
end Go.Proofs.Ytjlfabfejnpaaaa

namespace Go.Proofs.Ytjlfabfejnpaaaa
set_option linter.unusedSimpArgs false
set_option linter.unusedVariables false
open Go.RowKit
set_option maxRecDepth 100000 in
set_option maxHeartbeats 800000 in
theorem laws_eqIntS (A A' : Option Addr) (n n' c c' : Nat) (xs ys : List Int) (w : World) (B : Nat) (hB : B ≤ w.heap.size) (hn : n = xs.length) (hn' : n' = ys.length) (h : IS w B A xs) (h' : IS w B A' ys) (hs : n ≤ 2000000) (hs' : n' ≤ 2000000) :
    Calls Try.prog 14 #[.slice A n c, .slice A' n' c'] w fun e w' => e = .returned (.bool (decide (xs = ys))) ∧ Below w.heap.size w w' := by
  by_cases hl : n = n'
  · have hne : ((n : Int) != (n' : Int)) = false := by simp [hl]
    have HL := Lib.hid hl
    have HN := Lib.hid hn
    have HN' := Lib.hid hn'
    have H := Lib.hid h
    have H' := Lib.hid h'
    clear hl hn hn' h h'
    go_enter Try.func14, Try.ntmps14
    go_wp2
    go_loopw [5] (fun i wr => ∃ k : Nat, k ≤ n ∧ i = .int .i64 k ∧ Hid (xs.take k = ys.take k) ∧ Below w.heap.size w wr) (fun i _ => n - (intOf i).toNat)
    case atStart => exact ⟨0, Nat.zero_le _, rfl, by simp [Hid], Below.refl _ _⟩
    case round =>
      obtain ⟨k, hk, rfl, HT, hb⟩ := hrel
      by_cases hlt : k < n
      · obtain ⟨b, off, rfl, hbB, hc⟩ := H.out (by have := HN.out; omega)
        obtain ⟨b', off', rfl, hbB', hc'⟩ := H'.out (by have := HN'.out; have := HL.out; omega)
        have c0 := hc k (by have := HN.out; omega)
        have d0 := hc' k (by have := HN'.out; have := HL.out; omega)
        clear hc hc' H H'
        have hlt' : k < n' := by have := HL.out; omega
        have b0 := (hb.cell (p := ⟨b, off + k, none⟩) (by simp; omega)).trans c0
        have e0 := (hb.cell (p := ⟨b', off' + k, none⟩) (by simp; omega)).trans d0
        clear c0 d0
        generalize hp : xs.getD k 0 = p at *
        generalize hq : ys.getD k 0 = q at *
        have HP := Lib.hid hp
        have HQ := Lib.hid hq
        clear hp hq
        cases hpq : (p != q)
        · have HPQ := Lib.hid hpq
          go_wp2
          go_region
          go_wp2
          go_roundw
          case rel =>
            have hts := take_step xs ys k (by have := HN.out; omega) (by have := HN'.out; omega) HT.out (HP.out.trans ((by simpa using HPQ.out : p = q).trans HQ.out.symm))
            exact ⟨k + 1, by omega, by go_num, hts, hb.drew⟩
          case measure => simp [intOf]; omega
        · have HPQ := Lib.hid hpq
          go_wp2
          go_region
          go_wp2
          go_ret
          refine ⟨ret_b ?_, hb.drew⟩
          have hne : xs.getD k default ≠ ys.getD k default := by
            intro e
            have : p = q := HP.out.symm.trans (e.trans HQ.out)
            have h2 := HPQ.out
            simp [this] at h2
          simp [getD_ne xs ys k hne]
      · go_wp2
        go_ret
        refine ⟨ret_b ?_, hb⟩
        have hkn : k = n := by omega
        have := take_all_eq xs ys n HN.out (HL.out.trans HN'.out) (by rw [← hkn]; exact HT.out)
        simp [this]
  · have hne : ((n : Int) != (n' : Int)) = true := by simp; omega
    have hf : decide (xs = ys) = false := by
      rw [decide_eq_false_iff_not]; rintro rfl; omega
    rw [hf]
    clear hl hn hn' h h' hf
    go_enter Try.func14, Try.ntmps14
    go_wp2
    go_ret
    exact ⟨rfl, Below.refl _ _⟩
theorem info_int : (Try.prog.info? 3).map (fun i => (i.zero, i.size, i.bytes)) = some (some (.int .i64 0), 1, 8) := by kernel_rfl
theorem take_set1 (xs : List Value) (k : Nat) (v : Value) (h : k < xs.length) : (xs.set k v).take (k + 1) = xs.take k ++ [v] := by
  rw [List.take_succ_eq_append_getElem (by simpa using h), List.take_set_of_le (by omega)]
  simp
set_option maxHeartbeats 800000 in
theorem laws_toIntS (A : Option Addr) (n c : Nat) (xs : List Int) (w : World) (B : Nat) (hB : B ≤ w.heap.size) (hn : n = xs.length) (h : IS w B A xs) (hs : n ≤ 2000000) :
    Calls Try.prog 12 #[.slice A n c] w fun e w' => e = .returned (.slice (some ⟨w.heap.size, 0, none⟩) n n) ∧ w'.ownsRow w.heap.size 3 1 (.slice (some ⟨w.heap.size, 0, none⟩) n n) n (xs.map (Value.int .i64)) ∧ Below w.heap.size w w' := by
  obtain ⟨i0, hi, hz0, hz1, hz2⟩ := info_parts info_int
  obtain ⟨w0, hmk, hown0, hgr0⟩ := run_make_full (P := Try.prog) w w.heap.size 22 3 i0 _ 1 Try.underlying22 hi hz0 hz1 .i64 .i64 n (by rw [hz2]; omega) (by unfold maxLen; omega) (Nat.le_refl _)
  have H := Lib.hid h
  have HN := Lib.hid hn
  clear hn h
  go_enter Try.func12, Try.ntmps12
  go_wp2
  go_loopw [4] (fun i wr => ∃ (k : Nat) (vs : List Value), k ≤ n ∧ i = .int .i64 k ∧ Hid (wr.ownsRow w.heap.size 3 1 (.slice (some ⟨w.heap.size, 0, none⟩) n n) n vs) ∧ Hid (vs.take k = (xs.take k).map (Value.int .i64)) ∧ Below w.heap.size w wr) (fun i _ => n - (intOf i).toNat)
  case atStart => exact ⟨0, _, Nat.zero_le _, rfl, hown0, by simp [Hid], ⟨hgr0.os, hgr0.tape, hgr0.output, hgr0.size, fun k hk => hgr0.block k hk (by simp)⟩⟩
  case round =>
    obtain ⟨k, vs, hk, rfl, HO, HT, hb⟩ := hrel
    by_cases hlt : k < n
    · obtain ⟨b, off, rfl, hbB, hc⟩ := H.out (by have := HN.out; omega)
      have c0 := hc k (by have := HN.out; omega)
      clear hc H
      have b0 := (hb.cell (p := ⟨b, off + k, none⟩) (by simp; omega)).trans c0
      clear c0
      generalize hp : xs.getD k 0 = p at *
      have HP := Lib.hid hp
      clear hp
      have hxl : vs.length = n * 1 := HO.out.1
      have u0 := HO.out.cellAt k (by omega)
      rw [List.getElem?_eq_getElem (by omega)] at u0
      have f0 := HO.out.frozenAt k
      generalize vs[k]'(by omega) = v0 at u0
      have HXL := Lib.hid hxl
      clear hxl
      go_wp2
      all_goals try (go_region; go_wp2)
      go_roundw
      case rel =>
        have hx1 : (vs.set k (.int .i64 p)).take (k + 1) = (xs.take (k + 1)).map (Value.int .i64) := by
          rw [take_set1 _ _ _ (by have := HXL.out; omega), HT.out, show xs.take (k + 1) = xs.take k ++ [p] by rw [← HP.out, List.take_succ_eq_append_getElem (by have := HN.out; omega)]; simp [List.getD, show k < xs.length by have := HN.out; omega]]
          simp
        have ho := (HO.out.stored k (.int .i64 p)).1
        exact ⟨k + 1, _, by omega, by go_num, by first | exact ho | exact ho.alloc _, hx1, by first | exact (hb.setCell (p := ⟨w.heap.size, k, none⟩) (Nat.le_refl _) _).drew | exact hb.setCell (p := ⟨w.heap.size, k, none⟩) (Nat.le_refl _) _⟩
      case measure => simp [intOf]; omega
    · go_wp2
      go_ret
      have hkn : k = n := by omega
      have hx : vs = xs.map (Value.int .i64) := by
        have h1 := HT.out
        have h2 : vs.length = n * 1 := HO.out.1
        rw [hkn, List.take_of_length_le (by omega), List.take_of_length_le (by have := HN.out; omega)] at h1
        exact h1
      exact ⟨by simp, by rw [← hx]; exact HO.out, hb⟩
end Go.Proofs.Ytjlfabfejnpaaaa

namespace Go.Proofs.Ytjlfabfejnpaaaa
set_option linter.unusedSimpArgs false
set_option linter.unusedVariables false
open Go.RowKit
theorem PS.step {A : Option Addr} {ps : List Pt} {wk wl : World} (h : PS wk wk.heap.size A ps) (hb : Below wk.heap.size wk wl) : PS wl wl.heap.size A ps := (h.below hb (Nat.le_refl _)).more hb.size
theorem IS.step {A : Option Addr} {xs : List Int} {wk wl : World} (h : IS wk wk.heap.size A xs) (hb : Below wk.heap.size wk wl) : IS wl wl.heap.size A xs := (h.below hb (Nat.le_refl _)).more hb.size
end Go.Proofs.Ytjlfabfejnpaaaa

namespace Go.Proofs.Ytjlfabfejnpaaaa
set_option linter.unusedSimpArgs false
set_option linter.unusedVariables false
open Go.RowKit
/-- P speaks of blocks lo to hi - 1 alone. -/
def Loc (lo hi : Nat) (P : World → Prop) : Prop := ∀ w w' : World, P w → (∀ k, lo ≤ k → k < hi → w'.heap[k]? = w.heap[k]?) → P w'
/-- P holds, of blocks lo to hi - 1. -/
structure As (lo hi : Nat) (P : World → Prop) (w : World) : Prop where
  it : P w
  le : hi ≤ w.heap.size
  loc : Loc lo hi P
section
variable {lo hi a b : Nat} {P : World → Prop} {w w' : World}
theorem As.step (h : As lo hi P w) (hb : Below w.heap.size w w') : As lo hi P w' :=
  ⟨h.loc _ _ h.it fun k _ hk => hb.block k (Nat.lt_of_lt_of_le hk h.le), Nat.le_trans h.le hb.size, h.loc⟩
theorem As.alloc (h : As lo hi P w) (o : Obj) : As lo hi P (w.alloc o) := h.step ((Below.refl _ _).alloc (Nat.le_refl _) o)
theorem As.keep (h : As lo hi P w) (hk : ∀ k, lo ≤ k → k < hi → w'.heap[k]? = w.heap[k]?) (hs : w.heap.size ≤ w'.heap.size) : As lo hi P w' :=
  ⟨h.loc _ _ h.it hk, Nat.le_trans h.le hs, h.loc⟩
end
theorem Loc.mono {lo hi lo' hi' : Nat} {P : World → Prop} (h : Loc lo hi P) (h1 : lo' ≤ lo) (h2 : hi ≤ hi') : Loc lo' hi' P :=
  fun w w' hp hk => h w w' hp fun k a b => hk k (by omega) (by omega)
theorem IS.loc (B : Nat) (A : Option Addr) (xs : List Int) : Loc 0 B fun w => IS w B A xs :=
  fun w w' h hk => h.keep fun p hp => World.cell?_of_block (hk p.block (Nat.zero_le _) hp)
theorem PS.loc (B : Nat) (A : Option Addr) (ps : List Pt) : Loc 0 B fun w => PS w B A ps :=
  fun w w' h hk => h.keep fun p hp => World.cell?_of_block (hk p.block (Nat.zero_le _) hp)
/-- A row of the call's own in blocks lo to hi - 1. -/
def OwR (lo hi : Nat) (e : TypeId) (size : Nat) (v : Value) (n : Nat) (xs : List Value) (w : World) : Prop :=
  w.ownsRow lo e size v n xs ∧ ∀ k, v.ownBlock = some k → k < hi
section
variable {lo hi lo' hi' : Nat} {e : TypeId} {size n : Nat} {v : Value} {xs : List Value} {w w' : World}
theorem OwR.start (h : w.ownsRow lo e size v n xs) : OwR lo w.heap.size e size v n xs w := ⟨h, fun k hk => (h.lt k hk).2⟩
theorem OwR.mono (h : OwR lo hi e size v n xs w) (h1 : lo' ≤ lo) (h2 : hi ≤ hi') : OwR lo' hi' e size v n xs w := ⟨own_mono h.1 h1, fun k hk => Nat.lt_of_lt_of_le (h.2 k hk) h2⟩
theorem OwR.keep (h : OwR lo hi e size v n xs w) (hk : ∀ k, lo ≤ k → k < hi → w'.heap[k]? = w.heap[k]?) : OwR lo hi e size v n xs w' := by
  refine ⟨⟨h.1.1, ?_⟩, h.2⟩
  rcases h.1.2 with hn | ⟨g, cap, cur, rfl, hb, hg, r⟩
  · exact .inl hn
  · exact .inr ⟨g, cap, cur, rfl, hb, by rw [hk g hb (h.2 g rfl)]; exact hg, r⟩
theorem OwR.loc (lo hi : Nat) (e : TypeId) (size : Nat) (v : Value) (n : Nat) (xs : List Value) : Loc lo hi (OwR lo hi e size v n xs) := fun w w' h hk => h.keep hk
theorem OwR.nil (lo hi : Nat) (e : TypeId) (size : Nat) (w : World) : OwR lo hi e size (.slice none 0 0) 0 [] w := ⟨World.ownsRow_nil _ _ _ _, fun k hk => by simp [Value.ownBlock] at hk⟩
theorem OwR.step (h : OwR lo hi e size v n xs w) (hb : Below w.heap.size w w') : OwR lo hi e size v n xs w' := by
  refine ⟨own_below h.1 hb, h.2⟩
end
section
variable {lo hi : Nat} {n c : Nat} {A : Option Addr} {ps : List Pt} {xs : List Int} {w : World}
theorem OwR.ints (h : OwR lo hi 3 1 (.slice A n c) n (xs.map (Value.int .i64)) w) : IS w hi A xs := by
  intro hn
  obtain ⟨b, off, rfl, _, hc⟩ := IS.of_own h.1 hn
  exact ⟨b, off, rfl, h.2 b rfl, hc⟩
end
end Go.Proofs.Ytjlfabfejnpaaaa

namespace Go.Proofs.Ytjlfabfejnpaaaa
set_option linter.unusedSimpArgs false
set_option linter.unusedVariables false
open Go.RowKit
/-- Of what was there when the law began nothing has turned. -/
def Bl (W wk : World) : Prop := Below W.heap.size W wk
theorem Bl.step {W wk wl : World} (h : Bl W wk) (hb : Below wk.heap.size wk wl) : Bl W wl := Below.trans h (hb.mono (Below.size h))
theorem Bl.alloc {W wk : World} (h : Bl W wk) (o : Obj) : Bl W (wk.alloc o) := h.step ((Below.refl _ _).alloc (Nat.le_refl _) o)
theorem Bl.refl (W : World) : Bl W W := Below.refl _ _
theorem Bl.le {W wk : World} (h : Bl W wk) : W.heap.size ≤ wk.heap.size := Below.size h
/-- A row of numbers of the call's own, in blocks lo to hi - 1. -/
theorem row_start {lo size n : Nat} {e : TypeId} {v : Value} {xs : List Value} {w : World} (h : w.ownsRow lo e size v n xs) : As lo w.heap.size (OwR lo w.heap.size e size v n xs) w := ⟨OwR.start h, Nat.le_refl _, OwR.loc _ _ _ _ _ _ _⟩
theorem As.ints {lo hi n c : Nat} {A : Option Addr} {xs : List Int} {w : World} (h : As lo hi (OwR lo hi 3 1 (.slice A n c) n (xs.map (Value.int .i64))) w) : IS w w.heap.size A xs := h.it.ints.more h.le
end Go.Proofs.Ytjlfabfejnpaaaa

namespace Go.Proofs.Ytjlfabfejnpaaaa
set_option linter.unusedSimpArgs false
set_option linter.unusedVariables false
open Go.ChangeShapes Go.WideShapes Go.ChangeAt Go.RowKit Go.Deep
theorem own : ownKnob Try.prog.godebug = none := by kernel_rfl
theorem laidOut : laidOutB Try.prog = true := by kernel_rfl
theorem cells_int : Try.prog.cellsOf 3 = 1 := by kernel_rfl
theorem add_of (b off n : Nat) : (⟨b, off, none⟩ : Addr).add n = ⟨b, off + n, none⟩ := by
  unfold Addr.add
  by_cases h : n = 0 <;> simp [h]
section
variable {H : Type} {enc : TypeId × Value → H} {w : World} {base : Nat} {spare : Nat → Bool} {held : Bool}
set_option maxRecDepth 100000 in
theorem open_list {r : Reach} {b0 : Nat} {v : Value} {d : DataW H} {p : List MemPlace} (hsp : ∀ b, spare b = true) (hv : Value.okWide Try.prog w r b0 22 v) (h : DataW.Trod enc Try.prog w base spare held 22 v d p) :
    ∃ (A : Option Addr) (n c : Nat) (xs : List Int), v = .slice A n c ∧ n = xs.length ∧ n ≤ 9223372036854775807 ∧ IS w w.heap.size A xs := by
  obtain ⟨a0, len0, cap0, rfl⟩ := okWide_slice Try.underlying22 hv
  obtain ⟨fuel, hf⟩ := h
  rcases open_ints Try.underlying22 Try.underlying3 cells_int hf with ⟨hcs, _⟩ | ⟨x, l, c, zs, hcs, _, hl, hm, hz, _, hcell, _⟩
  · simp [Value.cells] at hcs
    obtain ⟨rfl, rfl, rfl⟩ := hcs
    exact ⟨none, 0, 0, [], rfl, rfl, by omega, IS.nil _ _ _⟩
  · simp [Value.cells] at hcs
    obtain ⟨rfl, rfl, rfl⟩ := hcs
    have hzl : len0 ≤ zs.length := by rw [hz]; split <;> omega
    refine ⟨some x, len0, cap0, zs.take len0, rfl, by simp; omega, by unfold maxLen at hm; omega, fun hn => ?_⟩
    have hlen : (zs.take len0).length = len0 := by simp; omega
    have h0 := hcell 0 (by omega)
    obtain ⟨b, off, spot⟩ := x
    have hspot : spot = none := by
      have h1 : w.cell? ⟨b, off, spot⟩ = some (.int .i64 (zs.getD 0 0)) := by simpa [Addr.add] using h0
      exact World.cell?_spot h1
    subst hspot
    have hblk : b < w.heap.size := by
      have h1 : w.cell? ⟨b, off, none⟩ = some (.int .i64 (zs.getD 0 0)) := by simpa [Addr.add] using h0
      exact World.block_lt_of_cell? w _ h1
    refine ⟨b, off, rfl, hblk, fun j hj => ?_⟩
    have g := hcell j (by omega)
    rw [add_of] at g
    rw [g]
    congr 2
    simp only [List.getD, List.getElem?_take, if_pos (show j < len0 by omega)]
end
end Go.Proofs.Ytjlfabfejnpaaaa
