/- Words and contracts for memory that the texts behind use. -/
import Derived.Test.YtlbomopjldhmeaaB0a
import Derived.Test.YtlbomopjldhmeaaB1a
import Derived.Test.YtlbomopjldhmeaaB2a
import Derived.Test.YtlbomopjldhmeaaB3a
import Derived.Test.YtlbomopjldhmeaaB4a
import Derived.Test.YtlbomopjldhmeaaB5a
import Derived.WalkKit
import Derived.Laws.OwnMore
import Derived.Deep.Draws
import Derived.Test.YtlbomopjldhmeaaProg
import Derived.WalkSpells
import Derived.WalkLawsBesides
import Derived.Outline
import Derived.Lib.Hide
import Derived.BigQuiet
import Derived.Deep.QuietTactic
import Derived.StillTailTactics
import Derived.Deep.LoopGhost
import Derived.Laws.MakeOwn
import Derived.WalkSmall
import Derived.RegionTactic
import Derived.BigRegion
import Derived.Deep.RegionWith
import Derived.Deep.RegionHeld3
import Derived.Laws.Entries
import Derived.Laws.Bits64
import Derived.IntWalk
import Derived.Maps.AppendAt
import Derived.Deep.RegionLaw
import Derived.Deep.AppendLies
import Derived.Deep.Cut
import Derived.Deep.DeepCutAuto
import Derived.Laws.CopyOwn
import Derived.ArgAppend
import Derived.RangeFuncNested
import Derived.RangeFuncBound
import Derived.RangeFuncCalls
import Derived.RangeFuncLeaves
import Derived.RangeFuncBox
import Derived.Shelf.Abstract
import Derived.Shelf.RegionOpen
import Derived.OwnWalkIn
import Derived.TacticsInMore
import Derived.LoopNIn
import Derived.LoopIn
import Derived.Sort.QuietIn
import Derived.Sort.QuietTacIn
import Derived.RegionIn
import Derived.Sort.CutIn

namespace Go.Proofs.Ytlbomopjldhmeaa
set_option linter.unusedSimpArgs false
set_option linter.unusedVariables false
open Go.RowKit
/-- Returns a fresh slice of numbers. -/
def RetI (w : World) (xs : List Int) (e : Ending) (w' : World) : Prop := ∃ v, e = .returned v ∧ OwnI w' w.heap.size v xs ∧ Below w.heap.size w w'
end Go.Proofs.Ytlbomopjldhmeaa

namespace Go.Proofs.Ytlbomopjldhmeaa
set_option linter.unusedSimpArgs false
set_option linter.unusedVariables false
open Go.RowKit
theorem grown_setCell0 (w : World) (g j : Nat) (x : Value) : w.grownBy (w.setCell ⟨g, j, none⟩ x) (some g) :=
  ⟨rfl, rfl, rfl, by simp [World.setCell], fun k hk hr => Below.heap_setCell _ _ _ _ (by intro e; exact hr (by rw [e]))⟩
theorem Tch.of_below {a b : Nat} {w w' : World} (h : Below w.heap.size w w') : Tch a b w w' := ⟨h.os, h.tape, h.output, h.size, fun k hk _ => h.block k hk⟩
end Go.Proofs.Ytlbomopjldhmeaa

namespace Go.Proofs.Ytlbomopjldhmeaa
set_option linter.unusedSimpArgs false
set_option linter.unusedVariables false
open Go.RowKit
/-- The slice at A reads as the bytes bs; it lies below block B. -/
def BS (w : World) (B : Nat) (A : Option Addr) (bs : List Int) : Prop :=
  0 < bs.length → ∃ b off, A = some ⟨b, off, none⟩ ∧ b < B ∧ ∀ j, j < bs.length → w.cell? ⟨b, off + j, none⟩ = some (.int .u8 (bs.getD j 0))
theorem BS.keep {w w' : World} {B : Nat} {A : Option Addr} {xs : List Int} (h : BS w B A xs) (hk : ∀ p : Addr, p.block < B → w'.cell? p = w.cell? p) : BS w' B A xs := by
  intro hn
  obtain ⟨b, off, e, hb, hc⟩ := h hn
  exact ⟨b, off, e, hb, fun j hj => (hk _ hb).trans (hc j hj)⟩
theorem BS.more {w : World} {B B' : Nat} {A : Option Addr} {xs : List Int} (h : BS w B A xs) (hB : B ≤ B') : BS w B' A xs := by
  intro hn
  obtain ⟨b, off, e, hb, hc⟩ := h hn
  exact ⟨b, off, e, by omega, hc⟩
def BY (bs : List Int) : Prop := ∀ j, 0 ≤ bs.getD j 0 ∧ bs.getD j 0 ≤ 255
/-- The reader lies in block g; it has picked at most P times. -/
structure Rdr (g : Nat) (A : Option Addr) (n c : Nat) (bs : List Int) (P : Nat) (w : World) : Prop where
  lt : g < w.heap.size
  c0 : w.cell? ⟨g, 0, none⟩ = some (.slice A n c)
  pos : ∃ p : Nat, p ≤ P ∧ w.cell? ⟨g, 1, none⟩ = some (.int .i64 p)
  fz : w.frozen? ⟨g, 1, none⟩ = false
  by_ : BS w g A bs
section
variable {g : Nat} {A : Option Addr} {n c : Nat} {bs : List Int} {P P' : Nat} {w w' : World}
theorem Rdr.mono (h : Rdr g A n c bs P w) (hP : P ≤ P') : Rdr g A n c bs P' w := ⟨h.lt, h.c0, h.pos.imp fun p hp => ⟨Nat.le_trans hp.1 hP, hp.2⟩, h.fz, h.by_⟩
theorem Rdr.step (h : Rdr g A n c bs P w) (hb : Below w.heap.size w w') : Rdr g A n c bs P w' :=
  ⟨Nat.lt_of_lt_of_le h.lt hb.size, (hb.cell (p := ⟨g, 0, none⟩) h.lt).trans h.c0, h.pos.imp fun p hp => ⟨hp.1, (hb.cell (p := ⟨g, 1, none⟩) h.lt).trans hp.2⟩, (hb.frozen (p := ⟨g, 1, none⟩) h.lt).trans h.fz, h.by_.keep fun q hq => hb.cell (Nat.lt_trans hq h.lt)⟩
theorem Rdr.alloc (h : Rdr g A n c bs P w) (o : Obj) : Rdr g A n c bs P (w.alloc o) := h.step ((Below.refl _ _).alloc (Nat.le_refl _) o)
/-- Other blocks turned, none below g and not g. -/
theorem Rdr.turn {a b : Nat} (h : Rdr g A n c bs P w) (ht : Tch a b w w') (hg : g < a) : Rdr g A n c bs P w' :=
  ⟨Nat.lt_of_lt_of_le h.lt ht.size, (World.cell?_of_block (a := ⟨g, 0, none⟩) (ht.block g h.lt (.inl hg))).trans h.c0, h.pos.imp fun p hp => ⟨hp.1, (World.cell?_of_block (a := ⟨g, 1, none⟩) (ht.block g h.lt (.inl hg))).trans hp.2⟩, (World.frozen?_of_block (a := ⟨g, 1, none⟩) (ht.block g h.lt (.inl hg))).trans h.fz, h.by_.keep fun q hq => World.cell?_of_block (ht.block q.block (Nat.lt_trans hq h.lt) (.inl (Nat.lt_trans hq hg)))⟩
end
theorem bits_xor_i64_nat (a b : Nat) (ha : a < 4611686018427387904) (hb : b < 4611686018427387904) : bits .xor .i64 (a : Int) (b : Int) = ((a ^^^ b : Nat) : Int) := by
  have hx : a ^^^ b < 2 ^ 62 := Nat.xor_lt_two_pow (by omega) (by omega)
  have h1 : (BitVec.ofInt 64 (a : Int)).toNat = a := by
    rw [BitVec.ofInt_natCast, BitVec.toNat_ofNat]; exact Nat.mod_eq_of_lt (by omega)
  have h2 : (BitVec.ofInt 64 (b : Int)).toNat = b := by
    rw [BitVec.ofInt_natCast, BitVec.toNat_ofNat]; exact Nat.mod_eq_of_lt (by omega)
  show IntKind.i64.wrap ((BitVec.ofInt 64 (a : Int) ^^^ BitVec.ofInt 64 (b : Int)).toNat : Int) = _
  rw [BitVec.toNat_xor, h1, h2, IntKind.wrap_i64]
  omega
theorem drewN_below0 {B n : Nat} {a w : World} (h : Below B a w) : Below B a (w.drewN n) := ⟨h.os, h.tape, h.output, h.size, h.block⟩
/-- A number below n, if n is not 0; the reader has picked once more. -/
def PkP (g : Nat) (A : Option Addr) (n c : Nat) (bs : List Int) (P : Nat) (m : Int) (w : World) (e : Ending) (w' : World) : Prop :=
  ∃ x : Nat, e = .returned (.int .i64 x) ∧ (1 ≤ m → (x : Int) < m) ∧ (m < 1 → x = 0) ∧ Rdr g A n c bs (P + 1) w' ∧ Tch g (g + 1) w w'
theorem Rdr.picked {g : Nat} {A : Option Addr} {n c p P : Nat} {bs : List Int} {w : World} (h : Rdr g A n c bs P w) (hp : p ≤ P) (hc : w.cell? ⟨g, 1, none⟩ = some (.int .i64 p)) :
    Rdr g A n c bs (P + 1) (w.setCell ⟨g, 1, none⟩ (.int .i64 (p + 1))) ∧ Tch g (g + 1) w (w.setCell ⟨g, 1, none⟩ (.int .i64 (p + 1))) := by
  have hg := grown_setCell0 w g 1 (.int .i64 ((p : Int) + 1))
  refine ⟨⟨by simpa [World.setCell] using h.lt, ?_, ⟨p + 1, by omega, ?_⟩, by simpa using h.fz, ?_⟩, Tch.of_grown hg fun k hk => by cases hk; omega⟩
  · rw [World.cell?_setCell_other _ _ _ _ (by intro e; simp at e)]; exact h.c0
  · rw [World.cell?_setCell_same _ _ _ hc]; simp
  · exact h.by_.keep fun q hq => World.cell?_of_block (hg.block q.block (Nat.lt_trans hq h.lt) (by intro e; cases e; omega))
set_option maxRecDepth 100000 in
set_option maxHeartbeats 3200000 in
theorem pick_any (g : Nat) (A : Option Addr) (n c : Nat) (bs : List Int) (P : Nat) (m : Int) (w : World) (h : Rdr g A n c bs P w) (hn : n = bs.length) (hby : BY bs) (hs : n ≤ 2000) (hP : P ≤ 1000000) (hm : m ≤ 1000000) :
    Calls Try.prog 51 #[.pointer (some ⟨g, 0, none⟩), .int .i64 m] w fun e w' => PkP g A n c bs P m w e w' := by
  obtain ⟨p, hp, hc1⟩ := h.pos
  have hc0 := h.c0
  have hf := h.fz
  have HP := Lib.hid (h.picked hp hc1)
  have H := Lib.hid h
  have HN := Lib.hid hn
  have HBY := Lib.hid hby
  clear h hn hby
  by_cases hm1 : m < 1
  · go_enter Try.func51, Try.ntmps51
    go_wp2
    go_ret
    exact ⟨0, rfl, by omega, fun _ => rfl, HP.out.1, HP.out.2⟩
  by_cases hn0 : n = 0
  · have hz : ((n : Int) == 0) = true := by simp [hn0]
    clear hn0
    go_enter Try.func51, Try.ntmps51
    go_wp2
    go_ret
    exact ⟨0, rfl, by omega, fun _ => rfl, HP.out.1, HP.out.2⟩
  have hz : ((n : Int) == 0) = false := by simp; omega
  obtain ⟨b, off, rfl, hb, hcc⟩ := H.out.by_ (by have := HN.out; omega)
  have hbg : b < g := hb
  have hne : ¬ b = g := by omega
  by_cases hpn : p < n
  · have hx := hcc p (by have := HN.out; omega)
    have hy := HBY.out p
    generalize bs.getD p 0 = y at *
    clear hcc hn0
    go_enter Try.func51, Try.ntmps51
    go_wp2
    go_ret
    have hyn : y % m = ((y % m).toNat : Int) := by
      have := Int.emod_nonneg y (show m ≠ 0 by omega)
      omega
    refine ⟨(y % m).toNat, ret_i (by exact hyn), fun _ => ?_, fun h => by omega, HP.out.1, HP.out.2⟩
    rw [← hyn]
    exact Int.emod_lt_of_pos y (by omega)
  · have hn0' : 0 < n := by omega
    have hnp : p ≤ 1000000 := by omega
    have hq1 : p % n < n := Nat.mod_lt _ hn0'
    have hq2 : (p * 7 + 3) % n < n := Nat.mod_lt _ hn0'
    have hx1 := hcc (p % n) (by have := HN.out; omega)
    have hx2 := hcc ((p * 7 + 3) % n) (by have := HN.out; omega)
    have hy1 := HBY.out (p % n)
    have hy2 := HBY.out ((p * 7 + 3) % n)
    have hdv : p / n ≤ p := Nat.div_le_self _ _
    have e1 : (p : Int).tmod (n : Int) = ((p % n : Nat) : Int) := by rw [Int.tmod_eq_emod_of_nonneg (by omega)]; rfl
    have e6 : (p : Int).tdiv (n : Int) = ((p / n : Nat) : Int) := by rw [Int.tdiv_eq_ediv_of_nonneg (by omega)]; rfl
    have e4 : (((p * 7 + 3 : Nat)) : Int).tmod (n : Int) = (((p * 7 + 3) % n : Nat) : Int) := by rw [Int.tmod_eq_emod_of_nonneg (by omega)]; rfl
    generalize bs.getD (p % n) 0 = y1 at *
    generalize bs.getD ((p * 7 + 3) % n) 0 = y2 at *
    generalize p % n = q1 at *
    generalize (p * 7 + 3) % n = q2 at *
    generalize p / n = dv at *
    have w1 : IntKind.i64.wrap ((p : Int) * 7) = ((p * 7 : Nat) : Int) := by rw [IntWalk.i64_in _ (by omega)]; omega
    have w2 : IntKind.i64.wrap (((p * 7 : Nat) : Int) + 3) = ((p * 7 + 3 : Nat) : Int) := by rw [IntWalk.i64_in _ (by omega)]; omega
    obtain ⟨a1, ha1, hb1⟩ : ∃ a1 : Nat, IntKind.i64.wrap (y1 * 131) = (a1 : Int) ∧ a1 ≤ 40000 := ⟨(y1 * 131).toNat, by rw [IntWalk.i64_in _ (by omega)]; omega, by omega⟩
    obtain ⟨a2, ha2, hb2⟩ : ∃ a2 : Nat, IntKind.i64.wrap (y2 * 1117) = (a2 : Int) ∧ a2 ≤ 300000 := ⟨(y2 * 1117).toNat, by rw [IntWalk.i64_in _ (by omega)]; omega, by omega⟩
    obtain ⟨a3, ha3, hb3⟩ : ∃ a3 : Nat, IntKind.i64.wrap ((a1 : Int) + (a2 : Int)) = (a3 : Int) ∧ a3 ≤ 400000 := ⟨a1 + a2, by rw [IntWalk.i64_in _ (by omega)]; omega, by omega⟩
    obtain ⟨a4, ha4, hb4⟩ : ∃ a4 : Nat, IntKind.i64.wrap ((p : Int) * 29) = (a4 : Int) ∧ a4 ≤ 30000000 := ⟨p * 29, by rw [IntWalk.i64_in _ (by omega)]; omega, by omega⟩
    obtain ⟨a5, ha5, hb5⟩ : ∃ a5 : Nat, IntKind.i64.wrap ((a3 : Int) + (a4 : Int)) = (a5 : Int) ∧ a5 ≤ 31000000 := ⟨a3 + a4, by rw [IntWalk.i64_in _ (by omega)]; omega, by omega⟩
    have w3 : IntKind.i64.wrap (dv : Int) = (dv : Int) := IntWalk.i64_in _ (by omega)
    obtain ⟨a7, ha7, hb7⟩ : ∃ a7 : Nat, IntKind.i64.wrap ((dv : Int) * 53) = (a7 : Int) ∧ a7 ≤ 60000000 := ⟨dv * 53, by rw [IntWalk.i64_in _ (by omega)]; omega, by omega⟩
    obtain ⟨X, hX, hXb⟩ : ∃ X : Nat, IntKind.i64.wrap ((a5 : Int) + (a7 : Int)) = (X : Int) ∧ X ≤ 100000000 := ⟨a5 + a7, by rw [IntWalk.i64_in _ (by omega)]; omega, by omega⟩
    generalize p * 7 + 3 = p73 at *
    generalize p * 7 = p7 at *
    have hxor : bits .xor .i64 (X : Int) ((X : Int) / 64) = ((X ^^^ X / 64 : Nat) : Int) := bits_xor_i64_nat X (X / 64) (by omega) (by omega)
    have hxl : X ^^^ X / 64 < 2 ^ 62 := Nat.xor_lt_two_pow (by omega) (by omega)
    generalize X ^^^ X / 64 = Z at *
    have hzb : (Z : Int) ≤ 4611686018427387904 := by omega
    have hbw : b < w.heap.size := by have := H.out.lt; omega
    clear hcc hxl hdv hn0
    go_enter Try.func51, Try.ntmps51
    go_wp2
    go_quiet (fail)
    clear w1 w2 w3 ha1 ha2 ha3 ha4 ha5 ha7 hX e1 e6 e4
    go_wp2
    go_ret
    have hyn : (Z : Int) % m = (((Z : Int) % m).toNat : Int) := by
      have := Int.emod_nonneg (Z : Int) (show m ≠ 0 by omega)
      omega
    refine ⟨((Z : Int) % m).toNat, ret_i (by exact hyn), fun _ => ?_, fun h => by omega, ?_, ?_⟩
    · rw [← hyn]
      exact Int.emod_lt_of_pos _ (by omega)
    · exact HP.out.1.step (drewN_below0 (Below.refl _ _))
    · exact HP.out.2.trans (Tch.of_below (drewN_below0 (Below.refl _ _)))
/-- One of the numbers; the reader has picked once more. -/
def OneP (g : Nat) (A : Option Addr) (n c : Nat) (bs : List Int) (P : Nat) (xs : List Int) (w : World) (e : Ending) (w' : World) : Prop :=
  ∃ x : Int, e = .returned (.int .i64 x) ∧ x ∈ xs ∧ Rdr g A n c bs (P + 1) w' ∧ Tch g (g + 1) w w'
set_option maxHeartbeats 800000 in
theorem one_any (g : Nat) (A : Option Addr) (n c : Nat) (bs : List Int) (P : Nat) (b' off' l c' : Nat) (xs : List Int) (w : World) (h : Rdr g A n c bs P w) (hn : n = bs.length) (hby : BY bs) (hs : n ≤ 2000) (hP : P ≤ 1000000)
    (hl : l = xs.length) (hl1 : 1 ≤ l) (hl2 : l ≤ 1000) (hx : ∀ j, j < l → w.cell? ⟨b', off' + j, none⟩ = some (.int .i64 (xs.getD j 0))) (hne : b' ≠ g) (hbw : b' < w.heap.size) :
    Calls Try.prog 52 #[.pointer (some ⟨g, 0, none⟩), .slice (some ⟨b', off', none⟩) l c'] w fun e w' => OneP g A n c bs P xs w e w' := by
  have HPK := Lib.hid (pick_any g A n c bs P l w h hn hby hs hP (by omega))
  have HX := Lib.hid hx
  have HL := Lib.hid hl
  clear hx hl h hn
  go_enter Try.func52, Try.ntmps52
  go_wp2_with fail
  refine HPK.out.mono ?_
  rintro e w1 ⟨x, rfl, hxl, _, hr, ht⟩
  have hxl' : x < l := by have := hxl (by omega); omega
  have c1 := (World.cell?_of_block (a := ⟨b', off' + x, none⟩) (ht.block b' hbw (by omega))).trans (HX.out x hxl')
  have HR := Lib.hid hr
  have HT := Lib.hid ht
  have hmem : xs.getD x 0 ∈ xs := by
    have : x < xs.length := by have := HL.out; omega
    simp [List.getD, this]
  have HMEM := Lib.hid hmem
  clear hxl hr ht hmem
  generalize xs.getD x 0 = y at *
  go_wp2
  go_ret
  exact ⟨y, rfl, HMEM.out, HR.out, HT.out⟩
end Go.Proofs.Ytlbomopjldhmeaa

namespace Go.Proofs.Ytlbomopjldhmeaa
set_option linter.unusedSimpArgs false
set_option linter.unusedVariables false
open Go.RowKit
/-- The block of a row of one kind is not that of a row of another kind. -/
theorem blocks_ne {w : World} {b1 b2 : Nat} {e1 e2 : TypeId} {s1 s2 n1 n2 : Nat} {v u : Value} {xs ys : List Value} (h : w.ownsRow b1 e1 s1 v n1 xs) (h' : w.ownsRow b2 e2 s2 u n2 ys) (he : e1 ≠ e2) : v.ownBlock = none ∨ v.ownBlock ≠ u.ownBlock := by
  rcases h.2 with ⟨rfl, _⟩ | ⟨g, cap, cur, rfl, _, hh, _⟩
  · exact .inl rfl
  · right
    rcases h'.2 with ⟨rfl, _⟩ | ⟨g', cap', cur', rfl, _, hh', _⟩
    · simp [Value.ownBlock]
    · simp only [Value.ownBlock, ne_eq, Option.some.injEq]
      rintro rfl
      rw [hh] at hh'
      simp only [Option.some.injEq, Obj.cells.injEq] at hh'
      exact he hh'.2.1
end Go.Proofs.Ytlbomopjldhmeaa

namespace Go.Proofs.Ytlbomopjldhmeaa
set_option linter.unusedSimpArgs false
set_option linter.unusedVariables false
open Go.RowKit
/-- Of the blocks below s none but g has turned. -/
structure Frd (g s : Nat) (w w' : World) : Prop where
  os : w'.os = w.os
  tape : w'.tape = w.tape
  output : w'.output = w.output
  size : w.heap.size ≤ w'.heap.size
  block : ∀ k, k < s → k ≠ g → w'.heap[k]? = w.heap[k]?
section
variable {g s : Nat} {w w1 w' : World}
theorem Frd.refl (g s : Nat) (w : World) : Frd g s w w := ⟨rfl, rfl, rfl, Nat.le_refl _, fun _ _ _ => rfl⟩
theorem Frd.trans (h : Frd g s w w1) (k : Frd g s w1 w') : Frd g s w w' := ⟨k.os.trans h.os, k.tape.trans h.tape, k.output.trans h.output, Nat.le_trans h.size k.size, fun i a b => (k.block i a b).trans (h.block i a b)⟩
theorem Frd.of_tch (h : Tch g (g + 1) w w') (hs : s ≤ w.heap.size) : Frd g s w w' := ⟨h.os, h.tape, h.output, h.size, fun k a b => h.block k (by omega) (by omega)⟩
theorem Frd.of_below {C : Nat} (h : Below C w w') (hs : s ≤ C) : Frd g s w w' := ⟨h.os, h.tape, h.output, h.size, fun k a _ => h.block k (by omega)⟩
theorem Frd.tch (h : Frd g w.heap.size w w') : Tch g (g + 1) w w' := ⟨h.os, h.tape, h.output, h.size, fun k hk hr => h.block k hk (by omega)⟩
end
end Go.Proofs.Ytlbomopjldhmeaa

namespace Go.Proofs.Ytlbomopjldhmeaa
set_option linter.unusedSimpArgs false
set_option linter.unusedVariables false
open Go.RowKit
/-- Returns a fresh reader that has not picked yet. -/
def RdP (w : World) (e : Ending) (w' : World) : Prop :=
  ∃ (g : Nat) (A : Option Addr) (n c : Nat) (bs : List Int), e = .returned (.pointer (some ⟨g, 0, none⟩)) ∧ n = bs.length ∧ n ≤ 2000 ∧ BY bs ∧ Rdr g A n c bs 0 w' ∧ w.heap.size ≤ g ∧ Below w.heap.size w w'
theorem row_form {w : World} {base n size : Nat} {e : TypeId} {v : Value} {xs : List Value} (h : w.ownsRow base e size v n xs) : ∃ A c, v = .slice A n c := by
  rcases h.2 with ⟨rfl, rfl⟩ | ⟨g, cap, cur, rfl, _⟩
  · exact ⟨none, 0, rfl⟩
  · exact ⟨some ⟨g, 0, none⟩, cap, rfl⟩
theorem BY.take {bs : List Int} (h : BY bs) (k : Nat) : BY (bs.take k) := by
  intro j
  by_cases hj : j < k
  · have : (bs.take k).getD j 0 = bs.getD j 0 := by simp only [List.getD, List.getElem?_take, if_pos hj]
    rw [this]; exact h j
  · have : (bs.take k).getD j 0 = 0 := by simp only [List.getD, List.getElem?_take, if_neg hj]; rfl
    rw [this]; omega
theorem BS.take {w : World} {B : Nat} {A : Option Addr} {bs : List Int} (h : BS w B A bs) (k : Nat) : BS w B A (bs.take k) := by
  intro hn
  rw [List.length_take] at hn
  obtain ⟨b, off, e, hb, hc⟩ := h (by omega)
  refine ⟨b, off, e, hb, fun j hj => ?_⟩
  rw [List.length_take] at hj
  have : (bs.take k).getD j 0 = bs.getD j 0 := by simp only [List.getD, List.getElem?_take, if_pos (show j < k by omega)]
  rw [this]
  exact hc j (by omega)
set_option maxHeartbeats 800000 in
theorem spec_newReader (A : Option Addr) (n c : Nat) (bs : List Int) (w : World) (B : Nat) (hB : B ≤ w.heap.size) (hn : n = bs.length) (hnc : n ≤ c) (h : BS w B A bs) (hy : BY bs) (hs : n ≤ 1048576) :
    Calls Try.prog 43 #[.slice A n c] w fun e w' => RdP w e w' := by
  by_cases h2 : 2000 < n
  · have h3 : 2000 ≤ c := by omega
    obtain ⟨b, off, rfl, hb, hc⟩ := h (by omega)
    have H := Lib.hid (BS.take (w := w) (B := B) (A := some ⟨b, off, none⟩) (bs := bs) (fun _ => ⟨b, off, rfl, hb, hc⟩) 2000)
    have HY := Lib.hid (hy.take 2000)
    have HL : Hid ((bs.take 2000).length = 2000) := by show _ = _; rw [List.length_take]; omega
    generalize bs.take 2000 = ds at *
    clear h hy hn hc
    go_enter Try.func43, Try.ntmps43
    go_wp2
    go_ret
    refine ⟨w.heap.size, some ⟨b, off, none⟩, 2000, c, ds, rfl, HL.out.symm, by omega, HY.out, ⟨by simp, by go_simp, ⟨0, Nat.le_refl _, by go_simp⟩, by go_simp, ?_⟩, ?_, ?_⟩
    · exact (H.out.keep fun p hp => World.cell?_alloc_lt w _ p (by omega)).more hB
    · exact Nat.le_refl _
    · exact (Below.refl _ _).alloc (Nat.le_refl _) _
  · have H := Lib.hid h
    have HN := Lib.hid hn
    clear h hn
    go_enter Try.func43, Try.ntmps43
    go_wp2
    go_ret
    refine ⟨w.heap.size, A, n, c, bs, rfl, HN.out, by omega, hy, ⟨by simp, by go_simp, ⟨0, Nat.le_refl _, by go_simp⟩, by go_simp, ?_⟩, ?_, ?_⟩
    · exact (H.out.keep fun p hp => World.cell?_alloc_lt w _ p (by omega)).more hB
    · exact Nat.le_refl _
    · exact (Below.refl _ _).alloc (Nat.le_refl _) _
end Go.Proofs.Ytlbomopjldhmeaa

namespace Go.Proofs.Ytlbomopjldhmeaa
set_option linter.unusedSimpArgs false
set_option linter.unusedVariables false
open Go.RowKit
/-- Returns a list of at most M numbers in a fresh block; the reader goes on. -/
def KyP (g : Nat) (A : Option Addr) (n c : Nat) (bs : List Int) (Q M : Nat) (w : World) (e : Ending) (w' : World) : Prop :=
  ∃ (v : Value) (l : Nat) (xs : List Int), e = .returned v ∧ l = xs.length ∧ l ≤ M ∧ OwR w.heap.size w'.heap.size 3 1 v l (xs.map (Value.int .i64)) w' ∧ Rdr g A n c bs Q w' ∧ Frd g w.heap.size w w'
set_option maxRecDepth 100000 in
set_option maxHeartbeats 6400000 in
theorem goodKeys_any (g : Nat) (A : Option Addr) (n c : Nat) (bs : List Int) (P : Nat) (w : World) (h : Rdr g A n c bs P w) (hn : n = bs.length) (hby : BY bs) (hs : n ≤ 2000) (hP : P ≤ 600000) :
    Calls Try.prog 78 #[.pointer (some ⟨g, 0, none⟩)] w fun e w' => KyP g A n c bs (P + 11) 10 w e w' := by
  obtain ⟨i0, hi, hz0, hz1, hz2⟩ := info_parts info_int
  have hgw := h.lt
  have HN := Lib.hid hn
  have HR0 := Lib.hid ((h.alloc (.cells #[] 3)).alloc (.cells #[.int .i64 5, .int .i64 4, .int .i64 6, .int .i64 3, .int .i64 8, .int .i64 10, .int .i64 1, .int .i64 0] 3))
  have hrow0 := World.ownsRow_lit (e := 3) (size := 1) (base := w.heap.size) w #[] 0 (Nat.le_refl _) (by unfold maxLen; omega) (by simp)
  have HROW := Lib.hid (OwR.start (hrow0.alloc (.cells #[.int .i64 5, .int .i64 4, .int .i64 6, .int .i64 3, .int .i64 8, .int .i64 10, .int .i64 1, .int .i64 0] 3)))
  have HF0 := Lib.hid (Frd.of_below (g := g) (s := w.heap.size) (((Below.refl w.heap.size w).alloc (Nat.le_refl _) (.cells #[] 3)).alloc (by simp) (.cells #[.int .i64 5, .int .i64 4, .int .i64 6, .int .i64 3, .int .i64 8, .int .i64 10, .int .i64 1, .int .i64 0] 3)) (Nat.le_refl _))
  clear h hn hrow0
  go_enter Try.func78, Try.ntmps78
  go_wp2_with fail
  refine (one_any g A n c bs P (w.heap.size + 1) 0 8 8 [5, 4, 6, 3, 8, 10, 1, 0] _ HR0.out HN.out hby hs (by omega) rfl (by omega) (by omega) ?_ (by omega) (by simp)).mono ?_
  · intro j hj
    have : j = 0 ∨ j = 1 ∨ j = 2 ∨ j = 3 ∨ j = 4 ∨ j = 5 ∨ j = 6 ∨ j = 7 := by omega
    rcases this with rfl | rfl | rfl | rfl | rfl | rfl | rfl | rfl <;> go_simp
  rintro e w4 ⟨x, rfl, hxm, hr4, ht4⟩
  obtain ⟨N, rfl, hN10⟩ : ∃ N : Nat, x = (N : Int) ∧ N ≤ 10 := by
    simp only [List.mem_cons, List.not_mem_nil, or_false] at hxm
    exact ⟨x.toNat, by omega, by omega⟩
  have hs4 : w.heap.size + 2 ≤ w4.heap.size := by have := ht4.size; simpa using this
  have HR4 := Lib.hid hr4
  have HF4 := Lib.hid (HF0.out.trans (Frd.of_tch ht4 (by simp; omega)))
  have HO4 : Hid (OwR w.heap.size w4.heap.size 3 1 (.slice (some ⟨w.heap.size, 0, none⟩) 0 0) 0 [] w4) := by
    have h0 := (HROW.out.keep (w' := w4) fun k hk hk' => ht4.block k (by simpa using hk') (.inr (by omega))).mono (Nat.le_refl _) (show _ ≤ w4.heap.size by have := ht4.size; simpa using this)
    simpa [Hid] using h0
  clear hxm hr4 ht4 HR0 HF0 HROW
  go_wp2
  go_loopw [3, 4] (fun v u wr => ∃ (i m l : Nat) (xs : List Int), i + m = N ∧ u = .int .i64 m ∧ l ≤ i ∧ Hid (l = xs.length) ∧ Hid (OwR w.heap.size wr.heap.size 3 1 v l (xs.map (Value.int .i64)) wr) ∧ Hid (Rdr g A n c bs (P + 1 + i) wr) ∧ Hid (Frd g w.heap.size w wr) ∧ w.heap.size + 2 ≤ wr.heap.size) (fun _ u _ => (intOf u).toNat)
  case atStart => exact ⟨0, N, 0, [], by omega, rfl, Nat.le_refl _, rfl, HO4.out, HR4.out.mono (by omega), HF4.out, hs4⟩
  case round =>
    obtain ⟨i, m, l, xs, him, rfl, hli, HL, HO, HR, HF, hwr⟩ := hrel
    obtain ⟨Av, cv, rfl⟩ := row_form HO.out.1
    clear HO4 HR4 HF4 hs4
    by_cases hm : 0 < m
    · go_wp2_with fail
      refine (pick_any g A n c bs (P + 1 + i) 12 _ HR.out HN.out hby hs (by omega) (by omega)).mono ?_
      rintro e w5 ⟨z, rfl, _, _, hr5, ht5⟩
      have hs5 := ht5.size
      have HR5 := Lib.hid hr5
      have HF5 := Lib.hid (HF.out.trans (Frd.of_tch ht5 (by omega)))
      have HO5 := Lib.hid ((HO.out.keep (w' := w5) fun q hq hq' => ht5.block q hq' (.inr (by omega))).mono (Nat.le_refl _) hs5)
      have HPL := Lib.hid (spec_placeIn Av l cv xs (z : Int) w5 w5.heap.size (Nat.le_refl _) HL.out HO5.out.ints (by omega))
      clear hr5 ht5 HR HF HO
      go_wp2_with fail
      refine HPL.out.mono ?_
      rintro e w6 ⟨rfl, rfl⟩
      clear HPL
      generalize plc xs z = p at *
      by_cases hp : p < 0
      · have HR6 := Lib.hid (HR5.out.alloc (.cells #[.int .i64 z] 3))
        have HF6 := Lib.hid (HF5.out.trans (Frd.of_below (w' := w5.alloc (.cells #[.int .i64 z] 3)) ((Below.refl w5.heap.size _).alloc (Nat.le_refl _) _) (by omega)))
        clear HR5 HF5
        go_wp2_with (at_builtin; refine wpList_append_own _ rfl _ _ 22 rfl w.heap.size 3 i0 (.int .i64 0) 1 8 Try.underlying22 hi hz0 hz1 hz2 rfl (by decide) _ _ _ rfl (HO5.out.1.alloc _) ⟨_, 0, none⟩ 1 1 [.int .i64 z] rfl rfl (cell_one_new _ _ _) ?c2 ?c3 ?c4 ?c5 ?_)
        case c2 => first | rfl | (intro u hu; simp at hu; subst hu; rfl)
        case c3 => unfold maxLen; omega
        case c4 => omega
        case c5 => first | omega | (simp; omega)
        intro v9 w9 hown9 hgrow9 _
        have hpos := (HO5.out.1.alloc (.cells #[.int .i64 z] 3)).lt
        have hb9 : Below w.heap.size (w5.alloc (.cells #[.int .i64 z] 3)) w9 := (Below.refl _ _).grown hgrow9 (by simp; omega) (fun q hq => (hpos q hq).1)
        have ht9 : Tch w.heap.size (w5.heap.size + 1) (w5.alloc (.cells #[.int .i64 z] 3)) w9 := Tch.of_grown hgrow9 fun q hq => by have := hpos q hq; simp at this; omega
        have hz9 := ht9.size
        simp only [World.size_alloc] at hz9
        have HR9 := Lib.hid (HR6.out.turn ht9 (by omega))
        have HF9 := Lib.hid (HF6.out.trans (Frd.of_below hb9 (Nat.le_refl _)))
        have HO9 : Hid (OwR w.heap.size w9.heap.size 3 1 v9 (l + 1) ((xs ++ [(z : Int)]).map (Value.int .i64)) w9) := ⟨by simpa using hown9, fun q hq => (hown9.lt q hq).2⟩
        clear hown9 hgrow9 hpos hb9 ht9 HO5
        go_wp2
        go_roundw
        case rel => exact ⟨i + 1, m - 1, l + 1, xs ++ [(z : Int)], by omega, by go_num, by omega, by rw [List.length_append, ← HL.out]; rfl, HO9.out, HR9.out.mono (by omega), HF9.out, by omega⟩
        case measure => simp [intOf]; omega
      · go_wp2
        go_roundw
        case rel => exact ⟨i + 1, m - 1, l, xs, by omega, by go_num, by omega, HL.out, HO5.out, HR5.out.mono (by omega), HF5.out, by omega⟩
        case measure => simp [intOf]; omega
    · obtain rfl : m = 0 := by omega
      go_wp2
      go_ret
      exact ⟨_, l, xs, rfl, HL.out, by omega, HO.out, HR.out.mono (by omega), HF.out⟩
end Go.Proofs.Ytlbomopjldhmeaa

namespace Go.Proofs.Ytlbomopjldhmeaa
set_option linter.unusedSimpArgs false
set_option linter.unusedVariables false
open Go.RowKit
theorem Rdr.drew {g n c P : Nat} {A : Option Addr} {bs : List Int} {w : World} (h : Rdr g A n c bs P w) : Rdr g A n c bs P w.drew := ⟨h.lt, h.c0, h.pos, h.fz, h.by_⟩
end Go.Proofs.Ytlbomopjldhmeaa

namespace Go.Proofs.Ytlbomopjldhmeaa
set_option linter.unusedSimpArgs false
set_option linter.unusedVariables false
open Go.RowKit
theorem Tch.of_below' {C : Nat} {w w' : World} (h : Below C w w') : Tch C w'.heap.size w w' := ⟨h.os, h.tape, h.output, h.size, fun k hk hr => h.block k (by have := h.size; omega)⟩
end Go.Proofs.Ytlbomopjldhmeaa

namespace Go.Proofs.Ytlbomopjldhmeaa
set_option linter.unusedSimpArgs false
set_option linter.unusedVariables false
open Go.RowKit
theorem RetI.mono {w w0 w' : World} {xs : List Int} {e : Ending} (h : RetI w xs e w') (hb : Below w0.heap.size w0 w) : RetI w0 xs e w' := by
  obtain ⟨v, he, ho, hb'⟩ := h
  exact ⟨v, he, own_mono ho hb.size, hb.trans (hb'.mono hb.size)⟩
theorem RetI.nil {w w' : World} (hb : Below w.heap.size w w') : RetI w [] (.returned (.slice none 0 0)) w' := ⟨_, rfl, World.ownsRow_nil _ _ _ _, hb⟩
end Go.Proofs.Ytlbomopjldhmeaa

namespace Go.Proofs.Ytlbomopjldhmeaa
set_option linter.unusedSimpArgs false
set_option linter.unusedVariables false
open Go.RowKit
/-- A row of another kind was written to. -/
theorem SSk.grown {lo hi : Nat} {vs : List Value} {lens : Nat → Nat} {cont : Nat → List Value} {w w' : World} {row : Option Nat} (h : SSk lo hi vs lens cont w) (hg : w.grownBy w' row) (hr : ∀ (j : Nat) (v : Value), vs[j]? = some v → v.ownBlock = none ∨ v.ownBlock ≠ row) : SSk lo hi vs lens cont w' :=
  ⟨fun j hj => by obtain ⟨A, m, c, h1, h2, h3⟩ := h.row j hj; exact ⟨A, m, c, h1, h2, h3.1.kept hg (hr j _ h1), h3.2⟩, h.apart⟩
end Go.Proofs.Ytlbomopjldhmeaa

namespace Go.Proofs.Ytlbomopjldhmeaa
set_option linter.unusedSimpArgs false
set_option linter.unusedVariables false
open Go.RowKit
set_option maxRecDepth 100000 in
set_option maxHeartbeats 6400000 in
theorem someKeys_any (g : Nat) (A : Option Addr) (n c : Nat) (bs : List Int) (P : Nat) (w : World) (h : Rdr g A n c bs P w) (hn : n = bs.length) (hby : BY bs) (hs : n ≤ 2000) (hP : P ≤ 500000) :
    Calls Try.prog 63 #[.pointer (some ⟨g, 0, none⟩)] w fun e w' => KyP g A n c bs (P + 13) 11 w e w' := by
  obtain ⟨i0, hi, hz0, hz1, hz2⟩ := info_parts info_int
  have hgw := h.lt
  have HN := Lib.hid hn
  have HC := Lib.hid (goodKeys_any g A n c bs P w h hn hby hs (by omega))
  clear h hn
  go_enter Try.func63, Try.ntmps63
  go_wp2_with fail
  refine HC.out.mono ?_
  rintro e w1 ⟨v1, l, xs, rfl, hl, hlM, ho, hr, hf⟩
  obtain ⟨Av, cv, rfl⟩ := row_form ho.1
  have hs1 := hf.size
  have HL := Lib.hid hl
  have HO1 := Lib.hid ho
  have HR1 := Lib.hid hr
  have HF1 := Lib.hid hf
  clear hl ho hr hf HC
  by_cases h0 : 0 < l
  case neg =>
    obtain rfl : l = 0 := by omega
    go_wp2
    go_ret
    exact ⟨_, 0, xs, rfl, HL.out, by omega, HO1.out, HR1.out.mono (by omega), HF1.out⟩
  go_wp2_with fail
  refine (pick_any g A n c bs (P + 11) 24 _ HR1.out HN.out hby hs (by omega) (by omega)).mono ?_
  rintro e w5 ⟨y, rfl, _, _, hr5, ht5⟩
  have hs5 := ht5.size
  have HR5 := Lib.hid hr5
  have HF5 := Lib.hid (HF1.out.trans (Frd.of_tch ht5 (by omega)))
  have HO5 := Lib.hid ((HO1.out.keep (w' := w5) fun q hq hq' => ht5.block q hq' (.inr (by omega))).mono (Nat.le_refl _) hs5)
  clear hr5 ht5 HR1 HF1 HO1
  obtain ⟨go, co, hv⟩ := row_form2 HO5.out.1 (by omega)
  cases hv
  have hgo := (HO5.out.1.lt go rfl).1
  have hgo5 := HO5.out.2 go rfl
  by_cases hy0 : y = 0
  · have hy0' : ((y : Int) == 0) = true := by simp [hy0]
    clear hy0
    have u0 := HO5.out.1.cellAt 0 (by omega)
    obtain ⟨z0, hz⟩ : ∃ z0, (xs.map (Value.int .i64))[0]? = some (.int .i64 z0) := ⟨xs[0]'(by rw [← HL.out]; exact h0), by rw [List.getElem?_map, List.getElem?_eq_getElem (by rw [← HL.out]; exact h0)]; rfl⟩
    rw [hz] at u0
    clear hz
    have HR6 := Lib.hid (HR5.out.alloc (.cells #[.int .i64 z0] 3))
    have HF6 := Lib.hid (HF5.out.trans (Frd.of_below (w' := w5.alloc (.cells #[.int .i64 z0] 3)) ((Below.refl w5.heap.size _).alloc (Nat.le_refl _) _) (by omega)))
    clear HR5 HF5
    go_wp2_with (at_builtin; refine wpList_append_own _ rfl _ _ 22 rfl w.heap.size 3 i0 (.int .i64 0) 1 8 Try.underlying22 hi hz0 hz1 hz2 rfl (by decide) _ _ _ rfl (HO5.out.1.alloc _) ⟨_, 0, none⟩ 1 1 [.int .i64 z0] rfl rfl (cell_one_new _ _ _) ?c2 ?c3 ?c4 ?c5 ?_)
    case c2 => first | rfl | (intro u hu; simp at hu; subst hu; rfl)
    case c3 => unfold maxLen; omega
    case c4 => omega
    case c5 => first | omega | (simp; omega)
    intro v9 w9 hown9 hgrow9 _
    have hpos := (HO5.out.1.alloc (.cells #[.int .i64 z0] 3)).lt
    have hb9 : Below w.heap.size (w5.alloc (.cells #[.int .i64 z0] 3)) w9 := (Below.refl _ _).grown hgrow9 (by simp; omega) (fun q hq => (hpos q hq).1)
    have ht9 : Tch w.heap.size (w5.heap.size + 1) (w5.alloc (.cells #[.int .i64 z0] 3)) w9 := Tch.of_grown hgrow9 fun q hq => by have := hpos q hq; simp at this; omega
    have hz9 := ht9.size
    simp only [World.size_alloc] at hz9
    have HR9 := Lib.hid (HR6.out.turn ht9 (by omega))
    have HF9 := Lib.hid (HF6.out.trans (Frd.of_below hb9 (Nat.le_refl _)))
    have HO9 : Hid (OwR w.heap.size w9.heap.size 3 1 v9 (l + 1) ((xs ++ [z0]).map (Value.int .i64)) w9) := ⟨by simpa using hown9, fun q hq => (hown9.lt q hq).2⟩
    clear hown9 hgrow9 hpos hb9 ht9 HO5
    go_wp2
    go_ret
    exact ⟨_, l + 1, xs ++ [z0], rfl, by rw [List.length_append, ← HL.out]; rfl, by omega, HO9.out, HR9.out.mono (by omega), HF9.out⟩
  have hy0' : ((y : Int) == 0) = false := by simp; omega
  clear hy0
  by_cases hy1 : y = 1
  case neg =>
    have hy1' : ((y : Int) == 1) = false := by simp; omega
    clear hy1
    go_wp2
    go_ret
    exact ⟨_, l, xs, rfl, HL.out, by omega, HO5.out, HR5.out.mono (by omega), HF5.out⟩
  have hy1' : ((y : Int) == 1) = true := by simp [hy1]
  clear hy1
  have HR6 := Lib.hid (HR5.out.alloc (.cells #[.int .i64 (-1), .int .i64 31] 3))
  have HF6 := Lib.hid (HF5.out.trans (Frd.of_below (w' := w5.alloc (.cells #[.int .i64 (-1), .int .i64 31] 3)) ((Below.refl w5.heap.size _).alloc (Nat.le_refl _) _) (by omega)))
  have HO6 := Lib.hid (HO5.out.keep (w' := w5.alloc (.cells #[.int .i64 (-1), .int .i64 31] 3)) fun q hq hq' => Below.heap_alloc _ _ _ (by omega))
  clear HR5 HF5 HO5
  have hgx : g < w5.heap.size := by omega
  go_wp2_with fail
  refine (one_any g A n c bs (P + 12) w5.heap.size 0 2 2 [-1, 31] _ (HR6.out.mono (by omega)) HN.out hby hs (by omega) rfl (by omega) (by omega) ?_ (by omega) (by simp)).mono ?_
  · intro j hj
    have : j = 0 ∨ j = 1 := by omega
    rcases this with rfl | rfl <;> go_simp
  rintro e w6 ⟨z, rfl, _, hr6, ht6⟩
  have hs6 : w5.heap.size + 1 ≤ w6.heap.size := by have := ht6.size; simpa using this
  have HT := Lib.hid (Tch.of_grown (a := go) (b := go + 1) (grown_setCell0 w6 go 0 (.int .i64 z)) fun k hk => by cases hk; exact ⟨Nat.le_refl _, Nat.lt_succ_self _⟩)
  have HF7 := Lib.hid ((HF6.out.trans (Frd.of_tch ht6 (by simp; omega))).trans (Frd.of_below (HT.out.below (B := w.heap.size) (by omega) (by omega)) (Nat.le_refl _)))
  have HR7 := Lib.hid ((Lib.hid hr6).out.turn HT.out (by omega))
  have HO7 := Lib.hid (HO6.out.keep (w' := w6) fun q hq hq' => ht6.block q (by simp; omega) (.inr (by omega)))
  have u0 := HO7.out.1.cellAt 0 (by omega)
  rw [List.getElem?_eq_getElem (by rw [List.length_map, ← HL.out]; omega)] at u0
  have f0 := HO7.out.1.frozenAt 0
  have hst := (HO7.out.1.stored 0 (.int .i64 z)).1
  rw [← List.map_set] at hst
  have HST := Lib.hid hst
  generalize (xs.map (Value.int .i64))[0]'_ = vv at u0
  clear hr6 ht6 hst HR6 HF6 HO6
  go_wp2
  go_ret
  have hsz : (w6.setCell ⟨go, 0, none⟩ (.int .i64 z)).heap.size = w6.heap.size := by simp [World.setCell]
  exact ⟨_, l, xs.set 0 z, rfl, by rw [List.length_set]; exact HL.out, by omega, ⟨HST.out, fun k hk => by have := HO7.out.2 k hk; rw [hsz]; omega⟩, HR7.out.mono (by omega), HF7.out⟩
end Go.Proofs.Ytlbomopjldhmeaa

namespace Go.Proofs.Ytlbomopjldhmeaa
set_option linter.unusedSimpArgs false
set_option linter.unusedVariables false
open Go.RowKit
theorem wpList_app_cm (w : World) {ops : Array Oper} {rest : List Oper} {o : Oper} {a : Act} {Q : Exit → Act → World → Prop} (hgd : o.guard = none) (s x : Operand)
    (ho : o.op = .call { callee := .builtin .append, args := #[s, x], argTypes := #[22, 22] })
    {d0 b off l c : Nat} {ys : List Int} (hs : a.eval s = .slice (some ⟨b, off, none⟩) l c) (hc : Cm d0 b off l c ys w) (hl : l ≤ 1000) (z : Int) (ad : Addr) (cx : Nat) (hx : a.eval x = .slice (some ad) 1 cx) (hz : w.cell? ad = some (.int .i64 z))
    (h : ∀ A' c' w', l + 1 ≤ c' → IS w' w'.heap.size A' (ys ++ [z]) → Below d0 w w' → wpList Try.prog ops Q rest (a.put o.dst (.slice A' (l + 1) c')) w') :
    wpList Try.prog ops Q (o :: rest) a w := by
  obtain ⟨i0, hi, hz0, hz1, hz2⟩ := info_parts info_int
  have hlen := hc.len
  have hwl := hc.hi
  have hd := hc.lo
  refine wpList_append_arg w hgd s x 22 ho 3 i0 (.int .i64 0) 1 8 Try.underlying22 hi hz0 hz1 hz2 rfl (by decide) b off l c (ys.map (Value.int .i64)) hs (by simp; omega) ?_ ad 1 cx [.int .i64 z] hx rfl ?_ (by intro u hu; simp at hu; subst hu; rfl) ?_ (by unfold maxLen; omega) (by omega) ?_ ?_
  · intro j u hj
    rw [List.getElem?_map, Option.map_eq_some_iff] at hj
    obtain ⟨y, hy, rfl⟩ := hj
    have hlt := (List.getElem?_eq_some_iff.1 hy).1
    rw [hc.cells j (by omega)]
    simp [List.getD, hy]
  · intro j u hj
    match j, hj with
    | 0, hj => simp at hj; subst hj; simpa [Addr.add] using hz
  · intro hr j hj
    simp at hj
    subst hj
    simpa using hc.spare l (Nat.le_refl _) (by omega)
  · intro hr
    have hsp := (hc.spare l (Nat.le_refl _) (by omega)).1
    obtain ⟨u, hu⟩ := Option.isSome_iff_exists.1 hsp
    have e : w.setCells b (off + l * 1) [.int .i64 z] = w.setCell ⟨b, off + l, none⟩ (.int .i64 z) := by rw [Nat.mul_one]; rfl
    rw [e]
    refine h (some ⟨b, off, none⟩) c _ (by omega) (fun _ => ⟨b, off, rfl, by simpa [World.setCell] using hwl, fun j hj => ?_⟩) ((Below.refl d0 w).setCell (p := ⟨b, off + l, none⟩) hd _)
    rw [List.length_append] at hj
    simp at hj
    by_cases hjl : j = l
    · subst hjl
      rw [World.cell?_setCell_same _ _ _ hu]
      simp [List.getD, hlen]
    · rw [World.cell?_setCell_other _ _ _ _ (by intro e; have := congrArg Addr.off e; simp at this; omega), hc.cells j (by omega)]
      simp [List.getD, List.getElem?_append_left (show j < ys.length by omega)]
  · intro hg v' w' hown hgr
    have hown' : w'.ownsRow w.heap.size 3 1 v' (l + 1) ((ys ++ [z]).map (Value.int .i64)) := by simpa using hown
    obtain ⟨A', c', rfl⟩ := row_form hown'
    refine h A' c' w' (own_ncap hown') (OwR.start hown').ints ⟨hgr.os, hgr.tape, hgr.output, hgr.size, fun k hk => hgr.block k (by omega) (by simp)⟩
set_option maxRecDepth 100000 in
set_option maxHeartbeats 3200000 in
theorem spec_reversed (A : Option Addr) (n c : Nat) (xs : List Int) (w : World) (B : Nat) (hB : B ≤ w.heap.size) (hn : n = xs.length) (h : IS w B A xs) (hs : n ≤ 1000) :
    Calls Try.prog 64 #[.slice A n c] w fun e w' => ∃ (g cap : Nat) (ys : List Int), e = .returned (.slice (some ⟨g, 0, none⟩) n cap) ∧ n = ys.length ∧ w'.ownsRow w.heap.size 3 1 (.slice (some ⟨g, 0, none⟩) n cap) n (ys.map (Value.int .i64)) ∧ Below w.heap.size w w' := by
  obtain ⟨i0, hi, hz0, hz1, hz2⟩ := info_parts info_int
  have HN := Lib.hid hn
  have H := Lib.hid h
  have HROW := Lib.hid (World.ownsRow_lit (e := 3) (size := 1) (base := w.heap.size) w #[] 0 (Nat.le_refl _) (by unfold maxLen; omega) (by simp))
  have HB0 := Lib.hid ((Below.refl w.heap.size w).alloc (Nat.le_refl _) (.cells #[] 3))
  obtain ⟨y0, hy0⟩ : ∃ y0 : Int, y0 = (n : Int) - 1 := ⟨_, rfl⟩
  have hwy : IntKind.i64.wrap ((n : Int) - 1) = y0 := by rw [IntKind.wrap_i64]; omega
  clear hn h
  go_enter Try.func64, Try.ntmps64
  go_wp2
  go_loopw [3, 4] (fun v u wr => ∃ (k : Nat) (y : Int) (ys : List Int) (g cap : Nat), k ≤ n ∧ y = (k : Int) - 1 ∧ u = .int .i64 y ∧ ys.length = n - k ∧ v = .slice (some ⟨g, 0, none⟩) (n - k) cap ∧ Hid (wr.ownsRow w.heap.size 3 1 (.slice (some ⟨g, 0, none⟩) (n - k) cap) (n - k) (ys.map (Value.int .i64))) ∧ Hid (Below w.heap.size w wr)) (fun _ u _ => (intOf u + 1).toNat)
  case atStart => exact ⟨n, (n : Int) - 1, [], w.heap.size, 0, Nat.le_refl _, rfl, rfl, by simp, by simp, by simpa [Hid] using HROW.out, HB0.out⟩
  case round =>
    obtain ⟨k, y, ys, g, cap, hk, hyk, rfl, hyl, rfl, HO, HB⟩ := hrel
    by_cases hk0 : 0 < k
    · obtain ⟨q, rfl⟩ : ∃ q, k = q + 1 := ⟨k - 1, by omega⟩
      obtain rfl : y = (q : Int) := by omega
      clear hyk hk0
      obtain ⟨b, off, rfl, hbB, hc⟩ := H.out (by have := HN.out; omega)
      have hbw : b < wr.heap.size := by have := HB.out.size; omega
      have c0 := (HB.out.cell (p := ⟨b, off + q, none⟩) (by show b < w.heap.size; omega)).trans (hc q (by have := HN.out; omega))
      generalize xs.getD q 0 = z at c0
      obtain ⟨y1, hy1⟩ : ∃ y1 : Int, y1 = (q : Int) - 1 := ⟨_, rfl⟩
      have hwq : IntKind.i64.wrap ((q : Int) - 1) = y1 := by rw [IntKind.wrap_i64]; omega
      go_wp2_with (at_builtin; refine wpList_append_own _ rfl _ _ 22 rfl w.heap.size 3 i0 (.int .i64 0) 1 8 Try.underlying22 hi hz0 hz1 hz2 rfl (by decide) _ _ _ rfl (HO.out.alloc _) ⟨_, 0, none⟩ 1 1 [.int .i64 z] rfl rfl (cell_one_new _ _ _) ?c2 ?c3 ?c4 ?c5 ?_)
      case c2 => first | rfl | (intro u hu; simp at hu; subst hu; rfl)
      case c3 => unfold maxLen; omega
      case c4 => omega
      case c5 => have := HB.out.size; first | omega | (simp; omega)
      intro v9 w9 hown9 hgrow9 _
      have hpos := (HO.out.alloc (.cells #[.int .i64 z] 3)).lt
      have hb9 : Below w.heap.size (wr.alloc (.cells #[.int .i64 z] 3)) w9 := (Below.refl _ _).grown hgrow9 (by have := HB.out.size; simp; omega) (fun q hq => (hpos q hq).1)
      have HB9 := Lib.hid ((HB.out.alloc HB.out.size (.cells #[.int .i64 z] 3)).trans hb9)
      have hown8 : w9.ownsRow w.heap.size 3 1 v9 (n - q) ((ys ++ [z]).map (Value.int .i64)) := by
        have e : n - (q + 1) + 1 = n - q := by omega
        rw [e] at hown9
        simpa using hown9
      obtain ⟨g9, c9, rfl⟩ := row_form2 hown8 (by omega)
      have HO9 := Lib.hid hown8
      clear hown9 hown8 hgrow9 hpos hb9 hc HO HB
      go_wp2
      go_roundw
      case rel => exact ⟨q, y1, ys ++ [z], g9, c9, by omega, hy1, by go_num, by rw [List.length_append, hyl]; simp; omega, rfl, HO9.out, HB9.out⟩
      case measure => simp [intOf] <;> omega
    · obtain rfl : k = 0 := by omega
      have hneg : y < 0 := by omega
      have hO := HO.out
      rw [Nat.sub_zero] at hO hyl
      have HO2 := Lib.hid hO
      clear hO HO
      go_wp2
      go_ret
      exact ⟨g, cap, ys, rfl, hyl.symm, HO2.out, HB.out⟩
end Go.Proofs.Ytlbomopjldhmeaa

namespace Go.Proofs.Ytlbomopjldhmeaa
set_option linter.unusedSimpArgs false
set_option linter.unusedVariables false
open Go.RowKit
set_option maxHeartbeats 800000 in
theorem laws_equalInts (A A' : Option Addr) (n n' c c' : Nat) (a b : List Int) (w : World) (B : Nat) (hB : B ≤ w.heap.size) (hn : n = a.length) (hn' : n' = b.length) (h : IS w B A a) (h' : IS w B A' b) (hs : n ≤ 2000000) (hs' : n' ≤ 2000000) :
    Calls Try.prog 24 #[.slice A n c, .slice A' n' c'] w fun e w' => e = .returned (.bool (decide (a = b))) ∧ Below w.heap.size w w' := by
  by_cases hl : n = n'
  · have hne : ((n : Int) != (n' : Int)) = false := by simp [hl]
    have HL := Lib.hid hl
    have HN := Lib.hid hn
    have HN' := Lib.hid hn'
    have H := Lib.hid h
    have H' := Lib.hid h'
    clear hl hn hn' h h'
    go_enter Try.func24, Try.ntmps24
    go_wp2
    go_loopw [5] (fun i wr => ∃ k : Nat, k ≤ n ∧ i = .int .i64 k ∧ Hid (∀ j, j < k → a.getD j 0 = b.getD j 0) ∧ Below w.heap.size w wr) (fun i _ => n - (intOf i).toNat)
    case atStart => exact ⟨0, Nat.zero_le _, rfl, fun j hj => by omega, Below.refl _ _⟩
    case round =>
      obtain ⟨k, hk, rfl, HT, hb⟩ := hrel
      by_cases hlt : k < n
      · have hlt' : k < n' := by have := HL.out; omega
        obtain ⟨b1, off, rfl, hbB, hc⟩ := H.out (by have := HN.out; omega)
        obtain ⟨b2, off', rfl, hbB', hc'⟩ := H'.out (by have := HN'.out; omega)
        have d1 := hc k (by have := HN.out; omega)
        have d2 := hc' k (by have := HN'.out; omega)
        have e1 := (hb.cell (p := ⟨b1, off + k, none⟩) (by simp; omega)).trans d1
        have e2 := (hb.cell (p := ⟨b2, off' + k, none⟩) (by simp; omega)).trans d2
        clear hc hc' d1 d2 H H'
        have HNE : Hid (a.getD k 0 ≠ b.getD k 0 → decide (a = b) = false) := fun hh => by rw [decide_eq_false_iff_not]; rintro rfl; exact hh rfl
        have HEQ : Hid (a.getD k 0 = b.getD k 0 → ∀ j, j < k + 1 → a.getD j 0 = b.getD j 0) := fun hh j hj => by
          rcases Nat.lt_or_ge j k with h1 | h1
          · exact HT.out j h1
          · obtain rfl : j = k := by omega
            exact hh
        generalize a.getD k 0 = x at *
        generalize b.getD k 0 = y at *
        cases hxy : (x == y)
        · have hne2 : (x != y) = true := by simp [bne, hxy]
          have HF := Lib.hid (HNE.out (by simpa using hxy))
          clear hxy
          go_wp2
          go_region
          go_wp2
          go_ret
          exact ⟨ret_b HF.out.symm, hb.drew⟩
        · have hne2 : (x != y) = false := by simp [bne, hxy]
          have HF := Lib.hid (HEQ.out (by simpa using hxy))
          clear hxy
          go_wp2
          go_region
          go_wp2
          go_roundw
          case rel => exact ⟨k + 1, by omega, by go_num, HF.out, hb.drew⟩
          case measure => simp [intOf]; omega
      · obtain rfl : k = n := by omega
        go_wp2
        go_ret
        refine ⟨ret_b ?_, hb⟩
        symm
        apply decide_eq_true
        have h1 := HN.out
        have h2 := HN'.out
        have h3 := HL.out
        apply List.ext_getElem (by omega)
        intro j hj hj'
        have := HT.out j (by omega)
        simpa [List.getD, hj, hj'] using this
  · have hne : ((n : Int) != (n' : Int)) = true := by simp; omega
    have hf : decide (a = b) = false := by rw [decide_eq_false_iff_not]; rintro rfl; omega
    rw [hf]
    clear hl hn hn' h h' hf
    go_enter Try.func24, Try.ntmps24
    go_wp2
    go_ret
    exact ⟨rfl, Below.refl _ _⟩
end Go.Proofs.Ytlbomopjldhmeaa

namespace Go.Proofs.Ytlbomopjldhmeaa
set_option linter.unusedSimpArgs false
set_option linter.unusedVariables false
open Go.RowKit
theorem Cm.lower {d0 d1 b off l c : Nat} {ys : List Int} {w : World} (h : Cm d1 b off l c ys w) (hd : d0 ≤ d1) : Cm d0 b off l c ys w := ⟨h.len, h.cap, Nat.le_trans hd h.lo, h.hi, h.cells, h.spare⟩
theorem Cm.drop1 {d0 b off l c : Nat} {ys : List Int} {w : World} (h : Cm d0 b off l c ys w) (hl : 0 < l) : ∃ o4, (if c = 1 then some ({ block := b, off := off } : Addr) else some { block := b, off := off + 1 }) = some ⟨b, o4, none⟩ ∧ Cm d0 b o4 (l - 1) (c - 1) (ys.drop 1) w := by
  have hlen := h.len
  have hcap := h.cap
  by_cases hc : c = 1
  · exact ⟨off, by rw [if_pos hc], by rw [List.length_drop]; omega, by omega, h.lo, h.hi, fun j hj => by omega, fun j h1 h2 => by omega⟩
  · refine ⟨off + 1, by rw [if_neg hc], by rw [List.length_drop]; omega, by omega, h.lo, h.hi, fun j hj => ?_, fun j h1 h2 => ?_⟩
    · have := h.cells (j + 1) (by omega)
      rw [show off + (j + 1) = off + 1 + j by omega] at this
      rw [this]
      simp [List.getD, List.getElem?_drop, Nat.add_comm]
    · have := h.spare (j + 1) (by omega) (by omega)
      rwa [show off + (j + 1) = off + 1 + j by omega] at this
/-- What stays while the second list is drawn. -/
structure KS (g : Nat) (A : Option Addr) (n c : Nat) (bs : List Int) (w0 : World) (Aa : Option Addr) (la ca : Nat) (xs : List Int) (d0 P : Nat) (w : World) : Prop where
  gw : g < w0.heap.size
  rd : Rdr g A n c bs P w
  fr : Frd g w0.heap.size w0 w
  a : OwR w0.heap.size d0 3 1 (.slice Aa la ca) la (xs.map (Value.int .i64)) w
  d : d0 ≤ w.heap.size
  d1 : w0.heap.size ≤ d0
section
variable {g n c la ca d0 P P' C : Nat} {A Aa : Option Addr} {bs xs : List Int} {w0 w w' : World}
theorem KS.below (h : KS g A n c bs w0 Aa la ca xs d0 P w) (hb : Below C w w') (hC : d0 ≤ C) : KS g A n c bs w0 Aa la ca xs d0 P w' :=
  ⟨h.gw, h.rd.turn (Tch.of_below' (hb.mono hC)) (by have := h.gw; have := h.d1; omega), h.fr.trans (Frd.of_below hb (by have := h.d1; omega)), h.a.keep fun k _ hk => hb.block k (by omega), Nat.le_trans h.d hb.size, h.d1⟩
theorem KS.pick (h : KS g A n c bs w0 Aa la ca xs d0 P w) (hr : Rdr g A n c bs P' w') (ht : Tch g (g + 1) w w') : KS g A n c bs w0 Aa la ca xs d0 P' w' :=
  ⟨h.gw, hr, h.fr.trans (Frd.of_tch ht (by have := h.d; have := h.d1; omega)), h.a.keep fun k hk hk' => ht.block k (by have := h.d; omega) (.inr (by have := h.gw; omega)), Nat.le_trans h.d ht.size, h.d1⟩
theorem KS.frd {s : Nat} (h : KS g A n c bs w0 Aa la ca xs d0 P w) (hr : Rdr g A n c bs P' w') (hf : Frd g s w w') (hs : d0 ≤ s) : KS g A n c bs w0 Aa la ca xs d0 P' w' :=
  ⟨h.gw, hr, h.fr.trans ⟨hf.os, hf.tape, hf.output, hf.size, fun k a b => hf.block k (by have := h.d1; omega) b⟩, h.a.keep fun k hk hk' => hf.block k (by omega) (by have := h.gw; omega), Nat.le_trans h.d hf.size, h.d1⟩
theorem KS.mono (h : KS g A n c bs w0 Aa la ca xs d0 P w) (hP : P ≤ P') : KS g A n c bs w0 Aa la ca xs d0 P' w := ⟨h.gw, h.rd.mono hP, h.fr, h.a, h.d, h.d1⟩
end
/-- Returns two lists of at most eleven numbers in fresh blocks; the reader goes on. -/
def K2P (g : Nat) (A : Option Addr) (n c : Nat) (bs : List Int) (Q : Nat) (w : World) (e : Ending) (w' : World) : Prop :=
  ∃ (A1 : Option Addr) (n1 c1 : Nat) (xs : List Int) (A2 : Option Addr) (n2 c2 : Nat) (ys : List Int), e = .returned (.tuple #[.slice A1 n1 c1, .slice A2 n2 c2]) ∧ n1 = xs.length ∧ n1 ≤ 11 ∧ n1 ≤ c1 ∧ n2 = ys.length ∧ n2 ≤ 11 ∧ n2 ≤ c2 ∧ IS w' w'.heap.size A1 xs ∧ IS w' w'.heap.size A2 ys ∧ Rdr g A n c bs Q w' ∧ Frd g w.heap.size w w'
theorem KS.fin {g n c la ca d0 P Q l cb : Nat} {A Aa Ab : Option Addr} {bs xs ys : List Int} {w0 w : World} (h : KS g A n c bs w0 Aa la ca xs d0 P w) (hla : la = xs.length) (hl11 : la ≤ 11) (hl : l = ys.length) (hm : l ≤ 11) (hc : l ≤ cb) (hi : IS w w.heap.size Ab ys) (hP : P ≤ Q) :
    K2P g A n c bs Q w0 (.returned (.tuple #[.slice Aa la ca, .slice Ab l cb])) w :=
  ⟨Aa, la, ca, xs, Ab, l, cb, ys, rfl, hla, hl11, own_ncap h.a.1, hl, hm, hc, h.a.ints.more h.d, hi, h.rd.mono hP, h.fr⟩
set_option maxRecDepth 100000 in
set_option maxHeartbeats 25600000 in
theorem keysOf_any (g : Nat) (A : Option Addr) (n c : Nat) (bs : List Int) (P : Nat) (w : World) (h : Rdr g A n c bs P w) (hn : n = bs.length) (hby : BY bs) (hs : n ≤ 2000) (hP : P ≤ 400000) :
    Calls Try.prog 42 #[.pointer (some ⟨g, 0, none⟩)] w fun e w' => K2P g A n c bs (P + 60) w e w' := by
  obtain ⟨i0, hi, hz0, hz1, hz2⟩ := info_parts info_int
  have hgw := h.lt
  have HN := Lib.hid hn
  have HC := Lib.hid (someKeys_any g A n c bs P w h hn hby hs (by omega))
  clear h hn
  go_enter Try.func42, Try.ntmps42
  go_wp2_with fail
  refine HC.out.mono ?_
  rintro e w1 ⟨v1, la, xs, rfl, hl, hl11, ho, hr, hf⟩
  obtain ⟨Aa, ca, rfl⟩ := row_form ho.1
  obtain ⟨d0, hd0⟩ : ∃ d0, d0 = w1.heap.size := ⟨_, rfl⟩
  have hd1 : d0 ≤ w1.heap.size := by omega
  have hgd : g < d0 := by have := hf.size; omega
  have HS1 : Hid (KS g A n c bs w Aa la ca xs d0 (P + 13) w1) := ⟨hgw, hr, hf, by rw [hd0]; exact ho, by omega, by rw [hd0]; exact hf.size⟩
  have HLA := Lib.hid hl
  have HCP := Lib.hid (spec_copyIntsA Aa la ca xs w1 w1.heap.size (Nat.le_refl _) HLA.out (HS1.out.a.ints.more HS1.out.d) (by omega))
  clear hl ho hr hf HC hd0
  go_wp2_with fail
  refine HCP.out.mono ?_
  rintro e w2 ⟨b2, c2, rfl, hown, hb2⟩
  have HS2 := Lib.hid (HS1.out.below hb2 hd1)
  have HB2 := Lib.hid ((Cm.of_own hown).lower hd1)
  clear hown hb2 HS1 HCP hd1
  go_wp2_with fail
  refine (pick_any g A n c bs (P + 13) 4 w2 HS2.out.rd HN.out hby hs (by omega) (by omega)).mono ?_
  rintro e w3 ⟨y, rfl, _, _, hr3, ht3⟩
  have HS3 := Lib.hid (HS2.out.pick hr3 ht3)
  have HB3 := Lib.hid (HB2.out.turn ht3 hgd)
  clear hr3 ht3 HS2 HB2
  by_cases hy0 : y = 0
  · have hy0' : ((y : Int) == 0) = true := by simp [hy0]
    clear hy0
    go_wp2_with fail
    refine (someKeys_any g A n c bs (P + 14) w3 HS3.out.rd HN.out hby hs (by omega)).mono ?_
    rintro e w4 ⟨v4, l4, ys, rfl, hl4, hl4M, ho4, hr4, hf4⟩
    obtain ⟨A4, c4, rfl⟩ := row_form ho4.1
    have HK := Lib.hid ((HS3.out.frd hr4 hf4 HS3.out.d).fin (Q := P + 60) HLA.out hl11 hl4 hl4M (own_ncap ho4.1) ho4.ints (by omega))
    clear hl4 ho4 hr4 hf4 HS3 HB3
    go_wp2
    go_ret2
    exact HK.out
  have hy0' : ((y : Int) == 0) = false := by simp; omega
  clear hy0

  by_cases hy1 : y = 1
  · have hy1' : ((y : Int) == 1) = true := by simp [hy1]
    clear hy1
    go_wp2_with fail
    refine (spec_reversed (some ⟨b2, 0, none⟩) la c2 xs w3 w3.heap.size (Nat.le_refl _) HLA.out HB3.out.is (by omega)).mono ?_
    rintro e w4 ⟨b4, c4, ys4, rfl, hl4, hown4, hb4⟩
    have HS4 := Lib.hid (HS3.out.below hb4 HS3.out.d)
    have HB4 := Lib.hid ((Cm.of_own hown4).lower HS3.out.d)
    clear hl4 hown4 hb4 HS3 HB3
    go_wp2_with fail
    refine (pick_any g A n c bs (P + 14) 4 w4 HS4.out.rd HN.out hby hs (by omega) (by omega)).mono ?_
    rintro e w5 ⟨N, rfl, hN, _, hr5, ht5⟩
    have hN4 : (N : Int) < 4 := hN (by omega)
    have HS5 := Lib.hid (HS4.out.pick hr5 ht5)
    have HB5 := Lib.hid (HB4.out.turn ht5 hgd)
    clear hr5 ht5 HS4 HB4 hN
    go_wp2
    go_loopw [5, 6] (fun v u wr => ∃ (i m b off cb : Nat) (ys : List Int), i + m = N ∧ u = .int .i64 m ∧ v = .slice (some ⟨b, off, none⟩) la cb ∧ Hid (Cm d0 b off la cb ys wr) ∧ Hid (KS g A n c bs w Aa la ca xs d0 (P + 15 + 2 * i) wr)) (fun _ u _ => (intOf u).toNat)
    case atStart => exact ⟨0, N, b4, 0, c4, ys4, by omega, rfl, rfl, HB5.out, HS5.out⟩
    case round =>
      obtain ⟨i, m, b, off, cb, ys, him, rfl, rfl, HB, HS⟩ := hrel
      clear HB5 HS5
      have hlcb : la ≤ cb := HB.out.cap
      by_cases hm : 0 < m
      case neg =>
        obtain rfl : m = 0 := by omega
        clear hm
        have hlb11 : la ≤ cb := HB.out.cap
        by_cases hl0 : 0 < la
        · go_wp2_with fail
          refine (pick_any g A n c bs (P + 15 + 2 * i) 2 wr HS.out.rd HN.out hby hs (by omega) (by omega)).mono ?_
          rintro e wt11 ⟨x1, rfl, _, _, hrt, htt⟩
          have HSt11 := Lib.hid (HS.out.pick hrt htt)
          have HBt11 := Lib.hid (HB.out.turn htt hgd)
          clear hrt htt
          by_cases hx1 : x1 = 0
          · have hx1' : ((x1 : Int) == 0) = true := by simp [hx1]
            clear hx1
            have hla11 : 1 ≤ la := by omega
            have hlz11 : (1 : Int) ≤ (la : Int) := by omega
            have hcq11 : 1 ≤ cb := by omega
            obtain ⟨o4, ho4, hB4⟩ := HBt11.out.drop1 hl0
            obtain ⟨l4, hl4⟩ : ∃ l4, l4 = la - 1 := ⟨_, rfl⟩
            obtain ⟨ys4, hys4⟩ : ∃ ys4, ys4 = ys.drop 1 := ⟨_, rfl⟩
            rw [← hl4, ← hys4] at hB4
            clear hys4
            have hl4m : l4 ≤ 11 := by omega
            have hl4' : la - 1 = l4 := hl4.symm
            clear hl4
            by_cases hcb1 : cb = 1
            · rw [if_pos hcb1] at ho4
              cases ho4
              rw [hcb1] at hB4
              have hcc : cb - 1 = 0 := by omega
              have HBu11 := Lib.hid (show Cm d0 b off l4 0 ys4 wt11 from hB4)
              clear hB4
              have hlc12 : l4 ≤ 0 := HBu11.out.cap
              have h10 : l4 < 10 := by omega
              have HPL := Lib.hid (spec_placeIn (some ⟨b, off, none⟩) l4 0 ys4 20 wt11 wt11.heap.size (Nat.le_refl _) HBu11.out.len HBu11.out.is (by omega))
              go_wp2_with fail
              refine HPL.out.mono ?_
              rintro e wx12 ⟨rfl, rfl⟩
              clear HPL
              generalize plc ys4 20 = p at *
              by_cases hp : p < 0
              case neg =>
                go_wp2
                go_ret2
                exact HSt11.out.fin HLA.out hl11 HBu11.out.len (by omega) HBu11.out.cap HBu11.out.is (by omega)
              go_wp2_with fail
              refine (pick_any g A n c bs (P + 15 + 2 * i + 1) 2 wt11 HSt11.out.rd HN.out hby hs (by omega) (by omega)).mono ?_
              rintro e wz12 ⟨x2, rfl, _, _, hrz, htz⟩
              have HSz12 := Lib.hid (HSt11.out.pick hrz htz)
              have HBz12 := Lib.hid (HBu11.out.turn htz hgd)
              clear hrz htz
              by_cases hx2 : x2 = 0
              case neg =>
                have hx2' : ((x2 : Int) == 0) = false := by simp; omega
                clear hx2
                go_wp2
                go_ret2
                exact HSz12.out.fin HLA.out hl11 HBz12.out.len (by omega) HBz12.out.cap HBz12.out.is (by omega)
              have hx2' : ((x2 : Int) == 0) = true := by simp [hx2]
              clear hx2
              have HSy12 := Lib.hid (HSz12.out.below (below_new wz12 (.cells #[.int .i64 20] 3)) HSz12.out.d)
              have HBy12 := Lib.hid (HBz12.out.step (below_new wz12 (.cells #[.int .i64 20] 3)))
              go_wp2_with (at_builtin; refine wpList_app_cm _ rfl _ _ rfl (b := b) (off := off) (l := l4) (c := 0) (ys := ys4) rfl HBy12.out (by omega) 20 ⟨wz12.heap.size, 0, none⟩ 1 rfl (by go_simp) ?_)
              intro A9 c9 w9 hc9 hI9 hb9
              have HK := Lib.hid ((HSy12.out.below hb9 (Nat.le_refl _)).fin (Q := P + 60) HLA.out hl11 (by rw [List.length_append, ← HBy12.out.len]; rfl) (by omega) hc9 hI9 (by omega))
              clear hI9 hb9 HSy12 HBy12 HSz12 HBz12
              go_wp2
              go_ret2
              exact HK.out
            · rw [if_neg hcb1] at ho4
              cases ho4
              obtain ⟨c4, hc4⟩ : ∃ c4, c4 = cb - 1 := ⟨_, rfl⟩
              rw [← hc4] at hB4
              have hc4' : cb - 1 = c4 := hc4.symm
              clear hc4
              have HBu11 := Lib.hid hB4
              clear hB4
              have hlc13 : l4 ≤ c4 := HBu11.out.cap
              by_cases h10 : l4 < 10
              case neg =>
                go_wp2
                go_ret2
                exact HSt11.out.fin HLA.out hl11 HBu11.out.len (by omega) HBu11.out.cap HBu11.out.is (by omega)
              have HPL := Lib.hid (spec_placeIn (some ⟨b, off + 1, none⟩) l4 c4 ys4 20 wt11 wt11.heap.size (Nat.le_refl _) HBu11.out.len HBu11.out.is (by omega))
              go_wp2_with fail
              refine HPL.out.mono ?_
              rintro e wx13 ⟨rfl, rfl⟩
              clear HPL
              generalize plc ys4 20 = p at *
              by_cases hp : p < 0
              case neg =>
                go_wp2
                go_ret2
                exact HSt11.out.fin HLA.out hl11 HBu11.out.len (by omega) HBu11.out.cap HBu11.out.is (by omega)
              go_wp2_with fail
              refine (pick_any g A n c bs (P + 15 + 2 * i + 1) 2 wt11 HSt11.out.rd HN.out hby hs (by omega) (by omega)).mono ?_
              rintro e wz13 ⟨x2, rfl, _, _, hrz, htz⟩
              have HSz13 := Lib.hid (HSt11.out.pick hrz htz)
              have HBz13 := Lib.hid (HBu11.out.turn htz hgd)
              clear hrz htz
              by_cases hx2 : x2 = 0
              case neg =>
                have hx2' : ((x2 : Int) == 0) = false := by simp; omega
                clear hx2
                go_wp2
                go_ret2
                exact HSz13.out.fin HLA.out hl11 HBz13.out.len (by omega) HBz13.out.cap HBz13.out.is (by omega)
              have hx2' : ((x2 : Int) == 0) = true := by simp [hx2]
              clear hx2
              have HSy13 := Lib.hid (HSz13.out.below (below_new wz13 (.cells #[.int .i64 20] 3)) HSz13.out.d)
              have HBy13 := Lib.hid (HBz13.out.step (below_new wz13 (.cells #[.int .i64 20] 3)))
              go_wp2_with (at_builtin; refine wpList_app_cm _ rfl _ _ rfl (b := b) (off := off + 1) (l := l4) (c := c4) (ys := ys4) rfl HBy13.out (by omega) 20 ⟨wz13.heap.size, 0, none⟩ 1 rfl (by go_simp) ?_)
              intro A9 c9 w9 hc9 hI9 hb9
              have HK := Lib.hid ((HSy13.out.below hb9 (Nat.le_refl _)).fin (Q := P + 60) HLA.out hl11 (by rw [List.length_append, ← HBy13.out.len]; rfl) (by omega) hc9 hI9 (by omega))
              clear hI9 hb9 HSy13 HBy13 HSz13 HBz13
              go_wp2
              go_ret2
              exact HK.out
          · have hx1' : ((x1 : Int) == 0) = false := by simp; omega
            clear hx1
            have hlc14 : la ≤ cb := HBt11.out.cap
            by_cases h10 : la < 10
            case neg =>
              go_wp2
              go_ret2
              exact HSt11.out.fin HLA.out hl11 HBt11.out.len (by omega) HBt11.out.cap HBt11.out.is (by omega)
            have HPL := Lib.hid (spec_placeIn (some ⟨b, off, none⟩) la cb ys 20 wt11 wt11.heap.size (Nat.le_refl _) HBt11.out.len HBt11.out.is (by omega))
            go_wp2_with fail
            refine HPL.out.mono ?_
            rintro e wx14 ⟨rfl, rfl⟩
            clear HPL
            generalize plc ys 20 = p at *
            by_cases hp : p < 0
            case neg =>
              go_wp2
              go_ret2
              exact HSt11.out.fin HLA.out hl11 HBt11.out.len (by omega) HBt11.out.cap HBt11.out.is (by omega)
            go_wp2_with fail
            refine (pick_any g A n c bs (P + 15 + 2 * i + 1) 2 wt11 HSt11.out.rd HN.out hby hs (by omega) (by omega)).mono ?_
            rintro e wz14 ⟨x2, rfl, _, _, hrz, htz⟩
            have HSz14 := Lib.hid (HSt11.out.pick hrz htz)
            have HBz14 := Lib.hid (HBt11.out.turn htz hgd)
            clear hrz htz
            by_cases hx2 : x2 = 0
            case neg =>
              have hx2' : ((x2 : Int) == 0) = false := by simp; omega
              clear hx2
              go_wp2
              go_ret2
              exact HSz14.out.fin HLA.out hl11 HBz14.out.len (by omega) HBz14.out.cap HBz14.out.is (by omega)
            have hx2' : ((x2 : Int) == 0) = true := by simp [hx2]
            clear hx2
            have HSy14 := Lib.hid (HSz14.out.below (below_new wz14 (.cells #[.int .i64 20] 3)) HSz14.out.d)
            have HBy14 := Lib.hid (HBz14.out.step (below_new wz14 (.cells #[.int .i64 20] 3)))
            go_wp2_with (at_builtin; refine wpList_app_cm _ rfl _ _ rfl (b := b) (off := off) (l := la) (c := cb) (ys := ys) rfl HBy14.out (by omega) 20 ⟨wz14.heap.size, 0, none⟩ 1 rfl (by go_simp) ?_)
            intro A9 c9 w9 hc9 hI9 hb9
            have HK := Lib.hid ((HSy14.out.below hb9 (Nat.le_refl _)).fin (Q := P + 60) HLA.out hl11 (by rw [List.length_append, ← HBy14.out.len]; rfl) (by omega) hc9 hI9 (by omega))
            clear hI9 hb9 HSy14 HBy14 HSz14 HBz14
            go_wp2
            go_ret2
            exact HK.out
        · obtain rfl : la = 0 := by omega
          clear hl0
          have hlc15 : 0 ≤ cb := HB.out.cap
          have h10 : 0 < 10 := by omega
          have HPL := Lib.hid (spec_placeIn (some ⟨b, off, none⟩) 0 cb ys 20 wr wr.heap.size (Nat.le_refl _) HB.out.len HB.out.is (by omega))
          go_wp2_with fail
          refine HPL.out.mono ?_
          rintro e wx15 ⟨rfl, rfl⟩
          clear HPL
          generalize plc ys 20 = p at *
          by_cases hp : p < 0
          case neg =>
            go_wp2
            go_ret2
            exact HS.out.fin HLA.out hl11 HB.out.len (by omega) HB.out.cap HB.out.is (by omega)
          go_wp2_with fail
          refine (pick_any g A n c bs (P + 15 + 2 * i) 2 wr HS.out.rd HN.out hby hs (by omega) (by omega)).mono ?_
          rintro e wz15 ⟨x2, rfl, _, _, hrz, htz⟩
          have HSz15 := Lib.hid (HS.out.pick hrz htz)
          have HBz15 := Lib.hid (HB.out.turn htz hgd)
          clear hrz htz
          by_cases hx2 : x2 = 0
          case neg =>
            have hx2' : ((x2 : Int) == 0) = false := by simp; omega
            clear hx2
            go_wp2
            go_ret2
            exact HSz15.out.fin HLA.out hl11 HBz15.out.len (by omega) HBz15.out.cap HBz15.out.is (by omega)
          have hx2' : ((x2 : Int) == 0) = true := by simp [hx2]
          clear hx2
          have HSy15 := Lib.hid (HSz15.out.below (below_new wz15 (.cells #[.int .i64 20] 3)) HSz15.out.d)
          have HBy15 := Lib.hid (HBz15.out.step (below_new wz15 (.cells #[.int .i64 20] 3)))
          go_wp2_with (at_builtin; refine wpList_app_cm _ rfl _ _ rfl (b := b) (off := off) (l := 0) (c := cb) (ys := ys) rfl HBy15.out (by omega) 20 ⟨wz15.heap.size, 0, none⟩ 1 rfl (by go_simp) ?_)
          intro A9 c9 w9 hc9 hI9 hb9
          have HK := Lib.hid ((HSy15.out.below hb9 (Nat.le_refl _)).fin (Q := P + 60) HLA.out hl11 (by rw [List.length_append, ← HBy15.out.len]; rfl) (by omega) hc9 hI9 (by omega))
          clear hI9 hb9 HSy15 HBy15 HSz15 HBz15
          go_wp2
          go_ret2
          exact HK.out
      by_cases hla : 1 < la
      case neg =>
        have hlb16 : la ≤ cb := HB.out.cap
        by_cases hl0 : 0 < la
        · go_wp2_with fail
          refine (pick_any g A n c bs (P + 15 + 2 * i) 2 wr HS.out.rd HN.out hby hs (by omega) (by omega)).mono ?_
          rintro e wt16 ⟨x1, rfl, _, _, hrt, htt⟩
          have HSt16 := Lib.hid (HS.out.pick hrt htt)
          have HBt16 := Lib.hid (HB.out.turn htt hgd)
          clear hrt htt
          by_cases hx1 : x1 = 0
          · have hx1' : ((x1 : Int) == 0) = true := by simp [hx1]
            clear hx1
            have hla16 : 1 ≤ la := by omega
            have hlz16 : (1 : Int) ≤ (la : Int) := by omega
            have hcq16 : 1 ≤ cb := by omega
            obtain ⟨o4, ho4, hB4⟩ := HBt16.out.drop1 hl0
            obtain ⟨l4, hl4⟩ : ∃ l4, l4 = la - 1 := ⟨_, rfl⟩
            obtain ⟨ys4, hys4⟩ : ∃ ys4, ys4 = ys.drop 1 := ⟨_, rfl⟩
            rw [← hl4, ← hys4] at hB4
            clear hys4
            have hl4m : l4 ≤ 11 := by omega
            have hl4' : la - 1 = l4 := hl4.symm
            clear hl4
            by_cases hcb1 : cb = 1
            · rw [if_pos hcb1] at ho4
              cases ho4
              rw [hcb1] at hB4
              have hcc : cb - 1 = 0 := by omega
              have HBu16 := Lib.hid (show Cm d0 b off l4 0 ys4 wt16 from hB4)
              clear hB4
              have hlc17 : l4 ≤ 0 := HBu16.out.cap
              have h10 : l4 < 10 := by omega
              have HPL := Lib.hid (spec_placeIn (some ⟨b, off, none⟩) l4 0 ys4 20 wt16 wt16.heap.size (Nat.le_refl _) HBu16.out.len HBu16.out.is (by omega))
              go_wp2_with fail
              refine HPL.out.mono ?_
              rintro e wx17 ⟨rfl, rfl⟩
              clear HPL
              generalize plc ys4 20 = p at *
              by_cases hp : p < 0
              case neg =>
                go_wp2
                go_ret2
                exact HSt16.out.fin HLA.out hl11 HBu16.out.len (by omega) HBu16.out.cap HBu16.out.is (by omega)
              go_wp2_with fail
              refine (pick_any g A n c bs (P + 15 + 2 * i + 1) 2 wt16 HSt16.out.rd HN.out hby hs (by omega) (by omega)).mono ?_
              rintro e wz17 ⟨x2, rfl, _, _, hrz, htz⟩
              have HSz17 := Lib.hid (HSt16.out.pick hrz htz)
              have HBz17 := Lib.hid (HBu16.out.turn htz hgd)
              clear hrz htz
              by_cases hx2 : x2 = 0
              case neg =>
                have hx2' : ((x2 : Int) == 0) = false := by simp; omega
                clear hx2
                go_wp2
                go_ret2
                exact HSz17.out.fin HLA.out hl11 HBz17.out.len (by omega) HBz17.out.cap HBz17.out.is (by omega)
              have hx2' : ((x2 : Int) == 0) = true := by simp [hx2]
              clear hx2
              have HSy17 := Lib.hid (HSz17.out.below (below_new wz17 (.cells #[.int .i64 20] 3)) HSz17.out.d)
              have HBy17 := Lib.hid (HBz17.out.step (below_new wz17 (.cells #[.int .i64 20] 3)))
              go_wp2_with (at_builtin; refine wpList_app_cm _ rfl _ _ rfl (b := b) (off := off) (l := l4) (c := 0) (ys := ys4) rfl HBy17.out (by omega) 20 ⟨wz17.heap.size, 0, none⟩ 1 rfl (by go_simp) ?_)
              intro A9 c9 w9 hc9 hI9 hb9
              have HK := Lib.hid ((HSy17.out.below hb9 (Nat.le_refl _)).fin (Q := P + 60) HLA.out hl11 (by rw [List.length_append, ← HBy17.out.len]; rfl) (by omega) hc9 hI9 (by omega))
              clear hI9 hb9 HSy17 HBy17 HSz17 HBz17
              go_wp2
              go_ret2
              exact HK.out
            · rw [if_neg hcb1] at ho4
              cases ho4
              obtain ⟨c4, hc4⟩ : ∃ c4, c4 = cb - 1 := ⟨_, rfl⟩
              rw [← hc4] at hB4
              have hc4' : cb - 1 = c4 := hc4.symm
              clear hc4
              have HBu16 := Lib.hid hB4
              clear hB4
              have hlc18 : l4 ≤ c4 := HBu16.out.cap
              have h10 : l4 < 10 := by omega
              have HPL := Lib.hid (spec_placeIn (some ⟨b, off + 1, none⟩) l4 c4 ys4 20 wt16 wt16.heap.size (Nat.le_refl _) HBu16.out.len HBu16.out.is (by omega))
              go_wp2_with fail
              refine HPL.out.mono ?_
              rintro e wx18 ⟨rfl, rfl⟩
              clear HPL
              generalize plc ys4 20 = p at *
              by_cases hp : p < 0
              case neg =>
                go_wp2
                go_ret2
                exact HSt16.out.fin HLA.out hl11 HBu16.out.len (by omega) HBu16.out.cap HBu16.out.is (by omega)
              go_wp2_with fail
              refine (pick_any g A n c bs (P + 15 + 2 * i + 1) 2 wt16 HSt16.out.rd HN.out hby hs (by omega) (by omega)).mono ?_
              rintro e wz18 ⟨x2, rfl, _, _, hrz, htz⟩
              have HSz18 := Lib.hid (HSt16.out.pick hrz htz)
              have HBz18 := Lib.hid (HBu16.out.turn htz hgd)
              clear hrz htz
              by_cases hx2 : x2 = 0
              case neg =>
                have hx2' : ((x2 : Int) == 0) = false := by simp; omega
                clear hx2
                go_wp2
                go_ret2
                exact HSz18.out.fin HLA.out hl11 HBz18.out.len (by omega) HBz18.out.cap HBz18.out.is (by omega)
              have hx2' : ((x2 : Int) == 0) = true := by simp [hx2]
              clear hx2
              have HSy18 := Lib.hid (HSz18.out.below (below_new wz18 (.cells #[.int .i64 20] 3)) HSz18.out.d)
              have HBy18 := Lib.hid (HBz18.out.step (below_new wz18 (.cells #[.int .i64 20] 3)))
              go_wp2_with (at_builtin; refine wpList_app_cm _ rfl _ _ rfl (b := b) (off := off + 1) (l := l4) (c := c4) (ys := ys4) rfl HBy18.out (by omega) 20 ⟨wz18.heap.size, 0, none⟩ 1 rfl (by go_simp) ?_)
              intro A9 c9 w9 hc9 hI9 hb9
              have HK := Lib.hid ((HSy18.out.below hb9 (Nat.le_refl _)).fin (Q := P + 60) HLA.out hl11 (by rw [List.length_append, ← HBy18.out.len]; rfl) (by omega) hc9 hI9 (by omega))
              clear hI9 hb9 HSy18 HBy18 HSz18 HBz18
              go_wp2
              go_ret2
              exact HK.out
          · have hx1' : ((x1 : Int) == 0) = false := by simp; omega
            clear hx1
            have hlc19 : la ≤ cb := HBt16.out.cap
            have h10 : la < 10 := by omega
            have HPL := Lib.hid (spec_placeIn (some ⟨b, off, none⟩) la cb ys 20 wt16 wt16.heap.size (Nat.le_refl _) HBt16.out.len HBt16.out.is (by omega))
            go_wp2_with fail
            refine HPL.out.mono ?_
            rintro e wx19 ⟨rfl, rfl⟩
            clear HPL
            generalize plc ys 20 = p at *
            by_cases hp : p < 0
            case neg =>
              go_wp2
              go_ret2
              exact HSt16.out.fin HLA.out hl11 HBt16.out.len (by omega) HBt16.out.cap HBt16.out.is (by omega)
            go_wp2_with fail
            refine (pick_any g A n c bs (P + 15 + 2 * i + 1) 2 wt16 HSt16.out.rd HN.out hby hs (by omega) (by omega)).mono ?_
            rintro e wz19 ⟨x2, rfl, _, _, hrz, htz⟩
            have HSz19 := Lib.hid (HSt16.out.pick hrz htz)
            have HBz19 := Lib.hid (HBt16.out.turn htz hgd)
            clear hrz htz
            by_cases hx2 : x2 = 0
            case neg =>
              have hx2' : ((x2 : Int) == 0) = false := by simp; omega
              clear hx2
              go_wp2
              go_ret2
              exact HSz19.out.fin HLA.out hl11 HBz19.out.len (by omega) HBz19.out.cap HBz19.out.is (by omega)
            have hx2' : ((x2 : Int) == 0) = true := by simp [hx2]
            clear hx2
            have HSy19 := Lib.hid (HSz19.out.below (below_new wz19 (.cells #[.int .i64 20] 3)) HSz19.out.d)
            have HBy19 := Lib.hid (HBz19.out.step (below_new wz19 (.cells #[.int .i64 20] 3)))
            go_wp2_with (at_builtin; refine wpList_app_cm _ rfl _ _ rfl (b := b) (off := off) (l := la) (c := cb) (ys := ys) rfl HBy19.out (by omega) 20 ⟨wz19.heap.size, 0, none⟩ 1 rfl (by go_simp) ?_)
            intro A9 c9 w9 hc9 hI9 hb9
            have HK := Lib.hid ((HSy19.out.below hb9 (Nat.le_refl _)).fin (Q := P + 60) HLA.out hl11 (by rw [List.length_append, ← HBy19.out.len]; rfl) (by omega) hc9 hI9 (by omega))
            clear hI9 hb9 HSy19 HBy19 HSz19 HBz19
            go_wp2
            go_ret2
            exact HK.out
        · obtain rfl : la = 0 := by omega
          clear hl0
          have hlc20 : 0 ≤ cb := HB.out.cap
          have h10 : 0 < 10 := by omega
          have HPL := Lib.hid (spec_placeIn (some ⟨b, off, none⟩) 0 cb ys 20 wr wr.heap.size (Nat.le_refl _) HB.out.len HB.out.is (by omega))
          go_wp2_with fail
          refine HPL.out.mono ?_
          rintro e wx20 ⟨rfl, rfl⟩
          clear HPL
          generalize plc ys 20 = p at *
          by_cases hp : p < 0
          case neg =>
            go_wp2
            go_ret2
            exact HS.out.fin HLA.out hl11 HB.out.len (by omega) HB.out.cap HB.out.is (by omega)
          go_wp2_with fail
          refine (pick_any g A n c bs (P + 15 + 2 * i) 2 wr HS.out.rd HN.out hby hs (by omega) (by omega)).mono ?_
          rintro e wz20 ⟨x2, rfl, _, _, hrz, htz⟩
          have HSz20 := Lib.hid (HS.out.pick hrz htz)
          have HBz20 := Lib.hid (HB.out.turn htz hgd)
          clear hrz htz
          by_cases hx2 : x2 = 0
          case neg =>
            have hx2' : ((x2 : Int) == 0) = false := by simp; omega
            clear hx2
            go_wp2
            go_ret2
            exact HSz20.out.fin HLA.out hl11 HBz20.out.len (by omega) HBz20.out.cap HBz20.out.is (by omega)
          have hx2' : ((x2 : Int) == 0) = true := by simp [hx2]
          clear hx2
          have HSy20 := Lib.hid (HSz20.out.below (below_new wz20 (.cells #[.int .i64 20] 3)) HSz20.out.d)
          have HBy20 := Lib.hid (HBz20.out.step (below_new wz20 (.cells #[.int .i64 20] 3)))
          go_wp2_with (at_builtin; refine wpList_app_cm _ rfl _ _ rfl (b := b) (off := off) (l := 0) (c := cb) (ys := ys) rfl HBy20.out (by omega) 20 ⟨wz20.heap.size, 0, none⟩ 1 rfl (by go_simp) ?_)
          intro A9 c9 w9 hc9 hI9 hb9
          have HK := Lib.hid ((HSy20.out.below hb9 (Nat.le_refl _)).fin (Q := P + 60) HLA.out hl11 (by rw [List.length_append, ← HBy20.out.len]; rfl) (by omega) hc9 hI9 (by omega))
          clear hI9 hb9 HSy20 HBy20 HSz20 HBz20
          go_wp2
          go_ret2
          exact HK.out
      go_wp2_with fail
      refine (pick_any g A n c bs (P + 15 + 2 * i) (la : Int) wr HS.out.rd HN.out hby hs (by omega) (by omega)).mono ?_
      rintro e w6 ⟨k, rfl, hkl, _, hr6, ht6⟩
      have hk : k < la := by have := hkl (by omega); omega
      have HS6 := Lib.hid (HS.out.pick hr6 ht6)
      have HB6 := Lib.hid (HB.out.turn ht6 hgd)
      clear hr6 ht6 hkl HS HB
      have c0 := HB6.out.cells k hk
      generalize ys.getD k 0 = z at c0
      obtain ⟨o2, ho2, hnx⟩ := HB6.out.tail (k + 1) (by omega)
      have HNX := Lib.hid hnx
      have hbw6 := HB6.out.hi
      have hwk : IntKind.i64.wrap ((k : Int) + 1) = ((k + 1 : Nat) : Int) := by rw [IntKind.wrap_i64]; omega
      have hk0 : (0 : Int) ≤ (k : Int) + 1 := by omega
      have hk1 : (k : Int) + 1 ≤ (la : Int) := by omega
      have hkc : k + 1 ≤ cb := by omega
      have hkc0 : k ≤ cb := by omega
      have HCK := Lib.hid (spec_copyIntsA (some ⟨b, off, none⟩) k cb (ys.take k) w6.drew w6.heap.size (Nat.le_refl _) (by rw [List.length_take, ← HB6.out.len]; omega) (HB6.out.is.take_ k (by rw [← HB6.out.len]; omega)) (by omega))
      have HYL := Lib.hid HB6.out.len
      clear hnx
      go_wp2
      refine wp_region_held_drew (S := fun _ => True) (by kernel_rfl) trivial (fun hHeld => ?_)
      refine wpAnyH_take (i := 0) (oi := ⟨some 44, _, _, _, _, _⟩) (v := ?_) rfl (by kernel_rfl) (by kernel_rfl) (by kernel_rfl) (fun _ _ _ h => h) (Or.inl ⟨by rfl, ?_⟩) (by assumption) ?_; rotate_left; (focus (intro w hSw; (try dsimp only at hSw); go_simp; (try with_reducible rfl))); (try simp only [Act.put, List.setIfInBounds_toArray, List.set_cons_zero, List.set_cons_succ])
      refine wpAnyH_take (i := 1) (oi := ⟨some 45, _, _, _, _, _⟩) (v := ?_) rfl (by kernel_rfl) (by kernel_rfl) (by kernel_rfl) (fun _ _ _ h => h) (Or.inl ⟨by rfl, ?_⟩) (by assumption) ?_; rotate_left; (focus (intro w hSw; (try dsimp only at hSw); go_simp; (try with_reducible rfl))); (try simp only [Act.put, List.setIfInBounds_toArray, List.set_cons_zero, List.set_cons_succ])
      refine wpAnyH_take (i := 2) (oi := ⟨some 46, _, _, _, _, _⟩) (v := ?_) rfl (by kernel_rfl) (by kernel_rfl) (by kernel_rfl) (fun _ _ _ h => h) (Or.inl ⟨by rfl, ?_⟩) (by assumption) ?_; rotate_left; (focus (intro w hSw; (try dsimp only at hSw); go_simp; (try with_reducible rfl))); (try simp only [Act.put, List.setIfInBounds_toArray, List.set_cons_zero, List.set_cons_succ])
      refine wpAnyH_take (i := 4) (oi := ⟨some 48, _, _, _, _, _⟩) (v := ?_) rfl (by kernel_rfl) (by kernel_rfl) (by kernel_rfl) (fun _ _ _ h => h) (Or.inl ⟨by rfl, ?_⟩) (by assumption) ?_; rotate_left; (focus (intro w hSw; (try dsimp only at hSw); go_simp; (try with_reducible rfl))); (try simp only [Act.put, List.setIfInBounds_toArray, List.set_cons_zero, List.set_cons_succ])
      refine wpAnyH_take (i := 5) (oi := ⟨some 49, _, _, _, _, _⟩) (v := ?_) rfl (by kernel_rfl) (by kernel_rfl) (by kernel_rfl) (fun _ _ _ h => h) (Or.inl ⟨by rfl, ?_⟩) (by assumption) ?_; rotate_left; (focus (intro w hSw; (try dsimp only at hSw); go_simp; (try with_reducible rfl))); (try simp only [Act.put, List.setIfInBounds_toArray, List.set_cons_zero, List.set_cons_succ])
      refine wpAnyH_take (i := 6) (oi := ⟨some 50, _, _, _, _, _⟩) (v := ?_) rfl (by kernel_rfl) (by kernel_rfl) (by kernel_rfl) (fun _ _ _ h => h) (Or.inl ⟨by rfl, ?_⟩) (by assumption) ?_; rotate_left; (focus (intro w hSw; (try dsimp only at hSw); go_simp; (try with_reducible rfl))); (try simp only [Act.put, List.setIfInBounds_toArray, List.set_cons_zero, List.set_cons_succ])
      refine wpAnyH_take (i := 7) (oi := ⟨some 51, _, _, _, _, _⟩) (v := ?_) rfl (by kernel_rfl) (by kernel_rfl) (by kernel_rfl) (fun _ _ _ h => h) (Or.inl ⟨by rfl, ?_⟩) (by assumption) ?_; rotate_left; (focus (intro w hSw; (try dsimp only at hSw); go_simp; (try with_reducible rfl))); (try simp only [Act.put, List.setIfInBounds_toArray, List.set_cons_zero, List.set_cons_succ])
      refine wpAnyH_ready (rs := [3]) (by kernel_rfl) (by simp) ?_; refine AllReadyH.cons (o := ⟨some 47, _, _, _, _, _⟩) rfl (fun K hK => ?_) AllReadyH.nil; go_simp
      go_at_call 36
      refine HCK.out.mono ?_
      rintro e w7 ⟨g7, c7, rfl, hown7', hb7'⟩
      have hb7 : Below w6.heap.size w6 w7 := below_of_drew hb7'
      have hown7 : w7.ownsRow w6.heap.size 3 1 (.slice (some ⟨g7, 0, none⟩) k c7) k ((ys.take k).map (Value.int .i64)) := hown7'
      have HNX7 := Lib.hid (add_cell HNX.out hb7 hbw6)
      clear hown7' hb7' HCK HNX
      refine hK.out _ _ trivial (fun hHeld => ?_); clear hK K; (try simp only [Act.put, List.setIfInBounds_toArray, List.set_cons_zero, List.set_cons_succ])
      refine wpAnyH_ready (rs := [8]) (by kernel_rfl) (by simp) ?_; refine AllReadyH.cons (o := ⟨some 52, _, _, _, _, _⟩) rfl (fun K hK => ?_) AllReadyH.nil
      refine step_append_own_at _ (by rfl) _ _ _ (by rfl) w6.heap.size 3 i0 (.int .i64 0) 1 8 Try.underlying22 hi hz0 hz1 hz2 rfl (by omega) (.slice (some ⟨g7, 0, none⟩) k c7) (k) ((ys.take k).map (Value.int .i64)) (by rfl) hown7 ⟨b, o2, none⟩ (la - (k + 1)) (cb - (k + 1)) ((ys.drop (k + 1)).map (Value.int .i64)) (by rfl) (by rw [List.length_map, List.length_drop, ← HYL.out]; omega) HNX7.out (one_ints _) (by unfold maxLen; omega) (by omega) hb7.size ?_
      intro v8 w8 hown_w8 hgrow_w8 _
      have hpos8 := hown7.lt
      have hb8 : Below w6.heap.size w6 w8 := hb7.trans ((Below.refl _ _).grown (w' := w8) (w := w7) ⟨hgrow_w8.os, hgrow_w8.tape, hgrow_w8.output, hgrow_w8.size, hgrow_w8.block⟩ hb7.size (fun q hq => (hpos8 q hq).1))
      obtain ⟨l1, hl1⟩ : ∃ l1, l1 + 1 = la := ⟨la - 1, by omega⟩
      obtain ⟨zs, hzs⟩ : ∃ zs, zs = ys.take k ++ ys.drop (k + 1) := ⟨_, rfl⟩
      have hown8 : w8.ownsRow w6.heap.size 3 1 v8 l1 (zs.map (Value.int .i64)) := by
        have e : k + (la - (k + 1)) = l1 := by omega
        rw [e] at hown_w8
        rw [hzs, List.map_append]; exact hown_w8
      obtain ⟨b8, o8, c8, hv8, HB8⟩ : ∃ b8 o8 c8, v8 = .slice (some ⟨b8, o8, none⟩) l1 c8 ∧ Hid (Cm d0 b8 o8 l1 c8 zs w8) := by
        obtain ⟨g8, c8, hv⟩ := row_form2 hown8 (by omega)
        subst hv
        exact ⟨g8, 0, c8, rfl, (Cm.of_own hown8).lower HS6.out.d⟩
      subst hv8
      have HS8 := Lib.hid (HS6.out.below hb8 HS6.out.d)
      clear hown7 hown8 hown_w8 hgrow_w8 hb7 hb8 hpos8 hzs HB6 HS6 HNX7 HYL c0
      refine hK.out _ _ trivial (fun hHeld => ?_); clear hK K; (try simp only [Act.put, List.setIfInBounds_toArray, List.set_cons_zero, List.set_cons_succ])
      refine wpAnyH_take (i := 9) (oi := ⟨some 5, _, _, _, _, _⟩) (v := ?_) rfl (by kernel_rfl) (by kernel_rfl) (by kernel_rfl) (fun _ _ _ h => h) (Or.inl ⟨by rfl, ?_⟩) (by assumption) ?_; rotate_left; (focus (intro w hSw; (try dsimp only at hSw); go_simp; (try with_reducible rfl))); (try simp only [Act.put, List.setIfInBounds_toArray, List.set_cons_zero, List.set_cons_succ])
      refine wpAnyH_done (by kernel_rfl) ?_ _
      clear hwk hk0 hk1 hkc hkc0 ho2
      have HL1 := Lib.hid hl1
      have hl1a : l1 < la := by omega
      have hl1b : la ≤ l1 + 1 := by omega
      clear hl1
      go_wp2_with fail
      refine (pick_any g A n c bs (P + 15 + 2 * i + 1) ((l1 : Int) + 1) w8 HS8.out.rd HN.out hby hs (by omega) (by omega)).mono ?_
      rintro e w9 ⟨k2, rfl, hkl, _, hr9, ht9⟩
      have hk2 : k2 ≤ l1 := by have := hkl (by omega); omega
      have HS9 := Lib.hid (HS8.out.pick hr9 ht9)
      have HB9 := Lib.hid (HB8.out.turn ht9 hgd)
      clear hr9 ht9 hkl HS8 HB8
      obtain ⟨o3, ho3, hnx⟩ := HB9.out.tail k2 hk2
      have HNX := Lib.hid hnx
      have hbw9 := HB9.out.hi
      have hlc9 : l1 ≤ c8 := HB9.out.cap
      have hk2c : k2 ≤ c8 := by omega
      have HZL := Lib.hid HB9.out.len
      have HIZ := Lib.hid (HB9.out.is.take_ k2 (by rw [← HZL.out]; exact hk2))
      have HDL := Lib.hid HS9.out.d
      clear hnx
      go_wp2
      refine wp_region_held_drew (S := fun _ => True) (by kernel_rfl) trivial (fun hHeld => ?_)
      refine wpAnyH_take (i := 0) (oi := ⟨some 58, _, _, _, _, _⟩) (v := ?_) rfl (by kernel_rfl) (by kernel_rfl) (by kernel_rfl) (fun _ _ _ h => h) (Or.inl ⟨by rfl, ?_⟩) (by assumption) ?_; rotate_left; (focus (intro w hSw; (try dsimp only at hSw); go_simp; (try with_reducible rfl))); (try simp only [Act.put, List.setIfInBounds_toArray, List.set_cons_zero, List.set_cons_succ])
      refine wpAnyH_take (i := 1) (oi := ⟨some 59, _, _, _, _, _⟩) (v := ?_) rfl (by kernel_rfl) (by kernel_rfl) (by kernel_rfl) (fun _ _ _ h => h) (Or.inl ⟨by rfl, ?_⟩) (by assumption) ?_; rotate_left; (focus (intro w hSw; (try dsimp only at hSw); go_simp; (try with_reducible rfl))); (try simp only [Act.put, List.setIfInBounds_toArray, List.set_cons_zero, List.set_cons_succ])
      refine wpAnyH_take (i := 2) (oi := ⟨some 60, _, _, _, _, _⟩) (v := ?_) rfl (by kernel_rfl) (by kernel_rfl) (by kernel_rfl) (fun _ _ _ h => h) (Or.inl ⟨by rfl, ?_⟩) (by assumption) ?_; rotate_left; (focus (intro w hSw; (try dsimp only at hSw); go_simp; (try with_reducible rfl))); (try simp only [Act.put, List.setIfInBounds_toArray, List.set_cons_zero, List.set_cons_succ])
      refine wpAnyH_take (i := 4) (oi := ⟨some 62, _, _, _, _, _⟩) (v := ?_) rfl (by kernel_rfl) (by kernel_rfl) (by kernel_rfl) (fun _ _ _ h => h) (Or.inl ⟨by rfl, ?_⟩) (by assumption) ?_; rotate_left; (focus (intro w hSw; (try dsimp only at hSw); go_simp; (try with_reducible rfl))); (try simp only [Act.put, List.setIfInBounds_toArray, List.set_cons_zero, List.set_cons_succ])
      refine wpAnyH_take (i := 7) (oi := ⟨some 65, _, _, _, _, _⟩) (v := ?_) rfl (by kernel_rfl) (by kernel_rfl) (by kernel_rfl) (fun _ _ _ h => h) (Or.inl ⟨by rfl, ?_⟩) (by assumption) ?_; rotate_left; (focus (intro w hSw; (try dsimp only at hSw); go_simp; (try with_reducible rfl))); (try simp only [Act.put, List.setIfInBounds_toArray, List.set_cons_zero, List.set_cons_succ])
      refine wpAnyH_take (i := 8) (oi := ⟨some 66, _, _, _, _, _⟩) (v := ?_) rfl (by kernel_rfl) (by kernel_rfl) (by kernel_rfl) (fun _ _ _ h => h) (Or.inl ⟨by rfl, ?_⟩) (by assumption) ?_; rotate_left; (focus (intro w hSw; (try dsimp only at hSw); go_simp; (try with_reducible rfl))); (try simp only [Act.put, List.setIfInBounds_toArray, List.set_cons_zero, List.set_cons_succ])
      refine wpAnyH_take (i := 9) (oi := ⟨some 67, _, _, _, _, _⟩) (v := ?_) rfl (by kernel_rfl) (by kernel_rfl) (by kernel_rfl) (fun _ _ _ h => h) (Or.inl ⟨by rfl, ?_⟩) (by assumption) ?_; rotate_left; (focus (intro w hSw; (try dsimp only at hSw); go_simp; (try with_reducible rfl))); (try simp only [Act.put, List.setIfInBounds_toArray, List.set_cons_zero, List.set_cons_succ])
      refine wpAnyH_ready (rs := [3, 5]) (by kernel_rfl) (by simp) ?_; refine AllReadyH.cons (o := ⟨some 61, _, _, _, _, _⟩) rfl (fun K hK => ?_) (AllReadyH.cons (o := ⟨some 63, _, _, _, _, _⟩) rfl (fun K hK => ?_) AllReadyH.nil)
      · go_simp
        go_at_call 36
        refine (spec_copyIntsA (some ⟨b8, o8, none⟩) k2 c8 (zs.take k2) w9.drew w9.heap.size (Nat.le_refl _) (by rw [List.length_take, ← HZL.out]; omega) HIZ.out (by omega)).mono ?_
        rintro e w10 ⟨g10, c10, rfl, hown10', hb10'⟩
        have hb10 : Below w9.heap.size w9 w10 := below_of_drew hb10'
        have hown10 : w10.ownsRow w9.heap.size 3 1 (.slice (some ⟨g10, 0, none⟩) k2 c10) k2 ((zs.take k2).map (Value.int .i64)) := hown10'
        have HNX1 := Lib.hid (add_cell (add_cell HNX.out hb10 hbw9) (below_new w10 (.cells #[.int .i64 z] 3)) (Nat.lt_of_lt_of_le hbw9 hb10.size))
        have hX : Below w9.heap.size w9 (w10.alloc (.cells #[.int .i64 z] 3)) := hb10.alloc hb10.size _
        have hownX := hown10.alloc (.cells #[.int .i64 z] 3)
        clear hown10' hb10' HNX hown10
        refine hK.out _ _ trivial (fun hHeld => ?_); clear hK K; (try simp only [Act.put, List.setIfInBounds_toArray, List.set_cons_zero, List.set_cons_succ])
        refine wpAnyH_ready (rs := [5]) (by kernel_rfl) (by simp) ?_; refine AllReadyH.cons (o := ⟨some 63, _, _, _, _, _⟩) rfl (fun K hK => ?_) AllReadyH.nil; go_simp
        refine hK.out _ _ trivial (fun hHeld => ?_); clear hK K; (try simp only [Act.put, List.setIfInBounds_toArray, List.set_cons_zero, List.set_cons_succ])
        refine wpAnyH_ready (rs := [6]) (by kernel_rfl) (by simp) ?_; refine AllReadyH.cons (o := ⟨some 64, _, _, _, _, _⟩) rfl (fun K hK => ?_) AllReadyH.nil
        refine step_append_own_at _ (by rfl) _ _ _ (by rfl) w9.heap.size 3 i0 (.int .i64 0) 1 8 Try.underlying22 hi hz0 hz1 hz2 rfl (by omega) (.slice (some ⟨g10, 0, none⟩) k2 c10) (k2) ((zs.take k2).map (Value.int .i64)) (by rfl) hownX ⟨w10.heap.size, 0, none⟩ (1) (1) ([.int .i64 z]) (by rfl) rfl (cell_one_new _ _ _) (by intro u hu; simp at hu; subst hu; rfl) (by unfold maxLen; omega) (by omega) hX.size ?_
        intro v11 w11 hown_w11 hgrow_w11 _
        have hpos11 := hownX.lt
        have hb11 : Below w9.heap.size w9 w11 := hX.trans ((Below.refl _ _).grown (w' := w11) (w := (w10.alloc (.cells #[.int .i64 z] 3))) ⟨hgrow_w11.os, hgrow_w11.tape, hgrow_w11.output, hgrow_w11.size, hgrow_w11.block⟩ hX.size (fun q hq => (hpos11 q hq).1))
        have hgr11 : (w10.alloc (.cells #[.int .i64 z] 3)).grownBy w11 (Value.slice (some ⟨g10, 0, none⟩) k2 c10).ownBlock := ⟨hgrow_w11.os, hgrow_w11.tape, hgrow_w11.output, hgrow_w11.size, hgrow_w11.block⟩
        have HNX2 := Lib.hid (add_cell HNX1.out ((Below.refl w9.heap.size _).grown hgr11 hX.size (fun q hq => (hpos11 q hq).1)) hbw9)
        clear hgrow_w11 hgr11 hpos11 HNX1
        refine hK.out _ _ trivial (fun hHeld => ?_); clear hK K; (try simp only [Act.put, List.setIfInBounds_toArray, List.set_cons_zero, List.set_cons_succ])
        refine wpAnyH_ready (rs := [10]) (by kernel_rfl) (by simp) ?_; refine AllReadyH.cons (o := ⟨some 68, _, _, _, _, _⟩) rfl (fun K hK => ?_) AllReadyH.nil
        refine step_append_own_at _ (by rfl) _ _ _ (by rfl) w9.heap.size 3 i0 (.int .i64 0) 1 8 Try.underlying22 hi hz0 hz1 hz2 rfl (by omega) (v11) (k2 + 1) ((zs.take k2).map (Value.int .i64) ++ [.int .i64 z]) (by rfl) hown_w11 ⟨b8, o3, none⟩ (l1 - k2) (c8 - k2) ((zs.drop k2).map (Value.int .i64)) (by rfl) (by rw [List.length_map, List.length_drop, ← HZL.out]; omega) HNX2.out (one_ints _) (by unfold maxLen; omega) (by omega) hb11.size ?_
        intro v12 w12 hown_w12 hgrow_w12 _
        have hpos12 := hown_w11.lt
        have hb12 : Below w9.heap.size w9 w12 := hb11.trans ((Below.refl _ _).grown (w' := w12) (w := w11) ⟨hgrow_w12.os, hgrow_w12.tape, hgrow_w12.output, hgrow_w12.size, hgrow_w12.block⟩ hb11.size (fun q hq => (hpos12 q hq).1))
        have hown12 : w12.ownsRow w9.heap.size 3 1 v12 la ((zs.take k2 ++ [z] ++ zs.drop k2).map (Value.int .i64)) := by
          have e : k2 + 1 + (l1 - k2) = la := by omega
          rw [e] at hown_w12
          simpa using hown_w12
        obtain ⟨b9, o9, c9, hv9, HB12⟩ : ∃ b9 o9 c9, v12 = .slice (some ⟨b9, o9, none⟩) la c9 ∧ Hid (Cm d0 b9 o9 la c9 (zs.take k2 ++ [z] ++ zs.drop k2) w12) := by
          obtain ⟨g9, c9, hv⟩ := row_form2 hown12 (by omega)
          subst hv
          exact ⟨g9, 0, c9, rfl, (Cm.of_own hown12).lower HS9.out.d⟩
        subst hv9
        have HS12 := Lib.hid (HS9.out.below hb12 HS9.out.d)
        clear hown_w11 hown_w12 hown12 hgrow_w12 hpos12 hb11 hb12 hX hownX HNX2 HB9 HS9
        refine hK.out _ _ trivial (fun hHeld => ?_); clear hK K; (try simp only [Act.put, List.setIfInBounds_toArray, List.set_cons_zero, List.set_cons_succ])
        refine wpAnyH_take (i := 11) (oi := ⟨some 5, _, _, _, _, _⟩) (v := ?_) rfl (by kernel_rfl) (by kernel_rfl) (by kernel_rfl) (fun _ _ _ h => h) (Or.inl ⟨by rfl, ?_⟩) (by assumption) ?_; rotate_left; (focus (intro w hSw; (try dsimp only at hSw); go_simp; (try with_reducible rfl))); (try simp only [Act.put, List.setIfInBounds_toArray, List.set_cons_zero, List.set_cons_succ])
        refine wpAnyH_done (by kernel_rfl) ?_ _
        go_wp2
        go_roundw
        case rel => exact ⟨i + 1, m - 1, b9, o9, c9, _, by omega, by go_num, rfl, HB12.out, HS12.out.mono (by omega)⟩
        case measure => simp [intOf]; omega
      · go_simp
        have HIB := Lib.hid (HIZ.out.below (below_new w9 (.cells #[.int .i64 z] 3)) (Nat.le_refl _))
        refine hK.out _ _ trivial (fun hHeld => ?_); clear hK K; (try simp only [Act.put, List.setIfInBounds_toArray, List.set_cons_zero, List.set_cons_succ])
        refine wpAnyH_ready (rs := [3]) (by kernel_rfl) (by simp) ?_; refine AllReadyH.cons (o := ⟨some 61, _, _, _, _, _⟩) rfl (fun K hK => ?_) AllReadyH.nil; go_simp
        go_at_call 36
        refine (spec_copyIntsA (some ⟨b8, o8, none⟩) k2 c8 (zs.take k2) (w9.drew.alloc (.cells #[.int .i64 z] 3)) w9.heap.size (by simp) (by rw [List.length_take, ← HZL.out]; omega) HIB.out (by omega)).mono ?_
        rintro e w10 ⟨g10, c10, rfl, hown10', hb10'⟩
        have hb10'' : Below (w9.alloc (.cells #[.int .i64 z] 3)).heap.size (w9.alloc (.cells #[.int .i64 z] 3)) w10 := ⟨hb10'.os, hb10'.tape, hb10'.output, hb10'.size, hb10'.block⟩
        have hX : Below w9.heap.size w9 w10 := (below_new w9 (.cells #[.int .i64 z] 3)).trans (hb10''.mono (by simp))
        have hownX : w10.ownsRow w9.heap.size 3 1 (.slice (some ⟨g10, 0, none⟩) k2 c10) k2 ((zs.take k2).map (Value.int .i64)) := own_mono hown10' (by simp)
        have HNX1 := Lib.hid (add_cell HNX.out hX hbw9)
        have hcz : ∀ j u, [Value.int .i64 z][j]? = some u → w10.cell? ((⟨w9.heap.size, 0, none⟩ : Addr).add j) = some u := add_cell (cell_one_new w9 (.int .i64 z) 3) hb10'' (by simp)
        clear hown10' hb10' hb10'' HNX
        refine hK.out _ _ trivial (fun hHeld => ?_); clear hK K; (try simp only [Act.put, List.setIfInBounds_toArray, List.set_cons_zero, List.set_cons_succ])
        refine wpAnyH_ready (rs := [6]) (by kernel_rfl) (by simp) ?_; refine AllReadyH.cons (o := ⟨some 64, _, _, _, _, _⟩) rfl (fun K hK => ?_) AllReadyH.nil
        refine step_append_own_at _ (by rfl) _ _ _ (by rfl) w9.heap.size 3 i0 (.int .i64 0) 1 8 Try.underlying22 hi hz0 hz1 hz2 rfl (by omega) (.slice (some ⟨g10, 0, none⟩) k2 c10) (k2) ((zs.take k2).map (Value.int .i64)) (by rfl) hownX ⟨w9.heap.size, 0, none⟩ (1) (1) ([.int .i64 z]) (by rfl) rfl hcz (by intro u hu; simp at hu; subst hu; rfl) (by unfold maxLen; omega) (by omega) hX.size ?_
        intro v11 w11 hown_w11 hgrow_w11 _
        have hpos11 := hownX.lt
        have hb11 : Below w9.heap.size w9 w11 := hX.trans ((Below.refl _ _).grown (w' := w11) (w := w10) ⟨hgrow_w11.os, hgrow_w11.tape, hgrow_w11.output, hgrow_w11.size, hgrow_w11.block⟩ hX.size (fun q hq => (hpos11 q hq).1))
        have hgr11 : w10.grownBy w11 (Value.slice (some ⟨g10, 0, none⟩) k2 c10).ownBlock := ⟨hgrow_w11.os, hgrow_w11.tape, hgrow_w11.output, hgrow_w11.size, hgrow_w11.block⟩
        have HNX2 := Lib.hid (add_cell HNX1.out ((Below.refl w9.heap.size _).grown hgr11 hX.size (fun q hq => (hpos11 q hq).1)) hbw9)
        clear hgrow_w11 hgr11 hpos11 HNX1
        refine hK.out _ _ trivial (fun hHeld => ?_); clear hK K; (try simp only [Act.put, List.setIfInBounds_toArray, List.set_cons_zero, List.set_cons_succ])
        refine wpAnyH_ready (rs := [10]) (by kernel_rfl) (by simp) ?_; refine AllReadyH.cons (o := ⟨some 68, _, _, _, _, _⟩) rfl (fun K hK => ?_) AllReadyH.nil
        refine step_append_own_at _ (by rfl) _ _ _ (by rfl) w9.heap.size 3 i0 (.int .i64 0) 1 8 Try.underlying22 hi hz0 hz1 hz2 rfl (by omega) (v11) (k2 + 1) ((zs.take k2).map (Value.int .i64) ++ [.int .i64 z]) (by rfl) hown_w11 ⟨b8, o3, none⟩ (l1 - k2) (c8 - k2) ((zs.drop k2).map (Value.int .i64)) (by rfl) (by rw [List.length_map, List.length_drop, ← HZL.out]; omega) HNX2.out (one_ints _) (by unfold maxLen; omega) (by omega) hb11.size ?_
        intro v12 w12 hown_w12 hgrow_w12 _
        have hpos12 := hown_w11.lt
        have hb12 : Below w9.heap.size w9 w12 := hb11.trans ((Below.refl _ _).grown (w' := w12) (w := w11) ⟨hgrow_w12.os, hgrow_w12.tape, hgrow_w12.output, hgrow_w12.size, hgrow_w12.block⟩ hb11.size (fun q hq => (hpos12 q hq).1))
        have hown12 : w12.ownsRow w9.heap.size 3 1 v12 la ((zs.take k2 ++ [z] ++ zs.drop k2).map (Value.int .i64)) := by
          have e : k2 + 1 + (l1 - k2) = la := by omega
          rw [e] at hown_w12
          simpa using hown_w12
        obtain ⟨b9, o9, c9, hv9, HB12⟩ : ∃ b9 o9 c9, v12 = .slice (some ⟨b9, o9, none⟩) la c9 ∧ Hid (Cm d0 b9 o9 la c9 (zs.take k2 ++ [z] ++ zs.drop k2) w12) := by
          obtain ⟨g9, c9, hv⟩ := row_form2 hown12 (by omega)
          subst hv
          exact ⟨g9, 0, c9, rfl, (Cm.of_own hown12).lower HS9.out.d⟩
        subst hv9
        have HS12 := Lib.hid (HS9.out.below hb12 HS9.out.d)
        clear hown_w11 hown_w12 hown12 hgrow_w12 hpos12 hb11 hb12 hX hownX HNX2 HB9 HS9
        refine hK.out _ _ trivial (fun hHeld => ?_); clear hK K; (try simp only [Act.put, List.setIfInBounds_toArray, List.set_cons_zero, List.set_cons_succ])
        refine wpAnyH_take (i := 11) (oi := ⟨some 5, _, _, _, _, _⟩) (v := ?_) rfl (by kernel_rfl) (by kernel_rfl) (by kernel_rfl) (fun _ _ _ h => h) (Or.inl ⟨by rfl, ?_⟩) (by assumption) ?_; rotate_left; (focus (intro w hSw; (try dsimp only at hSw); go_simp; (try with_reducible rfl))); (try simp only [Act.put, List.setIfInBounds_toArray, List.set_cons_zero, List.set_cons_succ])
        refine wpAnyH_done (by kernel_rfl) ?_ _
        go_wp2
        go_roundw
        case rel => exact ⟨i + 1, m - 1, b9, o9, c9, _, by omega, by go_num, rfl, HB12.out, HS12.out.mono (by omega)⟩
        case measure => simp [intOf]; omega
  · have hy1' : ((y : Int) == 1) = false := by simp; omega
    clear hy1
    go_wp2_with fail
    refine (pick_any g A n c bs (P + 14) 4 w3 HS3.out.rd HN.out hby hs (by omega) (by omega)).mono ?_
    rintro e w5 ⟨N, rfl, hN, _, hr5, ht5⟩
    have hN4 : (N : Int) < 4 := hN (by omega)
    have HS5 := Lib.hid (HS3.out.pick hr5 ht5)
    have HB5 := Lib.hid (HB3.out.turn ht5 hgd)
    clear hr5 ht5 HS3 HB3 hN
    go_wp2
    go_loopw [5, 6] (fun v u wr => ∃ (i m b off cb : Nat) (ys : List Int), i + m = N ∧ u = .int .i64 m ∧ v = .slice (some ⟨b, off, none⟩) la cb ∧ Hid (Cm d0 b off la cb ys wr) ∧ Hid (KS g A n c bs w Aa la ca xs d0 (P + 15 + 2 * i) wr)) (fun _ u _ => (intOf u).toNat)
    case atStart => exact ⟨0, N, b2, 0, c2, xs, by omega, rfl, rfl, HB5.out, HS5.out⟩
    case round =>
      obtain ⟨i, m, b, off, cb, ys, him, rfl, rfl, HB, HS⟩ := hrel
      clear HB5 HS5
      have hlcb : la ≤ cb := HB.out.cap
      by_cases hm : 0 < m
      case neg =>
        obtain rfl : m = 0 := by omega
        clear hm
        have hlb21 : la ≤ cb := HB.out.cap
        by_cases hl0 : 0 < la
        · go_wp2_with fail
          refine (pick_any g A n c bs (P + 15 + 2 * i) 2 wr HS.out.rd HN.out hby hs (by omega) (by omega)).mono ?_
          rintro e wt21 ⟨x1, rfl, _, _, hrt, htt⟩
          have HSt21 := Lib.hid (HS.out.pick hrt htt)
          have HBt21 := Lib.hid (HB.out.turn htt hgd)
          clear hrt htt
          by_cases hx1 : x1 = 0
          · have hx1' : ((x1 : Int) == 0) = true := by simp [hx1]
            clear hx1
            have hla21 : 1 ≤ la := by omega
            have hlz21 : (1 : Int) ≤ (la : Int) := by omega
            have hcq21 : 1 ≤ cb := by omega
            obtain ⟨o4, ho4, hB4⟩ := HBt21.out.drop1 hl0
            obtain ⟨l4, hl4⟩ : ∃ l4, l4 = la - 1 := ⟨_, rfl⟩
            obtain ⟨ys4, hys4⟩ : ∃ ys4, ys4 = ys.drop 1 := ⟨_, rfl⟩
            rw [← hl4, ← hys4] at hB4
            clear hys4
            have hl4m : l4 ≤ 11 := by omega
            have hl4' : la - 1 = l4 := hl4.symm
            clear hl4
            by_cases hcb1 : cb = 1
            · rw [if_pos hcb1] at ho4
              cases ho4
              rw [hcb1] at hB4
              have hcc : cb - 1 = 0 := by omega
              have HBu21 := Lib.hid (show Cm d0 b off l4 0 ys4 wt21 from hB4)
              clear hB4
              have hlc22 : l4 ≤ 0 := HBu21.out.cap
              have h10 : l4 < 10 := by omega
              have HPL := Lib.hid (spec_placeIn (some ⟨b, off, none⟩) l4 0 ys4 20 wt21 wt21.heap.size (Nat.le_refl _) HBu21.out.len HBu21.out.is (by omega))
              go_wp2_with fail
              refine HPL.out.mono ?_
              rintro e wx22 ⟨rfl, rfl⟩
              clear HPL
              generalize plc ys4 20 = p at *
              by_cases hp : p < 0
              case neg =>
                go_wp2
                go_ret2
                exact HSt21.out.fin HLA.out hl11 HBu21.out.len (by omega) HBu21.out.cap HBu21.out.is (by omega)
              go_wp2_with fail
              refine (pick_any g A n c bs (P + 15 + 2 * i + 1) 2 wt21 HSt21.out.rd HN.out hby hs (by omega) (by omega)).mono ?_
              rintro e wz22 ⟨x2, rfl, _, _, hrz, htz⟩
              have HSz22 := Lib.hid (HSt21.out.pick hrz htz)
              have HBz22 := Lib.hid (HBu21.out.turn htz hgd)
              clear hrz htz
              by_cases hx2 : x2 = 0
              case neg =>
                have hx2' : ((x2 : Int) == 0) = false := by simp; omega
                clear hx2
                go_wp2
                go_ret2
                exact HSz22.out.fin HLA.out hl11 HBz22.out.len (by omega) HBz22.out.cap HBz22.out.is (by omega)
              have hx2' : ((x2 : Int) == 0) = true := by simp [hx2]
              clear hx2
              have HSy22 := Lib.hid (HSz22.out.below (below_new wz22 (.cells #[.int .i64 20] 3)) HSz22.out.d)
              have HBy22 := Lib.hid (HBz22.out.step (below_new wz22 (.cells #[.int .i64 20] 3)))
              go_wp2_with (at_builtin; refine wpList_app_cm _ rfl _ _ rfl (b := b) (off := off) (l := l4) (c := 0) (ys := ys4) rfl HBy22.out (by omega) 20 ⟨wz22.heap.size, 0, none⟩ 1 rfl (by go_simp) ?_)
              intro A9 c9 w9 hc9 hI9 hb9
              have HK := Lib.hid ((HSy22.out.below hb9 (Nat.le_refl _)).fin (Q := P + 60) HLA.out hl11 (by rw [List.length_append, ← HBy22.out.len]; rfl) (by omega) hc9 hI9 (by omega))
              clear hI9 hb9 HSy22 HBy22 HSz22 HBz22
              go_wp2
              go_ret2
              exact HK.out
            · rw [if_neg hcb1] at ho4
              cases ho4
              obtain ⟨c4, hc4⟩ : ∃ c4, c4 = cb - 1 := ⟨_, rfl⟩
              rw [← hc4] at hB4
              have hc4' : cb - 1 = c4 := hc4.symm
              clear hc4
              have HBu21 := Lib.hid hB4
              clear hB4
              have hlc23 : l4 ≤ c4 := HBu21.out.cap
              by_cases h10 : l4 < 10
              case neg =>
                go_wp2
                go_ret2
                exact HSt21.out.fin HLA.out hl11 HBu21.out.len (by omega) HBu21.out.cap HBu21.out.is (by omega)
              have HPL := Lib.hid (spec_placeIn (some ⟨b, off + 1, none⟩) l4 c4 ys4 20 wt21 wt21.heap.size (Nat.le_refl _) HBu21.out.len HBu21.out.is (by omega))
              go_wp2_with fail
              refine HPL.out.mono ?_
              rintro e wx23 ⟨rfl, rfl⟩
              clear HPL
              generalize plc ys4 20 = p at *
              by_cases hp : p < 0
              case neg =>
                go_wp2
                go_ret2
                exact HSt21.out.fin HLA.out hl11 HBu21.out.len (by omega) HBu21.out.cap HBu21.out.is (by omega)
              go_wp2_with fail
              refine (pick_any g A n c bs (P + 15 + 2 * i + 1) 2 wt21 HSt21.out.rd HN.out hby hs (by omega) (by omega)).mono ?_
              rintro e wz23 ⟨x2, rfl, _, _, hrz, htz⟩
              have HSz23 := Lib.hid (HSt21.out.pick hrz htz)
              have HBz23 := Lib.hid (HBu21.out.turn htz hgd)
              clear hrz htz
              by_cases hx2 : x2 = 0
              case neg =>
                have hx2' : ((x2 : Int) == 0) = false := by simp; omega
                clear hx2
                go_wp2
                go_ret2
                exact HSz23.out.fin HLA.out hl11 HBz23.out.len (by omega) HBz23.out.cap HBz23.out.is (by omega)
              have hx2' : ((x2 : Int) == 0) = true := by simp [hx2]
              clear hx2
              have HSy23 := Lib.hid (HSz23.out.below (below_new wz23 (.cells #[.int .i64 20] 3)) HSz23.out.d)
              have HBy23 := Lib.hid (HBz23.out.step (below_new wz23 (.cells #[.int .i64 20] 3)))
              go_wp2_with (at_builtin; refine wpList_app_cm _ rfl _ _ rfl (b := b) (off := off + 1) (l := l4) (c := c4) (ys := ys4) rfl HBy23.out (by omega) 20 ⟨wz23.heap.size, 0, none⟩ 1 rfl (by go_simp) ?_)
              intro A9 c9 w9 hc9 hI9 hb9
              have HK := Lib.hid ((HSy23.out.below hb9 (Nat.le_refl _)).fin (Q := P + 60) HLA.out hl11 (by rw [List.length_append, ← HBy23.out.len]; rfl) (by omega) hc9 hI9 (by omega))
              clear hI9 hb9 HSy23 HBy23 HSz23 HBz23
              go_wp2
              go_ret2
              exact HK.out
          · have hx1' : ((x1 : Int) == 0) = false := by simp; omega
            clear hx1
            have hlc24 : la ≤ cb := HBt21.out.cap
            by_cases h10 : la < 10
            case neg =>
              go_wp2
              go_ret2
              exact HSt21.out.fin HLA.out hl11 HBt21.out.len (by omega) HBt21.out.cap HBt21.out.is (by omega)
            have HPL := Lib.hid (spec_placeIn (some ⟨b, off, none⟩) la cb ys 20 wt21 wt21.heap.size (Nat.le_refl _) HBt21.out.len HBt21.out.is (by omega))
            go_wp2_with fail
            refine HPL.out.mono ?_
            rintro e wx24 ⟨rfl, rfl⟩
            clear HPL
            generalize plc ys 20 = p at *
            by_cases hp : p < 0
            case neg =>
              go_wp2
              go_ret2
              exact HSt21.out.fin HLA.out hl11 HBt21.out.len (by omega) HBt21.out.cap HBt21.out.is (by omega)
            go_wp2_with fail
            refine (pick_any g A n c bs (P + 15 + 2 * i + 1) 2 wt21 HSt21.out.rd HN.out hby hs (by omega) (by omega)).mono ?_
            rintro e wz24 ⟨x2, rfl, _, _, hrz, htz⟩
            have HSz24 := Lib.hid (HSt21.out.pick hrz htz)
            have HBz24 := Lib.hid (HBt21.out.turn htz hgd)
            clear hrz htz
            by_cases hx2 : x2 = 0
            case neg =>
              have hx2' : ((x2 : Int) == 0) = false := by simp; omega
              clear hx2
              go_wp2
              go_ret2
              exact HSz24.out.fin HLA.out hl11 HBz24.out.len (by omega) HBz24.out.cap HBz24.out.is (by omega)
            have hx2' : ((x2 : Int) == 0) = true := by simp [hx2]
            clear hx2
            have HSy24 := Lib.hid (HSz24.out.below (below_new wz24 (.cells #[.int .i64 20] 3)) HSz24.out.d)
            have HBy24 := Lib.hid (HBz24.out.step (below_new wz24 (.cells #[.int .i64 20] 3)))
            go_wp2_with (at_builtin; refine wpList_app_cm _ rfl _ _ rfl (b := b) (off := off) (l := la) (c := cb) (ys := ys) rfl HBy24.out (by omega) 20 ⟨wz24.heap.size, 0, none⟩ 1 rfl (by go_simp) ?_)
            intro A9 c9 w9 hc9 hI9 hb9
            have HK := Lib.hid ((HSy24.out.below hb9 (Nat.le_refl _)).fin (Q := P + 60) HLA.out hl11 (by rw [List.length_append, ← HBy24.out.len]; rfl) (by omega) hc9 hI9 (by omega))
            clear hI9 hb9 HSy24 HBy24 HSz24 HBz24
            go_wp2
            go_ret2
            exact HK.out
        · obtain rfl : la = 0 := by omega
          clear hl0
          have hlc25 : 0 ≤ cb := HB.out.cap
          have h10 : 0 < 10 := by omega
          have HPL := Lib.hid (spec_placeIn (some ⟨b, off, none⟩) 0 cb ys 20 wr wr.heap.size (Nat.le_refl _) HB.out.len HB.out.is (by omega))
          go_wp2_with fail
          refine HPL.out.mono ?_
          rintro e wx25 ⟨rfl, rfl⟩
          clear HPL
          generalize plc ys 20 = p at *
          by_cases hp : p < 0
          case neg =>
            go_wp2
            go_ret2
            exact HS.out.fin HLA.out hl11 HB.out.len (by omega) HB.out.cap HB.out.is (by omega)
          go_wp2_with fail
          refine (pick_any g A n c bs (P + 15 + 2 * i) 2 wr HS.out.rd HN.out hby hs (by omega) (by omega)).mono ?_
          rintro e wz25 ⟨x2, rfl, _, _, hrz, htz⟩
          have HSz25 := Lib.hid (HS.out.pick hrz htz)
          have HBz25 := Lib.hid (HB.out.turn htz hgd)
          clear hrz htz
          by_cases hx2 : x2 = 0
          case neg =>
            have hx2' : ((x2 : Int) == 0) = false := by simp; omega
            clear hx2
            go_wp2
            go_ret2
            exact HSz25.out.fin HLA.out hl11 HBz25.out.len (by omega) HBz25.out.cap HBz25.out.is (by omega)
          have hx2' : ((x2 : Int) == 0) = true := by simp [hx2]
          clear hx2
          have HSy25 := Lib.hid (HSz25.out.below (below_new wz25 (.cells #[.int .i64 20] 3)) HSz25.out.d)
          have HBy25 := Lib.hid (HBz25.out.step (below_new wz25 (.cells #[.int .i64 20] 3)))
          go_wp2_with (at_builtin; refine wpList_app_cm _ rfl _ _ rfl (b := b) (off := off) (l := 0) (c := cb) (ys := ys) rfl HBy25.out (by omega) 20 ⟨wz25.heap.size, 0, none⟩ 1 rfl (by go_simp) ?_)
          intro A9 c9 w9 hc9 hI9 hb9
          have HK := Lib.hid ((HSy25.out.below hb9 (Nat.le_refl _)).fin (Q := P + 60) HLA.out hl11 (by rw [List.length_append, ← HBy25.out.len]; rfl) (by omega) hc9 hI9 (by omega))
          clear hI9 hb9 HSy25 HBy25 HSz25 HBz25
          go_wp2
          go_ret2
          exact HK.out
      by_cases hla : 1 < la
      case neg =>
        have hlb26 : la ≤ cb := HB.out.cap
        by_cases hl0 : 0 < la
        · go_wp2_with fail
          refine (pick_any g A n c bs (P + 15 + 2 * i) 2 wr HS.out.rd HN.out hby hs (by omega) (by omega)).mono ?_
          rintro e wt26 ⟨x1, rfl, _, _, hrt, htt⟩
          have HSt26 := Lib.hid (HS.out.pick hrt htt)
          have HBt26 := Lib.hid (HB.out.turn htt hgd)
          clear hrt htt
          by_cases hx1 : x1 = 0
          · have hx1' : ((x1 : Int) == 0) = true := by simp [hx1]
            clear hx1
            have hla26 : 1 ≤ la := by omega
            have hlz26 : (1 : Int) ≤ (la : Int) := by omega
            have hcq26 : 1 ≤ cb := by omega
            obtain ⟨o4, ho4, hB4⟩ := HBt26.out.drop1 hl0
            obtain ⟨l4, hl4⟩ : ∃ l4, l4 = la - 1 := ⟨_, rfl⟩
            obtain ⟨ys4, hys4⟩ : ∃ ys4, ys4 = ys.drop 1 := ⟨_, rfl⟩
            rw [← hl4, ← hys4] at hB4
            clear hys4
            have hl4m : l4 ≤ 11 := by omega
            have hl4' : la - 1 = l4 := hl4.symm
            clear hl4
            by_cases hcb1 : cb = 1
            · rw [if_pos hcb1] at ho4
              cases ho4
              rw [hcb1] at hB4
              have hcc : cb - 1 = 0 := by omega
              have HBu26 := Lib.hid (show Cm d0 b off l4 0 ys4 wt26 from hB4)
              clear hB4
              have hlc27 : l4 ≤ 0 := HBu26.out.cap
              have h10 : l4 < 10 := by omega
              have HPL := Lib.hid (spec_placeIn (some ⟨b, off, none⟩) l4 0 ys4 20 wt26 wt26.heap.size (Nat.le_refl _) HBu26.out.len HBu26.out.is (by omega))
              go_wp2_with fail
              refine HPL.out.mono ?_
              rintro e wx27 ⟨rfl, rfl⟩
              clear HPL
              generalize plc ys4 20 = p at *
              by_cases hp : p < 0
              case neg =>
                go_wp2
                go_ret2
                exact HSt26.out.fin HLA.out hl11 HBu26.out.len (by omega) HBu26.out.cap HBu26.out.is (by omega)
              go_wp2_with fail
              refine (pick_any g A n c bs (P + 15 + 2 * i + 1) 2 wt26 HSt26.out.rd HN.out hby hs (by omega) (by omega)).mono ?_
              rintro e wz27 ⟨x2, rfl, _, _, hrz, htz⟩
              have HSz27 := Lib.hid (HSt26.out.pick hrz htz)
              have HBz27 := Lib.hid (HBu26.out.turn htz hgd)
              clear hrz htz
              by_cases hx2 : x2 = 0
              case neg =>
                have hx2' : ((x2 : Int) == 0) = false := by simp; omega
                clear hx2
                go_wp2
                go_ret2
                exact HSz27.out.fin HLA.out hl11 HBz27.out.len (by omega) HBz27.out.cap HBz27.out.is (by omega)
              have hx2' : ((x2 : Int) == 0) = true := by simp [hx2]
              clear hx2
              have HSy27 := Lib.hid (HSz27.out.below (below_new wz27 (.cells #[.int .i64 20] 3)) HSz27.out.d)
              have HBy27 := Lib.hid (HBz27.out.step (below_new wz27 (.cells #[.int .i64 20] 3)))
              go_wp2_with (at_builtin; refine wpList_app_cm _ rfl _ _ rfl (b := b) (off := off) (l := l4) (c := 0) (ys := ys4) rfl HBy27.out (by omega) 20 ⟨wz27.heap.size, 0, none⟩ 1 rfl (by go_simp) ?_)
              intro A9 c9 w9 hc9 hI9 hb9
              have HK := Lib.hid ((HSy27.out.below hb9 (Nat.le_refl _)).fin (Q := P + 60) HLA.out hl11 (by rw [List.length_append, ← HBy27.out.len]; rfl) (by omega) hc9 hI9 (by omega))
              clear hI9 hb9 HSy27 HBy27 HSz27 HBz27
              go_wp2
              go_ret2
              exact HK.out
            · rw [if_neg hcb1] at ho4
              cases ho4
              obtain ⟨c4, hc4⟩ : ∃ c4, c4 = cb - 1 := ⟨_, rfl⟩
              rw [← hc4] at hB4
              have hc4' : cb - 1 = c4 := hc4.symm
              clear hc4
              have HBu26 := Lib.hid hB4
              clear hB4
              have hlc28 : l4 ≤ c4 := HBu26.out.cap
              have h10 : l4 < 10 := by omega
              have HPL := Lib.hid (spec_placeIn (some ⟨b, off + 1, none⟩) l4 c4 ys4 20 wt26 wt26.heap.size (Nat.le_refl _) HBu26.out.len HBu26.out.is (by omega))
              go_wp2_with fail
              refine HPL.out.mono ?_
              rintro e wx28 ⟨rfl, rfl⟩
              clear HPL
              generalize plc ys4 20 = p at *
              by_cases hp : p < 0
              case neg =>
                go_wp2
                go_ret2
                exact HSt26.out.fin HLA.out hl11 HBu26.out.len (by omega) HBu26.out.cap HBu26.out.is (by omega)
              go_wp2_with fail
              refine (pick_any g A n c bs (P + 15 + 2 * i + 1) 2 wt26 HSt26.out.rd HN.out hby hs (by omega) (by omega)).mono ?_
              rintro e wz28 ⟨x2, rfl, _, _, hrz, htz⟩
              have HSz28 := Lib.hid (HSt26.out.pick hrz htz)
              have HBz28 := Lib.hid (HBu26.out.turn htz hgd)
              clear hrz htz
              by_cases hx2 : x2 = 0
              case neg =>
                have hx2' : ((x2 : Int) == 0) = false := by simp; omega
                clear hx2
                go_wp2
                go_ret2
                exact HSz28.out.fin HLA.out hl11 HBz28.out.len (by omega) HBz28.out.cap HBz28.out.is (by omega)
              have hx2' : ((x2 : Int) == 0) = true := by simp [hx2]
              clear hx2
              have HSy28 := Lib.hid (HSz28.out.below (below_new wz28 (.cells #[.int .i64 20] 3)) HSz28.out.d)
              have HBy28 := Lib.hid (HBz28.out.step (below_new wz28 (.cells #[.int .i64 20] 3)))
              go_wp2_with (at_builtin; refine wpList_app_cm _ rfl _ _ rfl (b := b) (off := off + 1) (l := l4) (c := c4) (ys := ys4) rfl HBy28.out (by omega) 20 ⟨wz28.heap.size, 0, none⟩ 1 rfl (by go_simp) ?_)
              intro A9 c9 w9 hc9 hI9 hb9
              have HK := Lib.hid ((HSy28.out.below hb9 (Nat.le_refl _)).fin (Q := P + 60) HLA.out hl11 (by rw [List.length_append, ← HBy28.out.len]; rfl) (by omega) hc9 hI9 (by omega))
              clear hI9 hb9 HSy28 HBy28 HSz28 HBz28
              go_wp2
              go_ret2
              exact HK.out
          · have hx1' : ((x1 : Int) == 0) = false := by simp; omega
            clear hx1
            have hlc29 : la ≤ cb := HBt26.out.cap
            have h10 : la < 10 := by omega
            have HPL := Lib.hid (spec_placeIn (some ⟨b, off, none⟩) la cb ys 20 wt26 wt26.heap.size (Nat.le_refl _) HBt26.out.len HBt26.out.is (by omega))
            go_wp2_with fail
            refine HPL.out.mono ?_
            rintro e wx29 ⟨rfl, rfl⟩
            clear HPL
            generalize plc ys 20 = p at *
            by_cases hp : p < 0
            case neg =>
              go_wp2
              go_ret2
              exact HSt26.out.fin HLA.out hl11 HBt26.out.len (by omega) HBt26.out.cap HBt26.out.is (by omega)
            go_wp2_with fail
            refine (pick_any g A n c bs (P + 15 + 2 * i + 1) 2 wt26 HSt26.out.rd HN.out hby hs (by omega) (by omega)).mono ?_
            rintro e wz29 ⟨x2, rfl, _, _, hrz, htz⟩
            have HSz29 := Lib.hid (HSt26.out.pick hrz htz)
            have HBz29 := Lib.hid (HBt26.out.turn htz hgd)
            clear hrz htz
            by_cases hx2 : x2 = 0
            case neg =>
              have hx2' : ((x2 : Int) == 0) = false := by simp; omega
              clear hx2
              go_wp2
              go_ret2
              exact HSz29.out.fin HLA.out hl11 HBz29.out.len (by omega) HBz29.out.cap HBz29.out.is (by omega)
            have hx2' : ((x2 : Int) == 0) = true := by simp [hx2]
            clear hx2
            have HSy29 := Lib.hid (HSz29.out.below (below_new wz29 (.cells #[.int .i64 20] 3)) HSz29.out.d)
            have HBy29 := Lib.hid (HBz29.out.step (below_new wz29 (.cells #[.int .i64 20] 3)))
            go_wp2_with (at_builtin; refine wpList_app_cm _ rfl _ _ rfl (b := b) (off := off) (l := la) (c := cb) (ys := ys) rfl HBy29.out (by omega) 20 ⟨wz29.heap.size, 0, none⟩ 1 rfl (by go_simp) ?_)
            intro A9 c9 w9 hc9 hI9 hb9
            have HK := Lib.hid ((HSy29.out.below hb9 (Nat.le_refl _)).fin (Q := P + 60) HLA.out hl11 (by rw [List.length_append, ← HBy29.out.len]; rfl) (by omega) hc9 hI9 (by omega))
            clear hI9 hb9 HSy29 HBy29 HSz29 HBz29
            go_wp2
            go_ret2
            exact HK.out
        · obtain rfl : la = 0 := by omega
          clear hl0
          have hlc30 : 0 ≤ cb := HB.out.cap
          have h10 : 0 < 10 := by omega
          have HPL := Lib.hid (spec_placeIn (some ⟨b, off, none⟩) 0 cb ys 20 wr wr.heap.size (Nat.le_refl _) HB.out.len HB.out.is (by omega))
          go_wp2_with fail
          refine HPL.out.mono ?_
          rintro e wx30 ⟨rfl, rfl⟩
          clear HPL
          generalize plc ys 20 = p at *
          by_cases hp : p < 0
          case neg =>
            go_wp2
            go_ret2
            exact HS.out.fin HLA.out hl11 HB.out.len (by omega) HB.out.cap HB.out.is (by omega)
          go_wp2_with fail
          refine (pick_any g A n c bs (P + 15 + 2 * i) 2 wr HS.out.rd HN.out hby hs (by omega) (by omega)).mono ?_
          rintro e wz30 ⟨x2, rfl, _, _, hrz, htz⟩
          have HSz30 := Lib.hid (HS.out.pick hrz htz)
          have HBz30 := Lib.hid (HB.out.turn htz hgd)
          clear hrz htz
          by_cases hx2 : x2 = 0
          case neg =>
            have hx2' : ((x2 : Int) == 0) = false := by simp; omega
            clear hx2
            go_wp2
            go_ret2
            exact HSz30.out.fin HLA.out hl11 HBz30.out.len (by omega) HBz30.out.cap HBz30.out.is (by omega)
          have hx2' : ((x2 : Int) == 0) = true := by simp [hx2]
          clear hx2
          have HSy30 := Lib.hid (HSz30.out.below (below_new wz30 (.cells #[.int .i64 20] 3)) HSz30.out.d)
          have HBy30 := Lib.hid (HBz30.out.step (below_new wz30 (.cells #[.int .i64 20] 3)))
          go_wp2_with (at_builtin; refine wpList_app_cm _ rfl _ _ rfl (b := b) (off := off) (l := 0) (c := cb) (ys := ys) rfl HBy30.out (by omega) 20 ⟨wz30.heap.size, 0, none⟩ 1 rfl (by go_simp) ?_)
          intro A9 c9 w9 hc9 hI9 hb9
          have HK := Lib.hid ((HSy30.out.below hb9 (Nat.le_refl _)).fin (Q := P + 60) HLA.out hl11 (by rw [List.length_append, ← HBy30.out.len]; rfl) (by omega) hc9 hI9 (by omega))
          clear hI9 hb9 HSy30 HBy30 HSz30 HBz30
          go_wp2
          go_ret2
          exact HK.out
      go_wp2_with fail
      refine (pick_any g A n c bs (P + 15 + 2 * i) (la : Int) wr HS.out.rd HN.out hby hs (by omega) (by omega)).mono ?_
      rintro e w6 ⟨k, rfl, hkl, _, hr6, ht6⟩
      have hk : k < la := by have := hkl (by omega); omega
      have HS6 := Lib.hid (HS.out.pick hr6 ht6)
      have HB6 := Lib.hid (HB.out.turn ht6 hgd)
      clear hr6 ht6 hkl HS HB
      have c0 := HB6.out.cells k hk
      generalize ys.getD k 0 = z at c0
      obtain ⟨o2, ho2, hnx⟩ := HB6.out.tail (k + 1) (by omega)
      have HNX := Lib.hid hnx
      have hbw6 := HB6.out.hi
      have hwk : IntKind.i64.wrap ((k : Int) + 1) = ((k + 1 : Nat) : Int) := by rw [IntKind.wrap_i64]; omega
      have hk0 : (0 : Int) ≤ (k : Int) + 1 := by omega
      have hk1 : (k : Int) + 1 ≤ (la : Int) := by omega
      have hkc : k + 1 ≤ cb := by omega
      have hkc0 : k ≤ cb := by omega
      have HCK := Lib.hid (spec_copyIntsA (some ⟨b, off, none⟩) k cb (ys.take k) w6.drew w6.heap.size (Nat.le_refl _) (by rw [List.length_take, ← HB6.out.len]; omega) (HB6.out.is.take_ k (by rw [← HB6.out.len]; omega)) (by omega))
      have HYL := Lib.hid HB6.out.len
      clear hnx
      go_wp2
      refine wp_region_held_drew (S := fun _ => True) (by kernel_rfl) trivial (fun hHeld => ?_)
      refine wpAnyH_take (i := 0) (oi := ⟨some 44, _, _, _, _, _⟩) (v := ?_) rfl (by kernel_rfl) (by kernel_rfl) (by kernel_rfl) (fun _ _ _ h => h) (Or.inl ⟨by rfl, ?_⟩) (by assumption) ?_; rotate_left; (focus (intro w hSw; (try dsimp only at hSw); go_simp; (try with_reducible rfl))); (try simp only [Act.put, List.setIfInBounds_toArray, List.set_cons_zero, List.set_cons_succ])
      refine wpAnyH_take (i := 1) (oi := ⟨some 45, _, _, _, _, _⟩) (v := ?_) rfl (by kernel_rfl) (by kernel_rfl) (by kernel_rfl) (fun _ _ _ h => h) (Or.inl ⟨by rfl, ?_⟩) (by assumption) ?_; rotate_left; (focus (intro w hSw; (try dsimp only at hSw); go_simp; (try with_reducible rfl))); (try simp only [Act.put, List.setIfInBounds_toArray, List.set_cons_zero, List.set_cons_succ])
      refine wpAnyH_take (i := 2) (oi := ⟨some 46, _, _, _, _, _⟩) (v := ?_) rfl (by kernel_rfl) (by kernel_rfl) (by kernel_rfl) (fun _ _ _ h => h) (Or.inl ⟨by rfl, ?_⟩) (by assumption) ?_; rotate_left; (focus (intro w hSw; (try dsimp only at hSw); go_simp; (try with_reducible rfl))); (try simp only [Act.put, List.setIfInBounds_toArray, List.set_cons_zero, List.set_cons_succ])
      refine wpAnyH_take (i := 4) (oi := ⟨some 48, _, _, _, _, _⟩) (v := ?_) rfl (by kernel_rfl) (by kernel_rfl) (by kernel_rfl) (fun _ _ _ h => h) (Or.inl ⟨by rfl, ?_⟩) (by assumption) ?_; rotate_left; (focus (intro w hSw; (try dsimp only at hSw); go_simp; (try with_reducible rfl))); (try simp only [Act.put, List.setIfInBounds_toArray, List.set_cons_zero, List.set_cons_succ])
      refine wpAnyH_take (i := 5) (oi := ⟨some 49, _, _, _, _, _⟩) (v := ?_) rfl (by kernel_rfl) (by kernel_rfl) (by kernel_rfl) (fun _ _ _ h => h) (Or.inl ⟨by rfl, ?_⟩) (by assumption) ?_; rotate_left; (focus (intro w hSw; (try dsimp only at hSw); go_simp; (try with_reducible rfl))); (try simp only [Act.put, List.setIfInBounds_toArray, List.set_cons_zero, List.set_cons_succ])
      refine wpAnyH_take (i := 6) (oi := ⟨some 50, _, _, _, _, _⟩) (v := ?_) rfl (by kernel_rfl) (by kernel_rfl) (by kernel_rfl) (fun _ _ _ h => h) (Or.inl ⟨by rfl, ?_⟩) (by assumption) ?_; rotate_left; (focus (intro w hSw; (try dsimp only at hSw); go_simp; (try with_reducible rfl))); (try simp only [Act.put, List.setIfInBounds_toArray, List.set_cons_zero, List.set_cons_succ])
      refine wpAnyH_take (i := 7) (oi := ⟨some 51, _, _, _, _, _⟩) (v := ?_) rfl (by kernel_rfl) (by kernel_rfl) (by kernel_rfl) (fun _ _ _ h => h) (Or.inl ⟨by rfl, ?_⟩) (by assumption) ?_; rotate_left; (focus (intro w hSw; (try dsimp only at hSw); go_simp; (try with_reducible rfl))); (try simp only [Act.put, List.setIfInBounds_toArray, List.set_cons_zero, List.set_cons_succ])
      refine wpAnyH_ready (rs := [3]) (by kernel_rfl) (by simp) ?_; refine AllReadyH.cons (o := ⟨some 47, _, _, _, _, _⟩) rfl (fun K hK => ?_) AllReadyH.nil; go_simp
      go_at_call 36
      refine HCK.out.mono ?_
      rintro e w7 ⟨g7, c7, rfl, hown7', hb7'⟩
      have hb7 : Below w6.heap.size w6 w7 := below_of_drew hb7'
      have hown7 : w7.ownsRow w6.heap.size 3 1 (.slice (some ⟨g7, 0, none⟩) k c7) k ((ys.take k).map (Value.int .i64)) := hown7'
      have HNX7 := Lib.hid (add_cell HNX.out hb7 hbw6)
      clear hown7' hb7' HCK HNX
      refine hK.out _ _ trivial (fun hHeld => ?_); clear hK K; (try simp only [Act.put, List.setIfInBounds_toArray, List.set_cons_zero, List.set_cons_succ])
      refine wpAnyH_ready (rs := [8]) (by kernel_rfl) (by simp) ?_; refine AllReadyH.cons (o := ⟨some 52, _, _, _, _, _⟩) rfl (fun K hK => ?_) AllReadyH.nil
      refine step_append_own_at _ (by rfl) _ _ _ (by rfl) w6.heap.size 3 i0 (.int .i64 0) 1 8 Try.underlying22 hi hz0 hz1 hz2 rfl (by omega) (.slice (some ⟨g7, 0, none⟩) k c7) (k) ((ys.take k).map (Value.int .i64)) (by rfl) hown7 ⟨b, o2, none⟩ (la - (k + 1)) (cb - (k + 1)) ((ys.drop (k + 1)).map (Value.int .i64)) (by rfl) (by rw [List.length_map, List.length_drop, ← HYL.out]; omega) HNX7.out (one_ints _) (by unfold maxLen; omega) (by omega) hb7.size ?_
      intro v8 w8 hown_w8 hgrow_w8 _
      have hpos8 := hown7.lt
      have hb8 : Below w6.heap.size w6 w8 := hb7.trans ((Below.refl _ _).grown (w' := w8) (w := w7) ⟨hgrow_w8.os, hgrow_w8.tape, hgrow_w8.output, hgrow_w8.size, hgrow_w8.block⟩ hb7.size (fun q hq => (hpos8 q hq).1))
      obtain ⟨l1, hl1⟩ : ∃ l1, l1 + 1 = la := ⟨la - 1, by omega⟩
      obtain ⟨zs, hzs⟩ : ∃ zs, zs = ys.take k ++ ys.drop (k + 1) := ⟨_, rfl⟩
      have hown8 : w8.ownsRow w6.heap.size 3 1 v8 l1 (zs.map (Value.int .i64)) := by
        have e : k + (la - (k + 1)) = l1 := by omega
        rw [e] at hown_w8
        rw [hzs, List.map_append]; exact hown_w8
      obtain ⟨b8, o8, c8, hv8, HB8⟩ : ∃ b8 o8 c8, v8 = .slice (some ⟨b8, o8, none⟩) l1 c8 ∧ Hid (Cm d0 b8 o8 l1 c8 zs w8) := by
        obtain ⟨g8, c8, hv⟩ := row_form2 hown8 (by omega)
        subst hv
        exact ⟨g8, 0, c8, rfl, (Cm.of_own hown8).lower HS6.out.d⟩
      subst hv8
      have HS8 := Lib.hid (HS6.out.below hb8 HS6.out.d)
      clear hown7 hown8 hown_w8 hgrow_w8 hb7 hb8 hpos8 hzs HB6 HS6 HNX7 HYL c0
      refine hK.out _ _ trivial (fun hHeld => ?_); clear hK K; (try simp only [Act.put, List.setIfInBounds_toArray, List.set_cons_zero, List.set_cons_succ])
      refine wpAnyH_take (i := 9) (oi := ⟨some 5, _, _, _, _, _⟩) (v := ?_) rfl (by kernel_rfl) (by kernel_rfl) (by kernel_rfl) (fun _ _ _ h => h) (Or.inl ⟨by rfl, ?_⟩) (by assumption) ?_; rotate_left; (focus (intro w hSw; (try dsimp only at hSw); go_simp; (try with_reducible rfl))); (try simp only [Act.put, List.setIfInBounds_toArray, List.set_cons_zero, List.set_cons_succ])
      refine wpAnyH_done (by kernel_rfl) ?_ _
      clear hwk hk0 hk1 hkc hkc0 ho2
      have HL1 := Lib.hid hl1
      have hl1a : l1 < la := by omega
      have hl1b : la ≤ l1 + 1 := by omega
      clear hl1
      go_wp2_with fail
      refine (pick_any g A n c bs (P + 15 + 2 * i + 1) ((l1 : Int) + 1) w8 HS8.out.rd HN.out hby hs (by omega) (by omega)).mono ?_
      rintro e w9 ⟨k2, rfl, hkl, _, hr9, ht9⟩
      have hk2 : k2 ≤ l1 := by have := hkl (by omega); omega
      have HS9 := Lib.hid (HS8.out.pick hr9 ht9)
      have HB9 := Lib.hid (HB8.out.turn ht9 hgd)
      clear hr9 ht9 hkl HS8 HB8
      obtain ⟨o3, ho3, hnx⟩ := HB9.out.tail k2 hk2
      have HNX := Lib.hid hnx
      have hbw9 := HB9.out.hi
      have hlc9 : l1 ≤ c8 := HB9.out.cap
      have hk2c : k2 ≤ c8 := by omega
      have HZL := Lib.hid HB9.out.len
      have HIZ := Lib.hid (HB9.out.is.take_ k2 (by rw [← HZL.out]; exact hk2))
      have HDL := Lib.hid HS9.out.d
      clear hnx
      go_wp2
      refine wp_region_held_drew (S := fun _ => True) (by kernel_rfl) trivial (fun hHeld => ?_)
      refine wpAnyH_take (i := 0) (oi := ⟨some 58, _, _, _, _, _⟩) (v := ?_) rfl (by kernel_rfl) (by kernel_rfl) (by kernel_rfl) (fun _ _ _ h => h) (Or.inl ⟨by rfl, ?_⟩) (by assumption) ?_; rotate_left; (focus (intro w hSw; (try dsimp only at hSw); go_simp; (try with_reducible rfl))); (try simp only [Act.put, List.setIfInBounds_toArray, List.set_cons_zero, List.set_cons_succ])
      refine wpAnyH_take (i := 1) (oi := ⟨some 59, _, _, _, _, _⟩) (v := ?_) rfl (by kernel_rfl) (by kernel_rfl) (by kernel_rfl) (fun _ _ _ h => h) (Or.inl ⟨by rfl, ?_⟩) (by assumption) ?_; rotate_left; (focus (intro w hSw; (try dsimp only at hSw); go_simp; (try with_reducible rfl))); (try simp only [Act.put, List.setIfInBounds_toArray, List.set_cons_zero, List.set_cons_succ])
      refine wpAnyH_take (i := 2) (oi := ⟨some 60, _, _, _, _, _⟩) (v := ?_) rfl (by kernel_rfl) (by kernel_rfl) (by kernel_rfl) (fun _ _ _ h => h) (Or.inl ⟨by rfl, ?_⟩) (by assumption) ?_; rotate_left; (focus (intro w hSw; (try dsimp only at hSw); go_simp; (try with_reducible rfl))); (try simp only [Act.put, List.setIfInBounds_toArray, List.set_cons_zero, List.set_cons_succ])
      refine wpAnyH_take (i := 4) (oi := ⟨some 62, _, _, _, _, _⟩) (v := ?_) rfl (by kernel_rfl) (by kernel_rfl) (by kernel_rfl) (fun _ _ _ h => h) (Or.inl ⟨by rfl, ?_⟩) (by assumption) ?_; rotate_left; (focus (intro w hSw; (try dsimp only at hSw); go_simp; (try with_reducible rfl))); (try simp only [Act.put, List.setIfInBounds_toArray, List.set_cons_zero, List.set_cons_succ])
      refine wpAnyH_take (i := 7) (oi := ⟨some 65, _, _, _, _, _⟩) (v := ?_) rfl (by kernel_rfl) (by kernel_rfl) (by kernel_rfl) (fun _ _ _ h => h) (Or.inl ⟨by rfl, ?_⟩) (by assumption) ?_; rotate_left; (focus (intro w hSw; (try dsimp only at hSw); go_simp; (try with_reducible rfl))); (try simp only [Act.put, List.setIfInBounds_toArray, List.set_cons_zero, List.set_cons_succ])
      refine wpAnyH_take (i := 8) (oi := ⟨some 66, _, _, _, _, _⟩) (v := ?_) rfl (by kernel_rfl) (by kernel_rfl) (by kernel_rfl) (fun _ _ _ h => h) (Or.inl ⟨by rfl, ?_⟩) (by assumption) ?_; rotate_left; (focus (intro w hSw; (try dsimp only at hSw); go_simp; (try with_reducible rfl))); (try simp only [Act.put, List.setIfInBounds_toArray, List.set_cons_zero, List.set_cons_succ])
      refine wpAnyH_take (i := 9) (oi := ⟨some 67, _, _, _, _, _⟩) (v := ?_) rfl (by kernel_rfl) (by kernel_rfl) (by kernel_rfl) (fun _ _ _ h => h) (Or.inl ⟨by rfl, ?_⟩) (by assumption) ?_; rotate_left; (focus (intro w hSw; (try dsimp only at hSw); go_simp; (try with_reducible rfl))); (try simp only [Act.put, List.setIfInBounds_toArray, List.set_cons_zero, List.set_cons_succ])
      refine wpAnyH_ready (rs := [3, 5]) (by kernel_rfl) (by simp) ?_; refine AllReadyH.cons (o := ⟨some 61, _, _, _, _, _⟩) rfl (fun K hK => ?_) (AllReadyH.cons (o := ⟨some 63, _, _, _, _, _⟩) rfl (fun K hK => ?_) AllReadyH.nil)
      · go_simp
        go_at_call 36
        refine (spec_copyIntsA (some ⟨b8, o8, none⟩) k2 c8 (zs.take k2) w9.drew w9.heap.size (Nat.le_refl _) (by rw [List.length_take, ← HZL.out]; omega) HIZ.out (by omega)).mono ?_
        rintro e w10 ⟨g10, c10, rfl, hown10', hb10'⟩
        have hb10 : Below w9.heap.size w9 w10 := below_of_drew hb10'
        have hown10 : w10.ownsRow w9.heap.size 3 1 (.slice (some ⟨g10, 0, none⟩) k2 c10) k2 ((zs.take k2).map (Value.int .i64)) := hown10'
        have HNX1 := Lib.hid (add_cell (add_cell HNX.out hb10 hbw9) (below_new w10 (.cells #[.int .i64 z] 3)) (Nat.lt_of_lt_of_le hbw9 hb10.size))
        have hX : Below w9.heap.size w9 (w10.alloc (.cells #[.int .i64 z] 3)) := hb10.alloc hb10.size _
        have hownX := hown10.alloc (.cells #[.int .i64 z] 3)
        clear hown10' hb10' HNX hown10
        refine hK.out _ _ trivial (fun hHeld => ?_); clear hK K; (try simp only [Act.put, List.setIfInBounds_toArray, List.set_cons_zero, List.set_cons_succ])
        refine wpAnyH_ready (rs := [5]) (by kernel_rfl) (by simp) ?_; refine AllReadyH.cons (o := ⟨some 63, _, _, _, _, _⟩) rfl (fun K hK => ?_) AllReadyH.nil; go_simp
        refine hK.out _ _ trivial (fun hHeld => ?_); clear hK K; (try simp only [Act.put, List.setIfInBounds_toArray, List.set_cons_zero, List.set_cons_succ])
        refine wpAnyH_ready (rs := [6]) (by kernel_rfl) (by simp) ?_; refine AllReadyH.cons (o := ⟨some 64, _, _, _, _, _⟩) rfl (fun K hK => ?_) AllReadyH.nil
        refine step_append_own_at _ (by rfl) _ _ _ (by rfl) w9.heap.size 3 i0 (.int .i64 0) 1 8 Try.underlying22 hi hz0 hz1 hz2 rfl (by omega) (.slice (some ⟨g10, 0, none⟩) k2 c10) (k2) ((zs.take k2).map (Value.int .i64)) (by rfl) hownX ⟨w10.heap.size, 0, none⟩ (1) (1) ([.int .i64 z]) (by rfl) rfl (cell_one_new _ _ _) (by intro u hu; simp at hu; subst hu; rfl) (by unfold maxLen; omega) (by omega) hX.size ?_
        intro v11 w11 hown_w11 hgrow_w11 _
        have hpos11 := hownX.lt
        have hb11 : Below w9.heap.size w9 w11 := hX.trans ((Below.refl _ _).grown (w' := w11) (w := (w10.alloc (.cells #[.int .i64 z] 3))) ⟨hgrow_w11.os, hgrow_w11.tape, hgrow_w11.output, hgrow_w11.size, hgrow_w11.block⟩ hX.size (fun q hq => (hpos11 q hq).1))
        have hgr11 : (w10.alloc (.cells #[.int .i64 z] 3)).grownBy w11 (Value.slice (some ⟨g10, 0, none⟩) k2 c10).ownBlock := ⟨hgrow_w11.os, hgrow_w11.tape, hgrow_w11.output, hgrow_w11.size, hgrow_w11.block⟩
        have HNX2 := Lib.hid (add_cell HNX1.out ((Below.refl w9.heap.size _).grown hgr11 hX.size (fun q hq => (hpos11 q hq).1)) hbw9)
        clear hgrow_w11 hgr11 hpos11 HNX1
        refine hK.out _ _ trivial (fun hHeld => ?_); clear hK K; (try simp only [Act.put, List.setIfInBounds_toArray, List.set_cons_zero, List.set_cons_succ])
        refine wpAnyH_ready (rs := [10]) (by kernel_rfl) (by simp) ?_; refine AllReadyH.cons (o := ⟨some 68, _, _, _, _, _⟩) rfl (fun K hK => ?_) AllReadyH.nil
        refine step_append_own_at _ (by rfl) _ _ _ (by rfl) w9.heap.size 3 i0 (.int .i64 0) 1 8 Try.underlying22 hi hz0 hz1 hz2 rfl (by omega) (v11) (k2 + 1) ((zs.take k2).map (Value.int .i64) ++ [.int .i64 z]) (by rfl) hown_w11 ⟨b8, o3, none⟩ (l1 - k2) (c8 - k2) ((zs.drop k2).map (Value.int .i64)) (by rfl) (by rw [List.length_map, List.length_drop, ← HZL.out]; omega) HNX2.out (one_ints _) (by unfold maxLen; omega) (by omega) hb11.size ?_
        intro v12 w12 hown_w12 hgrow_w12 _
        have hpos12 := hown_w11.lt
        have hb12 : Below w9.heap.size w9 w12 := hb11.trans ((Below.refl _ _).grown (w' := w12) (w := w11) ⟨hgrow_w12.os, hgrow_w12.tape, hgrow_w12.output, hgrow_w12.size, hgrow_w12.block⟩ hb11.size (fun q hq => (hpos12 q hq).1))
        have hown12 : w12.ownsRow w9.heap.size 3 1 v12 la ((zs.take k2 ++ [z] ++ zs.drop k2).map (Value.int .i64)) := by
          have e : k2 + 1 + (l1 - k2) = la := by omega
          rw [e] at hown_w12
          simpa using hown_w12
        obtain ⟨b9, o9, c9, hv9, HB12⟩ : ∃ b9 o9 c9, v12 = .slice (some ⟨b9, o9, none⟩) la c9 ∧ Hid (Cm d0 b9 o9 la c9 (zs.take k2 ++ [z] ++ zs.drop k2) w12) := by
          obtain ⟨g9, c9, hv⟩ := row_form2 hown12 (by omega)
          subst hv
          exact ⟨g9, 0, c9, rfl, (Cm.of_own hown12).lower HS9.out.d⟩
        subst hv9
        have HS12 := Lib.hid (HS9.out.below hb12 HS9.out.d)
        clear hown_w11 hown_w12 hown12 hgrow_w12 hpos12 hb11 hb12 hX hownX HNX2 HB9 HS9
        refine hK.out _ _ trivial (fun hHeld => ?_); clear hK K; (try simp only [Act.put, List.setIfInBounds_toArray, List.set_cons_zero, List.set_cons_succ])
        refine wpAnyH_take (i := 11) (oi := ⟨some 5, _, _, _, _, _⟩) (v := ?_) rfl (by kernel_rfl) (by kernel_rfl) (by kernel_rfl) (fun _ _ _ h => h) (Or.inl ⟨by rfl, ?_⟩) (by assumption) ?_; rotate_left; (focus (intro w hSw; (try dsimp only at hSw); go_simp; (try with_reducible rfl))); (try simp only [Act.put, List.setIfInBounds_toArray, List.set_cons_zero, List.set_cons_succ])
        refine wpAnyH_done (by kernel_rfl) ?_ _
        go_wp2
        go_roundw
        case rel => exact ⟨i + 1, m - 1, b9, o9, c9, _, by omega, by go_num, rfl, HB12.out, HS12.out.mono (by omega)⟩
        case measure => simp [intOf]; omega
      · go_simp
        have HIB := Lib.hid (HIZ.out.below (below_new w9 (.cells #[.int .i64 z] 3)) (Nat.le_refl _))
        refine hK.out _ _ trivial (fun hHeld => ?_); clear hK K; (try simp only [Act.put, List.setIfInBounds_toArray, List.set_cons_zero, List.set_cons_succ])
        refine wpAnyH_ready (rs := [3]) (by kernel_rfl) (by simp) ?_; refine AllReadyH.cons (o := ⟨some 61, _, _, _, _, _⟩) rfl (fun K hK => ?_) AllReadyH.nil; go_simp
        go_at_call 36
        refine (spec_copyIntsA (some ⟨b8, o8, none⟩) k2 c8 (zs.take k2) (w9.drew.alloc (.cells #[.int .i64 z] 3)) w9.heap.size (by simp) (by rw [List.length_take, ← HZL.out]; omega) HIB.out (by omega)).mono ?_
        rintro e w10 ⟨g10, c10, rfl, hown10', hb10'⟩
        have hb10'' : Below (w9.alloc (.cells #[.int .i64 z] 3)).heap.size (w9.alloc (.cells #[.int .i64 z] 3)) w10 := ⟨hb10'.os, hb10'.tape, hb10'.output, hb10'.size, hb10'.block⟩
        have hX : Below w9.heap.size w9 w10 := (below_new w9 (.cells #[.int .i64 z] 3)).trans (hb10''.mono (by simp))
        have hownX : w10.ownsRow w9.heap.size 3 1 (.slice (some ⟨g10, 0, none⟩) k2 c10) k2 ((zs.take k2).map (Value.int .i64)) := own_mono hown10' (by simp)
        have HNX1 := Lib.hid (add_cell HNX.out hX hbw9)
        have hcz : ∀ j u, [Value.int .i64 z][j]? = some u → w10.cell? ((⟨w9.heap.size, 0, none⟩ : Addr).add j) = some u := add_cell (cell_one_new w9 (.int .i64 z) 3) hb10'' (by simp)
        clear hown10' hb10' hb10'' HNX
        refine hK.out _ _ trivial (fun hHeld => ?_); clear hK K; (try simp only [Act.put, List.setIfInBounds_toArray, List.set_cons_zero, List.set_cons_succ])
        refine wpAnyH_ready (rs := [6]) (by kernel_rfl) (by simp) ?_; refine AllReadyH.cons (o := ⟨some 64, _, _, _, _, _⟩) rfl (fun K hK => ?_) AllReadyH.nil
        refine step_append_own_at _ (by rfl) _ _ _ (by rfl) w9.heap.size 3 i0 (.int .i64 0) 1 8 Try.underlying22 hi hz0 hz1 hz2 rfl (by omega) (.slice (some ⟨g10, 0, none⟩) k2 c10) (k2) ((zs.take k2).map (Value.int .i64)) (by rfl) hownX ⟨w9.heap.size, 0, none⟩ (1) (1) ([.int .i64 z]) (by rfl) rfl hcz (by intro u hu; simp at hu; subst hu; rfl) (by unfold maxLen; omega) (by omega) hX.size ?_
        intro v11 w11 hown_w11 hgrow_w11 _
        have hpos11 := hownX.lt
        have hb11 : Below w9.heap.size w9 w11 := hX.trans ((Below.refl _ _).grown (w' := w11) (w := w10) ⟨hgrow_w11.os, hgrow_w11.tape, hgrow_w11.output, hgrow_w11.size, hgrow_w11.block⟩ hX.size (fun q hq => (hpos11 q hq).1))
        have hgr11 : w10.grownBy w11 (Value.slice (some ⟨g10, 0, none⟩) k2 c10).ownBlock := ⟨hgrow_w11.os, hgrow_w11.tape, hgrow_w11.output, hgrow_w11.size, hgrow_w11.block⟩
        have HNX2 := Lib.hid (add_cell HNX1.out ((Below.refl w9.heap.size _).grown hgr11 hX.size (fun q hq => (hpos11 q hq).1)) hbw9)
        clear hgrow_w11 hgr11 hpos11 HNX1
        refine hK.out _ _ trivial (fun hHeld => ?_); clear hK K; (try simp only [Act.put, List.setIfInBounds_toArray, List.set_cons_zero, List.set_cons_succ])
        refine wpAnyH_ready (rs := [10]) (by kernel_rfl) (by simp) ?_; refine AllReadyH.cons (o := ⟨some 68, _, _, _, _, _⟩) rfl (fun K hK => ?_) AllReadyH.nil
        refine step_append_own_at _ (by rfl) _ _ _ (by rfl) w9.heap.size 3 i0 (.int .i64 0) 1 8 Try.underlying22 hi hz0 hz1 hz2 rfl (by omega) (v11) (k2 + 1) ((zs.take k2).map (Value.int .i64) ++ [.int .i64 z]) (by rfl) hown_w11 ⟨b8, o3, none⟩ (l1 - k2) (c8 - k2) ((zs.drop k2).map (Value.int .i64)) (by rfl) (by rw [List.length_map, List.length_drop, ← HZL.out]; omega) HNX2.out (one_ints _) (by unfold maxLen; omega) (by omega) hb11.size ?_
        intro v12 w12 hown_w12 hgrow_w12 _
        have hpos12 := hown_w11.lt
        have hb12 : Below w9.heap.size w9 w12 := hb11.trans ((Below.refl _ _).grown (w' := w12) (w := w11) ⟨hgrow_w12.os, hgrow_w12.tape, hgrow_w12.output, hgrow_w12.size, hgrow_w12.block⟩ hb11.size (fun q hq => (hpos12 q hq).1))
        have hown12 : w12.ownsRow w9.heap.size 3 1 v12 la ((zs.take k2 ++ [z] ++ zs.drop k2).map (Value.int .i64)) := by
          have e : k2 + 1 + (l1 - k2) = la := by omega
          rw [e] at hown_w12
          simpa using hown_w12
        obtain ⟨b9, o9, c9, hv9, HB12⟩ : ∃ b9 o9 c9, v12 = .slice (some ⟨b9, o9, none⟩) la c9 ∧ Hid (Cm d0 b9 o9 la c9 (zs.take k2 ++ [z] ++ zs.drop k2) w12) := by
          obtain ⟨g9, c9, hv⟩ := row_form2 hown12 (by omega)
          subst hv
          exact ⟨g9, 0, c9, rfl, (Cm.of_own hown12).lower HS9.out.d⟩
        subst hv9
        have HS12 := Lib.hid (HS9.out.below hb12 HS9.out.d)
        clear hown_w11 hown_w12 hown12 hgrow_w12 hpos12 hb11 hb12 hX hownX HNX2 HB9 HS9
        refine hK.out _ _ trivial (fun hHeld => ?_); clear hK K; (try simp only [Act.put, List.setIfInBounds_toArray, List.set_cons_zero, List.set_cons_succ])
        refine wpAnyH_take (i := 11) (oi := ⟨some 5, _, _, _, _, _⟩) (v := ?_) rfl (by kernel_rfl) (by kernel_rfl) (by kernel_rfl) (fun _ _ _ h => h) (Or.inl ⟨by rfl, ?_⟩) (by assumption) ?_; rotate_left; (focus (intro w hSw; (try dsimp only at hSw); go_simp; (try with_reducible rfl))); (try simp only [Act.put, List.setIfInBounds_toArray, List.set_cons_zero, List.set_cons_succ])
        refine wpAnyH_done (by kernel_rfl) ?_ _
        go_wp2
        go_roundw
        case rel => exact ⟨i + 1, m - 1, b9, o9, c9, _, by omega, by go_num, rfl, HB12.out, HS12.out.mono (by omega)⟩
        case measure => simp [intOf]; omega
end Go.Proofs.Ytlbomopjldhmeaa

namespace Go.Proofs.Ytlbomopjldhmeaa
set_option linter.unusedSimpArgs false
set_option linter.unusedVariables false
open Go.RowKit
/-- Returns two lists of at most eleven numbers. -/
def DrK2 (w : World) (e : Ending) (w' : World) : Prop :=
  ∃ (A1 : Option Addr) (n1 c1 : Nat) (xs : List Int) (A2 : Option Addr) (n2 c2 : Nat) (ys : List Int), e = .returned (.tuple #[.slice A1 n1 c1, .slice A2 n2 c2]) ∧ n1 = xs.length ∧ n1 ≤ 11 ∧ n1 ≤ c1 ∧ n2 = ys.length ∧ n2 ≤ 11 ∧ n2 ≤ c2 ∧ IS w' w'.heap.size A1 xs ∧ IS w' w'.heap.size A2 ys ∧ Below w.heap.size w w'
set_option maxRecDepth 100000 in
set_option maxHeartbeats 1600000 in
theorem spec_DrawPatchOf (A : Option Addr) (n c : Nat) (bs : List Int) (w : World) (hn : n = bs.length) (hnc : n ≤ c) (h : BS w w.heap.size A bs) (hy : BY bs) (hs : n ≤ 1048576) :
    Calls Try.prog 19 #[.slice A n c] w fun e w' => DrK2 w e w' := by
  have HC := Lib.hid (spec_newReader A n c bs w w.heap.size (Nat.le_refl _) hn hnc h hy hs)
  clear hn hnc h hy hs
  go_enter Try.func19, Try.ntmps19
  go_wp2_with fail
  refine HC.out.mono ?_
  rintro e w1 ⟨g, A1, n1, c1, ds, rfl, hn1, hn2, hy1, hr, hg, hb⟩
  have HS := Lib.hid (keysOf_any g A1 n1 c1 ds 0 w1 hr hn1 hy1 hn2 (by omega))
  have HB1 := Lib.hid hb
  clear hn1 hr hb HC hy1
  go_wp2_with fail
  refine HS.out.mono ?_
  rintro e w2 ⟨A2, l2, c2, xs, A3, l3, c3, ys, rfl, h1, h2, h3, h4, h5, h6, h7, h8, _, hf⟩
  have HK := Lib.hid (show DrK2 w (.returned (.tuple #[.slice A2 l2 c2, .slice A3 l3 c3])) w2 from ⟨A2, l2, c2, xs, A3, l3, c3, ys, rfl, h1, h2, h3, h4, h5, h6, h7, h8, HB1.out.trans (hf.tch.below (B := w.heap.size) (by omega) HB1.out.size)⟩)
  clear h1 h2 h3 h4 h5 h6 h7 h8 hf HS HB1
  go_wp2
  go_ret2
  exact HK.out
end Go.Proofs.Ytlbomopjldhmeaa

namespace Go.Proofs.Ytlbomopjldhmeaa
set_option linter.unusedSimpArgs false
set_option linter.unusedVariables false
open Go.RowKit
theorem filter_take_step (P : Int → Bool) (xs : List Int) (k : Nat) (h : k < xs.length) : (xs.take (k + 1)).filter P = if P (xs.getD k 0) = true then (xs.take k).filter P ++ [xs.getD k 0] else (xs.take k).filter P := by
  have hg : xs[k] = xs.getD k 0 := by simp [List.getD, h]
  rw [List.take_succ_eq_append_getElem h, List.filter_append, hg]
  generalize xs.getD k 0 = x
  clear hg
  by_cases hp : P x = true
  · rw [if_pos hp]; simp [hp]
  · rw [if_neg hp]; simp [hp]
theorem inK_step (xs ys : List Int) (k : Nat) (h : k < xs.length) : inK (xs.take (k + 1)) ys = if xs.getD k 0 ∈ ys then inK (xs.take k) ys ++ [xs.getD k 0] else inK (xs.take k) ys := by
  unfold inK; rw [filter_take_step _ _ _ h]; simp
theorem notK_step (xs ys : List Int) (k : Nat) (h : k < xs.length) : notK (xs.take (k + 1)) ys = if ¬ xs.getD k 0 ∈ ys then notK (xs.take k) ys ++ [xs.getD k 0] else notK (xs.take k) ys := by
  unfold notK; rw [filter_take_step _ _ _ h]; simp
theorem inK_len (xs ys : List Int) : (inK xs ys).length ≤ xs.length := List.length_filter_le _ _
set_option maxRecDepth 100000 in
set_option maxHeartbeats 1600000 in
theorem spec_common (A A' : Option Addr) (n c m c' : Nat) (xs ys : List Int) (w : World) (B : Nat) (hB : B ≤ w.heap.size) (hn : n = xs.length) (hm : m = ys.length) (h : IS w B A xs) (h' : IS w B A' ys) (hs : n ≤ 2000000) (hs' : m ≤ 2000000) :
    Calls Try.prog 87 #[.slice A n c, .slice A' m c'] w fun e w' => RetI w (inK xs ys) e w' := by
  obtain ⟨i0, hi, hz0, hz1, hz2⟩ := info_parts info_int
  have H := Lib.hid h
  have HN := Lib.hid hn
  have H' := Lib.hid h'
  have HM := Lib.hid hm
  clear hn h hm h'
  go_enter Try.func87, Try.ntmps87
  go_wp2
  go_loopw [5, 6] (fun v i wr => ∃ k : Nat, k ≤ n ∧ i = .int .i64 k ∧ Hid (OwnI wr w.heap.size v (inK (xs.take k) ys)) ∧ Below w.heap.size w wr) (fun _ i _ => n - (intOf i).toNat)
  case atStart =>
    exact ⟨0, Nat.zero_le _, rfl, World.ownsRow_lit (e := 3) (size := 1) w #[] 0 (Nat.le_refl _) (by unfold maxLen; omega) rfl, (Below.refl _ _).alloc (Nat.le_refl _) _⟩
  case round =>
    obtain ⟨k, hk, rfl, HO, hb⟩ := hrel
    have hwr : w.heap.size ≤ wr.heap.size := hb.size
    by_cases hlt : k < n
    · have hkx : k < xs.length := by have := HN.out; omega
      obtain ⟨b, off, rfl, hbB, hc⟩ := H.out (by omega)
      have c0 := (hb.cell (p := ⟨b, off + k, none⟩) (by simp; omega)).trans (hc k hkx)
      clear hc
      have HP := Lib.hid (spec_placeIn A' m c' ys (xs.getD k 0) wr B (by omega) HM.out (H'.out.below hb (by omega)) hs')
      have HST := Lib.hid (inK_step xs ys k hkx)
      have hfl := inK_len (xs.take k) ys
      have hfk : (xs.take k).length ≤ k := List.length_take_le _ _
      have hpl := plc_ge ys (xs.getD k 0)
      generalize xs.getD k 0 = x at *
      generalize inK (xs.take k) ys = F at *
      by_cases hm : x ∈ ys
      · rw [decide_eq_true hm] at hpl
        have hge : 0 ≤ plc ys x := by simp at hpl; exact hpl
        have HS2 := Lib.hid (HST.out.trans (if_pos hm))
        clear hm hpl HST
        generalize plc ys x = p at *
        go_wp2_with (first | (go_at_call 57; refine HP.out.mono ?_; rintro e w' ⟨rfl, rfl⟩) | (at_builtin; refine wpList_append_own _ rfl _ _ 22 rfl w.heap.size 3 i0 (.int .i64 0) 1 8 Try.underlying22 hi hz0 hz1 hz2 rfl (by decide) _ _ _ rfl (HO.out.alloc _) ⟨wr.heap.size, 0, none⟩ 1 1 [.int .i64 x] rfl rfl (cell_one_new _ _ _) ?c2 ?c3 ?c4 ?c5 ?_))
        case c2 => first | rfl | (intro u hu; simp at hu; subst hu; rfl)
        case c3 => unfold maxLen; omega
        case c4 => omega
        case c5 => first | omega | (simp; omega)
        intro v' w1 hown' hgrow _
        have hpos := (HO.out.alloc (.cells #[.int .i64 x] 3)).lt
        have HO' : Hid (OwnI w1 w.heap.size v' (inK (xs.take (k + 1)) ys)) := by
          rw [HS2.out]
          simpa [OwnI, Hid] using hown'
        have HB' := Lib.hid ((hb.alloc hwr (.cells #[.int .i64 x] 3)).grown hgrow (by first | (simp; omega) | omega) (fun q hq => (hpos q hq).1))
        clear hown' hgrow hpos
        go_wp2
        go_roundw
        case rel => exact ⟨k + 1, by omega, by go_num, HO'.out, HB'.out⟩
        case measure => simp [intOf]; omega
      · rw [decide_eq_false hm] at hpl
        have hge : decide (0 ≤ plc ys x) = false := by exact hpl
        have HS2 := Lib.hid (HST.out.trans (if_neg hm))
        clear hm hpl HST
        generalize plc ys x = p at *
        go_wp2_with fail
        refine HP.out.mono ?_
        rintro e w' ⟨rfl, rfl⟩
        go_wp2
        go_roundw
        case rel => exact ⟨k + 1, by omega, by go_num, by rw [HS2.out]; exact HO.out, hb⟩
        case measure => simp [intOf]; omega
    · obtain rfl : k = n := by omega
      go_wp2
      go_ret
      refine ⟨_, rfl, ?_, hb⟩
      have := HO.out
      rw [HN.out, List.take_of_length_le (Nat.le_refl _)] at this
      exact this
set_option maxRecDepth 100000 in
set_option maxHeartbeats 1600000 in
theorem spec_missing (A A' : Option Addr) (n c m c' : Nat) (xs ys : List Int) (w : World) (B : Nat) (hB : B ≤ w.heap.size) (hn : n = xs.length) (hm : m = ys.length) (h : IS w B A xs) (h' : IS w B A' ys) (hs : n ≤ 2000000) (hs' : m ≤ 2000000) :
    Calls Try.prog 82 #[.slice A n c, .slice A' m c'] w fun e w' => RetI w (notK xs ys) e w' := by
  obtain ⟨i0, hi, hz0, hz1, hz2⟩ := info_parts info_int
  have H := Lib.hid h
  have HN := Lib.hid hn
  have H' := Lib.hid h'
  have HM := Lib.hid hm
  clear hn h hm h'
  go_enter Try.func82, Try.ntmps82
  go_wp2
  go_loopw [5, 6] (fun v i wr => ∃ k : Nat, k ≤ n ∧ i = .int .i64 k ∧ Hid (OwnI wr w.heap.size v (notK (xs.take k) ys)) ∧ Below w.heap.size w wr) (fun _ i _ => n - (intOf i).toNat)
  case atStart =>
    exact ⟨0, Nat.zero_le _, rfl, World.ownsRow_lit (e := 3) (size := 1) w #[] 0 (Nat.le_refl _) (by unfold maxLen; omega) rfl, (Below.refl _ _).alloc (Nat.le_refl _) _⟩
  case round =>
    obtain ⟨k, hk, rfl, HO, hb⟩ := hrel
    have hwr : w.heap.size ≤ wr.heap.size := hb.size
    by_cases hlt : k < n
    · have hkx : k < xs.length := by have := HN.out; omega
      obtain ⟨b, off, rfl, hbB, hc⟩ := H.out (by omega)
      have c0 := (hb.cell (p := ⟨b, off + k, none⟩) (by simp; omega)).trans (hc k hkx)
      clear hc
      have HP := Lib.hid (spec_placeIn A' m c' ys (xs.getD k 0) wr B (by omega) HM.out (H'.out.below hb (by omega)) hs')
      have HST := Lib.hid (notK_step xs ys k hkx)
      have hfl := notK_len (xs.take k) ys
      have hfk : (xs.take k).length ≤ k := List.length_take_le _ _
      have hpl := plc_ge ys (xs.getD k 0)
      generalize xs.getD k 0 = x at *
      generalize notK (xs.take k) ys = F at *
      by_cases hm : x ∈ ys
      · rw [decide_eq_true hm] at hpl
        have hge : decide (plc ys x < 0) = false := by simp at hpl; simp; omega
        have HS2 := Lib.hid (HST.out.trans (if_neg (not_not_intro hm)))
        clear hm hpl HST
        generalize plc ys x = p at *
        go_wp2_with fail
        refine HP.out.mono ?_
        rintro e w' ⟨rfl, rfl⟩
        go_wp2
        go_roundw
        case rel => exact ⟨k + 1, by omega, by go_num, by rw [HS2.out]; exact HO.out, hb⟩
        case measure => simp [intOf]; omega
      · rw [decide_eq_false hm] at hpl
        have hge : plc ys x < 0 := by simpa using hpl
        have HS2 := Lib.hid (HST.out.trans (if_pos hm))
        clear hm hpl HST
        generalize plc ys x = p at *
        go_wp2_with (first | (go_at_call 57; refine HP.out.mono ?_; rintro e w' ⟨rfl, rfl⟩) | (at_builtin; refine wpList_append_own _ rfl _ _ 22 rfl w.heap.size 3 i0 (.int .i64 0) 1 8 Try.underlying22 hi hz0 hz1 hz2 rfl (by decide) _ _ _ rfl (HO.out.alloc _) ⟨wr.heap.size, 0, none⟩ 1 1 [.int .i64 x] rfl rfl (cell_one_new _ _ _) ?c2 ?c3 ?c4 ?c5 ?_))
        case c2 => first | rfl | (intro u hu; simp at hu; subst hu; rfl)
        case c3 => unfold maxLen; omega
        case c4 => omega
        case c5 => first | omega | (simp; omega)
        intro v' w1 hown' hgrow _
        have hpos := (HO.out.alloc (.cells #[.int .i64 x] 3)).lt
        have HO' : Hid (OwnI w1 w.heap.size v' (notK (xs.take (k + 1)) ys)) := by
          rw [HS2.out]
          simpa [OwnI, Hid] using hown'
        have HB' := Lib.hid ((hb.alloc hwr (.cells #[.int .i64 x] 3)).grown hgrow (by first | (simp; omega) | omega) (fun q hq => (hpos q hq).1))
        clear hown' hgrow hpos
        go_wp2
        go_roundw
        case rel => exact ⟨k + 1, by omega, by go_num, HO'.out, HB'.out⟩
        case measure => simp [intOf]; omega
    · obtain rfl : k = n := by omega
      go_wp2
      go_ret
      refine ⟨_, rfl, ?_, hb⟩
      have := HO.out
      rw [HN.out, List.take_of_length_le (Nat.le_refl _)] at this
      exact this
set_option maxRecDepth 100000 in
set_option maxHeartbeats 1600000 in
theorem impl_keysWhere1 (K : FuncId) (cap : Value) (P : Int → Bool) (I : World → Prop) (A : Option Addr) (n c : Nat) (xs : List Int) (hs : n ≤ 2000000)
    (hI : ∀ w w' : World, I w → Below w.heap.size w w' → I w') (hcf : ∀ (q : Int) (w : World), (callFunc K #[.int .i64 q, cap]).run Try.prog w = .ok (.enter K #[.int .i64 q, cap]) w)
    (hP : ∀ (q : Int) (w : World), I w → Calls Try.prog K #[.int .i64 q, cap] w fun e w' => e = .returned (.bool (P q)) ∧ w' = w) (w : World) (h : I w) (hn : n = xs.length) (B : Nat) (hB : B ≤ w.heap.size) (hx : IS w B A xs) :
    Calls Try.prog 66 #[.slice A n c, .func (.func K) #[] #[cap]] w fun e w' => RetI w (xs.filter P) e w' := by
  obtain ⟨i0, hi, hz0, hz1, hz2⟩ := info_parts info_int
  have HI := Lib.hid hI
  have HP := Lib.hid hP
  have H := Lib.hid h
  have HCF := Lib.hid hcf
  have HX := Lib.hid hx
  have HN := Lib.hid hn
  clear hI hP h hcf hx hn
  go_enter Try.func66, Try.ntmps66
  go_wp2
  go_loopw [5, 10] (fun v i wr => ∃ k : Nat, k ≤ n ∧ i = .int .i64 k ∧ Hid (OwnI wr w.heap.size v ((xs.take k).filter P)) ∧ Below w.heap.size w wr) (fun _ i _ => n - (intOf i).toNat)
  case atStart => exact ⟨0, Nat.zero_le _, rfl, World.ownsRow_nil _ _ _ _, Below.refl _ _⟩
  case round =>
    obtain ⟨k, hk, rfl, HO, hb⟩ := hrel
    have hwr : w.heap.size ≤ wr.heap.size := hb.size
    by_cases hlt : k < n
    · have hkx : k < xs.length := by have := HN.out; omega
      obtain ⟨b, off, rfl, hbB, hc⟩ := HX.out (by omega)
      have c0 := (hb.cell (p := ⟨b, off + k, none⟩) (by simp; omega)).trans (hc k hkx)
      clear hc
      have HPK := Lib.hid (HP.out (xs.getD k 0) wr (HI.out _ _ H.out hb))
      have hcf := HCF.out (xs.getD k 0)
      have HST := Lib.hid (filter_take_step P xs k hkx)
      have hfl := List.length_filter_le P (xs.take k)
      have hfk : (xs.take k).length ≤ k := List.length_take_le _ _
      generalize xs.getD k 0 = x at *
      generalize (xs.take k).filter P = F at *
      generalize hp : P x = p at *
      cases p
      · have HS2 := Lib.hid (HST.out.trans (if_neg (by simp)))
        clear hp HST
        go_wp2_with fail
        refine HPK.out.mono ?_
        rintro e w2 ⟨rfl, rfl⟩
        go_wp2
        go_roundw
        case rel => exact ⟨k + 1, by omega, by go_num, by rw [HS2.out]; exact HO.out, hb⟩
        case measure => simp [intOf]; omega
      · have HS2 := Lib.hid (HST.out.trans (if_pos rfl))
        clear hp HST
        go_wp2_with fail
        refine HPK.out.mono ?_
        rintro e w2 ⟨rfl, rfl⟩
        clear hcf
        go_wp2_with (at_builtin; refine wpList_append_own _ rfl _ _ 22 rfl w.heap.size 3 i0 (.int .i64 0) 1 8 Try.underlying22 hi hz0 hz1 hz2 rfl (by decide) _ _ _ rfl (HO.out.alloc _) ⟨_, 0, none⟩ 1 1 [.int .i64 x] rfl rfl (cell_one_new _ _ _) ?c2 ?c3 ?c4 ?c5 ?_)
        case c2 => first | rfl | (intro u hu; simp at hu; subst hu; rfl)
        case c3 => unfold maxLen; omega
        case c4 => omega
        case c5 => first | omega | (simp; omega)
        intro v' w3 hown' hgrow _
        have hpos := (HO.out.alloc (.cells #[.int .i64 x] 3)).lt
        have HO' : Hid (OwnI w3 w.heap.size v' ((xs.take (k + 1)).filter P)) := by
          rw [HS2.out]
          simpa [OwnI, Hid] using hown'
        have HB' := Lib.hid ((hb.alloc hwr (.cells #[.int .i64 x] 3)).grown hgrow (by first | (simp; omega) | omega) (fun q hq => (hpos q hq).1))
        clear hown' hgrow hpos
        go_wp2
        go_roundw
        case rel => exact ⟨k + 1, by omega, by go_num, HO'.out, HB'.out⟩
        case measure => simp [intOf]; omega
    · obtain rfl : k = n := by omega
      go_wp2
      go_ret
      refine ⟨_, rfl, ?_, hb⟩
      have := HO.out
      rw [HN.out, List.take_of_length_le (Nat.le_refl _)] at this
      exact this
set_option maxHeartbeats 800000 in
theorem keysIn1_at (g : Nat) (A : Option Addr) (lc c : Nat) (q : Int) (C : List Int) (w : World) (hl : lc = C.length) (hs : lc ≤ 2000000) (B : Nat) (hB : B ≤ w.heap.size) (h1 : w.cell? ⟨g, 0, none⟩ = some (.slice A lc c)) (h : IS w B A C) :
    Calls Try.prog 81 #[.int .i64 q, .pointer (some ⟨g, 0, none⟩)] w fun e w' => e = .returned (.bool (decide (q ∈ C))) ∧ w' = w := by
  have HC := Lib.hid (slices_Contains A lc c C q w B hB hl h hs)
  generalize decide (q ∈ C) = r at *
  clear hl h
  go_enter Try.func81, Try.ntmps81
  go_wp2_with fail
  refine HC.out.mono ?_
  rintro e w1 ⟨rfl, rfl⟩
  go_wp2
  go_ret
  exact ⟨rfl, rfl⟩
set_option maxHeartbeats 800000 in
theorem impl_keysIn (A A' : Option Addr) (n c m c' : Nat) (xs ys : List Int) (w : World) (B : Nat) (hB : B ≤ w.heap.size) (hn : n = xs.length) (hm : m = ys.length) (h : IS w B A xs) (h' : IS w B A' ys) (hs : n ≤ 2000000) (hs' : m ≤ 2000000) :
    Calls Try.prog 69 #[.slice A n c, .slice A' m c'] w fun e w' => RetI w (inK xs ys) e w' := by
  have HC := Lib.hid (impl_keysWhere1 81 (.pointer (some ⟨w.heap.size, 0, none⟩)) (fun x => decide (x ∈ ys))
    (fun w' => w.heap.size + 1 ≤ w'.heap.size ∧ w'.cell? ⟨w.heap.size, 0, none⟩ = some (.slice A' m c') ∧ IS w' B A' ys) A n c xs hs
    (fun wa wb h hb => ⟨Nat.le_trans h.1 hb.size, (hb.cell (p := ⟨w.heap.size, 0, none⟩) h.1).trans h.2.1, h.2.2.below hb (by have := h.1; omega)⟩)
    (fun q w => by kernel_rfl)
    (fun q wa h => keysIn1_at w.heap.size A' m c' q ys wa hm hs' B (by have := h.1; omega) h.2.1 h.2.2)
    (w.alloc (.cells #[.slice A' m c'] 22)) ⟨by simp, by go_simp, h'.alloc hB _⟩ hn B (by simp; omega) (h.alloc hB _))
  clear hn h hm h'
  go_enter Try.func69, Try.ntmps69
  go_wp2_with fail
  refine HC.out.mono ?_
  rintro e w1 ⟨v, rfl, ho, hb⟩
  go_wp2
  go_ret
  exact ⟨v, by simp, own_mono ho (by simp), ((Below.refl _ _).alloc (Nat.le_refl _) _).trans (hb.mono (by simp))⟩
set_option maxHeartbeats 800000 in
theorem keysNotIn1_at (g : Nat) (A : Option Addr) (lc c : Nat) (q : Int) (C : List Int) (w : World) (hl : lc = C.length) (hs : lc ≤ 2000000) (B : Nat) (hB : B ≤ w.heap.size) (h1 : w.cell? ⟨g, 0, none⟩ = some (.slice A lc c)) (h : IS w B A C) :
    Calls Try.prog 67 #[.int .i64 q, .pointer (some ⟨g, 0, none⟩)] w fun e w' => e = .returned (.bool (!decide (q ∈ C))) ∧ w' = w := by
  have HC := Lib.hid (slices_Contains A lc c C q w B hB hl h hs)
  generalize decide (q ∈ C) = r at *
  clear hl h
  go_enter Try.func67, Try.ntmps67
  go_wp2_with fail
  refine HC.out.mono ?_
  rintro e w1 ⟨rfl, rfl⟩
  go_wp2
  go_ret
  exact ⟨rfl, rfl⟩
set_option maxHeartbeats 800000 in
theorem impl_keysNotIn (A A' : Option Addr) (n c m c' : Nat) (xs ys : List Int) (w : World) (B : Nat) (hB : B ≤ w.heap.size) (hn : n = xs.length) (hm : m = ys.length) (h : IS w B A xs) (h' : IS w B A' ys) (hs : n ≤ 2000000) (hs' : m ≤ 2000000) :
    Calls Try.prog 46 #[.slice A n c, .slice A' m c'] w fun e w' => RetI w (notK xs ys) e w' := by
  have HC := Lib.hid (impl_keysWhere1 67 (.pointer (some ⟨w.heap.size, 0, none⟩)) (fun x => !decide (x ∈ ys))
    (fun w' => w.heap.size + 1 ≤ w'.heap.size ∧ w'.cell? ⟨w.heap.size, 0, none⟩ = some (.slice A' m c') ∧ IS w' B A' ys) A n c xs hs
    (fun wa wb h hb => ⟨Nat.le_trans h.1 hb.size, (hb.cell (p := ⟨w.heap.size, 0, none⟩) h.1).trans h.2.1, h.2.2.below hb (by have := h.1; omega)⟩)
    (fun q w => by kernel_rfl)
    (fun q wa h => keysNotIn1_at w.heap.size A' m c' q ys wa hm hs' B (by have := h.1; omega) h.2.1 h.2.2)
    (w.alloc (.cells #[.slice A' m c'] 22)) ⟨by simp, by go_simp, h'.alloc hB _⟩ hn B (by simp; omega) (h.alloc hB _))
  clear hn h hm h'
  go_enter Try.func46, Try.ntmps46
  go_wp2_with fail
  refine HC.out.mono ?_
  rintro e w1 ⟨v, rfl, ho, hb⟩
  go_wp2
  go_ret
  exact ⟨v, by simp, own_mono ho (by simp), ((Below.refl _ _).alloc (Nat.le_refl _) _).trans (hb.mono (by simp))⟩
set_option maxHeartbeats 800000 in
theorem impl_areBothKeys (A A' : Option Addr) (n c m c' : Nat) (xs ys : List Int) (w : World) (B : Nat) (hB : B ≤ w.heap.size) (hn : n = xs.length) (hnc : n ≤ c) (hm : m = ys.length) (hmc : m ≤ c') (h : IS w B A xs) (h' : IS w B A' ys) (hs : n ≤ 2000000) (hs' : m ≤ 2000000) :
    Calls Try.prog 44 #[.slice A n c, .slice A' m c'] w fun e w' => e = .returned (.bool (bothK xs ys)) ∧ Below w.heap.size w w' := by
  have HC := Lib.hid (impl_ValidKeys A n c xs w B hB hn hnc h hs)
  have HD := Lib.hid fun (w' : World) (hb : Below w.heap.size w w') => impl_ValidKeys A' m c' ys w' B (by have := hb.size; omega) hm hmc (h'.below hb hB) hs'
  have hbk : bothK xs ys = (validK xs && validK ys) := rfl
  rw [hbk]
  generalize validK xs = r at *
  generalize validK ys = s at *
  clear hn h hm h' hbk hnc hmc
  cases r
  · go_enter Try.func44, Try.ntmps44
    go_wp2_with fail
    refine HC.out.mono ?_
    rintro e w1 ⟨rfl, hb⟩
    go_wp2
    go_ret
    exact ⟨ret_b (by simp), hb⟩
  · go_enter Try.func44, Try.ntmps44
    go_wp2_with fail
    refine HC.out.mono ?_
    rintro e w1 ⟨rfl, hb⟩
    go_wp2_with fail
    refine (HD.out _ hb).mono ?_
    rintro e w2 ⟨rfl, hb2⟩
    go_wp2
    go_ret
    exact ⟨ret_b (by simp), hb.trans (hb2.mono hb.size)⟩
theorem RetI_nil {w w' : World} (hb : Below w.heap.size w w') : RetI w [] (.returned (.slice none 0 0)) w' := ⟨_, rfl, World.ownsRow_nil _ _ _ _, hb⟩
end Go.Proofs.Ytlbomopjldhmeaa

namespace Go.Proofs.Ytlbomopjldhmeaa
set_option linter.unusedSimpArgs false
set_option linter.unusedVariables false
open Go.RowKit Go.Shelf
attribute [local go_sem] Oper.semAt_some
theorem sub_succ (n k : Nat) (h : k < n) : sub n (k + 1) = sub n k ++ [⟨k, h⟩] := by simp [sub, List.range_succ, h]
theorem sub_val (n k : Nat) (h : k ≤ n) : (sub n k).map Subtype.val = List.range k := by
  induction k with
  | zero => rfl
  | succ k ih => rw [sub_succ n k (by omega), List.map_append, ih (by omega), List.range_succ]; rfl
theorem sub_length (n k : Nat) (h : k ≤ n) : (sub n k).length = k := by
  have := congrArg List.length (sub_val n k h); simpa using this
/-- What a round must keep: what lay below n₀, and the iterator's box. -/
def KB (n₀ Bs : Nat) (v : Value) (W W' : World) : Prop := Below n₀ W W' ∧ (W.cell? ⟨Bs, 0, none⟩ = some v → W'.cell? ⟨Bs, 0, none⟩ = some v)
theorem KB.refl (n₀ Bs : Nat) (v : Value) (W : World) : KB n₀ Bs v W W := ⟨Below.refl _ _, fun h => h⟩
theorem KB.tr {n₀ Bs : Nat} {v : Value} {A B C : World} (h : KB n₀ Bs v A B) (k : KB n₀ Bs v B C) : KB n₀ Bs v A C := ⟨h.1.trans k.1, fun x => k.2 (h.2 x)⟩
theorem KB.put {n₀ Bs : Nat} {v : Value} {w : World} (hn : n₀ ≤ w.heap.size) (W : World) (l : Nat) (o o' : Obj) (hl : w.heap.size ≤ l) (h : W.heap[l]? = some o) (hc : o.isCells = false) (hw : o.isWalk = false) : KB n₀ Bs v W (W.putObj l o') :=
  ⟨belowK_b hn W l o o' hl h hc hw, fun x => cell_kept x (grownBy_putObj' W l o') (fun r e => by cases e; exact ⟨o, h, hc⟩)⟩
set_option maxRecDepth 100000 in
set_option maxHeartbeats 2000000 in
theorem back1_in (F : Fence) (n : Nat) (h7 : F.fn 65) (hro : F.round = none) (hn : 1 ≤ n) (l Bs n₀ b off len cap : Nat) (zs : List Int) (hreach : len ≤ 2000000) (hb : b < n₀) (J Jx : List (Below' len) → World → Prop)
    (hY : ∀ pre x W, J pre W → pre.length < len → YieldAt F (n - 1) Try.prog l #[.int .i64 ((len - 1 - x.1 : Nat) : Int), .int .i64 (zs[len - 1 - x.1]?.getD 0)] W fun e W' =>
      (e = .returned (.bool true) ∧ J (pre ++ [x]) W' ∧ KB n₀ Bs (.slice (some ⟨b, off, none⟩) len cap) W W') ∨ (e = .returned (.bool false) ∧ Jx (pre ++ [x]) W'))
    (W : World) (hBs : W.cell? ⟨Bs, 0, none⟩ = some (.slice (some ⟨b, off, none⟩) len cap)) (hc : ∀ j, j < len → W.cell? ⟨b, off + j, none⟩ = some (.int .i64 (zs[j]?.getD 0))) (h0 : J [] W) :
    CallsIn F n Try.prog 65 #[.func (.yield l) #[] #[], .pointer (some ⟨Bs, 0, none⟩)] W fun e W' => (∃ v, e = .returned v) ∧
      ((∃ ys, ys = sub len len ∧ J ys W') ∨ (∃ pre, (∃ k, k ≤ len ∧ pre = sub len k) ∧ Jx pre W')) := by
  refine callsIn_of_wp Try.func65 rfl h7 ?_ hro
  simp only [Try.ntmps65, List.size_toArray, List.length_cons, List.length_nil, Nat.reduceAdd, Nat.reduceSub, Array.replicate_succ, Array.replicate_zero, List.push_toArray, List.append_toArray, List.nil_append, List.cons_append]
  gi_wp2
  gi_loopw [3] (fun i wr => ∃ k : Nat, k ≤ len ∧ i = .int .i64 ((len : Int) - 1 - k) ∧ J (sub len k) wr ∧ KB n₀ Bs (.slice (some ⟨b, off, none⟩) len cap) W wr)
    (fun i _ => (intOf i + 1).toNat)
  case atStart => exact ⟨0, Nat.zero_le _, by simp, h0, KB.refl _ _ _ _⟩
  case round =>
    obtain ⟨k, hk, rfl, hJs, hnx⟩ := hrel
    have hbx := hnx.2 hBs
    by_cases hlt : k < len
    · obtain ⟨q, hq⟩ : ∃ q : Nat, q = len - 1 - k := ⟨_, rfl⟩
      have hqi : (len : Int) - 1 - k = (q : Int) := by omega
      have hql : q < len := by omega
      have hcx := (hnx.1.cell (p := ⟨b, off + q, none⟩) hb).trans (hc q hql)
      obtain ⟨fn, tmps, assign, body, hy, hR⟩ := hY _ ⟨k, hlt⟩ wr hJs (by rw [sub_length _ _ hk]; exact hlt)
      dsimp only at hy
      rw [← hq] at hy
      have hst := sub_succ len k hlt
      have HST := Lib.hid hst
      have HQ := Lib.hid hqi
      rw [hqi]
      clear hst hq hqi
      gi_wp2
      refine hR.mono ?_
      rintro e W3 (⟨rfl, hJ3, hk3⟩ | ⟨rfl, hJx3⟩)
      · gi_wp2
        go_roundw
        case rel => exact ⟨k + 1, by omega, by have := HQ.out; go_num, by rw [HST.out]; exact hJ3, hnx.tr hk3⟩
        case measure => have := HQ.out; simp [intOf]
      · gi_wp2
        refine bodyPost_ret (results_none rfl _ _ _) rfl ?_
        exact ⟨⟨_, rfl⟩, .inr ⟨_, ⟨k + 1, by omega, HST.out.symm⟩, hJx3⟩⟩
    · obtain rfl : k = len := by omega
      have hneg : decide ((0 : Int) ≤ (k : Int) - 1 - k) = false := decide_eq_false (by omega)
      gi_wp2
      go_end0
      exact ⟨⟨_, rfl⟩, .inl ⟨_, rfl, hJs⟩⟩
set_option maxRecDepth 100000 in
set_option maxHeartbeats 1000000 in
theorem back1_nil_in (F : Fence) (n : Nat) (h7 : F.fn 65) (hro : F.round = none) (l Bs : Nat) (A : Option Addr) (cap : Nat) (J : List (Below' 0) → World → Prop) (W : World) (hBs : W.cell? ⟨Bs, 0, none⟩ = some (.slice A 0 cap)) (h0 : J [] W) :
    CallsIn F n Try.prog 65 #[.func (.yield l) #[] #[], .pointer (some ⟨Bs, 0, none⟩)] W fun e W' => (∃ v, e = .returned v) ∧ J [] W' := by
  refine callsIn_of_wp Try.func65 rfl h7 ?_ hro
  simp only [Try.ntmps65, List.size_toArray, List.length_cons, List.length_nil, Nat.reduceAdd, Nat.reduceSub, Array.replicate_succ, Array.replicate_zero, List.push_toArray, List.append_toArray, List.nil_append, List.cons_append]
  gi_wp2
  gi_loopw [3] (fun i wr => i = .int .i64 (-1) ∧ J [] wr) (fun _ _ => 0)
  case atStart => exact ⟨rfl, h0⟩
  case round =>
    obtain ⟨rfl, hJs⟩ := hrel
    gi_wp2
    go_end0
    exact ⟨⟨_, rfl⟩, hJs⟩
set_option maxHeartbeats 1000000 in
theorem backward_at (A : Option Addr) (len cap : Nat) (w : World) :
    Calls Try.prog 45 #[.slice A len cap] w fun e w' => e = .returned (.func (.func 65) #[] #[.pointer (some ⟨w.heap.size, 0, none⟩)]) ∧ w' = w.alloc (.cells #[.slice A len cap] 22) := by
  go_enter Try.func45, Try.ntmps45
  go_wp2
  go_ret
  exact ⟨rfl, rfl⟩
theorem back_stops (F : Fence) (n : Nat) (h7 : F.fn 65) (hro : F.round = none) (hn : 1 ≤ n) (Bs n₀ : Nat) (A : Option Addr) (len cap : Nat) (zs : List Int) (hl : len = zs.length) (hreach : len ≤ 2000000) (w : World) (hBs : Bs < w.heap.size) (hn₀ : n₀ ≤ w.heap.size)
    (hc : w.cell? ⟨Bs, 0, none⟩ = some (.slice A len cap)) (hI : IS w n₀ A zs) :
    SeqStopsK F n Try.prog 65 #[.pointer (some ⟨Bs, 0, none⟩)] (fun x : Below' len => #[Value.int .i64 ((len - 1 - x.1 : Nat) : Int), Value.int .i64 (zs[len - 1 - x.1]?.getD 0)]) (KB n₀ Bs (.slice A len cap)) (fun ys => ys = sub len len)
      (fun pre => ∃ k, k ≤ len ∧ pre = sub len k) len w := fun l J Jx W hW _ _ hY h0 => by
  have hc' := (hW.cell (p := ⟨Bs, 0, none⟩) hBs).trans hc
  rcases Nat.eq_zero_or_pos len with rfl | hpos
  · exact (back1_nil_in F n h7 hro l Bs A cap J W hc' h0).mono fun e W' ⟨he, hj⟩ => ⟨he, .inl ⟨_, rfl, hj⟩⟩
  · obtain ⟨b, off, rfl, hb, hcs⟩ := hI (by omega)
    refine (back1_in F n h7 hro hn l Bs n₀ b off len cap zs hreach hb J Jx hY W hc' (fun j hj => ?_) h0).mono ?_
    · have := (hW.cell (p := ⟨b, off + j, none⟩) (by show b < w.heap.size; omega)).trans (hcs j (by omega))
      simpa [List.getD] using this
    · rintro e W' ⟨he, ⟨ys, rfl, hj⟩ | ⟨pre, ⟨k, hk, rfl⟩, hj⟩⟩
      · exact ⟨he, .inl ⟨_, rfl, hj⟩⟩
      · exact ⟨he, .inr ⟨_, ⟨k, hk, rfl⟩, hj⟩⟩
end Go.Proofs.Ytlbomopjldhmeaa

namespace Go.Proofs.Ytlbomopjldhmeaa
set_option linter.unusedSimpArgs false
set_option linter.unusedVariables false
open Go.RowKit
theorem bst_le (P L : Nat → Int) (i d : Nat) (b : Int) (hb : 0 ≤ b) (h : ∀ j, L j ≤ b) : bst P L i d ≤ b := by
  induction d with
  | zero => exact hb
  | succ d ih => unfold bst; have := h (i + 1 + d); split <;> omega
theorem lrT_bd (P : Nat → Int) (n r j : Nat) : 0 ≤ lrT P n r j ∧ lrT P n r j ≤ r := by
  induction r generalizing j with
  | zero => exact ⟨Int.le_refl _, Int.le_refl _⟩
  | succ r ih =>
    unfold lrT upd
    have h1 := bst_nonneg P (lrT P n r) (n - 1 - r) r
    have h2 := bst_le P (lrT P n r) (n - 1 - r) r r (by omega) fun j => (ih j).2
    have h3 := ih j
    split <;> omega
theorem lrA_le (P : Nat → Int) (n i : Nat) : lrA P n i ≤ n := (lrT_bd P n n i).2
theorem mst_nonneg (L : Nat → Int) (k : Nat) : 0 ≤ mst L k := by
  induction k with
  | zero => exact Int.le_refl _
  | succ k ih => unfold mst; omega
theorem mst_le (L : Nat → Int) (k : Nat) (b : Int) (hb : 0 ≤ b) (h : ∀ j, j < k → L j ≤ b) : mst L k ≤ b := by
  induction k with
  | zero => exact hb
  | succ k ih => unfold mst; have := h k (by omega); have := ih fun j hj => h j (by omega); omega
/-- A row of numbers told by a function. -/
def vl (n : Nat) (f : Nat → Int) : List Value := (List.range n).map fun j => Value.int .i64 (f j)
def il (n : Nat) (f : Nat → Int) : List Int := (List.range n).map f
theorem il_vl (n : Nat) (f : Nat → Int) : (il n f).map (Value.int .i64) = vl n f := by simp [il, vl]
theorem il_len (n : Nat) (f : Nat → Int) : (il n f).length = n := by simp [il]
theorem il_get (n : Nat) (f : Nat → Int) (j : Nat) (h : j < n) : (il n f).getD j 0 = f j := by simp [il, List.getD, h]
theorem vl_len (n : Nat) (f : Nat → Int) : (vl n f).length = n := by simp [vl]
theorem vl_get (n : Nat) (f : Nat → Int) (j : Nat) (h : j < n) : (vl n f)[j]? = some (.int .i64 (f j)) := by simp [vl, h]
theorem vl_set (n : Nat) (f : Nat → Int) (i : Nat) (x : Int) (h : i < n) : (vl n f).set i (.int .i64 x) = vl n (upd f i x) := by
  apply List.ext_getElem?
  intro j
  rcases Nat.lt_or_ge j n with hj | hj
  · rw [List.getElem?_set, vl_get _ _ _ hj, vl_len]
    by_cases e : i = j
    · subst e; rw [vl_get _ _ _ hj]; simp [upd, h]
    · rw [if_neg e, vl_get _ _ _ hj]
      simp [upd, Ne.symm e, show ¬ j = i from fun h => e h.symm]
  · rw [List.getElem?_eq_none (by simp [vl]; omega), List.getElem?_eq_none (by simp [vl]; omega)]
theorem vl_congr (n : Nat) (f g : Nat → Int) (h : ∀ j, j < n → f j = g j) : vl n f = vl n g := by
  unfold vl
  apply List.map_congr_left
  intro j hj
  rw [h j (by simpa using hj)]
theorem upd_upd (f : Nat → Int) (i : Nat) (x y : Int) : upd (upd f i x) i y = upd f i y := by
  funext j; unfold upd; split <;> rfl
theorem upd_at (f : Nat → Int) (i : Nat) (x : Int) : upd f i x i = x := by unfold upd; simp
theorem upd_ne (f : Nat → Int) (i j : Nat) (x : Int) (h : j ≠ i) : upd f i x j = f j := by unfold upd; simp [h]
end Go.Proofs.Ytlbomopjldhmeaa

namespace Go.Proofs.Ytlbomopjldhmeaa
set_option linter.unusedSimpArgs false
set_option linter.unusedVariables false
open Go.RowKit
theorem vl_zero (n : Nat) : (madeCells (Value.int .i64 0).cells (n * 1)).toList = vl n (fun _ => 0) := by
  simp [vl, Value.cells, toList_madeCells_one, List.map_const']
/-- The row at g holds the numbers of f. -/
def Rf (base g n : Nat) (f : Nat → Int) (w : World) : Prop := w.ownsRow base 3 1 (.slice (some ⟨g, 0, none⟩) n n) n (vl n f)
theorem Rf.cell {base g n : Nat} {f : Nat → Int} {w : World} (h : Rf base g n f w) (j : Nat) (hj : j < n) : w.cell? ⟨g, j, none⟩ = some (.int .i64 (f j)) := by
  have h' : w.ownsRow base 3 1 (.slice (some ⟨g, 0, none⟩) n n) n (vl n f) := h
  rw [h'.cellAt j (by omega), vl_get n f j hj]
theorem Rf.free {base g n : Nat} {f : Nat → Int} {w : World} (h : Rf base g n f w) (j : Nat) : w.frozen? ⟨g, j, none⟩ = false := World.ownsRow.frozenAt h j
theorem Rf.set {base g n : Nat} {f : Nat → Int} {w : World} (h : Rf base g n f w) (j : Nat) (hj : j < n) (x : Int) : Rf base g n (upd f j x) (w.setCell ⟨g, j, none⟩ (.int .i64 x)) := by
  have h' := (World.ownsRow.stored h j (.int .i64 x)).1
  rw [vl_set n f j x hj] at h'
  exact h'
theorem Rf.lt {base g n : Nat} {f : Nat → Int} {w : World} (h : Rf base g n f w) : base ≤ g ∧ g < w.heap.size := World.ownsRow.lt h g rfl
theorem Rf.drewN {base g n : Nat} {f : Nat → Int} {w : World} (h : Rf base g n f w) (k : Nat) : Rf base g n f (w.drewN k) := h
theorem Rf.drew {base g n : Nat} {f : Nat → Int} {w : World} (h : Rf base g n f w) : Rf base g n f w.drew := h
theorem Rf.below {base g n : Nat} {f : Nat → Int} {w w' : World} (h : Rf base g n f w) (hb : Below w.heap.size w w') : Rf base g n f w' := own_below h hb
theorem Rf.congr {base g n : Nat} {f f' : Nat → Int} {w : World} (h : Rf base g n f w) (e : ∀ j, j < n → f j = f' j) : Rf base g n f' w := by
  unfold Rf; rw [← vl_congr n f f' e]; exact h
theorem Rf.own {base g n : Nat} {f : Nat → Int} {w : World} (h : Rf base g n f w) : OwnI w base (.slice (some ⟨g, 0, none⟩) n n) (il n f) := by
  unfold OwnI
  rw [il_len, il_vl]
  exact h
theorem drewN_b {B n : Nat} {a w : World} (h : Below B a w) : Below B a (w.drewN n) := ⟨h.os, h.tape, h.output, h.size, h.block⟩
set_option maxRecDepth 100000 in
set_option maxHeartbeats 3200000 in
theorem spec_longest (A : Option Addr) (n c : Nat) (xs : List Int) (w : World) (B : Nat) (hB : B ≤ w.heap.size) (hn : n = xs.length) (h : IS w B A xs) (hs : n ≤ 2000000) :
    Calls Try.prog 84 #[.slice A n c] w fun e w' => RetI w (il n (lrA (fun j => xs.getD j 0) n)) e w' := by
  obtain ⟨i0, hi, hz0, hz1, hz2⟩ := info_parts info_int
  obtain ⟨w0, hmk, hown0, hgr0⟩ := run_make_full (P := Try.prog) w w.heap.size 22 3 i0 _ 1 Try.underlying22 hi hz0 hz1 .i64 .i64 n (by rw [hz2]; omega) (by unfold maxLen; omega) (Nat.le_refl _)
  rw [vl_zero] at hown0
  have HR0 : Hid (Rf w.heap.size w.heap.size n (fun _ => 0) w0) := hown0
  have hb0 : Below w.heap.size w w0 := ⟨hgr0.os, hgr0.tape, hgr0.output, hgr0.size, fun k hk => hgr0.block k hk (by simp)⟩
  clear hown0 hgr0
  have H := Lib.hid h
  have HN := Lib.hid hn
  clear hn h
  obtain ⟨P, hP⟩ : ∃ P : Nat → Int, P = fun j => xs.getD j 0 := ⟨_, rfl⟩
  have HPP : Hid (∀ j, P j = xs.getD j 0) := by rw [hP]; exact fun j => rfl
  rw [← hP]
  clear hP
  go_enter Try.func84, Try.ntmps84
  go_wp2
  go_loopw [4] (fun i wr => ∃ r : Nat, r ≤ n ∧ i = .int .i64 ((n : Int) - 1 - r) ∧ Hid (Rf w.heap.size w.heap.size n (lrT P n r) wr) ∧ Below w.heap.size w wr) (fun i _ => (intOf i + 1).toNat)
  case atStart => exact ⟨0, Nat.zero_le _, by simp, HR0.out, hb0⟩
  case round =>
    obtain ⟨r, hr, rfl, HO, hb⟩ := hrel
    have hwr : w.heap.size ≤ wr.heap.size := hb.size
    by_cases hlt : r < n
    · obtain ⟨i, hi⟩ : ∃ i : Nat, i = n - 1 - r := ⟨_, rfl⟩
      have hin : (n : Int) - 1 - r = (i : Int) := by omega
      have hi1 : i < n := by omega
      rw [hin]
      have c0 := HO.out.cell i hi1
      have f0 := HO.out.free i
      have hii : (i : Int) < (n : Int) := by omega
      obtain ⟨b, off, rfl, hbB, hc⟩ := H.out (by have := HN.out; omega)
      have HC := Lib.hid hc
      clear hc
      have HI := Lib.hid hi
      have HIN := Lib.hid hin
      have ci := (hb.cell (p := ⟨b, off + i, none⟩) (by simp; omega)).trans (HC.out i (by have := HN.out; omega))
      rw [← HPP.out] at ci
      generalize lrT P n r i = v0 at *
      clear hi hin
      go_wp2
      go_loopw [5] (fun q wx => ∃ d : Nat, i + 1 + d ≤ n ∧ q = .int .i64 ((i + 1 + d : Nat) : Int) ∧ Hid (Rf w.heap.size w.heap.size n (upd (lrT P n r) i (bst P (lrT P n r) i d + 1)) wx) ∧ Below w.heap.size w wx) (fun q _ => n - (intOf q).toNat)
      case atStart =>
        refine ⟨0, by omega, by simp, ?_, hb.setCell (p := ⟨w.heap.size, i, none⟩) (Nat.le_refl _) _⟩
        exact HO.out.set i hi1 1
      case round =>
        obtain ⟨d, hd, rfl, HX, hbx⟩ := hrel
        have hwx : w.heap.size ≤ wr.heap.size := hbx.size
        by_cases hdn : i + 1 + d < n
        · have hdi : ((i + 1 + d : Nat) : Int) < (n : Int) := by omega
          have xi := (hbx.cell (p := ⟨b, off + i, none⟩) (by simp; omega)).trans (HC.out i (by have := HN.out; omega))
          have xk := (hbx.cell (p := ⟨b, off + (i + 1 + d), none⟩) (by simp; omega)).trans (HC.out (i + 1 + d) (by have := HN.out; omega))
          rw [← HPP.out] at xi xk
          clear c0 f0 ci
          obtain ⟨k, hk⟩ : ∃ k : Nat, k = i + 1 + d := ⟨_, rfl⟩
          have hki : i < k := by omega
          have hkn : k < n := by omega
          have l1 := HX.out.cell i hi1
          have l2 := HX.out.cell k hkn
          have lf := HX.out.free i
          rw [upd_at] at l1
          rw [upd_ne _ _ _ _ (by omega)] at l2
          have hb1 := bst_nonneg P (lrT P n r) i d
          have hb2 := bst_le P (lrT P n r) i d r (by omega) fun j => (lrT_bd P n r j).2
          have hb3 := lrT_bd P n r k
          have HST : Hid (bst P (lrT P n r) i (d + 1) = if P i < P k then max (bst P (lrT P n r) i d) (lrT P n r k) else bst P (lrT P n r) i d) := by rw [hk]; rfl
          rw [← hk] at xk hdi ⊢
          have HK := Lib.hid hk
          clear hk hdn hd
          generalize bst P (lrT P n r) i d = y at *
          generalize lrT P n r k = z at *
          by_cases hp : P i < P k
          · have HS2 := Lib.hid (HST.out.trans (if_pos hp))
            generalize P i = p at *
            generalize P k = q at *
            go_wp2
            go_quiet (fail)
            go_wp2
            go_region
            go_wp2
            go_roundw
            case rel =>
              refine ⟨d + 1, by have := HK.out; omega, by have := HK.out; go_num, ?_, (drewN_b hbx).setCell (p := ⟨w.heap.size, i, none⟩) (Nat.le_refl _) _⟩
              have hmx : (if y < z then z + 1 else y + 1) = max y z + 1 := by split <;> omega
              have hs1 := (HX.out.drewN (nq + 1)).set i hi1 (if y < z then z + 1 else y + 1)
              rw [upd_upd, hmx] at hs1
              rw [hmx]
              exact hs1.congr fun j _ => by rw [HS2.out]
            case measure => simp [intOf]; omega
          · have HS2 := Lib.hid (HST.out.trans (if_neg hp))
            generalize P i = p at *
            generalize P k = q at *
            go_wp2
            go_quiet (fail)
            go_wp2
            go_roundw
            case rel => exact ⟨d + 1, by have := HK.out; omega, by have := HK.out; go_num, HX.out.congr fun j _ => by rw [HS2.out], drewN_b hbx⟩
            case measure => simp [intOf]; omega
        · have hdn2 : i + 1 + d = n := by omega
          rw [hdn2]
          have hdr : d = r := by have := HI.out; omega
          have HRR : Hid (Rf w.heap.size w.heap.size n (lrT P n (r + 1)) wr) := by
            have := HX.out
            rw [hdr] at this
            have e : lrT P n (r + 1) = upd (lrT P n r) i (bst P (lrT P n r) i r + 1) := by rw [HI.out]; rfl
            rw [e]; exact this
          clear hdn2 hdr
          go_wp2
          go_roundw
          case rel => exact ⟨r + 1, by omega, by have := HIN.out; go_num, HRR.out, hbx⟩
          case measure => have := HIN.out; simp [intOf]
    · obtain rfl : r = n := by omega
      have hneg : decide ((0 : Int) ≤ (r : Int) - 1 - r) = false := decide_eq_false (by omega)
      go_wp2
      go_ret
      refine ⟨_, rfl, ?_, hb⟩
      exact HO.out.own
end Go.Proofs.Ytlbomopjldhmeaa

namespace Go.Proofs.Ytlbomopjldhmeaa
set_option linter.unusedSimpArgs false
set_option linter.unusedVariables false
open Go.RowKit
theorem lrA_congr (P Q : Nat → Int) (n : Nat) (h : ∀ j, j < n → P j = Q j) : ∀ j, lrA P n j = lrA Q n j := by
  have key : ∀ r, r ≤ n → ∀ j, lrT P n r j = lrT Q n r j := by
    intro r
    induction r with
    | zero => intro _ j; rfl
    | succ r ih =>
      intro hr j
      have e : lrT P n r = lrT Q n r := funext (ih (by omega))
      show upd (lrT P n r) (n - 1 - r) (bst P (lrT P n r) (n - 1 - r) r + 1) j = upd (lrT Q n r) (n - 1 - r) (bst Q (lrT Q n r) (n - 1 - r) r + 1) j
      rw [e]
      have eb : ∀ d, d ≤ r → bst P (lrT Q n r) (n - 1 - r) d = bst Q (lrT Q n r) (n - 1 - r) d := by
        intro d
        induction d with
        | zero => intro _; rfl
        | succ d ihd =>
          intro hd
          show (if P (n - 1 - r) < P (n - 1 - r + 1 + d) then _ else _) = (if Q (n - 1 - r) < Q (n - 1 - r + 1 + d) then _ else _)
          rw [ihd (by omega), h _ (by omega), h _ (by omega)]
      rw [eb r (Nat.le_refl _)]
  exact key n (Nat.le_refl _)
theorem inK_mem (xs ys : List Int) (j : Nat) (h : j < (inK ys xs).length) : (inK ys xs).getD j 0 ∈ xs := by
  have h1 : (inK ys xs).getD j 0 ∈ inK ys xs := by simp [List.getD, h]
  have h2 := (List.mem_filter.1 h1).2
  exact of_decide_eq_true h2
theorem plF_nonneg (xs ys : List Int) (j : Nat) (h : j < (inK ys xs).length) : 0 ≤ plF xs (inK ys xs) j := plc_in _ _ (inK_mem xs ys j h)
set_option maxHeartbeats 400000 in
theorem spec_shared (A A' : Option Addr) (n c m c' : Nat) (xs ys : List Int) (w : World) (B : Nat) (hB : B ≤ w.heap.size) (hn : n = xs.length) (hm : m = ys.length) (h : IS w B A xs) (h' : IS w B A' ys) (hs : n ≤ 2000000) (hs' : m ≤ 2000000) :
    Calls Try.prog 83 #[.slice A n c, .slice A' m c'] w fun e w' => RetI w (inK xs ys) e w' := by
  have HC := Lib.hid (spec_common A A' n c m c' xs ys w B hB hn hm h h' hs hs')
  clear hn hm h h'
  go_enter Try.func83, Try.ntmps83
  go_wp2_with fail
  refine HC.out.mono ?_
  rintro e w1 ⟨v, rfl, ho, hb⟩
  go_wp2
  go_ret
  exact ⟨v, by simp, ho, hb⟩
theorem OwnI.form' {w : World} {base : Nat} {v : Value} {xs : List Int} (h : OwnI w base v xs) (n : Nat) (hn : n = xs.length) : ∃ A c, v = .slice A n c ∧ IS w w.heap.size A xs ∧ n ≤ c ∧ ∀ k, v.ownBlock = some k → base ≤ k ∧ k < w.heap.size := by
  subst hn
  obtain ⟨A, c, e, hi⟩ := h.form
  refine ⟨A, c, e, hi, ?_, World.ownsRow.lt h⟩
  rcases h.2 with ⟨hv, h0⟩ | ⟨g, cap, cur, hv, _, _, hc, _⟩
  · omega
  · rw [e] at hv; simp only [Value.slice.injEq] at hv; omega
set_option maxRecDepth 100000 in
set_option maxHeartbeats 3200000 in
theorem spec_stays (A A' : Option Addr) (n c m c' : Nat) (xs ys : List Int) (w : World) (B : Nat) (hB : B ≤ w.heap.size) (hn : n = xs.length) (hm : m = ys.length) (h : IS w B A xs) (h' : IS w B A' ys) (hs : n ≤ 2000000) (hs' : m ≤ 1048576) :
    Calls Try.prog 73 #[.slice A n c, .slice A' m c'] w fun e w' => RetI w (stK xs ys) e w' := by
  obtain ⟨i0, hi, hz0, hz1, hz2⟩ := info_parts info_int
  have HSH := Lib.hid (spec_shared A' A m c' n c ys xs w B hB hm hn h' h (by omega) hs)
  have hKl := inK_len ys xs
  have hP0 := plF_nonneg xs ys
  unfold stK
  generalize inK ys xs = K at *
  obtain ⟨l, hl⟩ : ∃ l : Nat, l = K.length := ⟨_, rfl⟩
  have hlm : l ≤ 1048576 := by omega
  rw [← hl] at hP0 ⊢
  have H := Lib.hid h
  have HN := Lib.hid hn
  have HLL := Lib.hid hl
  have HP0 := Lib.hid hP0
  clear hn h hm h' hl hP0 hKl
  go_enter Try.func73, Try.ntmps73
  go_wp2_with fail
  refine HSH.out.mono ?_
  rintro e w1 ⟨v1, rfl, ho1, hb1⟩
  obtain ⟨A1, c1, rfl, hi1, hc1, hlt1⟩ := ho1.form' l HLL.out
  have HI1 := Lib.hid hi1
  have hw1 : w.heap.size ≤ w1.heap.size := hb1.size
  have HX1 := Lib.hid (H.out.below hb1 hB)
  clear ho1 hi1 hlt1 H HSH
  go_wp2
  go_loopw [6, 8] (fun v i wr => ∃ k : Nat, k ≤ l ∧ i = .int .i64 k ∧ Hid (OwnI wr w1.heap.size v (il k (plF xs K))) ∧ Below w1.heap.size w1 wr) (fun _ i _ => l - (intOf i).toNat)
  case atStart =>
    exact ⟨0, Nat.zero_le _, rfl, World.ownsRow_lit (e := 3) (size := 1) w1 #[] 0 (Nat.le_refl _) (by unfold maxLen; omega) rfl, (Below.refl _ _).alloc (Nat.le_refl _) _⟩
  case round =>
    obtain ⟨k, hk, rfl, HO, hb⟩ := hrel
    have hwr : w1.heap.size ≤ wr.heap.size := hb.size
    by_cases hlt : k < l
    · have hkx : k < K.length := by have := HLL.out; omega
      have HPL := Lib.hid (spec_placeIn A n c xs (K.getD k 0) wr B (by omega) HN.out (HX1.out.below hb (by omega)) hs)
      have hpk : plc xs (K.getD k 0) = plF xs K k := rfl
      obtain ⟨b, off, rfl, hbB, hc⟩ := HI1.out (by omega)
      have c0 := (hb.cell (p := ⟨b, off + k, none⟩) (by simp; omega)).trans (hc k hkx)
      clear hc
      rw [hpk] at HPL
      clear hpk
      have HST : Hid (il (k + 1) (plF xs K) = il k (plF xs K) ++ [plF xs K k]) := by simp [Hid, il, List.range_succ]
      have hll := il_len k (plF xs K)
      have HO1 : Hid (OwnI wr w1.heap.size _ (il k (plF xs K))) := HO
      generalize il k (plF xs K) = F at *
      generalize plF xs K k = p at *
      generalize K.getD k 0 = x at *
      have HLF := Lib.hid hll
      clear hll HO1
      go_wp2_with (first | (go_at_call 57; refine HPL.out.mono ?_; rintro e w' ⟨rfl, rfl⟩) | (at_builtin; refine wpList_append_own _ rfl _ _ 22 rfl w1.heap.size 3 i0 (.int .i64 0) 1 8 Try.underlying22 hi hz0 hz1 hz2 rfl (by decide) _ _ _ rfl (HO.out.alloc _) ⟨wr.heap.size, 0, none⟩ 1 1 [.int .i64 p] rfl rfl (cell_one_new _ _ _) ?c2 ?c3 ?c4 ?c5 ?_))
      case c2 => first | rfl | (intro u hu; simp at hu; subst hu; rfl)
      case c3 => have := HLF.out; unfold maxLen; omega
      case c4 => have := HLF.out; omega
      case c5 => first | omega | (simp; omega)
      intro v' w3 hown' hgrow _
      have hpos := (HO.out.alloc (.cells #[.int .i64 p] 3)).lt
      have HO' : Hid (OwnI w3 w1.heap.size v' (il (k + 1) (plF xs K))) := by
        rw [HST.out]
        simpa [OwnI, Hid] using hown'
      have HB' := Lib.hid ((hb.alloc hwr (.cells #[.int .i64 p] 3)).grown hgrow (by first | (simp; omega) | omega) (fun q hq => (hpos q hq).1))
      clear hown' hgrow hpos
      go_wp2
      go_roundw
      case rel => exact ⟨k + 1, by omega, by go_num, HO'.out, HB'.out⟩
      case measure => simp [intOf]; omega
    · obtain rfl : k = l := by omega
      obtain ⟨w2, hw2⟩ : ∃ w2, w2 = wr := ⟨_, rfl⟩
      subst hw2
      obtain ⟨A2, c2, rfl, hi2, hc2, hlt2⟩ := HO.out.form' k (il_len k (plF xs K)).symm
      have HLG := Lib.hid (spec_longest A2 k c2 (il k (plF xs K)) w2 w2.heap.size (Nat.le_refl _) (il_len k _).symm hi2 (by omega))
      have hcg : (il k (lrA (fun j => (il k (plF xs K)).getD j 0) k)) = il k (lenF xs K) := by
        have e : lenF xs K = lrA (fun j => (il k (plF xs K)).getD j 0) k := by
          unfold lenF
          rw [← HLL.out]
          exact funext fun j => (lrA_congr _ _ k (fun j hj => (il_get k (plF xs K) j hj)) j).symm
        rw [e]
      rw [hcg] at HLG
      have HI2 := Lib.hid hi2
      have HK1 := Lib.hid (HI1.out.below hb (Nat.le_refl _))
      have hwk : w.heap.size ≤ w2.heap.size := by omega
      have HBW := Lib.hid (hb1.trans (hb.mono hw1))
      have hbds : ∀ j, lenF xs K j ≤ (k : Int) := by
        intro j
        unfold lenF
        rw [← HLL.out]
        exact lrA_le _ _ _
      have HPOS : Hid (∀ j, j < k → 1 ≤ lenF xs K j) := by
        intro j hj
        unfold lenF
        rw [← HLL.out]
        exact lrA_pos _ _ _ hj
      have HBDS := Lib.hid hbds
      have HLT : Hid (∀ (i : Nat) (at_ mis : Int), AtOK (plF xs K) (lenF xs K) i at_ mis → i < k → lenF xs K i = mis → at_ < plF xs K i) := by
        intro i at_ mis ha hik he
        unfold lenF at ha he
        rw [← HLL.out] at ha he
        exact ha.lt hik (HP0.out i hik) he
      generalize hLE : lenF xs K = L at *
      generalize plF xs K = P at *
      have HLE := Lib.hid hLE
      clear hLE hi2 hcg hbds HO hlt2 hb hb1 HX1 HI1 HP0
      go_wp2_with fail
      refine HLG.out.mono ?_
      rintro e w3 ⟨v3, rfl, ho3, hb3⟩
      obtain ⟨A3, c3, rfl, hi3, hc3, hlt3⟩ := ho3.form' k (il_len k L).symm
      have hw3 : w2.heap.size ≤ w3.heap.size := hb3.size
      have HI3 := Lib.hid hi3
      have HI23 := Lib.hid (HI2.out.below hb3 (Nat.le_refl _))
      have HK3 := Lib.hid (HK1.out.below hb3 (by omega))
      have HB3 := Lib.hid (HBW.out.trans (hb3.mono hwk))
      clear hi3 ho3 hlt3 HI2 HK1 HBW hb3 HLG
      go_wp2
      go_loopw [7, 10] (fun q i wr => ∃ j : Nat, j ≤ k ∧ i = .int .i64 j ∧ q = .int .i64 (mst L j) ∧ w3 = wr) (fun _ i _ => k - (intOf i).toNat)
      case atStart => exact ⟨0, Nat.zero_le _, rfl, rfl, rfl⟩
      case round =>
        obtain ⟨j, hj, rfl, rfl, rfl⟩ := hrel
        by_cases hjk : j < k
        · obtain ⟨b, off, rfl, hbB, hc⟩ := HI3.out (by rw [il_len]; omega)
          have c0 := hc j (by rw [il_len]; omega)
          rw [il_get k L j hjk] at c0
          have HMS : Hid (mst L (j + 1) = max (mst L j) (L j)) := rfl
          clear hc
          generalize L j = y at *
          generalize mst L j = z at *
          go_wp2
          go_roundw
          case rel => exact ⟨j + 1, by omega, by go_num, by rw [HMS.out]; first | rfl | (congr 1; split <;> omega) | (split <;> (congr 1; omega)), by first | rfl | trivial⟩
          case measure => simp [intOf]; omega
        · obtain rfl : j = k := by omega
          have hmn := mst_nonneg L j
          have hml := mst_le L j j (by omega) fun q _ => HBDS.out q
          generalize hmm : mst L j = M at *
          have HMM := Lib.hid hmm
          clear hmm
          go_wp2
          go_loopw [7, 11, 12, 13] (fun q v a i wx => ∃ (r : Nat) (at_ : Int), r ≤ j ∧ i = .int .i64 r ∧ q = .int .i64 (keep (fun j => K.getD j 0) L M r).2 ∧ a = .int .i64 at_ ∧ Hid (AtOK P L r at_ (keep (fun j => K.getD j 0) L M r).2) ∧ Hid (OwnI wx w3.heap.size v (keep (fun j => K.getD j 0) L M r).1) ∧ Below w3.heap.size w3 wx) (fun _ _ _ i _ => j - (intOf i).toNat)
          case atStart =>
            exact ⟨0, -1, Nat.zero_le _, rfl, rfl, rfl, .inl rfl, World.ownsRow_lit (e := 3) (size := 1) w3 #[] 0 (Nat.le_refl _) (by unfold maxLen; omega) rfl, (Below.refl _ _).alloc (Nat.le_refl _) _⟩
          case round =>
            obtain ⟨r, at_, hr, rfl, rfl, rfl, HA, HO, hbx⟩ := hrel
            have hwx : w3.heap.size ≤ wr.heap.size := hbx.size
            by_cases hrj : r < j
            · have hrx : r < K.length := by have := HLL.out; omega
              obtain ⟨b1, o1, rfl, hB1, hk1⟩ := HK3.out (by omega)
              obtain ⟨b2, o2, rfl, hB2, hk2⟩ := HI23.out (by rw [il_len]; omega)
              obtain ⟨b3, o3, rfl, hB3, hk3⟩ := HI3.out (by rw [il_len]; omega)
              have q1 := (hbx.cell (p := ⟨b1, o1 + r, none⟩) (by simp; omega)).trans (hk1 r hrx)
              have q2 := (hbx.cell (p := ⟨b2, o2 + r, none⟩) (by simp; omega)).trans (hk2 r (by rw [il_len]; omega))
              have q3 := (hbx.cell (p := ⟨b3, o3 + r, none⟩) (by simp; omega)).trans (hk3 r (by rw [il_len]; omega))
              rw [il_get j P r hrj] at q2
              rw [il_get j L r hrj] at q3
              clear hk1 hk2 hk3
              have hpos := HPOS.out r hrj
              have hLB := HBDS.out r
              have HLTr : Hid (L r = (keep (fun j => K.getD j 0) L M r).2 → at_ < P r) := fun e => HLT.out r at_ _ HA.out hrj e
              have HKY := Lib.hid (keep_yes (fun j => K.getD j 0) L M r)
              have HKN := Lib.hid (keep_no (fun j => K.getD j 0) L M r)
              have hkb := keep_bd (fun j => K.getD j 0) L M r
              have HAY : Hid (L r = (keep (fun j => K.getD j 0) L M r).2 → AtOK P L (r + 1) (P r) ((keep (fun j => K.getD j 0) L M r).2 - 1)) := fun e => AtOK.yes (at_ := at_) e
              have HAN : Hid (¬ L r = (keep (fun j => K.getD j 0) L M r).2 → AtOK P L (r + 1) at_ (keep (fun j => K.getD j 0) L M r).2) := fun e => HA.out.no e
              generalize hS : keep (fun j => K.getD j 0) L M r = S at *
              obtain ⟨F, mi⟩ := S
              have HS := Lib.hid hS
              clear hS
              simp only at hkb HLTr HKY HKN HAY HAN HA HO ⊢
              obtain ⟨hF1, hF2⟩ := hkb
              generalize hFl : F.length = fl at *
              have HFL := Lib.hid hFl
              clear hFl
              have hmi : -1048576 ≤ mi ∧ mi ≤ 1048576 := by omega
              clear hF2
              by_cases he : L r = mi
              · have hmp : 0 < mi := by omega
                have hlt := HLTr.out he
                have HKY2 := Lib.hid (HKY.out he)
                have HAY2 := Lib.hid (HAY.out he)
                have heq : (L r == mi) = true := by simp [he]
                clear HLTr HKY HKN HAY HAN he
                generalize L r = y at *
                generalize P r = p at *
                generalize K.getD r 0 = x at *
                go_wp2_with (at_builtin; refine wpList_append_own _ rfl _ _ 22 rfl w3.heap.size 3 i0 (.int .i64 0) 1 8 Try.underlying22 hi hz0 hz1 hz2 rfl (by decide) _ _ _ rfl (HO.out.alloc _) ⟨wr.heap.size, 0, none⟩ 1 1 [.int .i64 x] rfl rfl (cell_one_new _ _ _) ?c2 ?c3 ?c4 ?c5 ?_)
                case c2 => first | rfl | (intro u hu; simp at hu; subst hu; rfl)
                case c3 => have := HFL.out; unfold maxLen; omega
                case c4 => have := HFL.out; omega
                case c5 => first | omega | (simp; omega)
                intro v' w5 hown' hgrow _
                have hpo := (HO.out.alloc (.cells #[.int .i64 x] 3)).lt
                have HO' : Hid (OwnI w5 w3.heap.size v' (F ++ [x])) := by
                  simpa [OwnI, Hid] using hown'
                have HB' := Lib.hid ((hbx.alloc hwx (.cells #[.int .i64 x] 3)).grown hgrow (by first | (simp; omega) | omega) (fun q hq => (hpo q hq).1))
                have q2' : w5.cell? ⟨b2, o2 + r, none⟩ = some (.int .i64 p) := by
                  have e1 := HB'.out.cell (p := ⟨b2, o2 + r, none⟩) (by simp; omega)
                  have e2 := hbx.cell (p := ⟨b2, o2 + r, none⟩) (by simp; omega)
                  exact e1.trans (e2.symm.trans q2)
                clear hown' hgrow hpo
                go_wp2
                go_roundw
                case rel => exact ⟨r + 1, p, by omega, by go_num, by rw [HKY2.out], rfl, by rw [HKY2.out]; exact HAY2.out, by rw [HKY2.out]; exact HO'.out, HB'.out⟩
                case measure => simp [intOf]; omega
              · by_cases hmp : 0 < mi
                · have HKN2 := Lib.hid (HKN.out he)
                  have HAN2 := Lib.hid (HAN.out he)
                  have heq : (L r == mi) = false := by simp [he]
                  clear HLTr HKY HKN HAY HAN he
                  generalize L r = y at *
                  generalize P r = p at *
                  go_wp2
                  go_roundw
                  case rel => exact ⟨r + 1, at_, by omega, by go_num, by rw [HKN2.out], rfl, by rw [HKN2.out]; exact HAN2.out, by rw [HKN2.out]; exact HO.out, hbx⟩
                  case measure => simp [intOf]; omega
                · have HKN2 := Lib.hid (HKN.out he)
                  have HAN2 := Lib.hid (HAN.out he)
                  have hmp2 : decide (0 < mi) = false := decide_eq_false hmp
                  clear HLTr HKY HKN HAY HAN he hmp
                  generalize L r = y at *
                  generalize P r = p at *
                  go_wp2
                  go_roundw
                  case rel => exact ⟨r + 1, at_, by omega, by go_num, by rw [HKN2.out], rfl, by rw [HKN2.out]; exact HAN2.out, by rw [HKN2.out]; exact HO.out, hbx⟩
                  case measure => simp [intOf]; omega
            · obtain rfl : r = j := by omega
              go_wp2
              go_ret
              rw [HLE.out, HMM.out]
              exact ⟨_, rfl, own_mono HO.out (by omega), HB3.out.trans (hbx.mono (by have := HB3.out.size; omega))⟩
end Go.Proofs.Ytlbomopjldhmeaa

namespace Go.Proofs.Ytlbomopjldhmeaa
set_option linter.unusedSimpArgs false
set_option linter.unusedVariables false
/-- As bst, from what is there on. -/
def bsg (P L : Nat → Int) (i : Nat) : Nat → Int
  | 0 => L i
  | d + 1 => if P i < P (i + 1 + d) then max (bsg P L i d) (L (i + 1 + d)) else bsg P L i d
def gst (P : Nat → Int) (n : Nat) (f : Nat → Int) (k : Nat) : Nat → Int := upd f (n - 1 - k) (bsg P f (n - 1 - k) k + 1)
def gal (P : Nat → Int) (n : Nat) (pre : List Nat) : Nat → Int := pre.foldl (gst P n) (fun _ => 0)
theorem gal_snoc (P : Nat → Int) (n : Nat) (pre : List Nat) (k : Nat) : gal P n (pre ++ [k]) = gst P n (gal P n pre) k := by simp [gal]
theorem bsg_bst (P L : Nat → Int) (i : Nat) (h : L i = 0) (d : Nat) : bsg P L i d = bst P L i d := by
  induction d with
  | zero => exact h
  | succ d ih => unfold bsg bst; rw [ih]
theorem bsg_bd (P L : Nat → Int) (i d : Nat) (b : Int) (h : ∀ j, 0 ≤ L j ∧ L j ≤ b) : 0 ≤ bsg P L i d ∧ bsg P L i d ≤ b := by
  induction d with
  | zero => exact h i
  | succ d ih => unfold bsg; have := h (i + 1 + d); split <;> omega
theorem gal_bd (P : Nat → Int) (n : Nat) (pre : List Nat) : ∀ j, 0 ≤ gal P n pre j ∧ gal P n pre j ≤ pre.length := by
  have key : ∀ (l : List Nat) (f : Nat → Int) (b : Nat), (∀ j, 0 ≤ f j ∧ f j ≤ b) → ∀ j, 0 ≤ l.foldl (gst P n) f j ∧ l.foldl (gst P n) f j ≤ ((b + l.length : Nat) : Int) := by
    intro l
    induction l with
    | nil => intro f b h j; simpa using h j
    | cons k l ih =>
      intro f b h j
      have hb := bsg_bd P f (n - 1 - k) k b h
      have := ih (gst P n f k) (b + 1) (fun j => by unfold gst upd; have := h j; split <;> omega) j
      rw [show b + (k :: l).length = b + 1 + l.length by simp; omega]
      exact this
  intro j
  have := key pre (fun _ => 0) 0 (fun j => ⟨Int.le_refl _, Int.le_refl _⟩) j
  simpa [gal] using this
theorem lrT_zero (P : Nat → Int) (n r j : Nat) (h : j + r < n) : lrT P n r j = 0 := by
  induction r with
  | zero => rfl
  | succ r ih =>
    show upd (lrT P n r) (n - 1 - r) (bst P (lrT P n r) (n - 1 - r) r + 1) j = 0
    unfold upd
    rw [if_neg (by omega)]
    exact ih (by omega)
theorem gal_range (P : Nat → Int) (n r : Nat) (h : r ≤ n) : gal P n (List.range r) = lrT P n r := by
  induction r with
  | zero => rfl
  | succ r ih =>
    rw [List.range_succ, gal_snoc, ih (by omega)]
    show upd (lrT P n r) (n - 1 - r) (bsg P (lrT P n r) (n - 1 - r) r + 1) = upd (lrT P n r) (n - 1 - r) (bst P (lrT P n r) (n - 1 - r) r + 1)
    rw [bsg_bst _ _ _ (lrT_zero P n r (n - 1 - r) (by omega))]
end Go.Proofs.Ytlbomopjldhmeaa

namespace Go.Proofs.Ytlbomopjldhmeaa
set_option linter.unusedSimpArgs false
set_option linter.unusedVariables false
/-- No operation is a defer statement. -/
def noDef (ops : Array Oper) : Bool := ops.all fun o => match o.op with | .defer _ => false | _ => true
theorem noDef_at {ops : Array Oper} (h : noDef ops = true) {i : Nat} {o : Oper} (hi : ops[i]? = some o) (c) : o.op ≠ .defer c := by
  unfold noDef at h
  rw [Array.all_eq_true] at h
  obtain ⟨hlt, rfl⟩ := Array.getElem?_eq_some_iff.1 hi
  intro e
  have := h i hlt
  rw [e] at this
  simp at this
section
variable {F : Fence} {n : Nat} {P : Program} {ops : Array Oper} {C : World → Prop}
theorem op_of_quiet {o : Oper} {a : Act} {K : Act → Prop} {K' : Act → World → Prop} {Q' : Exit → Act → World → Prop} {w : World} (hnd : ∀ c, o.op ≠ .defer c) (hw : C w) (hK : ∀ a w', C w' → K a → K' a w')
    (hask : o.askedIn F P a C) (hq : o.quietIn F n P a C K) : o.wpIn F n P a w K' Q' := by
  obtain ⟨v, hv, hk⟩ := hq
  have hat := hv w hw
  refine ⟨hask w hw, ?_⟩
  rw [Oper.semAt_eq _ _ _ hnd]
  unfold Oper.quietAtIn at hat
  revert hat
  cases (execOp a.eval o).run P w with
  | halt x w' => intro hat; exact hat.elim
  | ok x w' =>
    cases x with
    | value u => rintro ⟨rfl, rfl⟩; exact hK _ _ hw hk
    | skip => rintro ⟨rfl, rfl⟩; exact hK _ _ hw hk
    | enter f args =>
      rintro ⟨rfl, hd, hc⟩
      refine ⟨hd, hc.mono ?_⟩
      rintro e w'' ⟨rfl, hw''⟩
      exact hK _ _ hw'' hk
    | _ => intro hat; exact hat.elim
theorem any_of_quiet {md : Region.Mode} {Q : Act → Prop} {Q' : Exit → Act → World → Prop} (hnd : noDef ops = true) (hQ : ∀ a w, C w → Q a → Q' .normal a w) : ∀ (fuel : Nat) (listed : Array Bool) (a : Act) (w : World), C w →
    wpAnyQIn F n P md ops C Q fuel listed a → wpAnyIn F n P md ops Q' fuel listed a w := by
  intro fuel
  induction fuel with
  | zero => intro listed a w hw h; exact ⟨h.1, hQ _ _ hw h.2⟩
  | succ fuel ih =>
    intro listed a w hw h
    refine ⟨fun h0 => hQ _ _ hw (h.1 h0), fun i hi => ?_⟩
    have hq := h.2 i hi
    unfold qOpIn at hq
    unfold wpOpIn
    cases ho : ops[i]? with
    | none => simp only [ho] at hq; exact ih _ _ _ hw hq
    | some o =>
      simp only [ho] at hq
      obtain ⟨ha, hq⟩ := hq
      by_cases hwt : Region.wanted o (yielded ops a.tmps) = true
      · simp only [hwt, if_true] at hq ⊢
        exact op_of_quiet (noDef_at hnd ho) hw (fun a' w' hw' hk => ih _ a' w' hw' hk) ha hq
      · simp only [hwt] at hq ⊢
        exact ⟨ha w hw, ih _ _ _ hw hq⟩
theorem quiet_round {id : Nat} {Q : Exit → Act → World → Prop} {a : Act} {w : World} {l : List Oper} (hm : P.follows .mixedOrders = true) (hB : Region.lexB .any l.toArray = true) (hnd : noDef l.toArray = true)
    (h : wpQuietIn F n P l.toArray (fun w' => ∃ n, w' = w.drewN n) (fun a' => ∀ w', (∃ n, w' = w.drewN n) → Q .normal a' w') l a) : (Code.region id l.toArray true).wpIn F n P Q a w := by
  simp only [Region.lexB, Bool.and_eq_true] at hB
  refine wpIn_region_any hm (any_of_quiet (C := fun w' => ∃ n, w' = w.drewN n) (Q := fun a' => ∀ w', (∃ n, w' = w.drewN n) → Q .normal a' w') hnd (fun _ w' hw' h => h w' hw') _ _ _ _ ⟨1, rfl⟩ ?_)
  have := wpAnyQIn_lex (F := F) (n := n) (C := fun w' => ∃ n, w' = w.drewN n) (md := .any) hB.1 l 0 (Array.replicate l.toArray.size false) a (by simp) (by simpa using hB.2) h
  simpa using this
end
end Go.Proofs.Ytlbomopjldhmeaa

namespace Go.Proofs.Ytlbomopjldhmeaa
set_option linter.unusedSimpArgs false
set_option linter.unusedVariables false
/-- No guards, no defer, each operation waits for earlier ones alone, and the last one, in the end, for all. -/
def tailOK (md : Region.Mode) (l : List Oper) (o : Oper) : Bool :=
  (l ++ [o]).all (fun x => x.guard.isNone) && noDef (l ++ [o]).toArray &&
  (List.range l.length).all (fun j => match l[j]? with | some x => x.after.all (fun e => decide (e.on < j)) | none => true) &&
  o.after.all (fun e => decide (e.on < l.length)) &&
  (List.range l.length).all (fun j => (List.range (l.length + 1)).any fun k => decide (j < k) && match (l ++ [o])[k]? with | some x => x.after.any (fun e => Region.binds md e && e.on == j) | none => false)
section
variable {F : Fence} {n : Nat} {P : Program} {md : Region.Mode} {l : List Oper} {o : Oper} {C : World → Prop}
theorem getD_push (listed : Array Bool) (i : Nat) (d : Bool) (h : i < listed.size) : (listed.push false).getD i d = listed.getD i d := by
  simp [Array.getD_eq_getD_getElem?, Array.getElem?_push, show ¬ i = listed.size by omega]
theorem getD_push_last (listed : Array Bool) (d : Bool) : (listed.push false).getD listed.size d = false := by
  simp [Array.getD_eq_getD_getElem?]
theorem set_push (listed : Array Bool) (i : Nat) (h : i < listed.size) : (listed.push false).setIfInBounds i true = (listed.setIfInBounds i true).push false := by
  apply Array.ext_getElem?
  intro j
  simp only [Array.getElem?_setIfInBounds, Array.getElem?_push, Array.size_push, Array.size_setIfInBounds]
  by_cases h1 : i = j
  · subst h1; simp [h, show ¬ i = listed.size by omega, show i < listed.size + 1 by omega]
  · simp [h1]
/-- What an operation waits for is listed once it is. -/
def Closed (md : Region.Mode) (l : List Oper) (listed : Array Bool) : Prop := ∀ j x, l[j]? = some x → listed.getD j false = true → ∀ e ∈ x.after, Region.binds md e = true → listed.getD e.on false = true
theorem tail_parts (h : tailOK md l o = true) : (∀ (k : Nat) (x : Oper), (l ++ [o])[k]? = some x → x.guard = none) ∧ noDef (l ++ [o]).toArray = true ∧ (∀ (j : Nat) (x : Oper), l[j]? = some x → ∀ e ∈ x.after, e.on < j) ∧ (∀ e ∈ o.after, e.on < l.length) ∧
    (∀ j, j < l.length → ∃ (k : Nat) (x : Oper), j < k ∧ k < l.length + 1 ∧ (l ++ [o])[k]? = some x ∧ ∃ e ∈ x.after, Region.binds md e = true ∧ e.on = j) := by
  unfold tailOK at h
  simp only [Bool.and_eq_true] at h
  obtain ⟨⟨⟨⟨h1, h2⟩, h3⟩, h4⟩, h5⟩ := h
  refine ⟨?_, h2, ?_, ?_, ?_⟩
  · intro k x hk
    have := (List.all_eq_true.1 h1) x (List.mem_of_getElem? hk)
    simpa using this
  · intro j x hj e he
    have hl : j < l.length := (List.getElem?_eq_some_iff.1 hj).1
    have := (List.all_eq_true.1 h3) j (by simpa using hl)
    simp only [hj] at this
    have := (Array.all_eq_true_iff_forall_mem.1 this) e he
    simpa using this
  · intro e he
    have := (Array.all_eq_true_iff_forall_mem.1 h4) e he
    simpa using this
  · intro j hj
    have := (List.all_eq_true.1 h5) j (by simpa using hj)
    obtain ⟨k, hk, hb⟩ := List.any_eq_true.1 this
    simp only [Bool.and_eq_true, decide_eq_true_eq] at hb
    cases hx : (l ++ [o])[k]? with
    | none => rw [hx] at hb; exact absurd hb.2 (by simp)
    | some x =>
      rw [hx] at hb
      obtain ⟨i, hi, hb2⟩ := Array.any_eq_true.1 hb.2
      have he : x.after[i] ∈ x.after := Array.getElem_mem hi
      generalize x.after[i] = e at *
      simp only [Bool.and_eq_true, beq_iff_eq] at hb2
      exact ⟨k, x, hb.1, by simpa using hk, hx, e, he, hb2.1, hb2.2⟩
theorem all_listed (h : tailOK md l o = true) {listed : Array Bool} (hc : Closed md l listed) (ho : ∀ e ∈ o.after, Region.binds md e = true → listed.getD e.on false = true) : ∀ j, j < l.length → listed.getD j false = true := by
  obtain ⟨_, _, _, _, h5⟩ := tail_parts h
  have key : ∀ d j, l.length - j ≤ d → j < l.length → listed.getD j false = true := by
    intro d
    induction d with
    | zero => intro j h1 h2; omega
    | succ d ih =>
      intro j h1 h2
      obtain ⟨k, x, hjk, hkl, hx, e, he, hb, rfl⟩ := h5 j h2
      rcases Nat.lt_or_ge k l.length with hk | hk
      · have hx' : l[k]? = some x := by rw [← hx, List.getElem?_append_left hk]
        exact hc k x hx' (ih k (by omega) hk) e he hb
      · have hkm : k = l.length := by omega
        subst hkm
        simp at hx
        subst hx
        exact ho e he hb
  exact fun j hj => key _ j (Nat.le_refl _) hj
theorem ready_nil (h : tailOK md l o = true) {listed : Array Bool} (hs : listed.size = l.length) (hr : Region.ready md l.toArray listed = []) : ∀ j, j < l.length → listed.getD j false = true := by
  obtain ⟨_, _, h3, _, _⟩ := tail_parts h
  intro j
  induction j using Nat.strongRecOn with
  | ind j ih =>
    intro hj
    cases hl : listed.getD j false with
    | true => rfl
    | false =>
      have hx : l.toArray[j]? = some l[j] := by simp [hj]
      have : j ∈ Region.ready md l.toArray listed := by
        rw [mem_ready]
        refine ⟨?_, l[j], hx, fun e he _ => ih e.on (h3 j l[j] (by simp [hj]) e he) (by have := h3 j l[j] (by simp [hj]) e he; omega)⟩
        have hjs : j < listed.size := by omega
        simpa [Array.getD, hjs] using hl
      rw [hr] at this
      cases this
theorem wanted_none {x : Oper} (h : x.guard = none) (f : Nat → Option Bool) : Region.wanted x f = true := by
  unfold Region.wanted; rw [h]
theorem any_of_tail {Q : Exit → Act → World → Prop} {Qf : Act → Prop} (hk : tailOK md l o = true) (hQ : ∀ a w, C w → Qf a → o.wpIn F n P a w (fun a w => Q .normal a w) Q) : ∀ (fuel : Nat) (listed : Array Bool) (a : Act) (w : World), C w → listed.size = l.length → Closed md l listed →
    wpAnyQIn F n P md l.toArray C Qf fuel listed a → wpAnyIn F n P md (l ++ [o]).toArray Q (fuel + 1) (listed.push false) a w := by
  obtain ⟨h1, h2, h3, h4, h5⟩ := tail_parts hk
  -- the last one comes when all are listed
  have hlast : ∀ (fuel : Nat) (listed : Array Bool) (a : Act) (w : World), C w → listed.size = l.length → (∀ j, j < l.length → listed.getD j false = true) → Qf a →
      wpOpIn F n P (l ++ [o]).toArray Q l.length (wpAnyIn F n P md (l ++ [o]).toArray Q fuel ((listed.push false).setIfInBounds l.length true)) a w := by
    intro fuel listed a w hw hs hall hq
    have ho : (l ++ [o]).toArray[l.length]? = some o := by simp
    unfold wpOpIn
    simp only [ho, wanted_none (h1 l.length o (by simp)), if_true]
    refine Oper.wpIn_mono (fun a' w' h => ?_) (hQ a w hw hq)
    refine wpAnyIn_done ?_ h fuel
    rw [List.eq_nil_iff_forall_not_mem]
    intro i hi
    obtain ⟨hu, x, hx, _⟩ := mem_ready.1 hi
    have hil : i < l.length + 1 := by have := (Array.getElem?_eq_some_iff.1 hx).1; simpa using this
    rcases Nat.lt_or_ge i l.length with hlt | hge
    · have := hall i hlt
      have his : i < listed.size := by omega
      have e : ((listed.push false).setIfInBounds l.length true).getD i true = listed.getD i false := by
        simp [Array.getD_eq_getD_getElem?, Array.getElem?_setIfInBounds, Array.getElem?_push, show ¬ l.length = i by omega, show ¬ i = listed.size by omega, his]
      rw [e, this] at hu
      cases hu
    · have : i = l.length := by omega
      subst this
      rw [← hs] at hu
      simp [Array.getD_eq_getD_getElem?] at hu
  have hready : ∀ (listed : Array Bool) (i : Nat), listed.size = l.length → Closed md l listed → i ∈ Region.ready md (l ++ [o]).toArray (listed.push false) → (i < l.length ∧ i ∈ Region.ready md l.toArray listed) ∨ (i = l.length ∧ ∀ j, j < l.length → listed.getD j false = true) := by
    intro listed i hs hc hi
    obtain ⟨hu, x, hx, hall⟩ := mem_ready.1 hi
    have hil : i < l.length + 1 := by have := (Array.getElem?_eq_some_iff.1 hx).1; simpa using this
    rcases Nat.lt_or_ge i l.length with hlt | hge
    · refine .inl ⟨hlt, mem_ready.2 ⟨?_, x, ?_, fun e he hb => ?_⟩⟩
      · rwa [getD_push _ _ _ (by omega)] at hu
      · rw [← hx]; simp [List.getElem?_append_left hlt]
      · have hxl : l[i]? = some x := by have := hx; simpa [List.getElem?_append_left hlt] using this
        have := hall e he hb
        rwa [getD_push _ _ _ (by have := h3 i x hxl e he; omega)] at this
    · have : i = l.length := by omega
      subst this
      have hxo : x = o := by simpa using hx.symm
      subst hxo
      refine .inr ⟨rfl, all_listed hk hc fun e he hb => ?_⟩
      have := hall e he hb
      rwa [getD_push _ _ _ (by have := h4 e he; omega)] at this
  have hne : ∀ (listed : Array Bool), listed.size = l.length → Region.ready md (l ++ [o]).toArray (listed.push false) = [] → False := by
    intro listed hs hr
    -- the least that is not listed is ready
    have key : ∀ j, j < l.length → listed.getD j false = true := by
      refine ready_nil hk hs ?_
      rw [List.eq_nil_iff_forall_not_mem]
      intro i hi
      obtain ⟨hu, x, hx, hall⟩ := mem_ready.1 hi
      have hlt : i < l.length := by have := (Array.getElem?_eq_some_iff.1 hx).1; simpa using this
      have hxl : l[i]? = some x := by simpa using hx
      have : i ∈ Region.ready md (l ++ [o]).toArray (listed.push false) := by
        refine mem_ready.2 ⟨by rw [getD_push _ _ _ (by omega)]; exact hu, x, by simp [List.getElem?_append_left hlt, hxl], fun e he hb => ?_⟩
        rw [getD_push _ _ _ (by have := h3 i x hxl e he; omega)]
        exact hall e he hb
      rw [hr] at this
      cases this
    have : l.length ∈ Region.ready md (l ++ [o]).toArray (listed.push false) := by
      refine mem_ready.2 ⟨by rw [← hs]; exact getD_push_last _ _, o, by simp, fun e he hb => ?_⟩
      rw [getD_push _ _ _ (by have := h4 e he; omega)]
      exact key _ (h4 e he)
    rw [hr] at this
    cases this
  have hnilQ : ∀ (listed : Array Bool), (∀ j, j < l.length → listed.getD j false = true) → listed.size = l.length → Region.ready md l.toArray listed = [] := by
    intro listed hall hs
    rw [List.eq_nil_iff_forall_not_mem]
    intro i hi
    obtain ⟨hu, x, hx, _⟩ := mem_ready.1 hi
    have hlt : i < l.length := by have := (Array.getElem?_eq_some_iff.1 hx).1; simpa using this
    have h1 := hall i hlt
    have his : i < listed.size := by omega
    simp [Array.getD, his] at hu h1
    rw [h1] at hu
    cases hu
  intro fuel
  induction fuel with
  | zero =>
    intro listed a w hw hs hc h
    refine ⟨fun h0 => (hne listed hs h0).elim, fun i hi => ?_⟩
    rcases hready listed i hs hc hi with ⟨_, hr⟩ | ⟨rfl, hall⟩
    · rw [h.1] at hr; cases hr
    · exact hlast 0 listed a w hw hs hall h.2
  | succ fuel ih =>
    intro listed a w hw hs hc h
    refine ⟨fun h0 => (hne listed hs h0).elim, fun i hi => ?_⟩
    rcases hready listed i hs hc hi with ⟨hlt, hr⟩ | ⟨rfl, hall⟩
    · have hq := h.2 i hr
      obtain ⟨_, x, hx, hxall⟩ := mem_ready.1 hr
      have hxl : l[i]? = some x := by simpa using hx
      have hxo : (l ++ [o]).toArray[i]? = some x := by simp [List.getElem?_append_left hlt, hxl]
      have hc' : Closed md l (listed.setIfInBounds i true) := by
        intro j y hy hj e he hb
        by_cases hij : i = j
        · subst hij
          rw [hxl] at hy
          cases hy
          exact getD_set_true (hxall e he hb)
        · rw [getD_set_ne false hij] at hj
          exact getD_set_true (hc j y hy hj e he hb)
      unfold qOpIn at hq
      simp only [hx, wanted_none (h1 i x (by simpa using hxo)), if_true] at hq
      unfold wpOpIn
      simp only [hxo, wanted_none (h1 i x (by simpa using hxo)), if_true]
      rw [set_push _ _ (by omega)]
      exact op_of_quiet (noDef_at h2 hxo) hw (fun a' w' hw' hk' => ih _ a' w' hw' (by simpa using hs) hc' hk') hq.1 hq.2
    · exact hlast (fuel + 1) listed a w hw hs hall (h.1 (hnilQ listed hall hs))
theorem quiet_tail {id : Nat} {Q : Exit → Act → World → Prop} {a : Act} {w : World} {L : List Oper} (hL : L = l ++ [o]) (hm : P.follows .mixedOrders = true) (hB : Region.lexB .any l.toArray = true) (hk : tailOK .any l o = true)
    (h : wpQuietIn F n P l.toArray (fun w' => ∃ n, w' = w.drewN n) (fun a' => ∀ w', (∃ n, w' = w.drewN n) → o.wpIn F n P a' w' (fun a w => Q .normal a w) Q) l a) : (Code.region id L.toArray true).wpIn F n P Q a w := by
  subst hL
  simp only [Region.lexB, Bool.and_eq_true] at hB
  have hq := wpAnyQIn_lex (F := F) (n := n) (C := fun w' => ∃ n, w' = w.drewN n) (md := .any) hB.1 l 0 (Array.replicate l.toArray.size false) a (by simp) (by simpa using hB.2) h
  have := any_of_tail (F := F) (n := n) (P := P) (C := fun w' => ∃ n, w' = w.drewN n) (Q := Q) (Qf := fun a' => ∀ w', (∃ n, w' = w.drewN n) → o.wpIn F n P a' w' (fun a w => Q .normal a w) Q) hk (fun a w' hw' hq => hq w' hw') l.length (Array.replicate l.toArray.size false) a { w with drawn := w.drawn + 1 } ⟨1, rfl⟩ (by simp)
    (by intro j x hj hl; simp [Array.getD_eq_getD_getElem?, Array.getElem?_replicate] at hl; split at hl <;> simp_all) hq
  refine wpIn_region_any hm ?_
  have e1 : (l ++ [o]).toArray.size = l.length + 1 := by simp
  have e2 : Array.replicate (l.length + 1) false = (Array.replicate l.toArray.size false).push false := by
    simp [Array.replicate_succ]
  rw [e1, e2]
  exact this
end
end Go.Proofs.Ytlbomopjldhmeaa

namespace Go.Proofs.Ytlbomopjldhmeaa
set_option linter.unusedSimpArgs false
set_option linter.unusedVariables false
open Go.RowKit Go.Shelf
attribute [local go_sem] Oper.semAt_some
theorem Rf.kept {base g n : Nat} {f : Nat → Int} {W W' : World} {row : Option Nat} (h : Rf base g n f W) (hg : W.grownBy W' row) (hr : ∀ r, row = some r → ∃ o : Obj, W.heap[r]? = some o ∧ o.isCells = false) : Rf base g n f W' := by
  refine World.ownsRow.kept h hg (.inr fun e => ?_)
  obtain ⟨o, ho, hc⟩ := hr g (by simpa [Value.ownBlock] using e.symm)
  rcases h.2 with ⟨h0, _⟩ | ⟨g', cap, cur, hv, _, hgb, _⟩
  · simp at h0
  · simp only [Value.slice.injEq, Option.some.injEq, Addr.mk.injEq, and_true, true_and] at hv
    obtain ⟨rfl, _⟩ := hv
    rw [hgb] at ho; cases ho; cases hc
/-- What the loop of risingLengths keeps. -/
structure RL (W0 : World) (b b1 g b4 : Nat) (A : Option Addr) (n c : Nat) (gb : Nat) (f : Nat → Int) (W : World) : Prop where
  c0 : W.cell? ⟨b, 0, none⟩ = some (.slice A n c)
  c1 : W.cell? ⟨b1, 0, none⟩ = some (.func (.func 70) #[] #[.pointer (some ⟨gb, 0, none⟩)])
  c4 : W.cell? ⟨b4, 0, none⟩ = some (.slice (some ⟨g, 0, none⟩) n n)
  row : Rf g g n f W
  bel : Below b W0 W
theorem RL.drewN {W0 : World} {b b1 g b4 : Nat} {A : Option Addr} {n c gb : Nat} {f : Nat → Int} {W : World} (h : RL W0 b b1 g b4 A n c gb f W) (k : Nat) : RL W0 b b1 g b4 A n c gb f (W.drewN k) := ⟨h.c0, h.c1, h.c4, h.row, drewN_b h.bel⟩
theorem RL.set {W0 : World} {b b1 g b4 : Nat} {A : Option Addr} {n c gb : Nat} {f : Nat → Int} {W : World} (h : RL W0 b b1 g b4 A n c gb f W) (hb : b < g) (h1 : b1 ≠ g) (h4 : b4 ≠ g) (j : Nat) (hj : j < n) (x : Int) : RL W0 b b1 g b4 A n c gb (upd f j x) (W.setCell ⟨g, j, none⟩ (.int .i64 x)) :=
  ⟨(World.cell?_setCell_other _ _ _ _ (by intro e; cases e; omega)).trans h.c0, (World.cell?_setCell_other _ _ _ _ (by intro e; cases e; exact h1 rfl)).trans h.c1, (World.cell?_setCell_other _ _ _ _ (by intro e; cases e; exact h4 rfl)).trans h.c4, h.row.set j hj x, h.bel.setCell (p := ⟨g, j, none⟩) (Nat.le_of_lt hb) _⟩
theorem RL.congr {W0 : World} {b b1 g b4 : Nat} {A : Option Addr} {n c gb : Nat} {f f' : Nat → Int} {W : World} (h : RL W0 b b1 g b4 A n c gb f W) (e : ∀ j, j < n → f j = f' j) : RL W0 b b1 g b4 A n c gb f' W := ⟨h.c0, h.c1, h.c4, h.row.congr e, h.bel⟩
theorem KB.set {n₀ Bs : Nat} {v : Value} {W : World} {p : Addr} (h1 : n₀ ≤ p.block) (h2 : Bs ≠ p.block) (x : Value) : KB n₀ Bs v W (W.setCell p x) :=
  ⟨(Below.refl _ _).setCell h1 _, fun h => (World.cell?_setCell_other _ _ _ _ (by intro e; exact h2 (by rw [e]))).trans h⟩
theorem KB.drewN (n₀ Bs : Nat) (v : Value) (W : World) (k : Nat) : KB n₀ Bs v W (W.drewN k) := ⟨drewN_b (Below.refl _ _), fun h => h⟩
theorem keepsDrewN (B : Nat) (W : World) (k : Nat) : KeepsFrom B W (W.drewN k) := (⟨Nat.le_refl _, fun _ _ h _ => h⟩ : KeepsOthers W (W.drewN k)).from B
set_option maxRecDepth 100000 in
set_option maxHeartbeats 3200000 in
theorem impl_risingLengths (gb : Nat) (Pl : Int → Int) (A : Option Addr) (n c : Nat) (xs : List Int) (w : World) (hs : n ≤ 2000000) (hn : n = xs.length) (h : IS w w.heap.size A xs)
    (hP : ∀ (q : Int) (W : World), Below w.heap.size w W → Calls Try.prog 70 #[.int .i64 q, .pointer (some ⟨gb, 0, none⟩)] W fun e w' => e = .returned (.int .i64 (Pl q)) ∧ w' = W) :
    Calls Try.prog 79 #[.slice A n c, .func (.func 70) #[] #[.pointer (some ⟨gb, 0, none⟩)]] w fun e w' => ∃ g, w.heap.size ≤ g ∧ e = .returned (.slice (some ⟨g, 0, none⟩) n n) ∧ Rf g g n (lrA (fun j => Pl (xs.getD j 0)) n) w' ∧ Below w.heap.size w w' := by
  obtain ⟨i0, hi, hz0, hz1, hz2⟩ := info_parts info_int
  obtain ⟨w0, hw0⟩ : ∃ w0, w0 = (w.alloc (.cells #[.slice A n c] 22)).alloc (.cells #[.func (.func 70) #[] #[.pointer (some ⟨gb, 0, none⟩)]] 66) := ⟨_, rfl⟩
  obtain ⟨w1, hmk, hown1, hgr1⟩ := run_make_full (P := Try.prog) w0 w0.heap.size 22 3 i0 _ 1 Try.underlying22 hi hz0 hz1 .i64 .i64 n (by rw [hz2]; omega) (by unfold maxLen; omega) (Nat.le_refl _)
  rw [vl_zero] at hown1
  have hz : w0.heap.size = w.heap.size + 2 := by rw [hw0]; simp
  have H := Lib.hid h
  have HN := Lib.hid hn
  have HP := Lib.hid hP
  clear h hn hP
  refine (callsIn_wide (n := 5)).1 ?_
  refine callsIn_of_wp_marks Try.func79 rfl trivial ?_ rfl
  simp only [Try.ntmps79, List.size_toArray, List.length_cons, List.length_nil, Nat.reduceAdd, Nat.reduceSub, Array.replicate_succ, Array.replicate_zero, List.push_toArray, List.append_toArray, List.nil_append, List.cons_append]
  have hb1 : Below w0.heap.size w0 w1 := ⟨hgr1.os, hgr1.tape, hgr1.output, hgr1.size, fun k hk => hgr1.block k hk (by simp)⟩
  have hlt1 : w0.heap.size < w1.heap.size := (World.ownsRow.lt hown1 _ rfl).2
  have q0 : w1.cell? ⟨w.heap.size, 0, none⟩ = some (.slice A n c) := (hb1.cell (p := ⟨w.heap.size, 0, none⟩) (by simp; omega)).trans (by rw [hw0]; go_simp)
  have q1 : w1.cell? ⟨w.heap.size + 1, 0, none⟩ = some (.func (.func 70) #[] #[.pointer (some ⟨gb, 0, none⟩)]) := (hb1.cell (p := ⟨w.heap.size + 1, 0, none⟩) (by simp; omega)).trans (by rw [hw0]; go_simp)
  have HB1 : Hid (Below w.heap.size w w1) := by
    have h1 : Below w.heap.size w w0 := by rw [hw0]; exact ((Below.refl _ _).alloc (Nat.le_refl _) _).alloc (by simp) _
    exact h1.trans (hb1.mono (by omega))
  have HR1 : Hid (Rf (w.heap.size + 1 + 1) (w.heap.size + 1 + 1) n (fun _ => 0) w1) := by rw [show w.heap.size + 1 + 1 = w0.heap.size by omega]; exact hown1
  rw [hw0] at hmk
  have hl1 : w.heap.size + 2 < w1.heap.size := by omega
  have hl01 : w.heap.size + 1 < w1.heap.size := by omega
  have hl00 : w.heap.size < w1.heap.size := by omega
  clear hown1 hgr1 hb1 hlt1 hz hw0
  gi_wp2_with (refine ⟨trivial, ?_⟩; gi_at_call 45; refine (callsIn_wide.2 (backward_at A n c _)).mono ?_; rintro e w' ⟨rfl, rfl⟩)
  obtain ⟨P, hP⟩ : ∃ P : Nat → Int, P = fun j => Pl (xs.getD j 0) := ⟨_, rfl⟩
  have HPP : Hid (∀ j, P j = Pl (xs.getD j 0)) := by rw [hP]; exact fun j => rfl
  clear hP
  have HRL : Hid (RL w w.heap.size (w.heap.size + 1) (w.heap.size + 1 + 1) w1.heap.size A n c gb (fun _ => 0) ((w1.alloc (.cells #[.slice (some ⟨w.heap.size + 1 + 1, 0, none⟩) n n] 22)).alloc (.cells #[.slice A n c] 22))) := by
    refine ⟨?_, ?_, by go_simp, ?_, (HB1.out.alloc (by omega) _).alloc (by simp; omega) _⟩
    · exact (World.cell?_alloc_lt _ _ ⟨w.heap.size, 0, none⟩ (by simp; omega)).trans ((World.cell?_alloc_lt _ _ ⟨w.heap.size, 0, none⟩ (by show w.heap.size < w1.heap.size; omega)).trans q0)
    · exact (World.cell?_alloc_lt _ _ ⟨w.heap.size + 1, 0, none⟩ (by simp; omega)).trans ((World.cell?_alloc_lt _ _ ⟨w.heap.size + 1, 0, none⟩ (by show w.heap.size + 1 < w1.heap.size; omega)).trans q1)
    · exact (HR1.out.below ((Below.refl _ _).alloc (Nat.le_refl _) _)).below ((Below.refl _ _).alloc (Nat.le_refl _) _)
  have hbs : ((w1.alloc (.cells #[.slice (some ⟨w.heap.size + 1 + 1, 0, none⟩) n n] 22)).alloc (.cells #[.slice A n c] 22)).cell? ⟨w1.heap.size + 1, 0, none⟩ = some (.slice A n c) := by go_simp
  have hsz2 : ((w1.alloc (.cells #[.slice (some ⟨w.heap.size + 1 + 1, 0, none⟩) n n] 22)).alloc (.cells #[.slice A n c] 22)).heap.size = w1.heap.size + 2 := by simp
  generalize (w1.alloc (.cells #[.slice (some ⟨w.heap.size + 1 + 1, 0, none⟩) n n] 22)).alloc (.cells #[.slice A n c] 22) = w2 at *
  have hIS2 : IS w2 w.heap.size A xs := H.out.below HRL.out.bel (Nat.le_refl _)
  have hsw : w.heap.size ≤ w2.heap.size := by omega
  have HS2 := Lib.hid hsz2
  clear q0 q1 HR1 HB1 hmk hi hz0 hz1 hz2
  refine wpIn_rangeFunc_ownG rfl (by omega) (gf := 65) (lb := #[.pointer (some ⟨w1.heap.size + 1, 0, none⟩)]) rfl trivial (enters_of Try.func65 (by kernel_rfl) rfl)
    (back_stops Fence.wide _ trivial rfl (by omega) (w1.heap.size + 1) w.heap.size A n c xs HN.out hs w2 (by omega) hsw hbs hIS2) KB.tr (KB.put hsw) (Below.refl _ _) (fun _ => rfl)
    (fun pre W => RL w w.heap.size (w.heap.size + 1) (w.heap.size + 1 + 1) w1.heap.size A n c gb (gal P n (pre.map Subtype.val)) W)
    (fun _ _ _ => False)
    (fun s X Y row hs hg hr => ⟨cell_kept hs.c0 hg fun r e => (hr r e).2, cell_kept hs.c1 hg fun r e => (hr r e).2, cell_kept hs.c4 hg fun r e => (hr r e).2, hs.row.kept hg fun r e => (hr r e).2, hs.bel.grown hg hs.bel.size fun k e => Nat.le_trans hsw (hr k e).1⟩)
    (fun _ _ _ _ _ hs _ _ => hs)
    HRL.out
    (fun x => { tmps := #[.slice A n c, .func (.func 70) #[] #[.pointer (some ⟨gb, 0, none⟩)], .pointer (some ⟨w.heap.size, 0, none⟩), .pointer (some ⟨w.heap.size + 1, 0, none⟩), .slice none 0 0, .pointer (some ⟨w1.heap.size, 0, none⟩), .int .i64 ((n - 1 - x.1 : Nat) : Int), .int .i64 (xs[n - 1 - x.1]?.getD 0), undef, .slice A n c, .int .i64 n, .slice (some ⟨w.heap.size + 1 + 1, 0, none⟩) n n, .slice A n c, .func (.func 65) #[] #[.pointer (some ⟨w1.heap.size + 1, 0, none⟩)], .int .i64 ((n - 1 - x.1 : Nat) : Int), .int .i64 (xs[n - 1 - x.1]?.getD 0), undef, undef, undef, undef, undef, undef, undef, undef, undef, undef, undef, undef, undef, undef, undef, undef, undef, undef, undef, undef, undef, undef, undef, undef, undef, undef, undef, undef, undef, undef, undef, undef, undef, undef, undef, undef, undef], defers := [] }) ?assign ?body ?done ?stop
  case assign =>
    intro l x W K hK
    gi_wp2
    exact hK
  case body =>
    rintro l pre x W hR hlen
    have hfw : Fence.wide.fn 70 := trivial
    have hmx : Try.prog.follows .mixedOrders = true := by kernel_rfl
    obtain ⟨k, hk⟩ := x
    dsimp only
    have hgb := gal_bd P n (pre.map Subtype.val)
    have hgs : gal P n ((pre ++ [(⟨k, hk⟩ : Below' n)]).map Subtype.val) = gst P n (gal P n (pre.map Subtype.val)) k := by rw [List.map_append]; exact gal_snoc _ _ _ _
    have HGS := Lib.hid hgs
    have HRR := Lib.hid hR
    have hpl : (pre.map Subtype.val).length < n := by simpa using hlen
    generalize (pre.map Subtype.val).length = pl at *
    generalize gal P n (pre.map Subtype.val) = f at *
    obtain ⟨i, hi⟩ : ∃ i : Nat, i = n - 1 - k := ⟨_, rfl⟩
    have hgst : gst P n f k = upd f i (bsg P f i (n - 1 - i) + 1) := by unfold gst; rw [← hi, show n - 1 - i = k by omega]
    have HGT := Lib.hid hgst
    have hin : i < n := by omega
    rw [← hi]
    have c0 := hR.c0
    have c1 := hR.c1
    have c4 := hR.c4
    have HGB := Lib.hid hgb
    have hxi : xs[i]?.getD 0 = xs.getD i 0 := rfl
    have hpi : P i = Pl (xs[i]?.getD 0) := HPP.out i
    have HPI := Lib.hid hpi
    generalize xs[i]?.getD 0 = x at *
    clear hgs hgst hgb hi hxi hpi hlen hR
    gi_wp2
    gi_loopw [8] (fun q wr => ∃ d : Nat, i + 1 + d ≤ n ∧ q = .int .i64 ((i + 1 + d : Nat) : Int) ∧ Hid (RL w w.heap.size (w.heap.size + 1) (w.heap.size + 1 + 1) w1.heap.size A n c gb (upd f i (bsg P f i d)) wr) ∧ Hid (KeepsFrom w2.heap.size W wr) ∧ Hid (KB w.heap.size (w1.heap.size + 1) (.slice A n c) W wr)) (fun q _ => n - (intOf q).toNat)
    case atStart =>
      refine ⟨0, by omega, by simp, ?_, KeepsFrom.refl _ _, KB.refl _ _ _ _⟩
      have : upd f i (bsg P f i 0) = f := by funext j; unfold upd bsg; split <;> simp_all
      rw [this]; exact HRR.out
    case round =>
      obtain ⟨d, hd, rfl, HX, HKF, HKB⟩ := hrel
      have d0 := HX.out.c0
      have d1 := HX.out.c1
      have d4 := HX.out.c4
      by_cases hdn : i + 1 + d < n
      · obtain ⟨j, hj⟩ : ∃ j : Nat, j = i + 1 + d := ⟨_, rfl⟩
        have hij : i < j := by omega
        have hjn : j < n := by omega
        have hji : (j : Int) < (n : Int) := by omega
        obtain ⟨b, off, rfl, hbB, hc⟩ := H.out (by have := HN.out; omega)
        have xj := (HX.out.bel.cell (p := ⟨b, off + j, none⟩) hbB).trans (hc j (by have := HN.out; omega))
        have hpj := HPP.out j
        have l1 := HX.out.row.cell i hin
        have l2 := HX.out.row.cell j hjn
        have lf := HX.out.row.free i
        rw [upd_at] at l1
        rw [upd_ne _ _ _ _ (by omega)] at l2
        have hb1 := bsg_bd P f i d pl HGB.out
        have hb3 := HGB.out j
        have HST : Hid (bsg P f i (d + 1) = if P i < P j then max (bsg P f i d) (f j) else bsg P f i d) := by rw [hj]; rfl
        have HPX := Lib.hid fun (q : Int) (m : Nat) => HP.out q (wr.drewN m) (drewN_b HX.out.bel)
        rw [← hj]
        have HJ := Lib.hid hj
        generalize xs.getD j 0 = y at *
        have hpi := HPI.out
        generalize P i = p at *
        generalize P j = r at *
        generalize bsg P f i d = z at *
        generalize f j = u at *
        clear hj hdn hd hc c0 c1 c4
        by_cases hp : p < r
        · have HS2 := Lib.hid (HST.out.trans (if_pos hp))
          have hbel := HX.out.bel
          have HPI2 := Lib.hid hpi
          have HPJ2 := Lib.hid hpj
          rw [hpi, hpj] at hp
          clear hpi hpj HST
          gi_wp2
          refine quiet_round hmx (by kernel_rfl) (by kernel_rfl) ?_
          iterate 10 (gi_big_quiet_step ((gi_at_call 70; refine CallsIn.quiet_of_same (CallsIn.inRound l (callsIn_wide.2 (HPX.out _ _))))))
          refine wpQuietIn_nil ?_
          rintro _ ⟨nq, rfl⟩
          gi_wp2
          refine quiet_tail (l := [_, _, _, _, _, _, _, _, _, _, _, _]) rfl hmx (by kernel_rfl) (by kernel_rfl) ?_
          repeat (gi_big_quiet_step (fail))
          refine wpQuietIn_nil ?_
          rintro _ ⟨nq2, rfl⟩
          go_simp
          gi_wp2
          go_roundw
          case rel =>
            have hmx2 : (if z < u then u else z) = max z u := by split <;> omega
            have hs1 := (HX.out.drewN (nq + nq2)).set (by omega) (by omega) (by omega) i hin (if z < u then u else z)
            refine ⟨d + 1, by have := HJ.out; omega, by have := HJ.out; go_num, ?_, (HKF.out.trans (keepsDrewN _ _ (nq + nq2))).trans ((KeepsOthers.setCell _ _ _).from _), (HKB.out.tr (KB.drewN _ _ _ _ (nq + nq2))).tr (KB.set (p := ⟨w.heap.size + 1 + 1, i, none⟩) (by show w.heap.size ≤ w.heap.size + 1 + 1; omega) (by show w1.heap.size + 1 ≠ w.heap.size + 1 + 1; omega) _)⟩
            rw [upd_upd, hmx2] at hs1
            rw [hmx2]
            exact hs1.congr fun j _ => by rw [HS2.out]
          case measure => simp [intOf]; omega
        · have HS2 := Lib.hid (HST.out.trans (if_neg hp))
          have hbel := HX.out.bel
          rw [hpi, hpj] at hp
          clear hpi hpj HST
          gi_wp2
          refine quiet_round hmx (by kernel_rfl) (by kernel_rfl) ?_
          repeat (gi_big_quiet_step ((gi_at_call 70; refine CallsIn.quiet_of_same (CallsIn.inRound l (callsIn_wide.2 (HPX.out _ _))))))
          refine wpQuietIn_nil ?_
          rintro _ ⟨nq, rfl⟩
          gi_wp2
          go_roundw
          case rel => exact ⟨d + 1, by have := HJ.out; omega, by have := HJ.out; go_num, (HX.out.drewN nq).congr fun j _ => by rw [HS2.out], HKF.out.trans (keepsDrewN _ _ nq), HKB.out.tr (KB.drewN _ _ _ _ nq)⟩
          case measure => simp [intOf]; omega
      · have hdn2 : i + 1 + d = n := by omega
        have l1 := HX.out.row.cell i hin
        have lf := HX.out.row.free i
        rw [upd_at] at l1
        have hb1 := bsg_bd P f i d pl HGB.out
        have hdd : d = n - 1 - i := by omega
        have HZ : Hid (bsg P f i (n - 1 - i) = bsg P f i d) := by rw [← hdd]; exact Lib.hid rfl
        generalize bsg P f i d = z at *
        rw [hdn2]
        clear hdn2 hdd hd hdn c0 c1 c4
        gi_wp2
        refine ⟨HKF.out.trans ((KeepsOthers.setCell _ _ _).from _), HKB.out.tr (KB.set (p := ⟨w.heap.size + 1 + 1, i, none⟩) (by show w.heap.size ≤ w.heap.size + 1 + 1; omega) (by show w1.heap.size + 1 ≠ w.heap.size + 1 + 1; omega) _), ?_⟩
        have hs1 := HX.out.set (by omega) (by omega) (by omega) i hin (z + 1)
        rw [upd_upd] at hs1
        show RL w w.heap.size (w.heap.size + 1) (w.heap.size + 1 + 1) w1.heap.size A n c gb (gal P n ((pre ++ [(⟨k, hk⟩ : Below' n)]).map Subtype.val)) _
        rw [HGS.out, HGT.out, HZ.out]
        exact hs1
  case done =>
    rintro D ys W hD rfl hR hK
    have h4 := hR.c4
    gi_wp2
    refine ⟨by simp, .inl ⟨_, _, rfl, run_takeDeferred hK, ?_⟩⟩
    refine ⟨_, results_tmp rfl _ _ _, w.heap.size + 1 + 1, by omega, rfl, ?_, hR.bel.trans (belowK_b (w := w) (Nat.le_refl _) W D _ _ (by omega) hK rfl rfl)⟩
    have hrow := hR.row.kept (grownBy_putObj' W D (.deferred none)) (fun r e => by cases e; exact ⟨_, hK, rfl⟩)
    rw [sub_val n n (Nat.le_refl _), gal_range P n n (Nat.le_refl _)] at hrow
    have hpe : (fun j => Pl (xs.getD j 0)) = P := funext fun j => (HPP.out j).symm
    rw [hpe]
    exact hrow
  case stop =>
    rintro D c pre W _ _ h _
    exact h.elim
end Go.Proofs.Ytlbomopjldhmeaa

namespace Go.Proofs.Ytlbomopjldhmeaa
set_option linter.unusedSimpArgs false
set_option linter.unusedVariables false
open Go.RowKit
theorem OwK.of_rf {lo g n fl : Nat} {f : Nat → Int} {w : World} (h : Rf lo g n f w) (hf : fl ≤ n) (c : Nat) (hc : fl ≤ c) : OwK lo w.heap.size (.slice (some ⟨g, 0, none⟩) fl c) fl ((il fl f).map (Value.int .i64)) w := by
  refine ⟨by simp [il], .inr ⟨g, c, n, n, vl n f, rfl, hc, h, h.lt.2, hf, ?_⟩⟩
  rw [il_vl]
  unfold vl
  rw [← List.map_take, List.take_range]
  rw [Nat.min_eq_left hf]
/-- Returns numbers in the first places of a fresh row. -/
def RetK (w : World) (xs : List Int) (e : Ending) (w' : World) : Prop := ∃ v, e = .returned v ∧ OwK w.heap.size w'.heap.size v xs.length (xs.map (Value.int .i64)) w' ∧ Below w.heap.size w w'
theorem RetK.of_ret {w w' : World} {xs : List Int} {e : Ending} (h : RetI w xs e w') : RetK w xs e w' := by
  obtain ⟨v, he, ho, hb⟩ := h
  exact ⟨v, he, OwK.of_own ho, hb⟩
end Go.Proofs.Ytlbomopjldhmeaa

namespace Go.Proofs.Ytlbomopjldhmeaa
set_option linter.unusedSimpArgs false
set_option linter.unusedVariables false
open Go.RowKit
/-- The greatest of the first k + 1 numbers. -/
def lmx (xs : List Int) : Nat → Int
  | 0 => xs.getD 0 0
  | k + 1 => max (lmx xs k) (xs.getD (k + 1) 0)
set_option maxHeartbeats 800000 in
theorem slices_Max (A : Option Addr) (n c : Nat) (xs : List Int) (w : World) (B : Nat) (hn : n + 1 = xs.length) (h : IS w B A xs) (hs : n ≤ 2000000) :
    Calls Try.prog 80 #[.slice A (n + 1) c] w fun e w' => e = .returned (.int .i64 (lmx xs n)) ∧ w' = w := by
  obtain ⟨b, off, rfl, hbB, hc⟩ := h (by omega)
  have c0 := hc 0 (by omega)
  rw [Nat.add_zero] at c0
  have HC := Lib.hid hc
  have HN := Lib.hid hn
  have HL0 : Hid (lmx xs 0 = xs.getD 0 0) := rfl
  generalize xs.getD 0 0 = x0 at *
  have hgt : ¬ ((n : Int) + 1 < 1) := by omega
  clear hc hn h
  go_enter Try.func80, Try.ntmps80
  go_wp2
  go_loopw [3, 4] (fun q i wr => ∃ k : Nat, k ≤ n ∧ i = .int .i64 ((k + 1 : Nat) : Int) ∧ q = .int .i64 (lmx xs k) ∧ w = wr) (fun _ i _ => n + 1 - (intOf i).toNat)
  case atStart => exact ⟨0, by omega, by simp, by rw [HL0.out], rfl⟩
  case round =>
    obtain ⟨k, hk, rfl, rfl, rfl⟩ := hrel
    by_cases hlt : k < n
    · have ck := HC.out (k + 1) (by have := HN.out; omega)
      have HS : Hid (lmx xs (k + 1) = max (lmx xs k) (xs.getD (k + 1) 0)) := rfl
      have hki : ((k + 1 : Nat) : Int) < (n : Int) + 1 := by omega
      obtain ⟨j, hj⟩ : ∃ j : Nat, j = k + 1 := ⟨_, rfl⟩
      rw [← hj] at ck HS hki ⊢
      have HJ := Lib.hid hj
      generalize xs.getD j 0 = y at *
      generalize lmx xs k = z at *
      have hjn : j < n + 1 := by omega
      clear hj
      go_wp2
      go_roundw
      case rel => exact ⟨k + 1, by omega, by have := HJ.out; go_num, by rw [show k + 1 = j from HJ.out.symm, HS.out]; first | rfl | (congr 1; split <;> omega), by first | rfl | trivial⟩
      case measure => have := HJ.out; simp [intOf]; omega
    · obtain rfl : k = n := by omega
      go_wp2
      go_ret
      exact ⟨rfl, by first | rfl | trivial⟩
theorem lmx_mst (L : Nat → Int) (n : Nat) (hL : ∀ j, 0 ≤ L j) : lmx (il n L ++ [0]) n = mst L n := by
  have hg : ∀ j, j < n → (il n L ++ [0]).getD j 0 = L j := by
    intro j hj
    have : (il n L ++ [0])[j]? = (il n L)[j]? := List.getElem?_append_left (by rw [il_len]; exact hj)
    simp only [List.getD, this]
    simpa [List.getD] using il_get n L j hj
  have hl : (il n L ++ [0]).getD n 0 = 0 := by
    have : (il n L ++ [0])[n]? = some 0 := by rw [List.getElem?_append_right (by rw [il_len]; exact Nat.le_refl _), il_len]; simp
    simp only [List.getD, this]; rfl
  have key : ∀ k, k < n → lmx (il n L ++ [0]) k = mst L (k + 1) := by
    intro k
    induction k with
    | zero => intro hk; show (il n L ++ [0]).getD 0 0 = max (mst L 0) (L 0); rw [hg 0 hk]; have := hL 0; show L 0 = max 0 (L 0); omega
    | succ k ih => intro hk; show max (lmx (il n L ++ [0]) k) ((il n L ++ [0]).getD (k + 1) 0) = max (mst L (k + 1)) (L (k + 1)); rw [ih (by omega), hg (k + 1) hk]
  cases n with
  | zero => exact hl
  | succ n =>
    show max (lmx (il (n + 1) L ++ [0]) n) ((il (n + 1) L ++ [0]).getD (n + 1) 0) = _
    rw [key n (by omega), hl]
    have := mst_nonneg L (n + 1)
    omega
theorem Rf.of_heap {g n : Nat} {f : Nat → Int} {w : World} (h : w.heap[g]? = some (.cells (vl n f).toArray 3 (0, 0))) (hn : n ≤ 2000000) : Rf g g n f w := by
  refine ⟨by rw [vl_len]; omega, .inr ⟨g, n, (vl n f).toArray, rfl, Nat.le_refl _, h, Nat.le_refl _, by unfold maxLen; omega, by simp [vl_len], ?_⟩⟩
  simp only [Nat.mul_one]
  exact List.take_of_length_le (by rw [vl_len]; exact Nat.le_refl _)
theorem map_vl (xs : List Int) (n : Nat) (hn : n = xs.length) : xs.map (Value.int .i64) = vl n (fun j => xs.getD j 0) := by
  apply List.ext_getElem?
  intro j
  rcases Nat.lt_or_ge j n with hj | hj
  · rw [vl_get _ _ _ hj]
    have hjx : j < xs.length := by omega
    simp [List.getD, hjx]
  · rw [List.getElem?_eq_none (by simp; omega), List.getElem?_eq_none (by rw [vl_len]; exact hj)]
theorem il_upd (f : Nat → Int) (k : Nat) (x : Int) : il (k + 1) (upd f k x) = il k f ++ [x] := by
  simp only [il, List.range_succ, List.map_append, List.map_cons, List.map_nil, upd_at]
  congr 1
  apply List.map_congr_left
  intro j hj
  have : j < k := by simpa using hj
  exact upd_ne _ _ _ _ (by omega)
set_option maxRecDepth 100000 in
set_option maxHeartbeats 3200000 in
theorem impl_longestRising (gb : Nat) (Pl : Int → Int) (A : Option Addr) (n c : Nat) (xs : List Int) (w : World) (hs : n ≤ 1048576) (hn : n = xs.length) (h : IS w w.heap.size A xs)
    (hP : ∀ (q : Int) (W : World), Below w.heap.size w W → Calls Try.prog 70 #[.int .i64 q, .pointer (some ⟨gb, 0, none⟩)] W fun e w' => e = .returned (.int .i64 (Pl q)) ∧ w' = W) :
    Calls Try.prog 68 #[.slice A n c, .func (.func 70) #[] #[.pointer (some ⟨gb, 0, none⟩)]] w fun e w' => RetK w (keep (fun j => xs.getD j 0) (lrA (fun j => Pl (xs.getD j 0)) n) (mst (lrA (fun j => Pl (xs.getD j 0)) n) n) n).1 e w' := by
  obtain ⟨i0, hi, hz0, hz1, hz2⟩ := info_parts info_int
  have HRL := Lib.hid (impl_risingLengths gb Pl A n c xs w (by omega) hn h hP)
  have hL0 : ∀ j, 0 ≤ lrA (fun j => Pl (xs.getD j 0)) n j := fun j => (lrT_bd _ n n j).1
  have hLn : ∀ j, lrA (fun j => Pl (xs.getD j 0)) n j ≤ n := fun j => lrA_le _ n j
  generalize hL : lrA (fun j => Pl (xs.getD j 0)) n = L at *
  have HLM := Lib.hid (lmx_mst L n hL0)
  have HL0 := Lib.hid hL0
  have HLn := Lib.hid hLn
  have hmn := mst_nonneg L n
  have hml := mst_le L n n (by omega) fun j _ => hLn j
  obtain ⟨M, hM⟩ : ∃ M : Int, M = mst L n := ⟨_, rfl⟩
  rw [← hM] at HLM hmn hml ⊢
  have HM := Lib.hid hM
  have H := Lib.hid h
  have HN := Lib.hid hn
  obtain ⟨cs, hcs⟩ : ∃ cs : List Value, cs = xs.map (Value.int .i64) := ⟨_, rfl⟩
  have hcl2 : cs.length = n := by rw [hcs, List.length_map]; exact hn.symm
  have h1 : ∀ v ∈ cs, v.oneCell' = true := by
    intro v hv
    rw [hcs] at hv
    obtain ⟨x, _, rfl⟩ := List.mem_map.1 hv
    rfl
  have hsz : (Try.prog.info? 3).map (·.size) = some 1 := by kernel_rfl
  have HSZ := Lib.hid hsz
  have HCL2 := Lib.hid hcl2
  have HCS := Lib.hid hcs
  have HONE := Lib.hid h1
  clear h hn hP hL0 hLn hM hcs hcl2 h1 hsz hL
  go_enter Try.func68, Try.ntmps68
  go_wp2_with fail
  refine HRL.out.mono ?_
  rintro e w1 ⟨g1, hg1, rfl, hR1, hb1⟩
  have HR1 := Lib.hid hR1
  have HB1 := Lib.hid hb1
  have hgl : g1 < w1.heap.size := hR1.lt.2
  clear HRL hR1 hb1
  go_wp2_with (at_builtin; refine wpList_append_grows _ rfl _ _ 22 rfl 3 i0 (.int .i64 0) 1 8 Try.underlying22 hi hz0 hz1 hz2 rfl (by decide) _ _ _ (vl n L) rfl (fun h => by cases h) ?c1 ?c6 ⟨w1.heap.size, 0, none⟩ 1 1 [.int .i64 0] rfl rfl (cell_one_new _ _ _) ?c2 ?c5 ?c3 ?c4 ?_)
  case c1 => rw [vl_len]; omega
  case c6 =>
    intro b hb j u hu
    cases hb
    have hj : j < n := by
      rcases Nat.lt_or_ge j n with h1 | h1
      · exact h1
      · rw [List.getElem?_eq_none (by rw [vl_len]; exact h1)] at hu; cases hu
    rw [vl_get _ _ _ hj] at hu
    cases hu
    have hadd : (⟨g1, 0, none⟩ : Addr).add j = ⟨g1, j, none⟩ := by unfold Addr.add; split <;> simp_all
    rw [hadd, World.cell?_alloc_lt _ _ ⟨g1, j, none⟩ hgl]
    exact HR1.out.cell j hj
  case c2 => first | rfl | (intro u hu; simp at hu; subst hu; rfl)
  case c5 => omega
  case c3 => unfold maxLen; omega
  case c4 => first | omega | (simp; omega)
  intro v2 w2 hown2 hgr2
  have hb2 : Below w1.heap.size w1 w2 := ((Below.refl _ _).alloc (Nat.le_refl _) _).grown hgr2 (by simp) (fun k hk => by cases hk)
  have hown2' : OwnI w2 w1.heap.size v2 (il n L ++ [0]) := by
    unfold OwnI
    rw [List.length_append, il_len, List.map_append, il_vl]
    exact own_mono hown2 (by simp)
  obtain ⟨A2, c2, rfl, hI2, _, _⟩ := hown2'.form' (n + 1) (by rw [List.length_append, il_len]; rfl)
  have HMX := Lib.hid (slices_Max A2 n c2 (il n L ++ [0]) w2 w2.heap.size (by rw [List.length_append, il_len]; rfl) hI2 (by omega))
  rw [HLM.out] at HMX
  have HR2 := Lib.hid (HR1.out.below hb2)
  have HB2 := Lib.hid (HB1.out.trans (hb2.mono HB1.out.size))
  have hgl2 : g1 < w2.heap.size := Nat.lt_of_lt_of_le hgl hb2.size
  clear hown2 hgr2 hb2 hown2' hI2 HR1 HB1
  go_wp2_with fail
  refine HMX.out.mono ?_
  rintro e w3 ⟨rfl, rfl⟩
  obtain ⟨w4, hmk, hown4, hgr4⟩ := run_make_full (P := Try.prog) w3 w3.heap.size 22 3 i0 _ 1 Try.underlying22 hi hz0 hz1 .i64 .i64 n (by rw [hz2]; omega) (by unfold maxLen; omega) (Nat.le_refl _)
  obtain ⟨cur, hcur, hcl, _⟩ := own_heap hown4
  have hb4 : Below w3.heap.size w3 w4 := ⟨hgr4.os, hgr4.tape, hgr4.output, hgr4.size, fun k hk => hgr4.block k hk (by simp)⟩
  have hsrc : 0 < cs.length → some (⟨w3.heap.size, 0, none⟩ : Addr) = some ⟨w3.heap.size, 0, none⟩ ∧ ∃ ad, A = some ad ∧ ∀ j v, cs[j]? = some v → w4.cell? (ad.add j) = some v := by
    intro hp
    obtain ⟨b, off, e, hb, hc⟩ := (H.out.below HB2.out (Nat.le_refl _)) (by have := HCL2.out; have := HN.out; omega)
    refine ⟨rfl, _, e, fun j v hv => ?_⟩
    have hj : j < xs.length := by
      have := HCL2.out; have := HN.out
      rcases Nat.lt_or_ge j cs.length with h1 | h1
      · omega
      · rw [List.getElem?_eq_none h1] at hv; cases hv
    have hadd : (⟨b, off, none⟩ : Addr).add j = ⟨b, off + j, none⟩ := by unfold Addr.add; split <;> simp_all
    rw [hadd, hb4.cell (p := ⟨b, off + j, none⟩) (by have := HB2.out.size; show b < w3.heap.size; omega), hc j hj, ← hv, HCS.out]
    simp [List.getD, hj]
  have HCUR := Lib.hid hcur
  have HCL := Lib.hid hcl
  have HSRC := Lib.hid hsrc
  have HB4 := Lib.hid hb4
  clear hcur hcl hsrc hb4 hown4 hgr4 HMX
  go_wp2_with (with_reducible refine wpList_copy_splice rfl (.tmp 21) (.tmp 22) 22 22 rfl 3 Try.underlying22 HSZ.out _ _ _ _ _ _ rfl rfl w3.heap.size 0 cur 3 HCUR.out cs ?d1 (fun h => ⟨rfl, (HSRC.out h).2⟩) ?d2 HONE.out w3.heap.size w3 HB4.out (Nat.le_refl _) ?_)
  case d1 => rw [HCL2.out]; exact (Nat.min_self n).symm
  case d2 => have := HCL2.out; have := HCL.out; omega
  intro w5 HG5 hB5
  have hsp : splice cur 0 cs = vl n (fun j => xs.getD j 0) := by
    unfold splice
    rw [List.take_zero, List.nil_append, List.drop_of_length_le (by have := HCL2.out; have := HCL.out; omega), List.append_nil, HCS.out, map_vl xs n HN.out]
  have hg5 := HG5.out
  rw [hsp] at hg5
  have HR5 := Lib.hid (Rf.of_heap hg5 (by omega))
  have HB5 := Lib.hid hB5
  have HK0 : Hid (keep (fun j => xs.getD j 0) L M 0 = ([], M)) := rfl
  clear HG5 hB5 hsp hg5 hmk HCUR HCL HSRC HB4
  go_wp2
  go_loopw [6, 8, 26] (fun q nn i wr => ∃ r : Nat, r ≤ n ∧ i = .int .i64 r ∧ q = .int .i64 (keep (fun j => xs.getD j 0) L M r).2 ∧ nn = .int .i64 (((keep (fun j => xs.getD j 0) L M r).1.length : Nat) : Int) ∧ Hid (∃ h, Rf w3.heap.size w3.heap.size n h wr ∧ il (keep (fun j => xs.getD j 0) L M r).1.length h = (keep (fun j => xs.getD j 0) L M r).1) ∧ Hid (Below w3.heap.size w3 wr)) (fun _ _ i _ => n - (intOf i).toNat)
  case atStart => exact ⟨0, Nat.zero_le _, rfl, by rw [HK0.out], by rw [HK0.out]; rfl, ⟨_, HR5.out, by rw [HK0.out]; rfl⟩, HB5.out⟩
  case round =>
    obtain ⟨r, hr, rfl, rfl, rfl, HH, HB⟩ := hrel
    obtain ⟨h, hh, hil⟩ := HH.out
    have hwr := HB.out.size
    have hkb := keep_bd (fun j => xs.getD j 0) L M r
    have HKY := Lib.hid (keep_yes (fun j => xs.getD j 0) L M r)
    have HKN := Lib.hid (keep_no (fun j => xs.getD j 0) L M r)
    generalize hS : keep (fun j => xs.getD j 0) L M r = S at *
    obtain ⟨F, mi⟩ := S
    have HS := Lib.hid hS
    clear hS
    simp only at hkb HKY HKN hil ⊢
    obtain ⟨hF1, hF2⟩ := hkb
    have HIL := Lib.hid hil
    have HHH := Lib.hid hh
    generalize hFl : F.length = fl at *
    have HFL := Lib.hid hFl
    have hmi : -1048576 ≤ mi ∧ mi ≤ 1048576 := by omega
    clear hFl hF2 hil hh HH
    by_cases hrn : r < n
    · have hrx : r < xs.length := by have := HN.out; omega
      obtain ⟨b, off, rfl, hbB, hc⟩ := (H.out.below HB2.out (Nat.le_refl _)) (by omega)
      have hsz3 := HB2.out.size
      have q1 := (HB.out.cell (p := ⟨b, off + r, none⟩) (by show b < w3.heap.size; omega)).trans (hc r hrx)
      have q2 := (HB.out.cell (p := ⟨g1, r, none⟩) hgl2).trans (HR2.out.cell r hrn)
      have hLr := HLn.out r
      clear hc
      by_cases he : L r = mi
      · have HKY2 := Lib.hid (HKY.out he)
        have heq : (L r == mi) = true := by simp [he]
        have hfn : fl < n := by omega
        have q3 := HHH.out.cell fl hfn
        have q4 := HHH.out.free fl
        generalize h fl = y at *
        clear HKY HKN he
        generalize L r = z at *
        generalize xs.getD r 0 = x at *
        go_wp2
        go_roundw
        case rel =>
          refine ⟨r + 1, by omega, by go_num, by rw [HKY2.out], by rw [HKY2.out]; have := HFL.out; simp; omega, ⟨_, HHH.out.set fl hfn x, ?_⟩, HB.out.setCell (p := ⟨w3.heap.size, fl, none⟩) (Nat.le_refl _) _⟩
          rw [HKY2.out]
          simp only [List.length_append, List.length_singleton, HFL.out]
          rw [il_upd, HIL.out]
        case measure => simp [intOf]; omega
      · have HKN2 := Lib.hid (HKN.out he)
        have heq : (L r == mi) = false := by simp [he]
        clear HKY HKN he
        generalize L r = z at *
        go_wp2
        go_roundw
        case rel => exact ⟨r + 1, by omega, by go_num, by rw [HKN2.out], by rw [HKN2.out]; have := HFL.out; simp; omega, ⟨h, HHH.out, by rw [HKN2.out]; simp only [HFL.out]; exact HIL.out⟩, HB.out⟩
        case measure => simp [intOf]; omega
    · obtain rfl : r = n := by omega
      go_wp2
      go_ret
      refine ⟨_, rfl, ?_, HB2.out.trans (HB.out.mono HB2.out.size)⟩
      rw [HS.out]
      show OwK w.heap.size wr.heap.size _ F.length (F.map (Value.int .i64)) wr
      rw [HFL.out]
      have hk := OwK.of_rf HHH.out hF1 fl (Nat.le_refl _)
      rw [HIL.out] at hk
      exact hk.mono HB2.out.size (Nat.le_refl _)
end Go.Proofs.Ytlbomopjldhmeaa

namespace Go.Proofs.Ytlbomopjldhmeaa
set_option linter.unusedSimpArgs false
set_option linter.unusedVariables false
open Go.RowKit
/-- What StaysOf and MovesOf answer. -/
def staysF (xs ys : List Int) : List Int := if bothK xs ys then stK xs ys else []
theorem stK_len (xs ys : List Int) : (stK xs ys).length ≤ (inK ys xs).length := (keep_bd _ _ _ _).1
theorem staysF_len (xs ys : List Int) : (staysF xs ys).length ≤ 10 := by
  unfold staysF
  split
  · rename_i h
    exact Nat.le_trans (stK_len xs ys) (Nat.le_trans (inK_len ys xs) (validK_len _ (bothK_parts _ _ h).2))
  · simp
set_option maxHeartbeats 800000 in
theorem stays1_at (g : Nat) (A : Option Addr) (lc c : Nat) (q : Int) (C : List Int) (w : World) (hl : lc = C.length) (hs : lc ≤ 2000000) (B : Nat) (hB : B ≤ w.heap.size) (h1 : w.cell? ⟨g, 0, none⟩ = some (.slice A lc c)) (h : IS w B A C) :
    Calls Try.prog 70 #[.int .i64 q, .pointer (some ⟨g, 0, none⟩)] w fun e w' => e = .returned (.int .i64 (plc C q)) ∧ w' = w := by
  have HC := Lib.hid (slices_Index A lc c C q w B hB hl h hs)
  generalize plc C q = r at *
  clear hl h
  go_enter Try.func70, Try.ntmps70
  go_wp2_with fail
  refine HC.out.mono ?_
  rintro e w1 ⟨rfl, rfl⟩
  go_wp2
  go_ret
  exact ⟨rfl, rfl⟩
set_option maxHeartbeats 1600000 in
theorem impl_StaysOf (A A' : Option Addr) (n c m c' : Nat) (xs ys : List Int) (w : World) (hn : n = xs.length) (hnc : n ≤ c) (hm : m = ys.length) (hmc : m ≤ c') (h : IS w w.heap.size A xs) (h' : IS w w.heap.size A' ys) (hs : n ≤ 1048576) (hs' : m ≤ 1048576) :
    Calls Try.prog 47 #[.slice A n c, .slice A' m c'] w fun e w' => RetK w (staysF xs ys) e w' := by
  have hB0 : Below w.heap.size w (w.alloc (.cells #[.slice A n c] 22)) := (Below.refl _ _).alloc (Nat.le_refl _) _
  have HC := Lib.hid (impl_areBothKeys A A' n c m c' xs ys (w.alloc (.cells #[.slice A n c] 22)) w.heap.size (by simp) hn hnc hm hmc (h.alloc (Nat.le_refl _) _) (h'.alloc (Nat.le_refl _) _) (by omega) (by omega))
  have HD := Lib.hid fun (w' : World) (hb : Below w.heap.size w w') => impl_keysIn A' A m c' n c ys xs w' w.heap.size hb.size hm hn (h'.below hb (Nat.le_refl _)) (h.below hb (Nat.le_refl _)) (by omega) (by omega)
  have HP := Lib.hid fun (q : Int) (w' : World) (hb : Below w.heap.size w w') (h1 : w'.cell? ⟨w.heap.size, 0, none⟩ = some (.slice A n c)) => stays1_at w.heap.size A n c q xs w' hn (by omega) w.heap.size hb.size h1 (h.below hb (Nat.le_refl _))
  have hst : stK xs ys = (keep (fun j => (inK ys xs).getD j 0) (lrA (fun j => plc xs ((inK ys xs).getD j 0)) (inK ys xs).length) (mst (lrA (fun j => plc xs ((inK ys xs).getD j 0)) (inK ys xs).length) (inK ys xs).length) (inK ys xs).length).1 := rfl
  have hkl := inK_len ys xs
  unfold staysF
  rw [hst]
  generalize inK ys xs = K at *
  obtain ⟨l, hl⟩ : ∃ l : Nat, l = K.length := ⟨_, rfl⟩
  have hl1 : l ≤ 1048576 := by omega
  rw [← hl]
  have HL := Lib.hid hl
  generalize bothK xs ys = r at *
  clear hn h hm h' hnc hmc hst hkl hl
  cases r
  · simp only [Bool.false_eq_true, if_false]
    go_enter Try.func47, Try.ntmps47
    go_wp2_with fail
    refine HC.out.mono ?_
    rintro e w1 ⟨rfl, hb⟩
    go_wp2
    go_ret
    exact RetK.of_ret (RetI_nil (hB0.trans (hb.mono hB0.size)))
  · simp only [if_true]
    go_enter Try.func47, Try.ntmps47
    go_wp2_with fail
    refine HC.out.mono ?_
    rintro e w1 ⟨rfl, hb⟩
    have q1 : w1.cell? ⟨w.heap.size, 0, none⟩ = some (.slice A n c) := (hb.cell (p := ⟨w.heap.size, 0, none⟩) (by simp)).trans (by go_simp)
    have hB1 := hB0.trans (hb.mono hB0.size)
    have hl0 : w.heap.size < w1.heap.size := by have := hb.size; simp at this; omega
    clear hb hB0
    go_wp2_with fail
    refine (HD.out _ hB1).mono ?_
    rintro e w2 ⟨v, rfl, ho, hb⟩
    obtain ⟨A2, c2, rfl, hi2, _, _⟩ := ho.form' l HL.out
    have q2 := (hb.cell (p := ⟨w.heap.size, 0, none⟩) hl0).trans q1
    have hB2 := hB1.trans (hb.mono hB1.size)
    have hl2 : w.heap.size < w2.heap.size := Nat.lt_of_lt_of_le hl0 hb.size
    have HLR := Lib.hid (impl_longestRising w.heap.size (plc xs) A2 l c2 K w2 hl1 HL.out hi2 (fun q W hW => HP.out q W (hB2.trans (hW.mono hB2.size)) ((hW.cell (p := ⟨w.heap.size, 0, none⟩) hl2).trans q2)))
    clear ho hb hi2 q1 hB1
    go_wp2_with fail
    refine HLR.out.mono ?_
    rintro e w3 ⟨v3, rfl, ho3, hb3⟩
    go_wp2
    go_ret
    exact ⟨v3, by simp, ho3.mono hB2.size (Nat.le_refl _), hB2.trans (hb3.mono hB2.size)⟩
end Go.Proofs.Ytlbomopjldhmeaa

namespace Go.Proofs.Ytlbomopjldhmeaa
set_option linter.unusedSimpArgs false
set_option linter.unusedVariables false
open Go.RowKit
theorem acells_new (w : World) (cs : Array Value) (t : TypeId) (xs : List Value) (hx : cs.toList = xs) : ∀ j u, xs[j]? = some u → (w.alloc (.cells cs t)).cell? ((⟨w.heap.size, 0, none⟩ : Addr).add j) = some u := by
  subst hx
  intro j u hj
  have hadd : (⟨w.heap.size, 0, none⟩ : Addr).add j = ⟨w.heap.size, j, none⟩ := by unfold Addr.add; split <;> simp_all
  rw [hadd, cell_of_row _ w.heap.size j cs t (0, 0) (heap_alloc_new w _)]
  simpa using hj
end Go.Proofs.Ytlbomopjldhmeaa

namespace Go.Proofs.Ytlbomopjldhmeaa
set_option linter.unusedSimpArgs false
set_option linter.unusedVariables false
open Go.RowKit
/-- The slice value is one of the call's own, of acts. -/
def OwnC (w : World) (base : Nat) (v : Value) (xs : List Ac) : Prop := w.ownsRow base 44 3 v xs.length (xs.flatMap Ac.cells)
/-- Returns a slice of fresh acts. -/
def RetC (w : World) (xs : List Ac) (e : Ending) (w' : World) : Prop := ∃ v, e = .returned v ∧ OwnC w' w.heap.size v xs ∧ Below w.heap.size w w'
theorem RetC.nil {w w' : World} (hb : Below w.heap.size w w') : RetC w [] (.returned (.slice none 0 0)) w' := ⟨_, rfl, World.ownsRow_nil _ _ _ _, hb⟩
end Go.Proofs.Ytlbomopjldhmeaa

namespace Go.Proofs.Ytlbomopjldhmeaa
set_option linter.unusedSimpArgs false
set_option linter.unusedVariables false
open Go.RowKit
theorem pt1_succ (G : List Int) (k : Nat) : pt1 G (k + 1) = pt1 G k ++ [⟨0, G.getD (G.length - 1 - k) 0, -1⟩] := by simp [pt1, List.range_succ]
theorem own_keepC {w w3 : World} {o : Obj} {B B' : Nat} {gv v : Value} {G : List Int} {F : List Ac} (hI : OwnI w B gv G) (hC : OwnC w B' v F) (hg : (w.alloc o).grownBy w3 v.ownBlock) : OwnI w3 B gv G :=
  World.ownsRow.kept (World.ownsRow.alloc hI o) hg (blocks_ne (World.ownsRow.alloc hI o) (World.ownsRow.alloc hC o) (by decide))
theorem own_intsI {w : World} {B n c : Nat} {A : Option Addr} {G : List Int} (h : OwnI w B (.slice A n c) G) : IS w w.heap.size A G := by
  obtain ⟨A', c', e, hi⟩ := h.form
  simp only [Value.slice.injEq] at e
  obtain ⟨rfl, _, _⟩ := e
  exact hi
set_option maxHeartbeats 400000 in
theorem spec_goneFrom (A A' : Option Addr) (n c m c' : Nat) (xs ys : List Int) (w : World) (B : Nat) (hB : B ≤ w.heap.size) (hn : n = xs.length) (hm : m = ys.length) (h : IS w B A xs) (h' : IS w B A' ys) (hs : n ≤ 2000000) (hs' : m ≤ 2000000) :
    Calls Try.prog 72 #[.slice A n c, .slice A' m c'] w fun e w' => RetI w (notK xs ys) e w' := by
  have HC := Lib.hid (spec_missing A A' n c m c' xs ys w B hB hn hm h h' hs hs')
  clear hn hm h h'
  go_enter Try.func72, Try.ntmps72
  go_wp2_with fail
  refine HC.out.mono ?_
  rintro e w1 ⟨v, rfl, ho, hb⟩
  go_wp2
  go_ret
  exact ⟨v, by simp, ho, hb⟩
set_option maxRecDepth 100000 in
set_option maxHeartbeats 3200000 in
theorem spec_patch (A A' : Option Addr) (n c m c' : Nat) (xs ys : List Int) (w : World) (hn : n = xs.length) (hm : m = ys.length) (h : IS w w.heap.size A xs) (h' : IS w w.heap.size A' ys) (hs : n ≤ 1048576) (hs' : m ≤ 1048576) :
    Calls Try.prog 49 #[.slice A n c, .slice A' m c'] w fun e w' => RetC w (patchK xs ys) e w' := by
  obtain ⟨i1, hi1, hy0, hy1, hy2⟩ := info_parts info_chg
  have HGO := Lib.hid fun (w' : World) (hb : Below w.heap.size w w') => spec_goneFrom A A' n c m c' xs ys w' w.heap.size hb.size hn hm (h.below hb (Nat.le_refl _)) (h'.below hb (Nat.le_refl _)) (by omega) (by omega)
  have HST := Lib.hid fun (w' : World) (hb : Below w.heap.size w w') => spec_stays A A' n c m c' xs ys w' w.heap.size hb.size hn hm (h.below hb (Nat.le_refl _)) (h'.below hb (Nat.le_refl _)) (by omega) hs'
  have hgl := notK_len xs ys
  have hsl := Nat.le_trans (stK_len xs ys) (inK_len ys xs)
  unfold patchK
  generalize notK xs ys = G at *
  generalize stK xs ys = S at *
  obtain ⟨l, hl⟩ : ∃ l : Nat, l = G.length := ⟨_, rfl⟩
  obtain ⟨ls, hls⟩ : ∃ ls : Nat, ls = S.length := ⟨_, rfl⟩
  have hl1 : l ≤ 1048576 := by omega
  have hls1 : ls ≤ 1048576 := by omega
  rw [← hl, ← hm]
  have HL := Lib.hid hl
  have HLS := Lib.hid hls
  have H := Lib.hid h
  have HN := Lib.hid hn
  have H' := Lib.hid h'
  have HM := Lib.hid hm
  have hb0 : Below w.heap.size w (w.alloc (.cells #[] 44)) := (Below.refl _ _).alloc (Nat.le_refl _) _
  have ho0 : OwnC (w.alloc (.cells #[] 44)) w.heap.size (.slice (some ⟨w.heap.size, 0, none⟩) 0 0) [] := World.ownsRow_lit (e := 44) (size := 3) w #[] 0 (Nat.le_refl _) (by unfold maxLen; omega) rfl
  have HB0 := Lib.hid hb0
  have HO0 := Lib.hid ho0
  clear hn h hm h' hl hls hgl hsl hb0 ho0
  go_enter Try.func49, Try.ntmps49
  go_wp2_with fail
  refine (HGO.out _ HB0.out).mono ?_
  rintro e w1 ⟨v1, rfl, ho1, hb1⟩
  obtain ⟨A1, c1, rfl, _, _, _⟩ := ho1.form' l HL.out
  have HO1 : Hid (OwnC w1 w.heap.size (.slice (some ⟨w.heap.size, 0, none⟩) 0 0) []) := own_below HO0.out hb1
  have HG1 : Hid (OwnI w1 w.heap.size (.slice A1 l c1) G) := own_mono ho1 HB0.out.size
  have HB1 := Lib.hid (HB0.out.trans (hb1.mono HB0.out.size))
  clear ho1 hb1 HB0 HO0 HGO
  go_wp2
  go_loopw [5, 7] (fun v i wr => ∃ k : Nat, k ≤ l ∧ i = .int .i64 ((l : Int) - 1 - k) ∧ Hid (OwnC wr w.heap.size v (pt1 G k)) ∧ Hid (OwnI wr w.heap.size (.slice A1 l c1) G) ∧ Hid (Below w.heap.size w wr)) (fun _ i _ => (intOf i + 1).toNat)
  case atStart => exact ⟨0, Nat.zero_le _, by simp, HO1.out, HG1.out, HB1.out⟩
  case round =>
    obtain ⟨k, hk, rfl, HO, HG, HB⟩ := hrel
    have hwr : w.heap.size ≤ wr.heap.size := HB.out.size
    by_cases hlt : k < l
    · obtain ⟨q, hq⟩ : ∃ q : Nat, q = l - 1 - k := ⟨_, rfl⟩
      have hqi : (l : Int) - 1 - k = (q : Int) := by omega
      have hql : q < l := by omega
      obtain ⟨b, off, rfl, hbB, hc⟩ := (own_intsI HG.out) (by have := HL.out; omega)
      have c0 := hc q (by have := HL.out; omega)
      have HST2 : Hid (pt1 G (k + 1) = pt1 G k ++ [⟨0, G.getD q 0, -1⟩]) := by rw [hq, HL.out]; exact pt1_succ G k
      have hfl := pt1_len G k
      generalize pt1 G k = F at *
      have HFL := Lib.hid hfl
      have HQ := Lib.hid hqi
      rw [hqi]
      generalize G.getD q 0 = x at *
      clear hc hfl hq hqi
      go_wp2_with (at_builtin; refine wpList_append_own _ rfl _ _ 28 rfl w.heap.size 44 i1 _ 3 24 Try.underlying28 hi1 hy0 hy1 hy2 rfl (by decide) _ _ _ rfl (HO.out.alloc _) ⟨_, 0, none⟩ 1 1 (Ac.cells ⟨0, x, -1⟩) rfl rfl (acells_new _ _ _ _ rfl) ?c2 ?c3 ?c4 ?c5 ?_)
      case c2 => intro u hu; simp [Ac.cells] at hu; rcases hu with rfl | rfl | rfl <;> rfl
      case c3 => have := HFL.out; unfold maxLen; omega
      case c4 => have := HFL.out; omega
      case c5 => first | omega | (simp; omega)
      intro v' w3 hown' hgrow _
      have hpos := (HO.out.alloc (.cells #[.int .i64 (0), .int .i64 (x), .int .i64 (-1)] 44)).lt
      have HO' : Hid (OwnC w3 w.heap.size v' (F ++ [⟨0, x, -1⟩])) := by
        unfold OwnC
        rw [List.length_append, List.flatMap_append]
        simpa [Hid] using hown'
      have HB' := Lib.hid ((HB.out.alloc hwr (.cells #[.int .i64 (0), .int .i64 (x), .int .i64 (-1)] 44)).grown hgrow (by first | (simp; omega) | omega) (fun q hq => (hpos q hq).1))
      have HG' := Lib.hid (own_keepC HG.out HO.out hgrow)
      clear hown' hgrow hpos
      go_wp2
      go_roundw
      case rel => exact ⟨k + 1, by omega, by have := HQ.out; go_num, by rw [HST2.out]; exact HO'.out, HG'.out, HB'.out⟩
      case measure => have := HQ.out; simp [intOf]
    · obtain rfl : k = l := by omega
      have hneg : decide ((0 : Int) ≤ (k : Int) - 1 - k) = false := decide_eq_false (by omega)
      have hp1 := pt1_len G k
      generalize hP1 : pt1 G k = P1 at *
      have HP1 := Lib.hid hP1
      have HP1L := Lib.hid hp1
      clear hP1 hp1
      go_wp2_with fail
      refine (HST.out _ HB.out).mono ?_
      rintro e w4 ⟨v4, rfl, ho4, hb4⟩
      obtain ⟨A5, c5, rfl, _, _, _⟩ := ho4.form' ls HLS.out
      have HO4 : Hid (OwnC w4 w.heap.size _ P1) := own_below HO.out hb4
      have HG4 : Hid (OwnI w4 w.heap.size (.slice A5 ls c5) S) := own_mono ho4 hwr
      have HB4 := Lib.hid (HB.out.trans (hb4.mono hwr))
      have HP0 : Hid (prevK ys 0 = -1) := rfl
      clear ho4 hb4 HO HG HB HST HO1 HG1 HB1 hwr hneg
      go_wp2
      go_loopw [5, 9, 10] (fun v a i wr => ∃ r : Nat, r ≤ m ∧ i = .int .i64 r ∧ a = .int .i64 (prevK ys r) ∧ Hid (OwnC wr w.heap.size v (P1 ++ pt2 xs S ys r)) ∧ Hid (OwnI wr w.heap.size (.slice A5 ls c5) S) ∧ Hid (Below w.heap.size w wr)) (fun _ _ i _ => m - (intOf i).toNat)
      case atStart => exact ⟨0, Nat.zero_le _, rfl, by rw [HP0.out], by simpa [pt2, Hid] using HO4.out, HG4.out, HB4.out⟩
      case round =>
        obtain ⟨r, hr, rfl, rfl, HO, HG, HB⟩ := hrel
        have hwr : w.heap.size ≤ wr.heap.size := HB.out.size
        by_cases hrm : r < m
        · have hrx : r < ys.length := by have := HM.out; omega
          obtain ⟨b, off, rfl, hbB, hc⟩ := (H'.out.below HB.out (Nat.le_refl _)) (by omega)
          have c0 := hc r hrx
          have HPX := Lib.hid (spec_placeIn A n c xs (ys.getD r 0) wr w.heap.size hwr HN.out (H.out.below HB.out (Nat.le_refl _)) (by omega))
          have HPS := Lib.hid (spec_placeIn A5 ls c5 S (ys.getD r 0) wr wr.heap.size (Nat.le_refl _) HLS.out (own_intsI HG.out) (by omega))
          have hpl := plc_ge xs (ys.getD r 0)
          have hps := plc_ge S (ys.getD r 0)
          have HNW := Lib.hid (pt2_new xs S ys r)
          have HMV := Lib.hid (pt2_move xs S ys r)
          have HSY := Lib.hid (pt2_stay xs S ys r)
          have HPV : Hid (prevK ys (r + 1) = ys.getD r 0) := rfl
          have hfl : (P1 ++ pt2 xs S ys r).length ≤ 2097152 := by
            have := pt2_len xs S ys r
            have := HP1L.out
            rw [List.length_append]; omega
          have HFL := Lib.hid hfl
          generalize pt2 xs S ys r = F at *
          generalize prevK ys r = at_ at *
          generalize ys.getD r 0 = x at *
          clear hc hfl
          by_cases hx : x ∈ xs
          · rw [decide_eq_true hx] at hpl
            have hge : decide (plc xs x < 0) = false := by simp at hpl; simp; omega
            by_cases hx2 : x ∈ S
            · rw [decide_eq_true hx2] at hps
              have hge2 : decide (plc S x < 0) = false := by simp at hps; simp; omega
              have HS2 := Lib.hid (HSY.out hx hx2)
              clear hx hx2 hpl hps HNW HMV HSY
              generalize plc xs x = p at *
              generalize plc S x = s at *
              go_wp2_with fail
              refine HPX.out.mono ?_
              rintro e w5 ⟨rfl, rfl⟩
              go_wp2_with fail
              refine HPS.out.mono ?_
              rintro e w6 ⟨rfl, rfl⟩
              go_wp2
              go_roundw
              case rel => exact ⟨r + 1, by omega, by go_num, by rw [HPV.out], by rw [HS2.out]; exact HO.out, HG.out, HB.out⟩
              case measure => simp [intOf]; omega
            · rw [decide_eq_false hx2] at hps
              have hge2 : plc S x < 0 := by simpa using hps
              have HS2 := Lib.hid (HMV.out hx hx2)
              clear hx hx2 hpl hps HNW HMV HSY
              generalize plc xs x = p at *
              generalize plc S x = s at *
              go_wp2_with fail
              refine HPX.out.mono ?_
              rintro e w5 ⟨rfl, rfl⟩
              go_wp2_with fail
              refine HPS.out.mono ?_
              rintro e w6 ⟨rfl, rfl⟩
              go_wp2_with (at_builtin; refine wpList_append_own _ rfl _ _ 28 rfl w.heap.size 44 i1 _ 3 24 Try.underlying28 hi1 hy0 hy1 hy2 rfl (by decide) _ _ _ rfl (HO.out.alloc _) ⟨_, 0, none⟩ 1 1 (Ac.cells ⟨2, x, at_⟩) rfl rfl (acells_new _ _ _ _ rfl) ?d2 ?d3 ?d4 ?d5 ?_)
              case d2 => intro u hu; simp [Ac.cells] at hu; rcases hu with rfl | rfl | rfl <;> rfl
              case d3 => have := HFL.out; unfold maxLen; omega
              case d4 => have := HFL.out; omega
              case d5 => first | omega | (simp; omega)
              intro v' w3 hown' hgrow _
              have hpos := (HO.out.alloc (.cells #[.int .i64 (2), .int .i64 (x), .int .i64 (at_)] 44)).lt
              have HO' : Hid (OwnC w3 w.heap.size v' ((P1 ++ F) ++ [⟨2, x, at_⟩])) := by
                unfold OwnC
                rw [List.length_append, List.flatMap_append]
                simpa [Hid] using hown'
              have HB' := Lib.hid ((HB.out.alloc hwr (.cells #[.int .i64 (2), .int .i64 (x), .int .i64 (at_)] 44)).grown hgrow (by first | (simp; omega) | omega) (fun q hq => (hpos q hq).1))
              have HG' := Lib.hid (own_keepC HG.out HO.out hgrow)
              clear hown' hgrow hpos
              have c1 := (HB'.out.cell (p := ⟨b, off + r, none⟩) hbB).trans ((HB.out.cell (p := ⟨b, off + r, none⟩) hbB).symm.trans c0)
              go_wp2
              go_roundw
              case rel => exact ⟨r + 1, by omega, by go_num, by rw [HPV.out], by rw [HS2.out, ← List.append_assoc]; exact HO'.out, HG'.out, HB'.out⟩
              case measure => simp [intOf]; omega
          · rw [decide_eq_false hx] at hpl
            have hge : plc xs x < 0 := by simpa using hpl
            have HS2 := Lib.hid (HNW.out hx)
            clear hx hpl hps HNW HMV HSY HPS
            generalize plc xs x = p at *
            go_wp2_with fail
            refine HPX.out.mono ?_
            rintro e w5 ⟨rfl, rfl⟩
            go_wp2_with (at_builtin; refine wpList_append_own _ rfl _ _ 28 rfl w.heap.size 44 i1 _ 3 24 Try.underlying28 hi1 hy0 hy1 hy2 rfl (by decide) _ _ _ rfl (HO.out.alloc _) ⟨_, 0, none⟩ 1 1 (Ac.cells ⟨1, x, at_⟩) rfl rfl (acells_new _ _ _ _ rfl) ?e2 ?e3 ?e4 ?e5 ?_)
            case e2 => intro u hu; simp [Ac.cells] at hu; rcases hu with rfl | rfl | rfl <;> rfl
            case e3 => have := HFL.out; unfold maxLen; omega
            case e4 => have := HFL.out; omega
            case e5 => first | omega | (simp; omega)
            intro v' w3 hown' hgrow _
            have hpos := (HO.out.alloc (.cells #[.int .i64 (1), .int .i64 (x), .int .i64 (at_)] 44)).lt
            have HO' : Hid (OwnC w3 w.heap.size v' ((P1 ++ F) ++ [⟨1, x, at_⟩])) := by
              unfold OwnC
              rw [List.length_append, List.flatMap_append]
              simpa [Hid] using hown'
            have HB' := Lib.hid ((HB.out.alloc hwr (.cells #[.int .i64 (1), .int .i64 (x), .int .i64 (at_)] 44)).grown hgrow (by first | (simp; omega) | omega) (fun q hq => (hpos q hq).1))
            have HG' := Lib.hid (own_keepC HG.out HO.out hgrow)
            clear hown' hgrow hpos
            have c1 := (HB'.out.cell (p := ⟨b, off + r, none⟩) hbB).trans ((HB.out.cell (p := ⟨b, off + r, none⟩) hbB).symm.trans c0)
            go_wp2
            go_roundw
            case rel => exact ⟨r + 1, by omega, by go_num, by rw [HPV.out], by rw [HS2.out, ← List.append_assoc]; exact HO'.out, HG'.out, HB'.out⟩
            case measure => simp [intOf]; omega
        · obtain rfl : r = m := by omega
          go_wp2
          go_ret
          rw [HP1.out]
          exact ⟨_, rfl, HO.out, HB.out⟩
set_option maxHeartbeats 1600000 in
theorem top_spec_PatchOf (xs ys : List Int) (hL : xs.length ≤ 1048576) (hL2 : ys.length ≤ 1048576) : ∀ (A : Option Addr) (n c : Nat) (A' : Option Addr) (m c' : Nat) (w : World), n = xs.length → n ≤ c → IS w w.heap.size A xs → m = ys.length → m ≤ c' → IS w w.heap.size A' ys →
    Calls Try.prog 22 #[.slice A n c, .slice A' m c'] w fun e w' => RetC w (patchF xs ys) e w' := by
  intro A n c A' m c' w hn hnc h hm hmc h'
  have hn2 : n ≤ 2000000 := by omega
  have hm2 : m ≤ 2000000 := by omega
  have HC := Lib.hid (spec_validKeys A n c xs w w.heap.size (Nat.le_refl _) hn hnc h hn2)
  have HE := Lib.hid fun (w' : World) (hb : Below w.heap.size w w') => spec_validKeys A' m c' ys w' w.heap.size hb.size hm hmc (h'.below hb (Nat.le_refl _)) hm2
  have HD := Lib.hid fun (w' : World) (hb : Below w.heap.size w w') => spec_patch A A' n c m c' xs ys w' hn hm ((h.below hb (Nat.le_refl _)).more hb.size) ((h'.below hb (Nat.le_refl _)).more hb.size) (by omega) (by omega)
  have hpl := patchK_len xs ys
  unfold patchF
  generalize patchK xs ys = F at *
  obtain ⟨l, hl⟩ : ∃ l : Nat, l = F.length := ⟨_, rfl⟩
  have hl1 : l ≤ 2097152 := by omega
  have HL := Lib.hid hl
  unfold bothK
  generalize validK xs = r at *
  generalize validK ys = s at *
  clear hn h hm h' hnc hmc hL hL2 hl hpl
  cases r
  · simp only [Bool.false_and, Bool.false_eq_true, if_false]
    go_enter Try.func22, Try.ntmps22
    go_wp2_with fail
    refine HC.out.mono ?_
    rintro e w1 ⟨rfl, hb⟩
    go_wp2
    go_ret
    exact ⟨_, rfl, World.ownsRow_nil _ _ _ _, hb⟩
  · cases s
    · simp only [Bool.and_false, Bool.false_eq_true, if_false]
      go_enter Try.func22, Try.ntmps22
      go_wp2_with fail
      refine HC.out.mono ?_
      rintro e w1 ⟨rfl, hb⟩
      go_wp2_with fail
      refine (HE.out _ hb).mono ?_
      rintro e w2 ⟨rfl, hb2⟩
      go_wp2
      go_ret
      exact ⟨_, rfl, World.ownsRow_nil _ _ _ _, (hb.trans (hb2.mono hb.size))⟩
    · simp only [Bool.and_self, if_true]
      go_enter Try.func22, Try.ntmps22
      go_wp2_with fail
      refine HC.out.mono ?_
      rintro e w1 ⟨rfl, hb⟩
      go_wp2_with fail
      refine (HE.out _ hb).mono ?_
      rintro e w2 ⟨rfl, hb2⟩
      have hb3 := hb.trans (hb2.mono hb.size)
      go_wp2_with fail
      refine (HD.out _ hb3).mono ?_
      rintro e w3 ⟨v, rfl, ho, hb4⟩
      go_wp2
      go_ret
      exact ⟨v, by simp, own_mono ho hb3.size, hb3.trans (hb4.mono hb3.size)⟩
end Go.Proofs.Ytlbomopjldhmeaa

namespace Go.Proofs.Ytlbomopjldhmeaa
set_option linter.unusedSimpArgs false
set_option linter.unusedVariables false
open Go.RowKit Go.Shelf
attribute [local go_sem] Oper.semAt_some
/-- What a round must keep: the cells of some blocks. -/
def KC (S : Nat → Prop) (W W' : World) : Prop := ∀ (p : Addr) (x : Value), S p.block → W.cell? p = some x → W'.cell? p = some x
theorem KC.refl (S : Nat → Prop) (W : World) : KC S W W := fun _ _ _ h => h
theorem KC.tr {S : Nat → Prop} {A B C : World} (h : KC S A B) (k : KC S B C) : KC S A C := fun p x hs hx => k p x hs (h p x hs hx)
theorem KC.put {S : Nat → Prop} (W : World) (l : Nat) (o o' : Obj) (h : W.heap[l]? = some o) (hc : o.isCells = false) : KC S W (W.putObj l o') :=
  fun p x _ hx => cell_kept hx (grownBy_putObj' W l o') (fun r e => by cases e; exact ⟨o, h, hc⟩)
theorem KC.put' {S : Nat → Prop} {w : World} (W : World) (l : Nat) (o o' : Obj) (_ : w.heap.size ≤ l) (h : W.heap[l]? = some o) (hc : o.isCells = false) (_ : o.isWalk = false) : KC S W (W.putObj l o') := KC.put W l o o' h hc
set_option maxRecDepth 100000 in
set_option maxHeartbeats 2000000 in
theorem back1C_in (F : Fence) (n : Nat) (h7 : F.fn 65) (hro : F.round = none) (hn : 1 ≤ n) (l Bs b off len cap : Nat) (zs : List Int) (hreach : len ≤ 2000000) (S : Nat → Prop) (hb : S b) (hbs : S Bs) (J Jx : List (Below' len) → World → Prop)
    (hY : ∀ pre x W, J pre W → pre.length < len → YieldAt F (n - 1) Try.prog l #[.int .i64 ((len - 1 - x.1 : Nat) : Int), .int .i64 (zs[len - 1 - x.1]?.getD 0)] W fun e W' =>
      (e = .returned (.bool true) ∧ J (pre ++ [x]) W' ∧ KC S W W') ∨ (e = .returned (.bool false) ∧ Jx (pre ++ [x]) W'))
    (W : World) (hBs : W.cell? ⟨Bs, 0, none⟩ = some (.slice (some ⟨b, off, none⟩) len cap)) (hc : ∀ j, j < len → W.cell? ⟨b, off + j, none⟩ = some (.int .i64 (zs[j]?.getD 0))) (h0 : J [] W) :
    CallsIn F n Try.prog 65 #[.func (.yield l) #[] #[], .pointer (some ⟨Bs, 0, none⟩)] W fun e W' => (∃ v, e = .returned v) ∧
      ((∃ ys, ys = sub len len ∧ J ys W') ∨ (∃ pre, (∃ k, k ≤ len ∧ pre = sub len k) ∧ Jx pre W')) := by
  refine callsIn_of_wp Try.func65 rfl h7 ?_ hro
  simp only [Try.ntmps65, List.size_toArray, List.length_cons, List.length_nil, Nat.reduceAdd, Nat.reduceSub, Array.replicate_succ, Array.replicate_zero, List.push_toArray, List.append_toArray, List.nil_append, List.cons_append]
  gi_wp2
  gi_loopw [3] (fun i wr => ∃ k : Nat, k ≤ len ∧ i = .int .i64 ((len : Int) - 1 - k) ∧ J (sub len k) wr ∧ KC S W wr)
    (fun i _ => (intOf i + 1).toNat)
  case atStart => exact ⟨0, Nat.zero_le _, by simp, h0, KC.refl _ _⟩
  case round =>
    obtain ⟨k, hk, rfl, hJs, hnx⟩ := hrel
    have hbx := hnx _ _ hbs hBs
    by_cases hlt : k < len
    · obtain ⟨q, hq⟩ : ∃ q : Nat, q = len - 1 - k := ⟨_, rfl⟩
      have hqi : (len : Int) - 1 - k = (q : Int) := by omega
      have hql : q < len := by omega
      have hcx := hnx ⟨b, off + q, none⟩ _ hb (hc q hql)
      obtain ⟨fn, tmps, assign, body, hy, hR⟩ := hY _ ⟨k, hlt⟩ wr hJs (by rw [sub_length _ _ hk]; exact hlt)
      dsimp only at hy
      rw [← hq] at hy
      have hst := sub_succ len k hlt
      have HST := Lib.hid hst
      have HQ := Lib.hid hqi
      rw [hqi]
      clear hst hq hqi
      gi_wp2
      refine hR.mono ?_
      rintro e W3 (⟨rfl, hJ3, hk3⟩ | ⟨rfl, hJx3⟩)
      · gi_wp2
        go_roundw
        case rel => exact ⟨k + 1, by omega, by have := HQ.out; go_num, by rw [HST.out]; exact hJ3, hnx.tr hk3⟩
        case measure => have := HQ.out; simp [intOf]
      · gi_wp2
        refine bodyPost_ret (results_none rfl _ _ _) rfl ?_
        exact ⟨⟨_, rfl⟩, .inr ⟨_, ⟨k + 1, by omega, HST.out.symm⟩, hJx3⟩⟩
    · obtain rfl : k = len := by omega
      have hneg : decide ((0 : Int) ≤ (k : Int) - 1 - k) = false := decide_eq_false (by omega)
      gi_wp2
      go_end0
      exact ⟨⟨_, rfl⟩, .inl ⟨_, rfl, hJs⟩⟩
theorem backC_stops (F : Fence) (n : Nat) (h7 : F.fn 65) (hro : F.round = none) (hn : 1 ≤ n) (Bs : Nat) (S : Nat → Prop) (hbs : S Bs) (A : Option Addr) (len cap : Nat) (zs : List Int) (hl : len = zs.length) (hreach : len ≤ 2000000) (w : World) (hBs : Bs < w.heap.size) 
    (hc : w.cell? ⟨Bs, 0, none⟩ = some (.slice A len cap)) (hI : IS w w.heap.size A zs) (hA : ∀ b off, A = some ⟨b, off, none⟩ → S b) :
    SeqStopsK F n Try.prog 65 #[.pointer (some ⟨Bs, 0, none⟩)] (fun x : Below' len => #[Value.int .i64 ((len - 1 - x.1 : Nat) : Int), Value.int .i64 (zs[len - 1 - x.1]?.getD 0)]) (KC S) (fun ys => ys = sub len len)
      (fun pre => ∃ k, k ≤ len ∧ pre = sub len k) len w := fun l J Jx W hW _ _ hY h0 => by
  have hc' := (hW.cell (p := ⟨Bs, 0, none⟩) hBs).trans hc
  rcases Nat.eq_zero_or_pos len with rfl | hpos
  · exact (back1_nil_in F n h7 hro l Bs A cap J W hc' h0).mono fun e W' ⟨he, hj⟩ => ⟨he, .inl ⟨_, rfl, hj⟩⟩
  · obtain ⟨b, off, rfl, hb, hcs⟩ := hI (by omega)
    refine (back1C_in F n h7 hro hn l Bs b off len cap zs hreach S (hA b off rfl) hbs J Jx hY W hc' (fun j hj => ?_) h0).mono ?_
    · have := (hW.cell (p := ⟨b, off + j, none⟩) (by show b < w.heap.size; exact hb)).trans (hcs j (by omega))
      simpa [List.getD] using this
    · rintro e W' ⟨he, ⟨ys, rfl, hj⟩ | ⟨pre, ⟨k, hk, rfl⟩, hj⟩⟩
      · exact ⟨he, .inl ⟨_, rfl, hj⟩⟩
      · exact ⟨he, .inr ⟨_, ⟨k, hk, rfl⟩, hj⟩⟩
end Go.Proofs.Ytlbomopjldhmeaa

namespace Go.Proofs.Ytlbomopjldhmeaa
set_option linter.unusedSimpArgs false
set_option linter.unusedVariables false
open Go.RowKit Go.Shelf
attribute [local go_sem] Oper.semAt_some
theorem OwK.keptC {lo hi n b k : Nat} {v u : Value} {xs F : List Value} {w w' : World} (h : OwK lo hi v n xs w) (hu : w.ownsRow b 44 3 u k F) (hg : w.grownBy w' u.ownBlock) : OwK lo hi v n xs w' := by
  refine ⟨h.1, ?_⟩
  rcases h.2 with hn | ⟨g, c, m, c', ys, rfl, hc, ho, hgh, hm, ht⟩
  · exact .inl hn
  · exact .inr ⟨g, c, m, c', ys, rfl, hc, World.ownsRow.kept ho hg (blocks_ne ho hu (by decide)), hgh, hm, ht⟩
theorem OwK.keptB {lo hi n B : Nat} {v x y : Value} {xs : List Value} {w : World} (h : OwK lo hi v n xs w) (hb : Boxed w B 28 x) : OwK lo hi v n xs (w.setCell ⟨B, 0, none⟩ y) := by
  refine ⟨h.1, ?_⟩
  rcases h.2 with hn | ⟨g, c, m, c', ys, rfl, hc, ho, hgh, hm, ht⟩
  · exact .inl hn
  · exact .inr ⟨g, c, m, c', ys, rfl, hc, World.ownsRow.kept ho (grownBy_setCell' w B y) (.inr (hb.not_row (by decide) ho).symm), hgh, hm, ht⟩
/-- What turned from W to the world behind an append to the boxed list at bx whose row lies at or beyond lo: the box, the row, new blocks. -/
structure AppT (bx lo : Nat) (W W' : World) : Prop where
  os : W'.os = W.os
  tape : W'.tape = W.tape
  output : W'.output = W.output
  size : W.heap.size ≤ W'.heap.size
  block : ∀ k, k < W.heap.size → k ≠ bx → k < lo → W'.heap[k]? = W.heap[k]?
  other : ∀ (k : Nat) (o : Obj), W.heap[k]? = some o → o.isCells = false → W'.heap[k]? = some o
theorem box_append {W w1 : World} {bx lo : Nat} {v v' : Value} {k : Nat} {m : Nat} {xs ys : List Value} {tmp : Obj} (hv : Boxed W bx 28 v) (hrow : W.ownsRow lo 44 3 v k xs) (hown' : w1.ownsRow lo 44 3 v' m ys) (hgrow : (W.alloc tmp).grownBy w1 v.ownBlock) :
    Boxed w1 bx 28 v ∧ Boxed (w1.setCell ⟨bx, 0, none⟩ v') bx 28 v' ∧ (w1.setCell ⟨bx, 0, none⟩ v').ownsRow lo 44 3 v' m ys ∧ AppT bx lo W (w1.setCell ⟨bx, 0, none⟩ v') := by
  have hv1 : Boxed w1 bx 28 v := (hv.alloc tmp).kept hgrow (hv.not_row (by decide) hrow)
  have hs := grownBy_setCell' w1 bx v'
  have hne : ∀ k, some k = v.ownBlock → lo ≤ k := fun k e => (World.ownsRow.lt hrow k e.symm).1
  refine ⟨hv1, hv1.set v', hown'.kept hs (.inr (hv1.not_row (by decide) hown').symm), ⟨hs.os.trans hgrow.os, hs.tape.trans hgrow.tape, hs.output.trans hgrow.output, ?_, ?_, ?_⟩⟩
  · have h1 := hgrow.size
    have h2 := hs.size
    simp at h1
    omega
  · intro q hq hb hl
    have h1 : w1.heap[q]? = (W.alloc tmp).heap[q]? := hgrow.block q (by simp; omega) fun e => by have := hne q e; omega
    have h0 := Below.heap_alloc W tmp q hq
    have hw1 : q < w1.heap.size := by have := hgrow.size; simp at this; omega
    exact (hs.block q hw1 fun e => hb (by cases e; rfl)).trans (h1.trans h0)
  · intro q o ho hc
    have hq : q < W.heap.size := (Array.getElem?_eq_some_iff.1 ho).1
    have h0 := Below.heap_alloc W tmp q hq
    have h1 : w1.heap[q]? = (W.alloc tmp).heap[q]? := hgrow.block q (by simp; omega) fun e => by
      rcases hrow.2 with ⟨rfl, _⟩ | ⟨g, cap, cur, rfl, _, hg, _⟩
      · simp [Value.ownBlock] at e
      · simp [Value.ownBlock] at e
        subst e
        rw [hg] at ho; cases ho; cases hc
    have hw1 : q < w1.heap.size := by have := hgrow.size; simp at this; omega
    refine (hs.block q hw1 fun e => ?_).trans (h1.trans (h0.trans ho))
    cases e
    have := hv
    unfold Boxed at this
    rw [this] at ho; cases ho; cases hc
theorem AppT.below {bx lo B : Nat} {W W' w : World} (h : AppT bx lo W W') (hb : Below B w W) (h1 : B ≤ bx) (h2 : B ≤ lo) (h3 : B ≤ W.heap.size) : Below B w W' :=
  hb.trans ⟨h.os, h.tape, h.output, h.size, fun k hk => h.block k (by omega) (by omega) (by omega)⟩
theorem AppT.keeps {bx lo : Nat} {W W' : World} (h : AppT bx lo W W') : KeepsOthers W W' := ⟨h.size, h.other⟩
theorem AppT.kc {bx lo : Nat} {W W' : World} (h : AppT bx lo W W') : KC (fun k => bx < k ∧ k < lo) W W' := fun p x hs hx => by
  have hl := World.block_lt_of_cell? W _ hx
  exact (World.cell?_of_block (h.block p.block hl (by omega) (by omega))).trans hx
theorem own_snocC {w : World} {lo : Nat} {v : Value} {F : List Ac} {p : Ac} (h : w.ownsRow lo 44 3 v (F.length + 1) (F.flatMap Ac.cells ++ p.cells)) : w.ownsRow lo 44 3 v (F ++ [p]).length ((F ++ [p]).flatMap Ac.cells) := by
  rw [List.length_append, List.flatMap_append]
  simpa using h
theorem own_castC {w : World} {lo : Nat} {v : Value} {F F' : List Ac} (h : w.ownsRow lo 44 3 v F.length (F.flatMap Ac.cells)) (e : F = F') : w.ownsRow lo 44 3 v F'.length (F'.flatMap Ac.cells) := by subst e; exact h
/-- The changes of the rounds. -/
def rmv (G : List Int) (l : Nat) (pre : List (Below' l)) : List Ac := pre.map fun x => ⟨0, G[l - 1 - x.1]?.getD 0, -1⟩
theorem rmv_all (G : List Int) (l : Nat) (hl : l = G.length) : rmv G l (sub l l) = pt1 G l := by
  unfold rmv pt1
  rw [← sub_val l l (Nat.le_refl _), List.map_map, ← hl]
  rfl
theorem rmv_len (G : List Int) (l : Nat) (pre : List (Below' l)) : (rmv G l pre).length = pre.length := by simp [rmv]
set_option maxRecDepth 100000 in
set_option maxHeartbeats 6400000 in
theorem impl_PatchOf (A A' : Option Addr) (n c m c' : Nat) (xs ys : List Int) (w : World) (hn : n = xs.length) (hnc : n ≤ c) (hm : m = ys.length) (hmc : m ≤ c') (h : IS w w.heap.size A xs) (h' : IS w w.heap.size A' ys) (hs : n ≤ 1048576) (hs' : m ≤ 1048576) :
    Calls Try.prog 20 #[.slice A n c, .slice A' m c'] w fun e w' => RetC w (patchF xs ys) e w' := by
  obtain ⟨i1, hi1, hy0, hy1, hy2⟩ := info_parts info_chg
  have HC := Lib.hid (impl_areBothKeys A A' n c m c' xs ys w w.heap.size (Nat.le_refl _) hn hnc hm hmc h h' (by omega) (by omega))
  have HKN := Lib.hid fun (w' : World) (hb : Below w.heap.size w w') => impl_keysNotIn A A' n c m c' xs ys w' w.heap.size hb.size hn hm (h.below hb (Nat.le_refl _)) (h'.below hb (Nat.le_refl _)) (by omega) (by omega)
  have HST := Lib.hid fun (w' : World) (hb : Below w.heap.size w w') => impl_StaysOf A A' n c m c' xs ys w' hn hnc hm hmc ((h.below hb (Nat.le_refl _)).more hb.size) ((h'.below hb (Nat.le_refl _)).more hb.size) (by omega) (by omega)
  have hpf : patchF xs ys = if bothK xs ys then pt1 (notK xs ys) (notK xs ys).length ++ pt2 xs (staysF xs ys) ys ys.length else [] := by
    unfold patchF patchK staysF
    cases bothK xs ys <;> rfl
  have hgl := notK_len xs ys
  have hsl := staysF_len xs ys
  rw [hpf]
  generalize notK xs ys = G at *
  generalize staysF xs ys = S at *
  generalize bothK xs ys = r at *
  obtain ⟨l, hl⟩ : ∃ l : Nat, l = G.length := ⟨_, rfl⟩
  obtain ⟨ls, hls⟩ : ∃ ls : Nat, ls = S.length := ⟨_, rfl⟩
  have hl1 : l ≤ 1048576 := by omega
  have hls1 : ls ≤ 10 := by omega
  rw [← hl, ← hm]
  have HL := Lib.hid hl
  have HLS := Lib.hid hls
  have H := Lib.hid h
  have HN := Lib.hid hn
  have H' := Lib.hid h'
  have HM := Lib.hid hm
  clear hn h hm h' hl hls hgl hsl hpf hnc hmc
  cases r
  · simp only [Bool.false_eq_true, if_false]
    go_enter Try.func20, Try.ntmps20
    go_wp2_with fail
    refine HC.out.mono ?_
    rintro e w1 ⟨rfl, hb⟩
    go_wp2
    go_ret
    exact ⟨_, rfl, World.ownsRow_nil _ _ _ _, hb⟩
  simp only [if_true]
  refine (callsIn_wide (n := 5)).1 ?_
  refine callsIn_of_wp_marks Try.func20 rfl trivial ?_ rfl
  simp only [Try.ntmps20, List.size_toArray, List.length_cons, List.length_nil, Nat.reduceAdd, Nat.reduceSub, Array.replicate_succ, Array.replicate_zero, List.push_toArray, List.append_toArray, List.nil_append, List.cons_append]
  gi_wp2_with fail
  refine ⟨trivial, ?_⟩
  gi_at_call 44
  refine (callsIn_wide.2 HC.out).mono ?_
  rintro e w1 ⟨rfl, hb1⟩
  gi_wp2_with fail
  refine ⟨trivial, ?_⟩
  gi_at_call 46
  refine (callsIn_wide.2 (HKN.out _ (hb1.alloc hb1.size _))).mono ?_
  rintro e w2 ⟨gv, rfl, ho2, hb2⟩
  obtain ⟨A2, c2, rfl, hi2, _, hlt2⟩ := ho2.form' l HL.out
  have hl2 : w1.heap.size < w2.heap.size := by have := hb2.size; simp at this; omega
  have hbx2 : Boxed w2 w1.heap.size 28 (.slice none 0 0) := (hb2.block w1.heap.size (by simp)).trans (Boxed.new w1 28 (.slice none 0 0))
  have hB2 : Below w.heap.size w w2 := (hb1.alloc hb1.size _).trans (hb2.mono (by have := hb1.size; simp; omega))
  have hA2 : ∀ b off, A2 = some ⟨b, off, none⟩ → w1.heap.size < b ∧ b < w2.heap.size := by
    rintro b off rfl
    have := hlt2 b rfl
    simp at this
    omega
  have HI2 := Lib.hid hi2
  have HBX2 := Lib.hid hbx2
  have HB2 := Lib.hid hB2
  have HA2 := Lib.hid hA2
  have hw1 := hb1.size
  clear ho2 hb2 hi2 hbx2 hB2 hA2 hlt2 HKN HC
  gi_wp2_with fail
  refine ⟨trivial, ?_⟩
  gi_at_call 45
  refine (callsIn_wide.2 (backward_at A2 l c2 _)).mono ?_
  rintro e w' ⟨rfl, rfl⟩
  have hbs : (w2.alloc (.cells #[.slice A2 l c2] 22)).cell? ⟨w2.heap.size, 0, none⟩ = some (.slice A2 l c2) := by go_simp
  have hsz3 : (w2.alloc (.cells #[.slice A2 l c2] 22)).heap.size = w2.heap.size + 1 := by simp
  have hI3 : IS (w2.alloc (.cells #[.slice A2 l c2] 22)) (w2.alloc (.cells #[.slice A2 l c2] 22)).heap.size A2 G := (HI2.out.alloc (Nat.le_refl _) _).more (by simp)
  have hbx3 : Boxed (w2.alloc (.cells #[.slice A2 l c2] 22)) w1.heap.size 28 (.slice none 0 0) := HBX2.out.alloc _
  have hB3 : Below w.heap.size w (w2.alloc (.cells #[.slice A2 l c2] 22)) := HB2.out.alloc HB2.out.size _
  generalize w2.alloc (.cells #[.slice A2 l c2] 22) = w3 at *
  have HB3 := Lib.hid hB3
  have HSZ3 := Lib.hid hsz3
  have hle3 : w1.heap.size < w3.heap.size := by omega
  have hlw3 : w.heap.size ≤ w3.heap.size := by omega
  have hlt3 : w2.heap.size < w3.heap.size := by omega
  clear hB3 hsz3
  gi_wp2
  refine wpIn_rangeFunc_ownG rfl (by omega) (gf := 65) (lb := #[.pointer (some ⟨w2.heap.size, 0, none⟩)]) rfl trivial (enters_of Try.func65 (by kernel_rfl) rfl)
    (backC_stops Fence.wide _ trivial rfl (by omega) w2.heap.size (fun k => w1.heap.size < k ∧ k < w3.heap.size) (by omega) A2 l c2 G HL.out (by omega) w3 (by omega) hbs hI3 (fun b off e => by have := HA2.out b off e; omega)) KC.tr KC.put' (Below.refl _ _) (fun _ => rfl)
    (fun pre W => (∃ v, Boxed W w1.heap.size 28 v ∧ W.ownsRow w3.heap.size 44 3 v (rmv G l pre).length ((rmv G l pre).flatMap Ac.cells) ∧ w3.heap.size ≤ W.heap.size) ∧ Below w.heap.size w W)
    (fun _ _ _ => False)
    (fun s X Y row hs hg hr => ⟨by
      obtain ⟨v, hv, ho, hsz⟩ := hs.1
      obtain ⟨v', hv', ho', _⟩ := holdsRow_own w3.heap.size w1.heap.size 28 44 3 (fun pre => (rmv G l pre).length) (fun pre => (rmv G l pre).flatMap Ac.cells) (fun _ _ => True) s X Y row ⟨v, hv, ho, trivial⟩ hg fun r e => (hr r e).2
      exact ⟨v', hv', ho', Nat.le_trans hsz hg.size⟩, hs.2.grown hg hs.2.size fun k e => Nat.le_trans hlw3 (hr k e).1⟩)
    (fun _ _ _ _ _ hs _ _ => hs)
    ⟨⟨_, hbx3, World.ownsRow_nil _ _ _ _, Nat.le_refl _⟩, HB3.out⟩
    (fun x => { tmps := #[.slice A n c, .slice A' m c', undef, undef, .slice none 0 0, .pointer (some ⟨w1.heap.size, 0, none⟩), undef, .int .i64 (G[l - 1 - x.1]?.getD 0), undef, undef, undef, undef, .slice A n c, .slice A' m c', .bool true, .bool false, .slice A n c, .slice A' m c', .slice A2 l c2, .func (.func 65) #[] #[.pointer (some ⟨w2.heap.size, 0, none⟩)], .int .i64 ((l - 1 - x.1 : Nat) : Int), .int .i64 (G[l - 1 - x.1]?.getD 0), undef, undef, undef, undef, undef, undef, undef, undef, undef, undef, undef, undef, undef, undef, undef, undef, undef, undef, undef, undef, undef, undef, undef, undef, undef, undef, undef, undef, undef, undef, undef, undef, undef, undef, undef, undef, undef], defers := [] }) ?assign ?body ?done ?stop
  case assign =>
    intro l0 x W K hK
    gi_wp2
    exact hK
  case body =>
    rintro l0 pre ⟨q, hq⟩ W ⟨⟨v, hv, hr, hwl⟩, hB⟩ hlen
    dsimp only
    have hrl : (rmv G l pre).length ≤ 1048576 := by rw [rmv_len]; omega
    have hsn : rmv G l (pre ++ [(⟨q, hq⟩ : Below' l)]) = rmv G l pre ++ [⟨0, G[l - 1 - q]?.getD 0, -1⟩] := by simp [rmv]
    have HSN := Lib.hid hsn
    generalize rmv G l pre = F at *
    generalize G[l - 1 - q]?.getD 0 = x at *
    have HFL := Lib.hid hrl
    have HV := Lib.hid hv
    have HR := Lib.hid hr
    have HB := Lib.hid hB
    have hc0 := hv.cell
    have hf0 := hv.frozen
    clear hsn hrl hv hr hB
    gi_wp2_with (gi_at_builtin; refine wpListIn_append_own _ rfl _ _ 28 rfl w3.heap.size 44 i1 _ 3 24 Try.underlying28 hi1 hy0 hy1 hy2 rfl (by decide) _ _ _ rfl (HR.out.alloc _) ⟨_, 0, none⟩ 1 1 (Ac.cells ⟨0, x, -1⟩) rfl rfl (acells_new _ _ _ _ rfl) ?d2 ?d3 ?d4 ?d5 ?_)
    case d2 => intro u hu; simp [Ac.cells] at hu; rcases hu with rfl | rfl | rfl <;> rfl
    case d3 => have := HFL.out; unfold maxLen; omega
    case d4 => have := HFL.out; omega
    case d5 => first | omega | (simp; omega)
    intro v' w7 hown' hgrow _
    obtain ⟨g', cap', rfl⟩ := ownsRow_succ hown'
    obtain ⟨hv1, hv2, hr2, hst⟩ := box_append (tmp := .cells #[.int .i64 (0), .int .i64 (x), .int .i64 (-1)] 44) HV.out HR.out hown' hgrow
    have hc1 := hv1.cell
    have hf1 := hv1.frozen
    have HV2 := Lib.hid hv2
    have HR2 := Lib.hid hr2
    have HT2 := Lib.hid hst
    clear hown' hgrow hv1 hv2 hr2 hst
    gi_wp2
    refine ⟨HT2.out.keeps.from _, HT2.out.kc, ⟨⟨_, HV2.out, ?_, Nat.le_trans hwl HT2.out.size⟩, HT2.out.below HB.out (by omega) hlw3 HB.out.size⟩⟩
    show World.ownsRow _ w3.heap.size 44 3 _ (rmv G l (pre ++ [(⟨q, hq⟩ : Below' l)])).length ((rmv G l (pre ++ [(⟨q, hq⟩ : Below' l)])).flatMap Ac.cells)
    rw [HSN.out, List.length_append, List.flatMap_append]
    simpa using HR2.out
  case done =>
    rintro D zs W hD rfl ⟨⟨v, hv, hr, hwl⟩, hB⟩ hK
    rw [rmv_all G l HL.out] at hr
    obtain ⟨bx, hbxe⟩ : ∃ bx, bx = w1.heap.size := ⟨_, rfl⟩
    have hDl : D < W.heap.size := (Array.getElem?_eq_some_iff.1 hK).1
    have HV0 := Lib.hid hv
    have HR0 := Lib.hid hr
    have HB0 := Lib.hid hB
    have HD0 := Lib.hid hK
    have hbxl : w1.heap.size < W.heap.size := hv.lt
    clear hv hr hB hK hbxe
    gi_wp2_with fail
    refine ⟨trivial, ?_⟩
    gi_at_call 47
    refine (callsIn_wide.2 (HST.out _ HB0.out)).mono ?_
    rintro e w5 ⟨v5, rfl, ho5, hb5⟩
    rw [← HLS.out] at ho5
    obtain ⟨A5, c5, rfl⟩ := ho5.form
    have HV5 : Hid (Boxed w5 w1.heap.size 28 v) := (hb5.block _ hbxl).trans HV0.out
    have HR5 : Hid (w5.ownsRow w3.heap.size 44 3 v (pt1 G l).length ((pt1 G l).flatMap Ac.cells)) := own_below HR0.out hb5
    have HB5 := Lib.hid (HB0.out.trans (hb5.mono HB0.out.size))
    have HD5 : Hid (w5.heap[D]? = some (.deferred (some []))) := (hb5.block _ hDl).trans HD0.out
    have HKK := Lib.hid ho5
    have HP0 : Hid (prevK ys 0 = -1) := rfl
    have hw5 : W.heap.size ≤ w5.heap.size := hb5.size
    clear ho5 hb5 HV0 HR0 HB0 HD0 HST
    gi_wp2
    gi_loopw [9, 32] (fun a i wr => ∃ r : Nat, r ≤ m ∧ i = .int .i64 r ∧ a = .int .i64 (prevK ys r) ∧ Hid (∃ v, Boxed wr w1.heap.size 28 v ∧ wr.ownsRow w3.heap.size 44 3 v (pt1 G l ++ pt2 xs S ys r).length ((pt1 G l ++ pt2 xs S ys r).flatMap Ac.cells)) ∧ Hid (OwK W.heap.size w5.heap.size (.slice A5 ls c5) ls (S.map (Value.int .i64)) wr) ∧ Hid (Below w.heap.size w wr) ∧ Hid (wr.heap[D]? = some (.deferred (some []))) ∧ w5.heap.size ≤ wr.heap.size) (fun _ i _ => m - (intOf i).toNat)
    case atStart => exact ⟨0, Nat.zero_le _, rfl, by rw [HP0.out], ⟨v, HV5.out, by simpa [pt2] using HR5.out⟩, HKK.out, HB5.out, HD5.out, Nat.le_refl _⟩
    case round =>
      obtain ⟨r, hr, rfl, rfl, HH, HK5, HB, HD, hw5r⟩ := hrel
      obtain ⟨v, hv, hrow⟩ := HH.out
      have HV := Lib.hid hv
      have HR := Lib.hid hrow
      have hc0 := hv.cell
      have hf0 := hv.frozen
      clear HH hv hrow
      by_cases hrm : r < m
      · have hrx : r < ys.length := by have := HM.out; omega
        obtain ⟨b, off, rfl, hbB, hc⟩ := (H'.out.below HB.out (Nat.le_refl _)) (by omega)
        have k0 := hc r hrx
        have HPX := Lib.hid (slices_Contains A n c xs (ys.getD r 0) wr w.heap.size HB.out.size HN.out (H.out.below HB.out (Nat.le_refl _)) (by omega))
        have HPS := Lib.hid (slices_Contains A5 ls c5 S (ys.getD r 0) wr w5.heap.size hw5r HLS.out HK5.out.ints (by omega))
        have HNW := Lib.hid (pt2_new xs S ys r)
        have HMV := Lib.hid (pt2_move xs S ys r)
        have HSY := Lib.hid (pt2_stay xs S ys r)
        have HPV : Hid (prevK ys (r + 1) = ys.getD r 0) := rfl
        have hfl : (pt1 G l ++ pt2 xs S ys r).length ≤ 2097152 := by
          have := pt2_len xs S ys r
          have := pt1_len G l
          rw [List.length_append]; omega
        have HFL := Lib.hid hfl
        generalize prevK ys r = at_ at *
        generalize ys.getD r 0 = x at *
        clear hc hfl
        by_cases hx : x ∈ xs
        · rw [decide_eq_true hx] at HPX
          by_cases hx2 : x ∈ S
          · rw [decide_eq_true hx2] at HPS
            have HS2 := Lib.hid (HSY.out hx hx2)
            clear hx hx2 HNW HMV HSY
            gi_wp2_with fail
            refine ⟨trivial, ?_⟩
            gi_at_call 48
            refine (callsIn_wide.2 HPX.out).mono ?_
            rintro e w6 ⟨rfl, rfl⟩
            gi_wp2_with fail
            refine ⟨trivial, ?_⟩
            gi_at_call 48
            refine (callsIn_wide.2 HPS.out).mono ?_
            rintro e w6 ⟨rfl, rfl⟩
            gi_wp2
            go_roundw
            case rel => exact ⟨r + 1, by omega, by go_num, by rw [HPV.out], ⟨v, HV.out, by rw [HS2.out]; exact HR.out⟩, HK5.out, HB.out, HD.out, hw5r⟩
            case measure => simp [intOf]; omega
          · rw [decide_eq_false hx2] at HPS
            have HS2 := Lib.hid (HMV.out hx hx2)
            have HS3 : Hid (pt1 G l ++ pt2 xs S ys (r + 1) = (pt1 G l ++ pt2 xs S ys r) ++ [⟨2, x, at_⟩]) := by rw [HS2.out, List.append_assoc]; exact Lib.hid rfl
            clear HS2
            generalize pt1 G l ++ pt2 xs S ys r = F at *
            clear hx hx2 HNW HMV HSY
            gi_wp2_with fail
            refine ⟨trivial, ?_⟩
            gi_at_call 48
            refine (callsIn_wide.2 HPX.out).mono ?_
            rintro e w6 ⟨rfl, rfl⟩
            gi_wp2_with fail
            refine ⟨trivial, ?_⟩
            gi_at_call 48
            refine (callsIn_wide.2 HPS.out).mono ?_
            rintro e w6 ⟨rfl, rfl⟩
            gi_wp2_with (gi_at_builtin; refine wpListIn_append_own _ rfl _ _ 28 rfl w3.heap.size 44 i1 _ 3 24 Try.underlying28 hi1 hy0 hy1 hy2 rfl (by decide) _ _ _ rfl (HR.out.alloc _) ⟨_, 0, none⟩ 1 1 (Ac.cells ⟨2, x, at_⟩) rfl rfl (acells_new _ _ _ _ rfl) ?e2 ?e3 ?e4 ?e5 ?_)
            case e2 => intro u hu; simp [Ac.cells] at hu; rcases hu with rfl | rfl | rfl <;> rfl
            case e3 => have := HFL.out; unfold maxLen; omega
            case e4 => have := HFL.out; omega
            case e5 => first | omega | (simp; omega)
            intro v' w7 hown' hgrow _
            obtain ⟨g', cap', rfl⟩ := ownsRow_succ hown'
            obtain ⟨hv1, hv2, hr2, hst⟩ := box_append (tmp := .cells #[.int .i64 (2), .int .i64 (x), .int .i64 (at_)] 44) HV.out HR.out hown' hgrow
            have hc1 := hv1.cell
            have hf1 := hv1.frozen
            have HV2 := Lib.hid hv2
            have HR2 := Lib.hid (own_castC (own_snocC hr2) HS3.out.symm)
            have HT2 := Lib.hid hst
            have HK2 := Lib.hid (((HK5.out.alloc hw5r _).keptC (World.ownsRow.alloc HR.out _) hgrow).keptB (y := (.slice (some ⟨g', 0, none⟩) (F.length + 1) cap')) hv1)
            clear hown' hgrow hv1 hv2 hr2 hst
            gi_wp2
            go_roundw
            case rel => exact ⟨r + 1, by omega, by go_num, by rw [HPV.out], ⟨_, HV2.out, HR2.out⟩, HK2.out, HT2.out.below HB.out (by omega) hlw3 HB.out.size, HT2.out.other D _ HD.out rfl, Nat.le_trans hw5r HT2.out.size⟩
            case measure => simp [intOf]; omega
        · rw [decide_eq_false hx] at HPX
          have HS2 := Lib.hid (HNW.out hx)
          have HS3 : Hid (pt1 G l ++ pt2 xs S ys (r + 1) = (pt1 G l ++ pt2 xs S ys r) ++ [⟨1, x, at_⟩]) := by rw [HS2.out, List.append_assoc]; exact Lib.hid rfl
          clear HS2
          generalize pt1 G l ++ pt2 xs S ys r = F at *
          clear hx HNW HMV HSY HPS
          gi_wp2_with fail
          refine ⟨trivial, ?_⟩
          gi_at_call 48
          refine (callsIn_wide.2 HPX.out).mono ?_
          rintro e w6 ⟨rfl, rfl⟩
          gi_wp2_with (gi_at_builtin; refine wpListIn_append_own _ rfl _ _ 28 rfl w3.heap.size 44 i1 _ 3 24 Try.underlying28 hi1 hy0 hy1 hy2 rfl (by decide) _ _ _ rfl (HR.out.alloc _) ⟨_, 0, none⟩ 1 1 (Ac.cells ⟨1, x, at_⟩) rfl rfl (acells_new _ _ _ _ rfl) ?f2 ?f3 ?f4 ?f5 ?_)
          case f2 => intro u hu; simp [Ac.cells] at hu; rcases hu with rfl | rfl | rfl <;> rfl
          case f3 => have := HFL.out; unfold maxLen; omega
          case f4 => have := HFL.out; omega
          case f5 => first | omega | (simp; omega)
          intro v' w7 hown' hgrow _
          obtain ⟨g', cap', rfl⟩ := ownsRow_succ hown'
          obtain ⟨hv1, hv2, hr2, hst⟩ := box_append (tmp := .cells #[.int .i64 (1), .int .i64 (x), .int .i64 (at_)] 44) HV.out HR.out hown' hgrow
          have hc1 := hv1.cell
          have hf1 := hv1.frozen
          have HV2 := Lib.hid hv2
          have HR2 := Lib.hid (own_castC (own_snocC hr2) HS3.out.symm)
          have HT2 := Lib.hid hst
          have HK2 := Lib.hid (((HK5.out.alloc hw5r _).keptC (World.ownsRow.alloc HR.out _) hgrow).keptB (y := (.slice (some ⟨g', 0, none⟩) (F.length + 1) cap')) hv1)
          clear hown' hgrow hv1 hv2 hr2 hst
          gi_wp2
          go_roundw
          case rel => exact ⟨r + 1, by omega, by go_num, by rw [HPV.out], ⟨_, HV2.out, HR2.out⟩, HK2.out, HT2.out.below HB.out (by omega) hlw3 HB.out.size, HT2.out.other D _ HD.out rfl, Nat.le_trans hw5r HT2.out.size⟩
          case measure => simp [intOf]; omega
      · obtain rfl : r = m := by omega
        gi_wp2
        refine ⟨by simp, .inl ⟨_, _, rfl, run_takeDeferred HD.out, ?_⟩⟩
        refine ⟨_, results_tmp rfl _ _ _, _, rfl, ?_, HB.out.trans (belowK_b (w := w) (Nat.le_refl _) wr D _ _ (by omega) HD.out rfl rfl)⟩
        exact own_mono (ownsRow_putObj HR.out _ HD.out rfl) hlw3
  case stop =>
    rintro D c pre W _ _ h _
    exact h.elim
end Go.Proofs.Ytlbomopjldhmeaa

namespace Go.Proofs.Ytlbomopjldhmeaa
set_option linter.unusedSimpArgs false
set_option linter.unusedVariables false
open Go.RowKit
theorem top_impl_PatchOf (xs ys : List Int) (hL : xs.length ≤ 1048576) (hL2 : ys.length ≤ 1048576) : ∀ (A : Option Addr) (n c : Nat) (A' : Option Addr) (m c' : Nat) (w : World), n = xs.length → n ≤ c → IS w w.heap.size A xs → m = ys.length → m ≤ c' → IS w w.heap.size A' ys →
    Calls Try.prog 20 #[.slice A n c, .slice A' m c'] w fun e w' => RetC w (patchF xs ys) e w' :=
  fun A n c A' m c' w hn hnc h hm hmc h' => impl_PatchOf A A' n c m c' xs ys w hn hnc hm hmc h h' (by omega) (by omega)
end Go.Proofs.Ytlbomopjldhmeaa

namespace Go.Proofs.Ytlbomopjldhmeaa
set_option linter.unusedSimpArgs false
set_option linter.unusedVariables false
open Go.RowKit
set_option maxRecDepth 100000 in
set_option maxHeartbeats 1600000 in
theorem laws_equalChanges (A A' : Option Addr) (n c c' : Nat) (ps : List Ac) (w : World) (B : Nat) (hB : B ≤ w.heap.size) (hn : n = ps.length) (h : CS w B A ps) (h' : CS w B A' ps) (hs : n ≤ 2000000) :
    Calls Try.prog 21 #[.slice A n c, .slice A' n c'] w fun e w' => e = .returned (.bool true) ∧ Below w.heap.size w w' := by
  have hne : ((n : Int) != (n : Int)) = false := by simp
  have HN := Lib.hid hn
  have H := Lib.hid h
  have H' := Lib.hid h'
  clear hn h h'
  go_enter Try.func21, Try.ntmps21
  go_wp2
  go_loopw [5] (fun i wr => ∃ k : Nat, k ≤ n ∧ i = .int .i64 k ∧ Hid (Below w.heap.size w wr)) (fun i _ => n - (intOf i).toNat)
  case atStart => exact ⟨0, Nat.zero_le _, rfl, Below.refl _ _⟩
  case round =>
    obtain ⟨k, hk, rfl, hb⟩ := hrel
    by_cases hlt : k < n
    · obtain ⟨b, off, rfl, hbB, hc⟩ := H.out (by have := HN.out; omega)
      obtain ⟨b', off', rfl, hbB', hc'⟩ := H'.out (by have := HN.out; omega)
      obtain ⟨c0, c1, c2⟩ := hc k (by have := HN.out; omega)
      obtain ⟨d0, d1, d2⟩ := hc' k (by have := HN.out; omega)
      clear hc hc' H H'
      have b0 := (hb.out.cell (p := ⟨b, off + k * 3, none⟩) (by simp; omega)).trans c0
      have b1 := (hb.out.cell (p := ⟨b, off + k * 3 + 1, none⟩) (by simp; omega)).trans c1
      have b2 := (hb.out.cell (p := ⟨b, off + k * 3 + 2, none⟩) (by simp; omega)).trans c2
      have e0 := (hb.out.cell (p := ⟨b', off' + k * 3, none⟩) (by simp; omega)).trans d0
      have e1 := (hb.out.cell (p := ⟨b', off' + k * 3 + 1, none⟩) (by simp; omega)).trans d1
      have e2 := (hb.out.cell (p := ⟨b', off' + k * 3 + 2, none⟩) (by simp; omega)).trans d2
      clear c0 c1 c2 d0 d1 d2
      generalize hp : ps.getD k default = p at *
      obtain ⟨x, y, z⟩ := p
      dsimp only at *
      have HX := Lib.hid hb.out
      clear hp hb
      go_wp2
      go_region
      go_wp2
      go_roundw
      case rel => exact ⟨k + 1, by omega, by go_num, HX.out.drew⟩
      case measure => simp [intOf]; omega
    · go_wp2
      go_ret
      exact ⟨rfl, hb.out⟩
end Go.Proofs.Ytlbomopjldhmeaa
