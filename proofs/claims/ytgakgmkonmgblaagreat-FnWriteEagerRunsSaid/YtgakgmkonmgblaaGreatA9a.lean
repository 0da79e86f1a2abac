/- Words and contracts for memory that the texts behind use. -/
import Derived.Test.YtgakgmkonmgblaaGreatA0
import Derived.Test.YtgakgmkonmgblaaGreatA1
import Derived.Test.YtgakgmkonmgblaaGreatA2
import Derived.Test.YtgakgmkonmgblaaGreatA3
import Derived.Test.YtgakgmkonmgblaaGreatA4
import Derived.Test.YtgakgmkonmgblaaGreatA5
import Derived.Test.YtgakgmkonmgblaaGreatA6
import Derived.Test.YtgakgmkonmgblaaGreatA7
import Derived.Test.YtgakgmkonmgblaaGreatA8
import Derived.Test.YtgakgmkonmgblaaGreatZ0
import Derived.Test.YtgakgmkonmgblaaGreatZ1
import Derived.Test.YtgakgmkonmgblaaGreatZ2
import Derived.WalkKit
import Derived.Laws.OwnMore
import Derived.Deep.Draws
import Derived.Test.YtgakgmkonmgblaaGreatProg
import Derived.WalkSpells
import Derived.WalkLawsBesides
import Derived.Outline
import Derived.Lib.Hide
import Derived.BigQuiet
import Derived.Deep.QuietTactic
import Derived.StillTailTactics
import Derived.Deep.LoopGhost
import Derived.Laws.MakeOwn
import Derived.WalkSmall
import Derived.RegionTactic
import Derived.BigRegion
import Derived.Deep.RegionWith
import Derived.Deep.RegionHeld3
import Derived.Laws.Entries
import Derived.Laws.Bits64
import Derived.IntWalk
import Derived.Maps.AppendAt
import Derived.Deep.RegionLaw
import Derived.Deep.AppendLies
import Derived.Deep.Cut
import Derived.Deep.DeepCutAuto
import Derived.Laws.CopyOwn

namespace Go.Proofs.YtgakgmkonmgblaaGreat
set_option linter.unusedSimpArgs false
set_option linter.unusedVariables false
open Go.RowKit
/-- Five cells written one after the other. -/
def set5 (xs : List Value) (j : Nat) (p : Pt) : List Value :=
  ((((xs.set j (.int .i64 p.k)).set (j + 1) (.int .i64 p.a)).set (j + 2) (.int .i64 p.b)).set (j + 3) (.int .i64 p.c)).set (j + 4) (.int .i64 p.n)
end Go.Proofs.YtgakgmkonmgblaaGreat

namespace Go.Proofs.YtgakgmkonmgblaaGreat
set_option linter.unusedSimpArgs false
set_option linter.unusedVariables false
open Go.RowKit
theorem info_part : (Tryz.prog.info? 143).map (fun i => (i.zero, i.size, i.bytes)) = some (some (.agg #[.int .i64 0, .int .i64 0, .int .i64 0, .int .i64 0, .int .i64 0]), 5, 40) := by kernel_rfl
end Go.Proofs.YtgakgmkonmgblaaGreat

namespace Go.Proofs.YtgakgmkonmgblaaGreat
set_option linter.unusedSimpArgs false
set_option linter.unusedVariables false
open Go.RowKit
theorem grown_setCell0 (w : World) (g j : Nat) (x : Value) : w.grownBy (w.setCell ⟨g, j, none⟩ x) (some g) :=
  ⟨rfl, rfl, rfl, by simp [World.setCell], fun k hk hr => Below.heap_setCell _ _ _ _ (by intro e; exact hr (by rw [e]))⟩
section
variable {lo hi a b : Nat} {P : World → Prop} {w w' : World}
theorem As.turn (h : As lo hi P w) (ht : Tch a b w w') (hd : b ≤ lo ∨ hi ≤ a) : As lo hi P w' :=
  ⟨h.loc _ _ h.it fun k hl hk => ht.block k (Nat.lt_of_lt_of_le hk h.le) (by omega), Nat.le_trans h.le ht.size, h.loc⟩
end
theorem box2_loc (g : Nat) (v u : Value) : Loc g (g + 1) fun w => w.cell? ⟨g, 0, none⟩ = some v ∧ w.cell? ⟨g, 1, none⟩ = some u :=
  fun w w' h hk => ⟨(World.cell?_of_block (a := ⟨g, 0, none⟩) (hk g (Nat.le_refl _) (Nat.lt_succ_self _))).trans h.1, (World.cell?_of_block (a := ⟨g, 1, none⟩) (hk g (Nat.le_refl _) (Nat.lt_succ_self _))).trans h.2⟩
theorem box2_new (w : World) (v u : Value) (t : TypeId) : As w.heap.size (w.heap.size + 1) (fun w' => w'.cell? ⟨w.heap.size, 0, none⟩ = some v ∧ w'.cell? ⟨w.heap.size, 1, none⟩ = some u) (w.alloc (.cells #[v, u] t)) :=
  ⟨⟨by go_simp, by go_simp⟩, by simp, box2_loc _ _ _⟩
theorem box3_loc (g : Nat) (v u x : Value) : Loc g (g + 1) fun w => w.cell? ⟨g, 0, none⟩ = some v ∧ w.cell? ⟨g, 1, none⟩ = some u ∧ w.cell? ⟨g, 2, none⟩ = some x :=
  fun w w' h hk => ⟨(World.cell?_of_block (a := ⟨g, 0, none⟩) (hk g (Nat.le_refl _) (Nat.lt_succ_self _))).trans h.1, (World.cell?_of_block (a := ⟨g, 1, none⟩) (hk g (Nat.le_refl _) (Nat.lt_succ_self _))).trans h.2.1, (World.cell?_of_block (a := ⟨g, 2, none⟩) (hk g (Nat.le_refl _) (Nat.lt_succ_self _))).trans h.2.2⟩
end Go.Proofs.YtgakgmkonmgblaaGreat

namespace Go.Proofs.YtgakgmkonmgblaaGreat
set_option linter.unusedSimpArgs false
set_option linter.unusedVariables false
open Go.RowKit
/-- The slice at A reads as the bytes bs; it lies below block B. -/
def BS (w : World) (B : Nat) (A : Option Addr) (bs : List Int) : Prop :=
  0 < bs.length → ∃ b off, A = some ⟨b, off, none⟩ ∧ b < B ∧ ∀ j, j < bs.length → w.cell? ⟨b, off + j, none⟩ = some (.int .u8 (bs.getD j 0))
theorem BS.keep {w w' : World} {B : Nat} {A : Option Addr} {xs : List Int} (h : BS w B A xs) (hk : ∀ p : Addr, p.block < B → w'.cell? p = w.cell? p) : BS w' B A xs := by
  intro hn
  obtain ⟨b, off, e, hb, hc⟩ := h hn
  exact ⟨b, off, e, hb, fun j hj => (hk _ hb).trans (hc j hj)⟩
theorem BS.more {w : World} {B B' : Nat} {A : Option Addr} {xs : List Int} (h : BS w B A xs) (hB : B ≤ B') : BS w B' A xs := by
  intro hn
  obtain ⟨b, off, e, hb, hc⟩ := h hn
  exact ⟨b, off, e, by omega, hc⟩
def BY (bs : List Int) : Prop := ∀ j, 0 ≤ bs.getD j 0 ∧ bs.getD j 0 ≤ 255
/-- The reader lies in block g; it has picked at most P times. -/
structure Rdr (g : Nat) (A : Option Addr) (n c : Nat) (bs : List Int) (P : Nat) (w : World) : Prop where
  lt : g < w.heap.size
  c0 : w.cell? ⟨g, 0, none⟩ = some (.slice A n c)
  pos : ∃ p : Nat, p ≤ P ∧ w.cell? ⟨g, 1, none⟩ = some (.int .i64 p)
  fz : w.frozen? ⟨g, 1, none⟩ = false
  by_ : BS w g A bs
section
variable {g : Nat} {A : Option Addr} {n c : Nat} {bs : List Int} {P P' : Nat} {w w' : World}
theorem Rdr.mono (h : Rdr g A n c bs P w) (hP : P ≤ P') : Rdr g A n c bs P' w := ⟨h.lt, h.c0, h.pos.imp fun p hp => ⟨Nat.le_trans hp.1 hP, hp.2⟩, h.fz, h.by_⟩
theorem Rdr.step (h : Rdr g A n c bs P w) (hb : Below w.heap.size w w') : Rdr g A n c bs P w' :=
  ⟨Nat.lt_of_lt_of_le h.lt hb.size, (hb.cell (p := ⟨g, 0, none⟩) h.lt).trans h.c0, h.pos.imp fun p hp => ⟨hp.1, (hb.cell (p := ⟨g, 1, none⟩) h.lt).trans hp.2⟩, (hb.frozen (p := ⟨g, 1, none⟩) h.lt).trans h.fz, h.by_.keep fun q hq => hb.cell (Nat.lt_trans hq h.lt)⟩
theorem Rdr.alloc (h : Rdr g A n c bs P w) (o : Obj) : Rdr g A n c bs P (w.alloc o) := h.step ((Below.refl _ _).alloc (Nat.le_refl _) o)
/-- Other blocks turned, none below g and not g. -/
theorem Rdr.turn {a b : Nat} (h : Rdr g A n c bs P w) (ht : Tch a b w w') (hg : g < a) : Rdr g A n c bs P w' :=
  ⟨Nat.lt_of_lt_of_le h.lt ht.size, (World.cell?_of_block (a := ⟨g, 0, none⟩) (ht.block g h.lt (.inl hg))).trans h.c0, h.pos.imp fun p hp => ⟨hp.1, (World.cell?_of_block (a := ⟨g, 1, none⟩) (ht.block g h.lt (.inl hg))).trans hp.2⟩, (World.frozen?_of_block (a := ⟨g, 1, none⟩) (ht.block g h.lt (.inl hg))).trans h.fz, h.by_.keep fun q hq => World.cell?_of_block (ht.block q.block (Nat.lt_trans hq h.lt) (.inl (Nat.lt_trans hq hg)))⟩
end
theorem bits_xor_i64_nat (a b : Nat) (ha : a < 4611686018427387904) (hb : b < 4611686018427387904) : bits .xor .i64 (a : Int) (b : Int) = ((a ^^^ b : Nat) : Int) := by
  have hx : a ^^^ b < 2 ^ 62 := Nat.xor_lt_two_pow (by omega) (by omega)
  have h1 : (BitVec.ofInt 64 (a : Int)).toNat = a := by
    rw [BitVec.ofInt_natCast, BitVec.toNat_ofNat]; exact Nat.mod_eq_of_lt (by omega)
  have h2 : (BitVec.ofInt 64 (b : Int)).toNat = b := by
    rw [BitVec.ofInt_natCast, BitVec.toNat_ofNat]; exact Nat.mod_eq_of_lt (by omega)
  show IntKind.i64.wrap ((BitVec.ofInt 64 (a : Int) ^^^ BitVec.ofInt 64 (b : Int)).toNat : Int) = _
  rw [BitVec.toNat_xor, h1, h2, IntKind.wrap_i64]
  omega
theorem drewN_below0 {B n : Nat} {a w : World} (h : Below B a w) : Below B a (w.drewN n) := ⟨h.os, h.tape, h.output, h.size, h.block⟩
/-- A number below n, if n is not 0; the reader has picked once more. -/
def PkP (g : Nat) (A : Option Addr) (n c : Nat) (bs : List Int) (P : Nat) (m : Int) (w : World) (e : Ending) (w' : World) : Prop :=
  ∃ x : Nat, e = .returned (.int .i64 x) ∧ (1 ≤ m → (x : Int) < m) ∧ (m < 1 → x = 0) ∧ Rdr g A n c bs (P + 1) w' ∧ Tch g (g + 1) w w'
theorem Rdr.picked {g : Nat} {A : Option Addr} {n c p P : Nat} {bs : List Int} {w : World} (h : Rdr g A n c bs P w) (hp : p ≤ P) (hc : w.cell? ⟨g, 1, none⟩ = some (.int .i64 p)) :
    Rdr g A n c bs (P + 1) (w.setCell ⟨g, 1, none⟩ (.int .i64 (p + 1))) ∧ Tch g (g + 1) w (w.setCell ⟨g, 1, none⟩ (.int .i64 (p + 1))) := by
  have hg := grown_setCell0 w g 1 (.int .i64 ((p : Int) + 1))
  refine ⟨⟨by simpa [World.setCell] using h.lt, ?_, ⟨p + 1, by omega, ?_⟩, by simpa using h.fz, ?_⟩, Tch.of_grown hg fun k hk => by cases hk; omega⟩
  · rw [World.cell?_setCell_other _ _ _ _ (by intro e; simp at e)]; exact h.c0
  · rw [World.cell?_setCell_same _ _ _ hc]; simp
  · exact h.by_.keep fun q hq => World.cell?_of_block (hg.block q.block (Nat.lt_trans hq h.lt) (by intro e; cases e; omega))
set_option maxRecDepth 100000 in
set_option maxHeartbeats 3200000 in
theorem pick_any (g : Nat) (A : Option Addr) (n c : Nat) (bs : List Int) (P : Nat) (m : Int) (w : World) (h : Rdr g A n c bs P w) (hn : n = bs.length) (hby : BY bs) (hs : n ≤ 2000) (hP : P ≤ 1000000) (hm : m ≤ 1000000) :
    Calls Tryz.prog 76 #[.pointer (some ⟨g, 0, none⟩), .int .i64 m] w fun e w' => PkP g A n c bs P m w e w' := by
  obtain ⟨p, hp, hc1⟩ := h.pos
  have hc0 := h.c0
  have hf := h.fz
  have HP := Lib.hid (h.picked hp hc1)
  have H := Lib.hid h
  have HN := Lib.hid hn
  have HBY := Lib.hid hby
  clear h hn hby
  by_cases hm1 : m < 1
  · go_enter Tryz.func76, Tryz.ntmps76
    go_wp2
    go_ret
    exact ⟨0, rfl, by omega, fun _ => rfl, HP.out.1, HP.out.2⟩
  by_cases hn0 : n = 0
  · have hz : ((n : Int) == 0) = true := by simp [hn0]
    clear hn0
    go_enter Tryz.func76, Tryz.ntmps76
    go_wp2
    go_ret
    exact ⟨0, rfl, by omega, fun _ => rfl, HP.out.1, HP.out.2⟩
  have hz : ((n : Int) == 0) = false := by simp; omega
  obtain ⟨b, off, rfl, hb, hcc⟩ := H.out.by_ (by have := HN.out; omega)
  have hbg : b < g := hb
  have hne : ¬ b = g := by omega
  by_cases hpn : p < n
  · have hx := hcc p (by have := HN.out; omega)
    have hy := HBY.out p
    generalize bs.getD p 0 = y at *
    clear hcc hn0
    go_enter Tryz.func76, Tryz.ntmps76
    go_wp2
    go_ret
    have hyn : y % m = ((y % m).toNat : Int) := by
      have := Int.emod_nonneg y (show m ≠ 0 by omega)
      omega
    refine ⟨(y % m).toNat, ret_i (by exact hyn), fun _ => ?_, fun h => by omega, HP.out.1, HP.out.2⟩
    rw [← hyn]
    exact Int.emod_lt_of_pos y (by omega)
  · have hn0' : 0 < n := by omega
    have hnp : p ≤ 1000000 := by omega
    have hq1 : p % n < n := Nat.mod_lt _ hn0'
    have hq2 : (p * 7 + 3) % n < n := Nat.mod_lt _ hn0'
    have hx1 := hcc (p % n) (by have := HN.out; omega)
    have hx2 := hcc ((p * 7 + 3) % n) (by have := HN.out; omega)
    have hy1 := HBY.out (p % n)
    have hy2 := HBY.out ((p * 7 + 3) % n)
    have hdv : p / n ≤ p := Nat.div_le_self _ _
    have e1 : (p : Int).tmod (n : Int) = ((p % n : Nat) : Int) := by rw [Int.tmod_eq_emod_of_nonneg (by omega)]; rfl
    have e6 : (p : Int).tdiv (n : Int) = ((p / n : Nat) : Int) := by rw [Int.tdiv_eq_ediv_of_nonneg (by omega)]; rfl
    have e4 : (((p * 7 + 3 : Nat)) : Int).tmod (n : Int) = (((p * 7 + 3) % n : Nat) : Int) := by rw [Int.tmod_eq_emod_of_nonneg (by omega)]; rfl
    generalize bs.getD (p % n) 0 = y1 at *
    generalize bs.getD ((p * 7 + 3) % n) 0 = y2 at *
    generalize p % n = q1 at *
    generalize (p * 7 + 3) % n = q2 at *
    generalize p / n = dv at *
    have w1 : IntKind.i64.wrap ((p : Int) * 7) = ((p * 7 : Nat) : Int) := by rw [IntWalk.i64_in _ (by omega)]; omega
    have w2 : IntKind.i64.wrap (((p * 7 : Nat) : Int) + 3) = ((p * 7 + 3 : Nat) : Int) := by rw [IntWalk.i64_in _ (by omega)]; omega
    obtain ⟨a1, ha1, hb1⟩ : ∃ a1 : Nat, IntKind.i64.wrap (y1 * 131) = (a1 : Int) ∧ a1 ≤ 40000 := ⟨(y1 * 131).toNat, by rw [IntWalk.i64_in _ (by omega)]; omega, by omega⟩
    obtain ⟨a2, ha2, hb2⟩ : ∃ a2 : Nat, IntKind.i64.wrap (y2 * 1117) = (a2 : Int) ∧ a2 ≤ 300000 := ⟨(y2 * 1117).toNat, by rw [IntWalk.i64_in _ (by omega)]; omega, by omega⟩
    obtain ⟨a3, ha3, hb3⟩ : ∃ a3 : Nat, IntKind.i64.wrap ((a1 : Int) + (a2 : Int)) = (a3 : Int) ∧ a3 ≤ 400000 := ⟨a1 + a2, by rw [IntWalk.i64_in _ (by omega)]; omega, by omega⟩
    obtain ⟨a4, ha4, hb4⟩ : ∃ a4 : Nat, IntKind.i64.wrap ((p : Int) * 29) = (a4 : Int) ∧ a4 ≤ 30000000 := ⟨p * 29, by rw [IntWalk.i64_in _ (by omega)]; omega, by omega⟩
    obtain ⟨a5, ha5, hb5⟩ : ∃ a5 : Nat, IntKind.i64.wrap ((a3 : Int) + (a4 : Int)) = (a5 : Int) ∧ a5 ≤ 31000000 := ⟨a3 + a4, by rw [IntWalk.i64_in _ (by omega)]; omega, by omega⟩
    have w3 : IntKind.i64.wrap (dv : Int) = (dv : Int) := IntWalk.i64_in _ (by omega)
    obtain ⟨a7, ha7, hb7⟩ : ∃ a7 : Nat, IntKind.i64.wrap ((dv : Int) * 53) = (a7 : Int) ∧ a7 ≤ 60000000 := ⟨dv * 53, by rw [IntWalk.i64_in _ (by omega)]; omega, by omega⟩
    obtain ⟨X, hX, hXb⟩ : ∃ X : Nat, IntKind.i64.wrap ((a5 : Int) + (a7 : Int)) = (X : Int) ∧ X ≤ 100000000 := ⟨a5 + a7, by rw [IntWalk.i64_in _ (by omega)]; omega, by omega⟩
    generalize p * 7 + 3 = p73 at *
    generalize p * 7 = p7 at *
    have hxor : bits .xor .i64 (X : Int) ((X : Int) / 64) = ((X ^^^ X / 64 : Nat) : Int) := bits_xor_i64_nat X (X / 64) (by omega) (by omega)
    have hxl : X ^^^ X / 64 < 2 ^ 62 := Nat.xor_lt_two_pow (by omega) (by omega)
    generalize X ^^^ X / 64 = Z at *
    have hzb : (Z : Int) ≤ 4611686018427387904 := by omega
    have hbw : b < w.heap.size := by have := H.out.lt; omega
    clear hcc hxl hdv hn0
    go_enter Tryz.func76, Tryz.ntmps76
    go_wp2
    go_quiet (fail)
    clear w1 w2 w3 ha1 ha2 ha3 ha4 ha5 ha7 hX e1 e6 e4
    go_wp2
    go_ret
    have hyn : (Z : Int) % m = (((Z : Int) % m).toNat : Int) := by
      have := Int.emod_nonneg (Z : Int) (show m ≠ 0 by omega)
      omega
    refine ⟨((Z : Int) % m).toNat, ret_i (by exact hyn), fun _ => ?_, fun h => by omega, ?_, ?_⟩
    · rw [← hyn]
      exact Int.emod_lt_of_pos _ (by omega)
    · exact HP.out.1.step (drewN_below0 (Below.refl _ _))
    · exact HP.out.2.trans (Tch.of_below (drewN_below0 (Below.refl _ _)))
/-- One of the numbers; the reader has picked once more. -/
def OneP (g : Nat) (A : Option Addr) (n c : Nat) (bs : List Int) (P : Nat) (xs : List Int) (w : World) (e : Ending) (w' : World) : Prop :=
  ∃ x : Int, e = .returned (.int .i64 x) ∧ x ∈ xs ∧ Rdr g A n c bs (P + 1) w' ∧ Tch g (g + 1) w w'
set_option maxHeartbeats 800000 in
theorem one_any (g : Nat) (A : Option Addr) (n c : Nat) (bs : List Int) (P : Nat) (b' off' l c' : Nat) (xs : List Int) (w : World) (h : Rdr g A n c bs P w) (hn : n = bs.length) (hby : BY bs) (hs : n ≤ 2000) (hP : P ≤ 1000000)
    (hl : l = xs.length) (hl1 : 1 ≤ l) (hl2 : l ≤ 1000) (hx : ∀ j, j < l → w.cell? ⟨b', off' + j, none⟩ = some (.int .i64 (xs.getD j 0))) (hne : b' ≠ g) (hbw : b' < w.heap.size) :
    Calls Tryz.prog 77 #[.pointer (some ⟨g, 0, none⟩), .slice (some ⟨b', off', none⟩) l c'] w fun e w' => OneP g A n c bs P xs w e w' := by
  have HPK := Lib.hid (pick_any g A n c bs P l w h hn hby hs hP (by omega))
  have HX := Lib.hid hx
  have HL := Lib.hid hl
  clear hx hl h hn
  go_enter Tryz.func77, Tryz.ntmps77
  go_wp2_with fail
  refine HPK.out.mono ?_
  rintro e w1 ⟨x, rfl, hxl, _, hr, ht⟩
  have hxl' : x < l := by have := hxl (by omega); omega
  have c1 := (World.cell?_of_block (a := ⟨b', off' + x, none⟩) (ht.block b' hbw (by omega))).trans (HX.out x hxl')
  have HR := Lib.hid hr
  have HT := Lib.hid ht
  have hmem : xs.getD x 0 ∈ xs := by
    have : x < xs.length := by have := HL.out; omega
    simp [List.getD, this]
  have HMEM := Lib.hid hmem
  clear hxl hr ht hmem
  generalize xs.getD x 0 = y at *
  go_wp2
  go_ret
  exact ⟨y, rfl, HMEM.out, HR.out, HT.out⟩
/-- Returns a part; the reader has picked K times more at most. -/
def PtP (g : Nat) (A : Option Addr) (n c : Nat) (bs : List Int) (P : Nat) (w : World) (e : Ending) (w' : World) : Prop :=
  ∃ q : Pt, e = .returned (.agg #[.int .i64 q.k, .int .i64 q.a, .int .i64 q.b, .int .i64 q.c, .int .i64 q.n]) ∧ Rdr g A n c bs P w' ∧ Tch g (g + 1) w w'
set_option maxHeartbeats 400000 in
theorem spec_numberPart (x : Int) (w : World) :
    Calls Tryz.prog 137 #[.int .i64 x] w fun e w' => e = .returned (.agg #[.int .i64 0, .int .i64 (-1), .int .i64 (-1), .int .i64 (-1), .int .i64 x]) ∧ Below w.heap.size w w' := by
  go_enter Tryz.func137, Tryz.ntmps137
  go_wp2
  refine bodyPost_ret (v := .agg #[.int .i64 0, .int .i64 (-1), .int .i64 (-1), .int .i64 (-1), .int .i64 x]) (by simp [results, Tryz.results137, go_sem]) rfl ⟨rfl, ?_⟩
  exact (Below.refl _ _).alloc (Nat.le_refl _) _
theorem Rdr.set1 {g b : Nat} {A : Option Addr} {n c : Nat} {bs : List Int} {P : Nat} {w : World} (h : Rdr g A n c bs P w) (hb : g < b) (j : Nat) (x : Value) : Rdr g A n c bs P (w.setCell ⟨b, j, none⟩ x) :=
  h.turn (Tch.of_grown (grown_setCell0 w b j x) fun k hk => by cases hk; exact ⟨Nat.le_refl _, Nat.lt_succ_self _⟩) hb
theorem Tch.set1 {g b : Nat} {w w1 : World} (h : Tch g (g + 1) w w1) (hb : w.heap.size ≤ b) (j : Nat) (x : Value) : Tch g (g + 1) w (w1.setCell ⟨b, j, none⟩ x) := by
  refine ⟨h.os, h.tape, h.output, by simpa [World.setCell] using h.size, fun k hk hr => ?_⟩
  exact (Below.heap_setCell _ _ _ _ (by show k ≠ b; omega)).trans (h.block k hk hr)
/-- The five cells of a new box were written. -/
theorem Rdr.set5 {g b : Nat} {A : Option Addr} {n c : Nat} {bs : List Int} {P : Nat} {w : World} {x0 x1 x2 x3 x4 : Value} (h : Rdr g A n c bs P w) (hb : g < b) : Rdr g A n c bs P (((((w.setCell ⟨b, 0, none⟩ x0).setCell ⟨b, 1, none⟩ x1).setCell ⟨b, 2, none⟩ x2).setCell ⟨b, 3, none⟩ x3).setCell ⟨b, 4, none⟩ x4) :=
  ((((h.set1 hb 0 x0).set1 hb 1 x1).set1 hb 2 x2).set1 hb 3 x3).set1 hb 4 x4
theorem Tch.set5 {g : Nat} {w w1 : World} {x0 x1 x2 x3 x4 : Value} (h : Tch g (g + 1) w w1) : Tch g (g + 1) w (((((w1.setCell ⟨w.heap.size, 0, none⟩ x0).setCell ⟨w.heap.size, 1, none⟩ x1).setCell ⟨w.heap.size, 2, none⟩ x2).setCell ⟨w.heap.size, 3, none⟩ x3).setCell ⟨w.heap.size, 4, none⟩ x4) :=
  ((((h.set1 (Nat.le_refl _) 0 x0).set1 (Nat.le_refl _) 1 x1).set1 (Nat.le_refl _) 2 x2).set1 (Nat.le_refl _) 3 x3).set1 (Nat.le_refl _) 4 x4
set_option maxHeartbeats 800000 in
theorem readPart_any (g : Nat) (A : Option Addr) (n c : Nat) (bs : List Int) (P : Nat) (A' : Option Addr) (l c' : Nat) (xs : List Int) (w : World) (h : Rdr g A n c bs P w) (hn : n = bs.length) (hby : BY bs) (hs : n ≤ 2000) (hP : P ≤ 1000000)
    (hl : l = xs.length) (hl2 : l ≤ 1000) (hx : IS w w.heap.size A' xs) (hne : ∀ b' o', A' = some ⟨b', o', none⟩ → b' ≠ g) :
    Calls Tryz.prog 136 #[.pointer (some ⟨g, 0, none⟩), .slice A' l c'] w fun e w' => PtP g A n c bs (P + 1) w e w' := by
  have hgw := h.lt
  by_cases hl0 : l = 0
  · have hz : ((l : Int) == 0) = true := by simp [hl0]
    have HPK := Lib.hid (pick_any g A n c bs P 10 (w.alloc (.cells #[.int .i64 0, .int .i64 0, .int .i64 0, .int .i64 0, .int .i64 0] 143)) (h.alloc _) hn hby hs hP (by omega))
    clear hx hl h hn hne hl0
    go_enter Tryz.func136, Tryz.ntmps136
    go_wp2_with fail
    refine HPK.out.mono ?_
    rintro e w1 ⟨x, rfl, _, _, hr, ht⟩
    have hz1 : w.heap.size < w1.heap.size := by have := ht.size; simp at this; omega
    have q (j : Nat) : w1.cell? ⟨w.heap.size, j, none⟩ = (w.alloc (.cells #[.int .i64 0, .int .i64 0, .int .i64 0, .int .i64 0, .int .i64 0] 143)).cell? ⟨w.heap.size, j, none⟩ := World.cell?_of_block (a := ⟨w.heap.size, j, none⟩) (ht.block w.heap.size (by simp) (.inr (by omega)))
    have f (j : Nat) : w1.frozen? ⟨w.heap.size, j, none⟩ = (w.alloc (.cells #[.int .i64 0, .int .i64 0, .int .i64 0, .int .i64 0, .int .i64 0] 143)).frozen? ⟨w.heap.size, j, none⟩ := World.frozen?_of_block (a := ⟨w.heap.size, j, none⟩) (ht.block w.heap.size (by simp) (.inr (by omega)))
    have HR := Lib.hid hr
    have HT := Lib.hid ht
    have HQ := Lib.hid q
    have HF := Lib.hid f
    clear hr ht q f
    go_wp2_with fail
    refine (spec_numberPart _ _).mono ?_
    rintro e w2 ⟨rfl, hb⟩
    have q0 : w2.cell? ⟨w.heap.size, 0, none⟩ = some (.int .i64 0) := ((hb.cell (p := ⟨w.heap.size, 0, none⟩) hz1).trans (HQ.out 0)).trans (by go_simp)
    have q1 : w2.cell? ⟨w.heap.size, 1, none⟩ = some (.int .i64 0) := ((hb.cell (p := ⟨w.heap.size, 1, none⟩) hz1).trans (HQ.out 1)).trans (by go_simp)
    have q2 : w2.cell? ⟨w.heap.size, 2, none⟩ = some (.int .i64 0) := ((hb.cell (p := ⟨w.heap.size, 2, none⟩) hz1).trans (HQ.out 2)).trans (by go_simp)
    have q3 : w2.cell? ⟨w.heap.size, 3, none⟩ = some (.int .i64 0) := ((hb.cell (p := ⟨w.heap.size, 3, none⟩) hz1).trans (HQ.out 3)).trans (by go_simp)
    have q4 : w2.cell? ⟨w.heap.size, 4, none⟩ = some (.int .i64 0) := ((hb.cell (p := ⟨w.heap.size, 4, none⟩) hz1).trans (HQ.out 4)).trans (by go_simp)
    have f0 : w2.frozen? ⟨w.heap.size, 0, none⟩ = false := ((hb.frozen (p := ⟨w.heap.size, 0, none⟩) hz1).trans (HF.out 0)).trans (by go_simp)
    have f1 : w2.frozen? ⟨w.heap.size, 1, none⟩ = false := ((hb.frozen (p := ⟨w.heap.size, 1, none⟩) hz1).trans (HF.out 1)).trans (by go_simp)
    have f2 : w2.frozen? ⟨w.heap.size, 2, none⟩ = false := ((hb.frozen (p := ⟨w.heap.size, 2, none⟩) hz1).trans (HF.out 2)).trans (by go_simp)
    have f3 : w2.frozen? ⟨w.heap.size, 3, none⟩ = false := ((hb.frozen (p := ⟨w.heap.size, 3, none⟩) hz1).trans (HF.out 3)).trans (by go_simp)
    have f4 : w2.frozen? ⟨w.heap.size, 4, none⟩ = false := ((hb.frozen (p := ⟨w.heap.size, 4, none⟩) hz1).trans (HF.out 4)).trans (by go_simp)
    have HR2 := Lib.hid (HR.out.step hb)
    have HT2 := Lib.hid ((Tch.of_below (a := g) (b := g + 1) ((Below.refl w.heap.size w).alloc (Nat.le_refl _) (.cells #[.int .i64 0, .int .i64 0, .int .i64 0, .int .i64 0, .int .i64 0] 143))).trans (HT.out.trans (Tch.of_below hb)))
    have hz2 : w.heap.size < w2.heap.size := Nat.lt_of_lt_of_le hz1 hb.size
    clear hb HQ HF HR HT
    go_wp2
    refine bodyPost_ret (v := .agg #[.int .i64 0, .int .i64 (-1), .int .i64 (-1), .int .i64 (-1), .int .i64 x]) (by simp [results, Tryz.results136, go_sem, q0, q1, q2, q3, q4]) rfl ?_
    exact ⟨⟨0, -1, -1, -1, x⟩, rfl, HR2.out.set5 (by omega), HT2.out.set5⟩
  · have hz : ((l : Int) == 0) = false := by simp; omega
    have hlI : 1 ≤ (l : Int) := by omega
    have HPK := Lib.hid (pick_any g A n c bs P l (w.alloc (.cells #[.int .i64 0, .int .i64 0, .int .i64 0, .int .i64 0, .int .i64 0] 143)) (h.alloc _) hn hby hs hP (by omega))
    obtain ⟨b2, off2, rfl, hb2, hc2⟩ := hx (by omega)
    have hbg := hne b2 off2 rfl
    have HC := Lib.hid hc2
    have HL := Lib.hid hl
    clear hx hl h hn hne hl0 hc2
    go_enter Tryz.func136, Tryz.ntmps136
    go_wp2_with fail
    refine HPK.out.mono ?_
    rintro e w1 ⟨x, rfl, hx1, _, hr, ht⟩
    have hxl : x < l := by have := hx1 hlI; omega
    have hz1 : w.heap.size < w1.heap.size := by have := ht.size; simp at this; omega
    have cy := ((World.cell?_of_block (a := ⟨b2, off2 + x, none⟩) (ht.block b2 (by simp; omega) (by omega))).trans (World.cell?_alloc_lt w _ ⟨b2, off2 + x, none⟩ hb2)).trans (HC.out x (by have := HL.out; omega))
    have q (j : Nat) : w1.cell? ⟨w.heap.size, j, none⟩ = (w.alloc (.cells #[.int .i64 0, .int .i64 0, .int .i64 0, .int .i64 0, .int .i64 0] 143)).cell? ⟨w.heap.size, j, none⟩ := World.cell?_of_block (a := ⟨w.heap.size, j, none⟩) (ht.block w.heap.size (by simp) (.inr (by omega)))
    have f (j : Nat) : w1.frozen? ⟨w.heap.size, j, none⟩ = (w.alloc (.cells #[.int .i64 0, .int .i64 0, .int .i64 0, .int .i64 0, .int .i64 0] 143)).frozen? ⟨w.heap.size, j, none⟩ := World.frozen?_of_block (a := ⟨w.heap.size, j, none⟩) (ht.block w.heap.size (by simp) (.inr (by omega)))
    have q0 : w1.cell? ⟨w.heap.size, 0, none⟩ = some (.int .i64 0) := (q 0).trans (by go_simp)
    have q1 : w1.cell? ⟨w.heap.size, 1, none⟩ = some (.int .i64 0) := (q 1).trans (by go_simp)
    have q2 : w1.cell? ⟨w.heap.size, 2, none⟩ = some (.int .i64 0) := (q 2).trans (by go_simp)
    have q3 : w1.cell? ⟨w.heap.size, 3, none⟩ = some (.int .i64 0) := (q 3).trans (by go_simp)
    have q4 : w1.cell? ⟨w.heap.size, 4, none⟩ = some (.int .i64 0) := (q 4).trans (by go_simp)
    have f0 : w1.frozen? ⟨w.heap.size, 0, none⟩ = false := (f 0).trans (by go_simp)
    have f1 : w1.frozen? ⟨w.heap.size, 1, none⟩ = false := (f 1).trans (by go_simp)
    have f2 : w1.frozen? ⟨w.heap.size, 2, none⟩ = false := (f 2).trans (by go_simp)
    have f3 : w1.frozen? ⟨w.heap.size, 3, none⟩ = false := (f 3).trans (by go_simp)
    have f4 : w1.frozen? ⟨w.heap.size, 4, none⟩ = false := (f 4).trans (by go_simp)
    have HR2 := Lib.hid hr
    have HT2 := Lib.hid ((Tch.of_below (a := g) (b := g + 1) ((Below.refl w.heap.size w).alloc (Nat.le_refl _) (.cells #[.int .i64 0, .int .i64 0, .int .i64 0, .int .i64 0, .int .i64 0] 143))).trans ht)
    clear hr ht q f hx1
    generalize xs.getD x 0 = y at *
    go_wp2
    refine bodyPost_ret (v := .agg #[.int .i64 1, .int .i64 (-1), .int .i64 (-1), .int .i64 (-1), .int .i64 y]) (by simp [results, Tryz.results136, go_sem, q0, q1, q2, q3, q4]) rfl ?_
    exact ⟨⟨1, -1, -1, -1, y⟩, rfl, HR2.out.set5 (by omega), HT2.out.set5⟩
end Go.Proofs.YtgakgmkonmgblaaGreat

namespace Go.Proofs.YtgakgmkonmgblaaGreat
set_option linter.unusedSimpArgs false
set_option linter.unusedVariables false
open Go.RowKit
/-- The two values are a node of the call's own. -/
def NdO (lo hi : Nat) (d : Nd) (x y : Value) (w : World) : Prop :=
  x = .int .i64 d.k ∧ ∃ A n c, y = .slice A n c ∧ n = d.ps.length ∧ OwR lo hi 143 5 y n (d.ps.flatMap Pt.cells) w
/-- A row of nodes of the call's own. -/
def OwG (lo hi : Nat) (v : Value) (n : Nat) (gs : List Nd) (w : World) : Prop :=
  n = gs.length ∧ ∃ xs, OwR lo hi 80 2 v n xs w ∧ ∀ j, j < n → ∃ x y, xs[j * 2]? = some x ∧ xs[j * 2 + 1]? = some y ∧ NdO lo hi (gs.getD j default) x y w
theorem NdO.keep {lo hi : Nat} {d : Nd} {x y : Value} {w w' : World} (h : NdO lo hi d x y w) (hk : ∀ k, lo ≤ k → k < hi → w'.heap[k]? = w.heap[k]?) : NdO lo hi d x y w' := by
  obtain ⟨h1, A, n, c, h2, h3, h4⟩ := h
  exact ⟨h1, A, n, c, h2, h3, h4.keep hk⟩
theorem NdO.mono {lo hi lo' hi' : Nat} {d : Nd} {x y : Value} {w : World} (h : NdO lo hi d x y w) (h1 : lo' ≤ lo) (h2 : hi ≤ hi') : NdO lo' hi' d x y w := by
  obtain ⟨e1, A, n, c, e2, e3, h4⟩ := h
  exact ⟨e1, A, n, c, e2, e3, h4.mono h1 h2⟩
theorem OwG.loc (lo hi : Nat) (v : Value) (n : Nat) (gs : List Nd) : Loc lo hi (OwG lo hi v n gs) := by
  rintro w w' ⟨h0, xs, h1, h2⟩ hk
  exact ⟨h0, xs, h1.keep hk, fun j hj => by obtain ⟨x, y, hx, hy, h⟩ := h2 j hj; exact ⟨x, y, hx, hy, h.keep hk⟩⟩
theorem OwG.mono {lo hi lo' hi' n : Nat} {v : Value} {gs : List Nd} {w : World} (h : OwG lo hi v n gs w) (h1 : lo' ≤ lo) (h2 : hi ≤ hi') : OwG lo' hi' v n gs w := by
  obtain ⟨h0, xs, e1, e2⟩ := h
  exact ⟨h0, xs, e1.mono h1 h2, fun j hj => by obtain ⟨x, y, hx, hy, h⟩ := e2 j hj; exact ⟨x, y, hx, hy, h.mono h1 h2⟩⟩
theorem OwG.form {lo hi n : Nat} {v : Value} {gs : List Nd} {w : World} (h : OwG lo hi v n gs w) : ∃ A c, v = .slice A n c := by
  obtain ⟨_, xs, h1, _⟩ := h
  exact own_form h1.1
theorem OwG.nodes {lo hi n c : Nat} {A : Option Addr} {gs : List Nd} {w : World} (h : OwG lo hi (.slice A n c) n gs w) : GS w hi A gs := by
  obtain ⟨h0, xs, h1, h2⟩ := h
  intro hn
  rcases h1.1.2 with ⟨_, hz⟩ | ⟨g, cap, cur, hv, _⟩
  · omega
  · have hg := h1.2 g (by rw [hv]; rfl)
    simp only [Value.slice.injEq] at hv
    obtain ⟨rfl, _, rfl⟩ := hv
    refine ⟨g, 0, rfl, hg, fun j hj => ?_⟩
    obtain ⟨x, y, hx, hy, e1, A', n', c', e2, e3, e4⟩ := h2 j (by omega)
    refine ⟨?_, A', n', c', ?_, e3, ?_⟩
    · rw [h1.1.cellAt _ (by omega), ← e1]; simpa using hx
    · rw [h1.1.cellAt _ (by omega), ← e2]; simpa using hy
    · subst e2
      exact e4.parts
theorem node_ne_part : (80 : TypeId) ≠ 143 := by decide
end Go.Proofs.YtgakgmkonmgblaaGreat

namespace Go.Proofs.YtgakgmkonmgblaaGreat
set_option linter.unusedSimpArgs false
set_option linter.unusedVariables false
open Go.RowKit
/-- A row's beginning is a row. -/
theorem own_shrink {w : World} {base e g n cap k : Nat} {xs : List Value} (h : w.ownsRow base e 1 (.slice (some ⟨g, 0, none⟩) n cap) n xs) (hk : k ≤ n) : w.ownsRow base e 1 (.slice (some ⟨g, 0, none⟩) k cap) k (xs.take k) := by
  have hl := h.1
  rcases h.2 with ⟨hv, _⟩ | ⟨g', cap', cur, hv, hb, hh, h1, h2, h3, h4⟩
  · simp at hv
  · simp only [Value.slice.injEq, Option.some.injEq, Addr.mk.injEq, and_true, true_and] at hv
    obtain ⟨rfl, rfl⟩ := hv
    refine ⟨by rw [List.length_take]; omega, .inr ⟨g, cap, cur, rfl, hb, hh, by omega, h2, h3, ?_⟩⟩
    rw [← h4, List.take_take]
    congr 1
    omega
theorem own_keep {w w' : World} {base e size n : Nat} {v : Value} {xs : List Value} (h : w.ownsRow base e size v n xs) (hk : ∀ k, base ≤ k → k < w.heap.size → w'.heap[k]? = w.heap[k]?) : w'.ownsRow base e size v n xs :=
  ((OwR.start h).keep hk).1
/-- Of the blocks below s none but g has turned. -/
structure Frd (g s : Nat) (w w' : World) : Prop where
  os : w'.os = w.os
  tape : w'.tape = w.tape
  output : w'.output = w.output
  size : w.heap.size ≤ w'.heap.size
  block : ∀ k, k < s → k ≠ g → w'.heap[k]? = w.heap[k]?
section
variable {g s : Nat} {w w1 w' : World}
theorem Frd.refl (g s : Nat) (w : World) : Frd g s w w := ⟨rfl, rfl, rfl, Nat.le_refl _, fun _ _ _ => rfl⟩
theorem Frd.trans (h : Frd g s w w1) (k : Frd g s w1 w') : Frd g s w w' := ⟨k.os.trans h.os, k.tape.trans h.tape, k.output.trans h.output, Nat.le_trans h.size k.size, fun i a b => (k.block i a b).trans (h.block i a b)⟩
theorem Frd.of_tch (h : Tch g (g + 1) w w') (hs : s ≤ w.heap.size) : Frd g s w w' := ⟨h.os, h.tape, h.output, h.size, fun k a b => h.block k (by omega) (by omega)⟩
theorem Frd.of_below {C : Nat} (h : Below C w w') (hs : s ≤ C) : Frd g s w w' := ⟨h.os, h.tape, h.output, h.size, fun k a _ => h.block k (by omega)⟩
theorem Frd.tch (h : Frd g w.heap.size w w') : Tch g (g + 1) w w' := ⟨h.os, h.tape, h.output, h.size, fun k hk hr => h.block k hk (by omega)⟩
end
/-- The state of the drawing: the boxes at s (the answer) and s + 1 (the formula), the parts ps, the open ones xs. -/
structure GI (g s : Nat) (A : Option Addr) (n c : Nat) (bs : List Int) (An : Option Addr) (nodes : List Int) (w0 : World) (P : Nat) (Af : Option Addr) (nf cf : Nat) (ps : List Pt) (v : Value) (no : Nat) (xs : List Int) (w : World) : Prop where
  gs : g < s
  fr : Frd g s w0 w
  rd : Rdr g A n c bs P w
  lt : s + 1 < w.heap.size
  rb : w.cell? ⟨s, 0, none⟩ = some (.slice none 0 0)
  rz : w.frozen? ⟨s, 0, none⟩ = false
  fb : w.cell? ⟨s + 1, 0, none⟩ = some (.slice Af nf cf)
  fz : w.frozen? ⟨s + 1, 0, none⟩ = false
  pl : nf = ps.length
  pr : w.ownsRow (s + 2) 143 5 (.slice Af nf cf) nf (ps.flatMap Pt.cells)
  xl : no = xs.length
  xr : w.ownsRow (s + 2) 3 1 v no (xs.map (Value.int .i64))
  nd : IS w s An nodes
  ng : ∀ b' o', An = some ⟨b', o', none⟩ → b' ≠ g
section
variable {g s : Nat} {A : Option Addr} {n c : Nat} {bs : List Int} {An : Option Addr} {nodes : List Int} {w0 : World} {P P' : Nat} {Af : Option Addr} {nf cf : Nat} {ps : List Pt} {v : Value} {no : Nat} {xs : List Int} {w w' : World}
theorem GI.mono (h : GI g s A n c bs An nodes w0 P Af nf cf ps v no xs w) (hP : P ≤ P') : GI g s A n c bs An nodes w0 P' Af nf cf ps v no xs w :=
  ⟨h.gs, h.fr, h.rd.mono hP, h.lt, h.rb, h.rz, h.fb, h.fz, h.pl, h.pr, h.xl, h.xr, h.nd, h.ng⟩
/-- The reader has picked. -/
theorem GI.pick (h : GI g s A n c bs An nodes w0 P Af nf cf ps v no xs w) (hr : Rdr g A n c bs P' w') (ht : Tch g (g + 1) w w') : GI g s A n c bs An nodes w0 P' Af nf cf ps v no xs w' := by
  have hlt := h.lt
  have hgs := h.gs
  have hk : ∀ k, k ≠ g → k < w.heap.size → w'.heap[k]? = w.heap[k]? := fun k a b => ht.block k b (by omega)
  have hc : ∀ (b j : Nat), b ≠ g → b < w.heap.size → w'.cell? ⟨b, j, none⟩ = w.cell? ⟨b, j, none⟩ := fun b j x y => World.cell?_of_block (a := ⟨b, j, none⟩) (hk b x y)
  have hf : ∀ (b j : Nat), b ≠ g → b < w.heap.size → w'.frozen? ⟨b, j, none⟩ = w.frozen? ⟨b, j, none⟩ := fun b j x y => World.frozen?_of_block (a := ⟨b, j, none⟩) (hk b x y)
  refine ⟨h.gs, h.fr.trans (Frd.of_tch ht (by omega)), hr, Nat.lt_of_lt_of_le h.lt ht.size, (hc _ _ (by omega) (by omega)).trans h.rb, (hf _ _ (by omega) (by omega)).trans h.rz, (hc _ _ (by omega) h.lt).trans h.fb, (hf _ _ (by omega) h.lt).trans h.fz, h.pl, own_keep h.pr fun k a b => hk k (by omega) b, h.xl, own_keep h.xr fun k a b => hk k (by omega) b, ?_, h.ng⟩
  intro hn
  obtain ⟨b, off, e, hb, hcl⟩ := h.nd hn
  have hne := h.ng b off e
  exact ⟨b, off, e, hb, fun j hj => (hc b _ hne (by omega)).trans (hcl j hj)⟩
/-- Nothing that was there has turned. -/
theorem GI.step (h : GI g s A n c bs An nodes w0 P Af nf cf ps v no xs w) (hb : Below w.heap.size w w') : GI g s A n c bs An nodes w0 P Af nf cf ps v no xs w' := by
  have hlt := h.lt
  refine ⟨h.gs, h.fr.trans (Frd.of_below hb (by omega)), h.rd.step hb, Nat.lt_of_lt_of_le h.lt hb.size, (hb.cell (p := ⟨s, 0, none⟩) (by show s < w.heap.size; omega)).trans h.rb, (hb.frozen (p := ⟨s, 0, none⟩) (by show s < w.heap.size; omega)).trans h.rz, (hb.cell (p := ⟨s + 1, 0, none⟩) h.lt).trans h.fb, (hb.frozen (p := ⟨s + 1, 0, none⟩) h.lt).trans h.fz, h.pl, own_below h.pr hb, h.xl, own_below h.xr hb, h.nd.below hb (by omega), h.ng⟩
theorem GI.alloc (h : GI g s A n c bs An nodes w0 P Af nf cf ps v no xs w) (o : Obj) : GI g s A n c bs An nodes w0 P Af nf cf ps v no xs (w.alloc o) := h.step ((Below.refl _ _).alloc (Nat.le_refl _) o)
/-- A row of the call's own was written to. -/
theorem GI.frame (h : GI g s A n c bs An nodes w0 P Af nf cf ps v no xs w) {row : Option Nat} (hg : w.grownBy w' row) (hr : ∀ k, row = some k → s + 2 ≤ k) : Frd g s w0 w' ∧ Rdr g A n c bs P w' ∧ s + 1 < w'.heap.size ∧ w'.cell? ⟨s, 0, none⟩ = some (.slice none 0 0) ∧ w'.frozen? ⟨s, 0, none⟩ = false ∧ w'.cell? ⟨s + 1, 0, none⟩ = some (.slice Af nf cf) ∧ w'.frozen? ⟨s + 1, 0, none⟩ = false ∧ IS w' s An nodes := by
  have hlt := h.lt
  have hgs := h.gs
  have hb : Below (s + 2) w w' := (Below.refl _ _).grown hg (by omega) hr
  have ht : Tch (s + 2) (w.heap.size + s + 2) w w' := ⟨hg.os, hg.tape, hg.output, hg.size, fun k hk hx => hb.block k (by omega)⟩
  refine ⟨h.fr.trans (Frd.of_below hb (by omega)), h.rd.turn ht (by omega), Nat.lt_of_lt_of_le h.lt hg.size, (hb.cell (p := ⟨s, 0, none⟩) (by show s < s + 2; omega)).trans h.rb, (hb.frozen (p := ⟨s, 0, none⟩) (by show s < s + 2; omega)).trans h.rz, (hb.cell (p := ⟨s + 1, 0, none⟩) (by show s + 1 < s + 2; omega)).trans h.fb, (hb.frozen (p := ⟨s + 1, 0, none⟩) (by show s + 1 < s + 2; omega)).trans h.fz, h.nd.below hb (by omega)⟩
/-- Another block of the call's own was written to. -/
theorem GI.poke (h : GI g s A n c bs An nodes w0 P Af nf cf ps v no xs w) {b : Nat} (hb : s + 2 ≤ b) (h1 : ∀ k, (Value.slice Af nf cf).ownBlock = some k → k < b) (h2 : ∀ k, v.ownBlock = some k → k < b) (j : Nat) (x : Value) : GI g s A n c bs An nodes w0 P Af nf cf ps v no xs (w.setCell ⟨b, j, none⟩ x) := by
  have hg := grown_setCell0 w b j x
  obtain ⟨f1, f2, f3, f4, f5, f6, f7, f8⟩ := h.frame hg fun k hk => by cases hk; exact hb
  refine ⟨h.gs, f1, f2, f3, f4, f5, f6, f7, h.pl, h.pr.kept hg ?_, h.xl, h.xr.kept hg ?_, f8, h.ng⟩
  · cases e : (Value.slice Af nf cf).ownBlock with
    | none => exact .inl rfl
    | some k => exact .inr fun e2 => by cases e2; exact absurd (h1 b e) (Nat.lt_irrefl _)
  · cases e : v.ownBlock with
    | none => exact .inl rfl
    | some k => exact .inr fun e2 => by cases e2; exact absurd (h2 b e) (Nat.lt_irrefl _)
theorem int_ne_part : (3 : TypeId) ≠ 143 := by decide
/-- The open ones are other ones. -/
theorem GI.opened (h : GI g s A n c bs An nodes w0 P Af nf cf ps v no xs w) {u v' : Value} {m no' : Nat} {ys : List Value} {xs' : List Int} (hu : w.ownsRow (s + 2) 3 1 u m ys) (hg : w.grownBy w' u.ownBlock) (hv : w'.ownsRow (s + 2) 3 1 v' no' (xs'.map (Value.int .i64))) (hl : no' = xs'.length) : GI g s A n c bs An nodes w0 P Af nf cf ps v' no' xs' w' := by
  obtain ⟨f1, f2, f3, f4, f5, f6, f7, f8⟩ := h.frame hg fun k hk => (hu.lt k hk).1
  exact ⟨h.gs, f1, f2, f3, f4, f5, f6, f7, h.pl, h.pr.kept hg (blocks_ne h.pr hu int_ne_part.symm), hl, hv, f8, h.ng⟩
/-- One part more, stored in the formula's box. -/
theorem GI.parted (h : GI g s A n c bs An nodes w0 P Af nf cf ps v no xs w) {Af' : Option Addr} {nf' cf' : Nat} {ps' : List Pt} (hg : w.grownBy w' (Value.slice Af nf cf).ownBlock) (hv : w'.ownsRow (s + 2) 143 5 (.slice Af' nf' cf') nf' (ps'.flatMap Pt.cells)) (hl : nf' = ps'.length) : GI g s A n c bs An nodes w0 P Af' nf' cf' ps' v no xs (w'.setCell ⟨s + 1, 0, none⟩ (.slice Af' nf' cf')) := by
  obtain ⟨f1, f2, f3, f4, f5, f6, f7, f8⟩ := h.frame hg fun k hk => (h.pr.lt k hk).1
  have hlt := h.lt
  have hgs := h.gs
  have hx := h.xr.kept hg (blocks_ne h.xr h.pr int_ne_part)
  have hsz : (w'.setCell ⟨s + 1, 0, none⟩ (.slice Af' nf' cf')).heap.size = w'.heap.size := by simp [World.setCell]
  have hk : ∀ k, k ≠ s + 1 → (w'.setCell ⟨s + 1, 0, none⟩ (.slice Af' nf' cf')).heap[k]? = w'.heap[k]? := fun k hk => Below.heap_setCell _ _ _ _ (by simpa using hk)
  have ht : Tch (s + 1) (s + 2) w' (w'.setCell ⟨s + 1, 0, none⟩ (.slice Af' nf' cf')) := Tch.of_grown (grown_setCell0 w' (s + 1) 0 (.slice Af' nf' cf')) fun k hk => by cases hk; omega
  exact ⟨h.gs, f1.trans ⟨rfl, rfl, rfl, by rw [hsz]; exact Nat.le_refl _, fun k a b => hk k (by omega)⟩, f2.turn ht (by omega), by rw [hsz]; exact f3, (World.cell?_setCell_other _ _ _ _ (by simp)).trans f4, (World.frozen?_setCell _ _ _ _).trans f5, World.cell?_setCell_same _ _ _ f6, (World.frozen?_setCell _ _ _ _).trans f7, hl, own_keep hv fun k a b => hk k (by omega), h.xl, own_keep hx fun k a b => hk k (by omega), f8.keep fun p hp => World.cell?_of_block (hk p.block (by omega)), h.ng⟩
end
end Go.Proofs.YtgakgmkonmgblaaGreat

namespace Go.Proofs.YtgakgmkonmgblaaGreat
set_option linter.unusedSimpArgs false
set_option linter.unusedVariables false
open Go.RowKit
theorem cells_new (w : World) (cs : Array Value) (t : TypeId) (xs : List Value) (hx : cs.toList = xs) : ∀ j u, xs[j]? = some u → (w.alloc (.cells cs t)).cell? ((⟨w.heap.size, 0, none⟩ : Addr).add j) = some u := by
  subst hx
  intro j u hj
  have hadd : (⟨w.heap.size, 0, none⟩ : Addr).add j = ⟨w.heap.size, j, none⟩ := by unfold Addr.add; split <;> simp_all
  rw [hadd, cell_of_row _ w.heap.size j cs t (0, 0) (heap_alloc_new w _)]
  simpa using hj
end Go.Proofs.YtgakgmkonmgblaaGreat
