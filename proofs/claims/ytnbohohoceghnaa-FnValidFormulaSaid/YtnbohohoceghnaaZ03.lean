/- Texts put together: D1 R1 R2 G1 D2 A12 A13. -/
import Derived.Test.YtnbohohoceghnaaZ02
import Derived.BigQuiet
import Derived.Laws.Entries
import Derived.Laws.Bits64
import Derived.IntWalk
/- The drawing of arguments: the reader, pick, one. -/
namespace Go.Proofs.Ytnbohohoceghnaa
set_option linter.unusedSimpArgs false
set_option linter.unusedVariables false
open Go.RowKit

/-- The slice at A reads as the bytes bs; it lies below block B. -/
def BS (w : World) (B : Nat) (A : Option Addr) (bs : List Int) : Prop :=
  0 < bs.length → ∃ b off, A = some ⟨b, off, none⟩ ∧ b < B ∧ ∀ j, j < bs.length → w.cell? ⟨b, off + j, none⟩ = some (.int .u8 (bs.getD j 0))
theorem BS.keep {w w' : World} {B : Nat} {A : Option Addr} {xs : List Int} (h : BS w B A xs) (hk : ∀ p : Addr, p.block < B → w'.cell? p = w.cell? p) : BS w' B A xs := by
  intro hn
  obtain ⟨b, off, e, hb, hc⟩ := h hn
  exact ⟨b, off, e, hb, fun j hj => (hk _ hb).trans (hc j hj)⟩
theorem BS.more {w : World} {B B' : Nat} {A : Option Addr} {xs : List Int} (h : BS w B A xs) (hB : B ≤ B') : BS w B' A xs := by
  intro hn
  obtain ⟨b, off, e, hb, hc⟩ := h hn
  exact ⟨b, off, e, by omega, hc⟩
def BY (bs : List Int) : Prop := ∀ j, 0 ≤ bs.getD j 0 ∧ bs.getD j 0 ≤ 255

/-- The reader lies in block g; it has picked at most P times. -/
structure Rdr (g : Nat) (A : Option Addr) (n c : Nat) (bs : List Int) (P : Nat) (w : World) : Prop where
  lt : g < w.heap.size
  c0 : w.cell? ⟨g, 0, none⟩ = some (.slice A n c)
  pos : ∃ p : Nat, p ≤ P ∧ w.cell? ⟨g, 1, none⟩ = some (.int .i64 p)
  fz : w.frozen? ⟨g, 1, none⟩ = false
  by_ : BS w g A bs

section
variable {g : Nat} {A : Option Addr} {n c : Nat} {bs : List Int} {P P' : Nat} {w w' : World}
theorem Rdr.mono (h : Rdr g A n c bs P w) (hP : P ≤ P') : Rdr g A n c bs P' w := ⟨h.lt, h.c0, h.pos.imp fun p hp => ⟨Nat.le_trans hp.1 hP, hp.2⟩, h.fz, h.by_⟩
theorem Rdr.step (h : Rdr g A n c bs P w) (hb : Below w.heap.size w w') : Rdr g A n c bs P w' :=
  ⟨Nat.lt_of_lt_of_le h.lt hb.size, (hb.cell (p := ⟨g, 0, none⟩) h.lt).trans h.c0, h.pos.imp fun p hp => ⟨hp.1, (hb.cell (p := ⟨g, 1, none⟩) h.lt).trans hp.2⟩, (hb.frozen (p := ⟨g, 1, none⟩) h.lt).trans h.fz, h.by_.keep fun q hq => hb.cell (Nat.lt_trans hq h.lt)⟩
theorem Rdr.alloc (h : Rdr g A n c bs P w) (o : Obj) : Rdr g A n c bs P (w.alloc o) := h.step ((Below.refl _ _).alloc (Nat.le_refl _) o)
/-- Other blocks turned, none below g and not g. -/
theorem Rdr.turn {a b : Nat} (h : Rdr g A n c bs P w) (ht : Tch a b w w') (hg : g < a) : Rdr g A n c bs P w' :=
  ⟨Nat.lt_of_lt_of_le h.lt ht.size, (World.cell?_of_block (a := ⟨g, 0, none⟩) (ht.block g h.lt (.inl hg))).trans h.c0, h.pos.imp fun p hp => ⟨hp.1, (World.cell?_of_block (a := ⟨g, 1, none⟩) (ht.block g h.lt (.inl hg))).trans hp.2⟩, (World.frozen?_of_block (a := ⟨g, 1, none⟩) (ht.block g h.lt (.inl hg))).trans h.fz, h.by_.keep fun q hq => World.cell?_of_block (ht.block q.block (Nat.lt_trans hq h.lt) (.inl (Nat.lt_trans hq hg)))⟩
end

theorem bits_xor_i64_nat (a b : Nat) (ha : a < 4611686018427387904) (hb : b < 4611686018427387904) : bits .xor .i64 (a : Int) (b : Int) = ((a ^^^ b : Nat) : Int) := by
  have hx : a ^^^ b < 2 ^ 62 := Nat.xor_lt_two_pow (by omega) (by omega)
  have h1 : (BitVec.ofInt 64 (a : Int)).toNat = a := by
    rw [BitVec.ofInt_natCast, BitVec.toNat_ofNat]; exact Nat.mod_eq_of_lt (by omega)
  have h2 : (BitVec.ofInt 64 (b : Int)).toNat = b := by
    rw [BitVec.ofInt_natCast, BitVec.toNat_ofNat]; exact Nat.mod_eq_of_lt (by omega)
  show IntKind.i64.wrap ((BitVec.ofInt 64 (a : Int) ^^^ BitVec.ofInt 64 (b : Int)).toNat : Int) = _
  rw [BitVec.toNat_xor, h1, h2, IntKind.wrap_i64]
  omega

theorem drewN_below0 {B n : Nat} {a w : World} (h : Below B a w) : Below B a (w.drewN n) := ⟨h.os, h.tape, h.output, h.size, h.block⟩

/-- A number below n, if n is not 0; the reader has picked once more. -/
def PkP (g : Nat) (A : Option Addr) (n c : Nat) (bs : List Int) (P : Nat) (m : Int) (w : World) (e : Ending) (w' : World) : Prop :=
  ∃ x : Nat, e = .returned (.int .i64 x) ∧ (1 ≤ m → (x : Int) < m) ∧ (m < 1 → x = 0) ∧ Rdr g A n c bs (P + 1) w' ∧ Tch g (g + 1) w w'

theorem Rdr.picked {g : Nat} {A : Option Addr} {n c p P : Nat} {bs : List Int} {w : World} (h : Rdr g A n c bs P w) (hp : p ≤ P) (hc : w.cell? ⟨g, 1, none⟩ = some (.int .i64 p)) :
    Rdr g A n c bs (P + 1) (w.setCell ⟨g, 1, none⟩ (.int .i64 (p + 1))) ∧ Tch g (g + 1) w (w.setCell ⟨g, 1, none⟩ (.int .i64 (p + 1))) := by
  have hg := grown_setCell0 w g 1 (.int .i64 ((p : Int) + 1))
  refine ⟨⟨by simpa [World.setCell] using h.lt, ?_, ⟨p + 1, by omega, ?_⟩, by simpa using h.fz, ?_⟩, Tch.of_grown hg fun k hk => by cases hk; omega⟩
  · rw [World.cell?_setCell_other _ _ _ _ (by intro e; simp at e)]; exact h.c0
  · rw [World.cell?_setCell_same _ _ _ hc]; simp
  · exact h.by_.keep fun q hq => World.cell?_of_block (hg.block q.block (Nat.lt_trans hq h.lt) (by intro e; cases e; omega))

set_option maxRecDepth 100000 in
set_option maxHeartbeats 3200000 in
theorem pick_any (g : Nat) (A : Option Addr) (n c : Nat) (bs : List Int) (P : Nat) (m : Int) (w : World) (h : Rdr g A n c bs P w) (hn : n = bs.length) (hby : BY bs) (hs : n ≤ 2000) (hP : P ≤ 1000000) (hm : m ≤ 1000000) :
    Calls Try.prog 66 #[.pointer (some ⟨g, 0, none⟩), .int .i64 m] w fun e w' => PkP g A n c bs P m w e w' := by
  obtain ⟨p, hp, hc1⟩ := h.pos
  have hc0 := h.c0
  have hf := h.fz
  have HP := Lib.hid (h.picked hp hc1)
  have H := Lib.hid h
  have HN := Lib.hid hn
  have HBY := Lib.hid hby
  clear h hn hby
  by_cases hm1 : m < 1
  · go_enter Try.func66, Try.ntmps66
    go_wp2
    go_ret
    exact ⟨0, rfl, by omega, fun _ => rfl, HP.out.1, HP.out.2⟩
  by_cases hn0 : n = 0
  · have hz : ((n : Int) == 0) = true := by simp [hn0]
    clear hn0
    go_enter Try.func66, Try.ntmps66
    go_wp2
    go_ret
    exact ⟨0, rfl, by omega, fun _ => rfl, HP.out.1, HP.out.2⟩
  have hz : ((n : Int) == 0) = false := by simp; omega
  obtain ⟨b, off, rfl, hb, hcc⟩ := H.out.by_ (by have := HN.out; omega)
  have hbg : b < g := hb
  have hne : ¬ b = g := by omega
  by_cases hpn : p < n
  · have hx := hcc p (by have := HN.out; omega)
    have hy := HBY.out p
    generalize bs.getD p 0 = y at *
    clear hcc hn0
    go_enter Try.func66, Try.ntmps66
    go_wp2
    go_ret
    have hyn : y % m = ((y % m).toNat : Int) := by
      have := Int.emod_nonneg y (show m ≠ 0 by omega)
      omega
    refine ⟨(y % m).toNat, ret_i (by exact hyn), fun _ => ?_, fun h => by omega, HP.out.1, HP.out.2⟩
    rw [← hyn]
    exact Int.emod_lt_of_pos y (by omega)
  · have hn0' : 0 < n := by omega
    have hnp : p ≤ 1000000 := by omega
    have hq1 : p % n < n := Nat.mod_lt _ hn0'
    have hq2 : (p * 7 + 3) % n < n := Nat.mod_lt _ hn0'
    have hx1 := hcc (p % n) (by have := HN.out; omega)
    have hx2 := hcc ((p * 7 + 3) % n) (by have := HN.out; omega)
    have hy1 := HBY.out (p % n)
    have hy2 := HBY.out ((p * 7 + 3) % n)
    have hdv : p / n ≤ p := Nat.div_le_self _ _
    have e1 : (p : Int).tmod (n : Int) = ((p % n : Nat) : Int) := by rw [Int.tmod_eq_emod_of_nonneg (by omega)]; rfl
    have e6 : (p : Int).tdiv (n : Int) = ((p / n : Nat) : Int) := by rw [Int.tdiv_eq_ediv_of_nonneg (by omega)]; rfl
    have e4 : (((p * 7 + 3 : Nat)) : Int).tmod (n : Int) = (((p * 7 + 3) % n : Nat) : Int) := by rw [Int.tmod_eq_emod_of_nonneg (by omega)]; rfl
    generalize bs.getD (p % n) 0 = y1 at *
    generalize bs.getD ((p * 7 + 3) % n) 0 = y2 at *
    generalize p % n = q1 at *
    generalize (p * 7 + 3) % n = q2 at *
    generalize p / n = dv at *
    have w1 : IntKind.i64.wrap ((p : Int) * 7) = ((p * 7 : Nat) : Int) := by rw [IntWalk.i64_in _ (by omega)]; omega
    have w2 : IntKind.i64.wrap (((p * 7 : Nat) : Int) + 3) = ((p * 7 + 3 : Nat) : Int) := by rw [IntWalk.i64_in _ (by omega)]; omega
    obtain ⟨a1, ha1, hb1⟩ : ∃ a1 : Nat, IntKind.i64.wrap (y1 * 131) = (a1 : Int) ∧ a1 ≤ 40000 := ⟨(y1 * 131).toNat, by rw [IntWalk.i64_in _ (by omega)]; omega, by omega⟩
    obtain ⟨a2, ha2, hb2⟩ : ∃ a2 : Nat, IntKind.i64.wrap (y2 * 1117) = (a2 : Int) ∧ a2 ≤ 300000 := ⟨(y2 * 1117).toNat, by rw [IntWalk.i64_in _ (by omega)]; omega, by omega⟩
    obtain ⟨a3, ha3, hb3⟩ : ∃ a3 : Nat, IntKind.i64.wrap ((a1 : Int) + (a2 : Int)) = (a3 : Int) ∧ a3 ≤ 400000 := ⟨a1 + a2, by rw [IntWalk.i64_in _ (by omega)]; omega, by omega⟩
    obtain ⟨a4, ha4, hb4⟩ : ∃ a4 : Nat, IntKind.i64.wrap ((p : Int) * 29) = (a4 : Int) ∧ a4 ≤ 30000000 := ⟨p * 29, by rw [IntWalk.i64_in _ (by omega)]; omega, by omega⟩
    obtain ⟨a5, ha5, hb5⟩ : ∃ a5 : Nat, IntKind.i64.wrap ((a3 : Int) + (a4 : Int)) = (a5 : Int) ∧ a5 ≤ 31000000 := ⟨a3 + a4, by rw [IntWalk.i64_in _ (by omega)]; omega, by omega⟩
    have w3 : IntKind.i64.wrap (dv : Int) = (dv : Int) := IntWalk.i64_in _ (by omega)
    obtain ⟨a7, ha7, hb7⟩ : ∃ a7 : Nat, IntKind.i64.wrap ((dv : Int) * 53) = (a7 : Int) ∧ a7 ≤ 60000000 := ⟨dv * 53, by rw [IntWalk.i64_in _ (by omega)]; omega, by omega⟩
    obtain ⟨X, hX, hXb⟩ : ∃ X : Nat, IntKind.i64.wrap ((a5 : Int) + (a7 : Int)) = (X : Int) ∧ X ≤ 100000000 := ⟨a5 + a7, by rw [IntWalk.i64_in _ (by omega)]; omega, by omega⟩
    generalize p * 7 + 3 = p73 at *
    generalize p * 7 = p7 at *
    have hxor : bits .xor .i64 (X : Int) ((X : Int) / 64) = ((X ^^^ X / 64 : Nat) : Int) := bits_xor_i64_nat X (X / 64) (by omega) (by omega)
    have hxl : X ^^^ X / 64 < 2 ^ 62 := Nat.xor_lt_two_pow (by omega) (by omega)
    generalize X ^^^ X / 64 = Z at *
    have hzb : (Z : Int) ≤ 4611686018427387904 := by omega
    have hbw : b < w.heap.size := by have := H.out.lt; omega
    clear hcc hxl hdv hn0
    go_enter Try.func66, Try.ntmps66
    go_wp2
    go_quiet (fail)
    clear w1 w2 w3 ha1 ha2 ha3 ha4 ha5 ha7 hX e1 e6 e4
    go_wp2
    go_ret
    have hyn : (Z : Int) % m = (((Z : Int) % m).toNat : Int) := by
      have := Int.emod_nonneg (Z : Int) (show m ≠ 0 by omega)
      omega
    refine ⟨((Z : Int) % m).toNat, ret_i (by exact hyn), fun _ => ?_, fun h => by omega, ?_, ?_⟩
    · rw [← hyn]
      exact Int.emod_lt_of_pos _ (by omega)
    · exact HP.out.1.step (drewN_below0 (Below.refl _ _))
    · exact HP.out.2.trans (Tch.of_below (drewN_below0 (Below.refl _ _)))

/-- One of the numbers; the reader has picked once more. -/
def OneP (g : Nat) (A : Option Addr) (n c : Nat) (bs : List Int) (P : Nat) (xs : List Int) (w : World) (e : Ending) (w' : World) : Prop :=
  ∃ x : Int, e = .returned (.int .i64 x) ∧ x ∈ xs ∧ Rdr g A n c bs (P + 1) w' ∧ Tch g (g + 1) w w'

set_option maxHeartbeats 800000 in
theorem one_any (g : Nat) (A : Option Addr) (n c : Nat) (bs : List Int) (P : Nat) (b' off' l c' : Nat) (xs : List Int) (w : World) (h : Rdr g A n c bs P w) (hn : n = bs.length) (hby : BY bs) (hs : n ≤ 2000) (hP : P ≤ 1000000)
    (hl : l = xs.length) (hl1 : 1 ≤ l) (hl2 : l ≤ 1000) (hx : ∀ j, j < l → w.cell? ⟨b', off' + j, none⟩ = some (.int .i64 (xs.getD j 0))) (hne : b' ≠ g) (hbw : b' < w.heap.size) :
    Calls Try.prog 65 #[.pointer (some ⟨g, 0, none⟩), .slice (some ⟨b', off', none⟩) l c'] w fun e w' => OneP g A n c bs P xs w e w' := by
  have HPK := Lib.hid (pick_any g A n c bs P l w h hn hby hs hP (by omega))
  have HX := Lib.hid hx
  have HL := Lib.hid hl
  clear hx hl h hn
  go_enter Try.func65, Try.ntmps65
  go_wp2_with fail
  refine HPK.out.mono ?_
  rintro e w1 ⟨x, rfl, hxl, _, hr, ht⟩
  have hxl' : x < l := by have := hxl (by omega); omega
  have c1 := (World.cell?_of_block (a := ⟨b', off' + x, none⟩) (ht.block b' hbw (by omega))).trans (HX.out x hxl')
  have HR := Lib.hid hr
  have HT := Lib.hid ht
  have hmem : xs.getD x 0 ∈ xs := by
    have : x < xs.length := by have := HL.out; omega
    simp [List.getD, this]
  have HMEM := Lib.hid hmem
  clear hxl hr ht hmem
  generalize xs.getD x 0 = y at *
  go_wp2
  go_ret
  exact ⟨y, rfl, HMEM.out, HR.out, HT.out⟩

/-- Returns a part; the reader has picked K times more at most. -/
def PtP (g : Nat) (A : Option Addr) (n c : Nat) (bs : List Int) (P : Nat) (w : World) (e : Ending) (w' : World) : Prop :=
  ∃ q : Pt, e = .returned (.agg #[.int .i64 q.k, .int .i64 q.a, .int .i64 q.b, .int .i64 q.c, .int .i64 q.n]) ∧ Rdr g A n c bs P w' ∧ Tch g (g + 1) w w'

set_option maxHeartbeats 400000 in
theorem spec_numberPart (x : Int) (w : World) :
    Calls Try.prog 78 #[.int .i64 x] w fun e w' => e = .returned (.agg #[.int .i64 0, .int .i64 (-1), .int .i64 (-1), .int .i64 (-1), .int .i64 x]) ∧ Below w.heap.size w w' := by
  go_enter Try.func78, Try.ntmps78
  go_wp2
  refine bodyPost_ret (v := .agg #[.int .i64 0, .int .i64 (-1), .int .i64 (-1), .int .i64 (-1), .int .i64 x]) (by simp [results, Try.results78, go_sem]) rfl ⟨rfl, ?_⟩
  exact (Below.refl _ _).alloc (Nat.le_refl _) _

theorem Rdr.set1 {g b : Nat} {A : Option Addr} {n c : Nat} {bs : List Int} {P : Nat} {w : World} (h : Rdr g A n c bs P w) (hb : g < b) (j : Nat) (x : Value) : Rdr g A n c bs P (w.setCell ⟨b, j, none⟩ x) :=
  h.turn (Tch.of_grown (grown_setCell0 w b j x) fun k hk => by cases hk; exact ⟨Nat.le_refl _, Nat.lt_succ_self _⟩) hb
theorem Tch.set1 {g b : Nat} {w w1 : World} (h : Tch g (g + 1) w w1) (hb : w.heap.size ≤ b) (j : Nat) (x : Value) : Tch g (g + 1) w (w1.setCell ⟨b, j, none⟩ x) := by
  refine ⟨h.os, h.tape, h.output, by simpa [World.setCell] using h.size, fun k hk hr => ?_⟩
  exact (Below.heap_setCell _ _ _ _ (by show k ≠ b; omega)).trans (h.block k hk hr)
/-- The five cells of a new box were written. -/
theorem Rdr.set5 {g b : Nat} {A : Option Addr} {n c : Nat} {bs : List Int} {P : Nat} {w : World} {x0 x1 x2 x3 x4 : Value} (h : Rdr g A n c bs P w) (hb : g < b) : Rdr g A n c bs P (((((w.setCell ⟨b, 0, none⟩ x0).setCell ⟨b, 1, none⟩ x1).setCell ⟨b, 2, none⟩ x2).setCell ⟨b, 3, none⟩ x3).setCell ⟨b, 4, none⟩ x4) :=
  ((((h.set1 hb 0 x0).set1 hb 1 x1).set1 hb 2 x2).set1 hb 3 x3).set1 hb 4 x4
theorem Tch.set5 {g : Nat} {w w1 : World} {x0 x1 x2 x3 x4 : Value} (h : Tch g (g + 1) w w1) : Tch g (g + 1) w (((((w1.setCell ⟨w.heap.size, 0, none⟩ x0).setCell ⟨w.heap.size, 1, none⟩ x1).setCell ⟨w.heap.size, 2, none⟩ x2).setCell ⟨w.heap.size, 3, none⟩ x3).setCell ⟨w.heap.size, 4, none⟩ x4) :=
  ((((h.set1 (Nat.le_refl _) 0 x0).set1 (Nat.le_refl _) 1 x1).set1 (Nat.le_refl _) 2 x2).set1 (Nat.le_refl _) 3 x3).set1 (Nat.le_refl _) 4 x4

set_option maxHeartbeats 800000 in
theorem readPart_any (g : Nat) (A : Option Addr) (n c : Nat) (bs : List Int) (P : Nat) (A' : Option Addr) (l c' : Nat) (xs : List Int) (w : World) (h : Rdr g A n c bs P w) (hn : n = bs.length) (hby : BY bs) (hs : n ≤ 2000) (hP : P ≤ 1000000)
    (hl : l = xs.length) (hl2 : l ≤ 1000) (hx : IS w w.heap.size A' xs) (hne : ∀ b' o', A' = some ⟨b', o', none⟩ → b' ≠ g) :
    Calls Try.prog 85 #[.pointer (some ⟨g, 0, none⟩), .slice A' l c'] w fun e w' => PtP g A n c bs (P + 1) w e w' := by
  have hgw := h.lt
  by_cases hl0 : l = 0
  · have hz : ((l : Int) == 0) = true := by simp [hl0]
    have HPK := Lib.hid (pick_any g A n c bs P 10 (w.alloc (.cells #[.int .i64 0, .int .i64 0, .int .i64 0, .int .i64 0, .int .i64 0] 54)) (h.alloc _) hn hby hs hP (by omega))
    clear hx hl h hn hne hl0
    go_enter Try.func85, Try.ntmps85
    go_wp2_with fail
    refine HPK.out.mono ?_
    rintro e w1 ⟨x, rfl, _, _, hr, ht⟩
    have hz1 : w.heap.size < w1.heap.size := by have := ht.size; simp at this; omega
    have q (j : Nat) : w1.cell? ⟨w.heap.size, j, none⟩ = (w.alloc (.cells #[.int .i64 0, .int .i64 0, .int .i64 0, .int .i64 0, .int .i64 0] 54)).cell? ⟨w.heap.size, j, none⟩ := World.cell?_of_block (a := ⟨w.heap.size, j, none⟩) (ht.block w.heap.size (by simp) (.inr (by omega)))
    have f (j : Nat) : w1.frozen? ⟨w.heap.size, j, none⟩ = (w.alloc (.cells #[.int .i64 0, .int .i64 0, .int .i64 0, .int .i64 0, .int .i64 0] 54)).frozen? ⟨w.heap.size, j, none⟩ := World.frozen?_of_block (a := ⟨w.heap.size, j, none⟩) (ht.block w.heap.size (by simp) (.inr (by omega)))
    have HR := Lib.hid hr
    have HT := Lib.hid ht
    have HQ := Lib.hid q
    have HF := Lib.hid f
    clear hr ht q f
    go_wp2_with fail
    refine (spec_numberPart _ _).mono ?_
    rintro e w2 ⟨rfl, hb⟩
    have q0 : w2.cell? ⟨w.heap.size, 0, none⟩ = some (.int .i64 0) := ((hb.cell (p := ⟨w.heap.size, 0, none⟩) hz1).trans (HQ.out 0)).trans (by go_simp)
    have q1 : w2.cell? ⟨w.heap.size, 1, none⟩ = some (.int .i64 0) := ((hb.cell (p := ⟨w.heap.size, 1, none⟩) hz1).trans (HQ.out 1)).trans (by go_simp)
    have q2 : w2.cell? ⟨w.heap.size, 2, none⟩ = some (.int .i64 0) := ((hb.cell (p := ⟨w.heap.size, 2, none⟩) hz1).trans (HQ.out 2)).trans (by go_simp)
    have q3 : w2.cell? ⟨w.heap.size, 3, none⟩ = some (.int .i64 0) := ((hb.cell (p := ⟨w.heap.size, 3, none⟩) hz1).trans (HQ.out 3)).trans (by go_simp)
    have q4 : w2.cell? ⟨w.heap.size, 4, none⟩ = some (.int .i64 0) := ((hb.cell (p := ⟨w.heap.size, 4, none⟩) hz1).trans (HQ.out 4)).trans (by go_simp)
    have f0 : w2.frozen? ⟨w.heap.size, 0, none⟩ = false := ((hb.frozen (p := ⟨w.heap.size, 0, none⟩) hz1).trans (HF.out 0)).trans (by go_simp)
    have f1 : w2.frozen? ⟨w.heap.size, 1, none⟩ = false := ((hb.frozen (p := ⟨w.heap.size, 1, none⟩) hz1).trans (HF.out 1)).trans (by go_simp)
    have f2 : w2.frozen? ⟨w.heap.size, 2, none⟩ = false := ((hb.frozen (p := ⟨w.heap.size, 2, none⟩) hz1).trans (HF.out 2)).trans (by go_simp)
    have f3 : w2.frozen? ⟨w.heap.size, 3, none⟩ = false := ((hb.frozen (p := ⟨w.heap.size, 3, none⟩) hz1).trans (HF.out 3)).trans (by go_simp)
    have f4 : w2.frozen? ⟨w.heap.size, 4, none⟩ = false := ((hb.frozen (p := ⟨w.heap.size, 4, none⟩) hz1).trans (HF.out 4)).trans (by go_simp)
    have HR2 := Lib.hid (HR.out.step hb)
    have HT2 := Lib.hid ((Tch.of_below (a := g) (b := g + 1) ((Below.refl w.heap.size w).alloc (Nat.le_refl _) (.cells #[.int .i64 0, .int .i64 0, .int .i64 0, .int .i64 0, .int .i64 0] 54))).trans (HT.out.trans (Tch.of_below hb)))
    have hz2 : w.heap.size < w2.heap.size := Nat.lt_of_lt_of_le hz1 hb.size
    clear hb HQ HF HR HT
    go_wp2
    refine bodyPost_ret (v := .agg #[.int .i64 0, .int .i64 (-1), .int .i64 (-1), .int .i64 (-1), .int .i64 x]) (by simp [results, Try.results85, go_sem, q0, q1, q2, q3, q4]) rfl ?_
    exact ⟨⟨0, -1, -1, -1, x⟩, rfl, HR2.out.set5 (by omega), HT2.out.set5⟩
  · have hz : ((l : Int) == 0) = false := by simp; omega
    have hlI : 1 ≤ (l : Int) := by omega
    have HPK := Lib.hid (pick_any g A n c bs P l (w.alloc (.cells #[.int .i64 0, .int .i64 0, .int .i64 0, .int .i64 0, .int .i64 0] 54)) (h.alloc _) hn hby hs hP (by omega))
    obtain ⟨b2, off2, rfl, hb2, hc2⟩ := hx (by omega)
    have hbg := hne b2 off2 rfl
    have HC := Lib.hid hc2
    have HL := Lib.hid hl
    clear hx hl h hn hne hl0 hc2
    go_enter Try.func85, Try.ntmps85
    go_wp2_with fail
    refine HPK.out.mono ?_
    rintro e w1 ⟨x, rfl, hx1, _, hr, ht⟩
    have hxl : x < l := by have := hx1 hlI; omega
    have hz1 : w.heap.size < w1.heap.size := by have := ht.size; simp at this; omega
    have cy := ((World.cell?_of_block (a := ⟨b2, off2 + x, none⟩) (ht.block b2 (by simp; omega) (by omega))).trans (World.cell?_alloc_lt w _ ⟨b2, off2 + x, none⟩ hb2)).trans (HC.out x (by have := HL.out; omega))
    have q (j : Nat) : w1.cell? ⟨w.heap.size, j, none⟩ = (w.alloc (.cells #[.int .i64 0, .int .i64 0, .int .i64 0, .int .i64 0, .int .i64 0] 54)).cell? ⟨w.heap.size, j, none⟩ := World.cell?_of_block (a := ⟨w.heap.size, j, none⟩) (ht.block w.heap.size (by simp) (.inr (by omega)))
    have f (j : Nat) : w1.frozen? ⟨w.heap.size, j, none⟩ = (w.alloc (.cells #[.int .i64 0, .int .i64 0, .int .i64 0, .int .i64 0, .int .i64 0] 54)).frozen? ⟨w.heap.size, j, none⟩ := World.frozen?_of_block (a := ⟨w.heap.size, j, none⟩) (ht.block w.heap.size (by simp) (.inr (by omega)))
    have q0 : w1.cell? ⟨w.heap.size, 0, none⟩ = some (.int .i64 0) := (q 0).trans (by go_simp)
    have q1 : w1.cell? ⟨w.heap.size, 1, none⟩ = some (.int .i64 0) := (q 1).trans (by go_simp)
    have q2 : w1.cell? ⟨w.heap.size, 2, none⟩ = some (.int .i64 0) := (q 2).trans (by go_simp)
    have q3 : w1.cell? ⟨w.heap.size, 3, none⟩ = some (.int .i64 0) := (q 3).trans (by go_simp)
    have q4 : w1.cell? ⟨w.heap.size, 4, none⟩ = some (.int .i64 0) := (q 4).trans (by go_simp)
    have f0 : w1.frozen? ⟨w.heap.size, 0, none⟩ = false := (f 0).trans (by go_simp)
    have f1 : w1.frozen? ⟨w.heap.size, 1, none⟩ = false := (f 1).trans (by go_simp)
    have f2 : w1.frozen? ⟨w.heap.size, 2, none⟩ = false := (f 2).trans (by go_simp)
    have f3 : w1.frozen? ⟨w.heap.size, 3, none⟩ = false := (f 3).trans (by go_simp)
    have f4 : w1.frozen? ⟨w.heap.size, 4, none⟩ = false := (f 4).trans (by go_simp)
    have HR2 := Lib.hid hr
    have HT2 := Lib.hid ((Tch.of_below (a := g) (b := g + 1) ((Below.refl w.heap.size w).alloc (Nat.le_refl _) (.cells #[.int .i64 0, .int .i64 0, .int .i64 0, .int .i64 0, .int .i64 0] 54))).trans ht)
    clear hr ht q f hx1
    generalize xs.getD x 0 = y at *
    go_wp2
    refine bodyPost_ret (v := .agg #[.int .i64 1, .int .i64 (-1), .int .i64 (-1), .int .i64 (-1), .int .i64 y]) (by simp [results, Try.results85, go_sem, q0, q1, q2, q3, q4]) rfl ?_
    exact ⟨⟨1, -1, -1, -1, y⟩, rfl, HR2.out.set5 (by omega), HT2.out.set5⟩
end Go.Proofs.Ytnbohohoceghnaa

/- What the law of RunsOf draws out of its bytes. -/
namespace Go.Proofs.Ytnbohohoceghnaa
set_option linter.unusedSimpArgs false
set_option linter.unusedVariables false
open Go.RowKit

/-- Returns a fresh reader that has not picked yet. -/
def RdP (w : World) (e : Ending) (w' : World) : Prop :=
  ∃ (g : Nat) (A : Option Addr) (n c : Nat) (bs : List Int), e = .returned (.pointer (some ⟨g, 0, none⟩)) ∧ n = bs.length ∧ n ≤ 2000 ∧ BY bs ∧ Rdr g A n c bs 0 w' ∧ w.heap.size ≤ g ∧ Below w.heap.size w w'

theorem row_form {w : World} {base n size : Nat} {e : TypeId} {v : Value} {xs : List Value} (h : w.ownsRow base e size v n xs) : ∃ A c, v = .slice A n c := by
  rcases h.2 with ⟨rfl, rfl⟩ | ⟨g, cap, cur, rfl, _⟩
  · exact ⟨none, 0, rfl⟩
  · exact ⟨some ⟨g, 0, none⟩, cap, rfl⟩

theorem BY.take {bs : List Int} (h : BY bs) (k : Nat) : BY (bs.take k) := by
  intro j
  by_cases hj : j < k
  · have : (bs.take k).getD j 0 = bs.getD j 0 := by simp only [List.getD, List.getElem?_take, if_pos hj]
    rw [this]; exact h j
  · have : (bs.take k).getD j 0 = 0 := by simp only [List.getD, List.getElem?_take, if_neg hj]; rfl
    rw [this]; omega
theorem BS.take {w : World} {B : Nat} {A : Option Addr} {bs : List Int} (h : BS w B A bs) (k : Nat) : BS w B A (bs.take k) := by
  intro hn
  rw [List.length_take] at hn
  obtain ⟨b, off, e, hb, hc⟩ := h (by omega)
  refine ⟨b, off, e, hb, fun j hj => ?_⟩
  rw [List.length_take] at hj
  have : (bs.take k).getD j 0 = bs.getD j 0 := by simp only [List.getD, List.getElem?_take, if_pos (show j < k by omega)]
  rw [this]
  exact hc j (by omega)

set_option maxHeartbeats 800000 in
theorem spec_newReader (A : Option Addr) (n c : Nat) (bs : List Int) (w : World) (B : Nat) (hB : B ≤ w.heap.size) (hn : n = bs.length) (hnc : n ≤ c) (h : BS w B A bs) (hy : BY bs) (hs : n ≤ 1048576) :
    Calls Try.prog 54 #[.slice A n c] w fun e w' => RdP w e w' := by
  by_cases h2 : 2000 < n
  · have h3 : 2000 ≤ c := by omega
    obtain ⟨b, off, rfl, hb, hc⟩ := h (by omega)
    have H := Lib.hid (BS.take (w := w) (B := B) (A := some ⟨b, off, none⟩) (bs := bs) (fun _ => ⟨b, off, rfl, hb, hc⟩) 2000)
    have HY := Lib.hid (hy.take 2000)
    have HL : Hid ((bs.take 2000).length = 2000) := by show _ = _; rw [List.length_take]; omega
    generalize bs.take 2000 = ds at *
    clear h hy hn hc
    go_enter Try.func54, Try.ntmps54
    go_wp2
    go_ret
    refine ⟨w.heap.size, some ⟨b, off, none⟩, 2000, c, ds, rfl, HL.out.symm, by omega, HY.out, ⟨by simp, by go_simp, ⟨0, Nat.le_refl _, by go_simp⟩, by go_simp, ?_⟩, ?_, ?_⟩
    · exact (H.out.keep fun p hp => World.cell?_alloc_lt w _ p (by omega)).more hB
    · exact Nat.le_refl _
    · exact (Below.refl _ _).alloc (Nat.le_refl _) _
  · have H := Lib.hid h
    have HN := Lib.hid hn
    clear h hn
    go_enter Try.func54, Try.ntmps54
    go_wp2
    go_ret
    refine ⟨w.heap.size, A, n, c, bs, rfl, HN.out, by omega, hy, ⟨by simp, by go_simp, ⟨0, Nat.le_refl _, by go_simp⟩, by go_simp, ?_⟩, ?_, ?_⟩
    · exact (H.out.keep fun p hp => World.cell?_alloc_lt w _ p (by omega)).more hB
    · exact Nat.le_refl _
    · exact (Below.refl _ _).alloc (Nat.le_refl _) _

/-- Returns a list of at most nine numbers in a fresh block, and a number. -/
def DrR (w : World) (e : Ending) (w' : World) : Prop :=
  ∃ (A : Option Addr) (c : Nat) (xs : List Int) (x : Int), e = .returned (.tuple #[.slice A xs.length c, .int .i64 x]) ∧ xs.length ≤ 9 ∧ IS w' w'.heap.size A xs ∧ Below w.heap.size w w'

end Go.Proofs.Ytnbohohoceghnaa

/- laws.FnRunsOf returns true for all bytes, and writes nothing that was there. -/
namespace Go.Proofs.Ytnbohohoceghnaa
set_option linter.unusedSimpArgs false
set_option linter.unusedVariables false
open Go.RowKit

set_option maxHeartbeats 800000 in
theorem laws_place (A : Option Addr) (n c : Nat) (xs : List Int) (x : Int) (w : World) (B : Nat) (hB : B ≤ w.heap.size) (hn : n = xs.length) (h : IS w B A xs) (hs : n ≤ 2000000) :
    Calls Try.prog 49 #[.slice A n c, .int .i64 x] w fun e w' => e = .returned (.int .i64 (plc xs x)) ∧ w = w' := by
  have H := Lib.hid h
  have HN := Lib.hid hn
  clear hn h
  go_enter Try.func49, Try.ntmps49
  go_wp2
  go_loop [5] (fun i => ∃ k : Nat, k ≤ n ∧ i = .int .i64 k ∧ Hid (∀ j, j < k → xs.getD j 0 ≠ x)) (fun i => n - (intOf i).toNat)
  case atStart => exact ⟨0, Nat.zero_le _, rfl, fun j hj => by omega⟩
  case round =>
    obtain ⟨k, hk, rfl, HA⟩ := hrel
    by_cases hlt : k < n
    · obtain ⟨b, off, rfl, hbB, hc⟩ := H.out (by have := HN.out; omega)
      have c0 := hc k (by have := HN.out; omega)
      clear hc H
      generalize hp : xs.getD k 0 = p at *
      have HP := Lib.hid hp
      clear hp
      cases hr : (p == x)
      · have HR := Lib.hid hr
        go_wp2
        go_round
        case rel => exact ⟨k + 1, by omega, by go_num, fun j hj => by
          rcases Nat.lt_or_ge j k with h1 | h1
          · exact HA.out j h1
          · obtain rfl : j = k := by omega
            rw [HP.out]; simpa using HR.out⟩
        case measure => simp [intOf]; omega
      · have HR := Lib.hid hr
        go_wp2
        go_ret
        refine ⟨ret_i ?_, rfl⟩
        exact (plc_at xs x k (by have := HN.out; omega) (by rw [HP.out]; simpa using HR.out) HA.out).symm
    · go_wp2
      go_ret
      refine ⟨ret_i ?_, rfl⟩
      exact (plc_none xs x fun j hj => HA.out j (by have := HN.out; omega)).symm

set_option maxHeartbeats 800000 in
theorem laws_isIn (A : Option Addr) (n c : Nat) (xs : List Int) (x : Int) (w : World) (B : Nat) (hB : B ≤ w.heap.size) (hn : n = xs.length) (h : IS w B A xs) (hs : n ≤ 2000000) :
    Calls Try.prog 25 #[.slice A n c, .int .i64 x] w fun e w' => e = .returned (.bool (decide (x ∈ xs))) ∧ w = w' := by
  have H := Lib.hid h
  have HN := Lib.hid hn
  clear hn h
  go_enter Try.func25, Try.ntmps25
  go_wp2
  go_loop [5] (fun i => ∃ k : Nat, k ≤ n ∧ i = .int .i64 k ∧ Hid (∀ j, j < k → xs.getD j 0 ≠ x)) (fun i => n - (intOf i).toNat)
  case atStart => exact ⟨0, Nat.zero_le _, rfl, fun j hj => by omega⟩
  case round =>
    obtain ⟨k, hk, rfl, HA⟩ := hrel
    by_cases hlt : k < n
    · obtain ⟨b, off, rfl, hbB, hc⟩ := H.out (by have := HN.out; omega)
      have c0 := hc k (by have := HN.out; omega)
      clear hc H
      generalize hp : xs.getD k 0 = p at *
      have HP := Lib.hid hp
      clear hp
      cases hr : (p == x)
      · have HR := Lib.hid hr
        go_wp2
        go_round
        case rel => exact ⟨k + 1, by omega, by go_num, fun j hj => by
          rcases Nat.lt_or_ge j k with h1 | h1
          · exact HA.out j h1
          · obtain rfl : j = k := by omega
            rw [HP.out]; simpa using HR.out⟩
        case measure => simp [intOf]; omega
      · have HR := Lib.hid hr
        go_wp2
        go_ret
        refine ⟨ret_b ?_, rfl⟩
        symm
        apply decide_eq_true
        have h1 : k < xs.length := by have := HN.out; omega
        have h2 := HP.out
        have h3 : p = x := by simpa using HR.out
        rw [← h3, ← h2]
        simp [List.getD, h1]
    · go_wp2
      go_ret
      refine ⟨ret_b ?_, rfl⟩
      symm
      apply decide_eq_false
      intro hm
      obtain ⟨j, hj, he⟩ := List.mem_iff_getElem.1 hm
      exact HA.out j (by have := HN.out; omega) (by simp [List.getD, hj, he])

end Go.Proofs.Ytnbohohoceghnaa

/- Words for graphs: a slice of nodes that reads as a list, one of the call's own, one whose content does not matter. -/
namespace Go.Proofs.Ytnbohohoceghnaa
set_option linter.unusedSimpArgs false
set_option linter.unusedVariables false
open Go.RowKit

/-- A node of a graph: its kind, the parts of its formula. -/
structure Nd where
  k : Int
  ps : List Pt
deriving DecidableEq, Inhabited

/-- The two cells at b, off read as a node. -/
def NdS (w : World) (B b off : Nat) (d : Nd) : Prop :=
  w.cell? ⟨b, off, none⟩ = some (.int .i64 d.k) ∧ ∃ A n c, w.cell? ⟨b, off + 1, none⟩ = some (.slice A n c) ∧ n = d.ps.length ∧ PS w B A d.ps

/-- The slice at A reads as the nodes gs; all of it lies below block B. -/
def GS (w : World) (B : Nat) (A : Option Addr) (gs : List Nd) : Prop :=
  0 < gs.length → ∃ b off, A = some ⟨b, off, none⟩ ∧ b < B ∧ ∀ j, j < gs.length → NdS w B b (off + j * 2) (gs.getD j default)

theorem NdS.keep {w w' : World} {B b off : Nat} {d : Nd} (h : NdS w B b off d) (hb : b < B) (hk : ∀ p : Addr, p.block < B → w'.cell? p = w.cell? p) : NdS w' B b off d := by
  obtain ⟨h1, A, n, c, h2, h3, h4⟩ := h
  exact ⟨(hk _ hb).trans h1, A, n, c, (hk _ hb).trans h2, h3, h4.keep hk⟩
theorem NdS.more {w : World} {B B' b off : Nat} {d : Nd} (h : NdS w B b off d) (hB : B ≤ B') : NdS w B' b off d := by
  obtain ⟨h1, A, n, c, h2, h3, h4⟩ := h
  exact ⟨h1, A, n, c, h2, h3, h4.more hB⟩

section
variable {w w' : World} {B B' C : Nat} {A : Option Addr} {gs : List Nd}
theorem GS.keep (h : GS w B A gs) (hk : ∀ p : Addr, p.block < B → w'.cell? p = w.cell? p) : GS w' B A gs := by
  intro hn
  obtain ⟨b, off, e, hb, hc⟩ := h hn
  exact ⟨b, off, e, hb, fun j hj => (hc j hj).keep hb hk⟩
theorem GS.more (h : GS w B A gs) (hB : B ≤ B') : GS w B' A gs := by
  intro hn
  obtain ⟨b, off, e, hb, hc⟩ := h hn
  exact ⟨b, off, e, by omega, fun j hj => (hc j hj).more hB⟩
theorem GS.below (h : GS w B A gs) (hb : Below C w w') (hC : B ≤ C) : GS w' B A gs := h.keep fun _ hp => hb.cell (Nat.lt_of_lt_of_le hp hC)
theorem GS.alloc (h : GS w B A gs) (hB : B ≤ w.heap.size) (o : Obj) : GS (w.alloc o) B A gs := h.keep fun p hp => World.cell?_alloc_lt w o p (by omega)
theorem GS.nil (w : World) (B : Nat) (A : Option Addr) : GS w B A [] := fun h => absurd h (by simp)
theorem GS.step {A : Option Addr} {gs : List Nd} {wk wl : World} (h : GS wk wk.heap.size A gs) (hb : Below wk.heap.size wk wl) : GS wl wl.heap.size A gs := (h.below hb (Nat.le_refl _)).more hb.size
end
theorem GS.loc (B : Nat) (A : Option Addr) (gs : List Nd) : Loc 0 B fun w => GS w B A gs :=
  fun w w' h hk => h.keep fun p hp => World.cell?_of_block (hk p.block (Nat.zero_le _) hp)

/-- No more nodes, and no node with more parts, than a million. -/
def GB (gs : List Nd) : Prop := gs.length ≤ 1048576 ∧ ∀ j, (gs.getD j default).ps.length ≤ 1048576

def gsz (gs : List Nd) : Nat := gs.length + (gs.map fun d => d.ps.length).sum

theorem sum_getD (l : List Nat) (j : Nat) : l.getD j 0 ≤ l.sum := by
  induction l generalizing j with
  | nil => simp
  | cons x l ih =>
    cases j with
    | zero => simp
    | succ j => have := ih j; simp only [List.getD_cons_succ, List.sum_cons]; omega

theorem GB.of_gsz {gs : List Nd} (h : gsz gs ≤ 1048576) : GB gs := by
  unfold gsz at h
  refine ⟨by omega, fun j => ?_⟩
  have := sum_getD (gs.map fun d => d.ps.length) j
  have e : (gs.map fun d => d.ps.length).getD j 0 = (gs.getD j default).ps.length := by
    by_cases hj : j < gs.length
    · simp [List.getD, hj]
    · simp [List.getD, List.getElem?_eq_none (show gs.length ≤ j by omega)]; rfl
  omega

theorem sum_take_succ (gs : List Nd) (k : Nat) (h : k < gs.length) : ((gs.take (k + 1)).map fun d => d.ps.length).sum = ((gs.take k).map fun d => d.ps.length).sum + (gs.getD k default).ps.length := by
  rw [take_succ_getD gs k h, List.map_append, List.sum_append]; simp

theorem sum_take_le (gs : List Nd) (k : Nat) : ((gs.take k).map fun d => d.ps.length).sum ≤ (gs.map fun d => d.ps.length).sum := by
  have : (gs.map fun d => d.ps.length).sum = ((gs.take k).map fun d => d.ps.length).sum + ((gs.drop k).map fun d => d.ps.length).sum := by
    rw [← List.sum_append, ← List.map_append, List.take_append_drop]
  omega

/-- The two values are a node of the call's own. -/
def NdO (lo hi : Nat) (d : Nd) (x y : Value) (w : World) : Prop :=
  x = .int .i64 d.k ∧ ∃ A n c, y = .slice A n c ∧ n = d.ps.length ∧ OwR lo hi 54 5 y n (d.ps.flatMap Pt.cells) w

theorem NdO.keep {lo hi : Nat} {d : Nd} {x y : Value} {w w' : World} (h : NdO lo hi d x y w) (hk : ∀ k, lo ≤ k → k < hi → w'.heap[k]? = w.heap[k]?) : NdO lo hi d x y w' := by
  obtain ⟨h1, A, n, c, h2, h3, h4⟩ := h
  exact ⟨h1, A, n, c, h2, h3, h4.keep hk⟩
theorem NdO.mono {lo hi lo' hi' : Nat} {d : Nd} {x y : Value} {w : World} (h : NdO lo hi d x y w) (h1 : lo' ≤ lo) (h2 : hi ≤ hi') : NdO lo' hi' d x y w := by
  obtain ⟨e1, A, n, c, e2, e3, h4⟩ := h
  exact ⟨e1, A, n, c, e2, e3, h4.mono h1 h2⟩
/-- The block of a row of one kind is not that of a row of another kind. -/
theorem blocks_ne {w : World} {b1 b2 : Nat} {e1 e2 : TypeId} {s1 s2 n1 n2 : Nat} {v u : Value} {xs ys : List Value} (h : w.ownsRow b1 e1 s1 v n1 xs) (h' : w.ownsRow b2 e2 s2 u n2 ys) (he : e1 ≠ e2) : v.ownBlock = none ∨ v.ownBlock ≠ u.ownBlock := by
  rcases h.2 with ⟨rfl, _⟩ | ⟨g, cap, cur, rfl, _, hh, _⟩
  · exact .inl rfl
  · right
    rcases h'.2 with ⟨rfl, _⟩ | ⟨g', cap', cur', rfl, _, hh', _⟩
    · simp [Value.ownBlock]
    · simp only [Value.ownBlock, ne_eq, Option.some.injEq]
      rintro rfl
      rw [hh] at hh'
      simp only [Option.some.injEq, Obj.cells.injEq] at hh'
      exact he hh'.2.1

end Go.Proofs.Ytnbohohoceghnaa

/- The drawing of formulas: what is kept while parts are drawn. -/
namespace Go.Proofs.Ytnbohohoceghnaa
set_option linter.unusedSimpArgs false
set_option linter.unusedVariables false
open Go.RowKit

/-- A row's beginning is a row. -/
theorem own_shrink {w : World} {base e g n cap k : Nat} {xs : List Value} (h : w.ownsRow base e 1 (.slice (some ⟨g, 0, none⟩) n cap) n xs) (hk : k ≤ n) : w.ownsRow base e 1 (.slice (some ⟨g, 0, none⟩) k cap) k (xs.take k) := by
  have hl := h.1
  rcases h.2 with ⟨hv, _⟩ | ⟨g', cap', cur, hv, hb, hh, h1, h2, h3, h4⟩
  · simp at hv
  · simp only [Value.slice.injEq, Option.some.injEq, Addr.mk.injEq, and_true, true_and] at hv
    obtain ⟨rfl, rfl⟩ := hv
    refine ⟨by rw [List.length_take]; omega, .inr ⟨g, cap, cur, rfl, hb, hh, by omega, h2, h3, ?_⟩⟩
    rw [← h4, List.take_take]
    congr 1
    omega

theorem own_keep {w w' : World} {base e size n : Nat} {v : Value} {xs : List Value} (h : w.ownsRow base e size v n xs) (hk : ∀ k, base ≤ k → k < w.heap.size → w'.heap[k]? = w.heap[k]?) : w'.ownsRow base e size v n xs :=
  ((OwR.start h).keep hk).1

/-- Of the blocks below s none but g has turned. -/
structure Frd (g s : Nat) (w w' : World) : Prop where
  os : w'.os = w.os
  tape : w'.tape = w.tape
  output : w'.output = w.output
  size : w.heap.size ≤ w'.heap.size
  block : ∀ k, k < s → k ≠ g → w'.heap[k]? = w.heap[k]?

section
variable {g s : Nat} {w w1 w' : World}
theorem Frd.refl (g s : Nat) (w : World) : Frd g s w w := ⟨rfl, rfl, rfl, Nat.le_refl _, fun _ _ _ => rfl⟩
theorem Frd.trans (h : Frd g s w w1) (k : Frd g s w1 w') : Frd g s w w' := ⟨k.os.trans h.os, k.tape.trans h.tape, k.output.trans h.output, Nat.le_trans h.size k.size, fun i a b => (k.block i a b).trans (h.block i a b)⟩
theorem Frd.of_tch (h : Tch g (g + 1) w w') (hs : s ≤ w.heap.size) : Frd g s w w' := ⟨h.os, h.tape, h.output, h.size, fun k a b => h.block k (by omega) (by omega)⟩
theorem Frd.of_below {C : Nat} (h : Below C w w') (hs : s ≤ C) : Frd g s w w' := ⟨h.os, h.tape, h.output, h.size, fun k a _ => h.block k (by omega)⟩
theorem Frd.tch (h : Frd g w.heap.size w w') : Tch g (g + 1) w w' := ⟨h.os, h.tape, h.output, h.size, fun k hk hr => h.block k hk (by omega)⟩
end

/-- The state of the drawing: the boxes at s (the answer) and s + 1 (the formula), the parts ps, the open ones xs. -/
structure GI (g s : Nat) (A : Option Addr) (n c : Nat) (bs : List Int) (An : Option Addr) (nodes : List Int) (w0 : World) (P : Nat) (Af : Option Addr) (nf cf : Nat) (ps : List Pt) (v : Value) (no : Nat) (xs : List Int) (w : World) : Prop where
  gs : g < s
  fr : Frd g s w0 w
  rd : Rdr g A n c bs P w
  lt : s + 1 < w.heap.size
  rb : w.cell? ⟨s, 0, none⟩ = some (.slice none 0 0)
  rz : w.frozen? ⟨s, 0, none⟩ = false
  fb : w.cell? ⟨s + 1, 0, none⟩ = some (.slice Af nf cf)
  fz : w.frozen? ⟨s + 1, 0, none⟩ = false
  pl : nf = ps.length
  pr : w.ownsRow (s + 2) 54 5 (.slice Af nf cf) nf (ps.flatMap Pt.cells)
  xl : no = xs.length
  xr : w.ownsRow (s + 2) 3 1 v no (xs.map (Value.int .i64))
  nd : IS w s An nodes
  ng : ∀ b' o', An = some ⟨b', o', none⟩ → b' ≠ g

section
variable {g s : Nat} {A : Option Addr} {n c : Nat} {bs : List Int} {An : Option Addr} {nodes : List Int} {w0 : World} {P P' : Nat} {Af : Option Addr} {nf cf : Nat} {ps : List Pt} {v : Value} {no : Nat} {xs : List Int} {w w' : World}

theorem GI.mono (h : GI g s A n c bs An nodes w0 P Af nf cf ps v no xs w) (hP : P ≤ P') : GI g s A n c bs An nodes w0 P' Af nf cf ps v no xs w :=
  ⟨h.gs, h.fr, h.rd.mono hP, h.lt, h.rb, h.rz, h.fb, h.fz, h.pl, h.pr, h.xl, h.xr, h.nd, h.ng⟩

/-- The reader has picked. -/
theorem GI.pick (h : GI g s A n c bs An nodes w0 P Af nf cf ps v no xs w) (hr : Rdr g A n c bs P' w') (ht : Tch g (g + 1) w w') : GI g s A n c bs An nodes w0 P' Af nf cf ps v no xs w' := by
  have hlt := h.lt
  have hgs := h.gs
  have hk : ∀ k, k ≠ g → k < w.heap.size → w'.heap[k]? = w.heap[k]? := fun k a b => ht.block k b (by omega)
  have hc : ∀ (b j : Nat), b ≠ g → b < w.heap.size → w'.cell? ⟨b, j, none⟩ = w.cell? ⟨b, j, none⟩ := fun b j x y => World.cell?_of_block (a := ⟨b, j, none⟩) (hk b x y)
  have hf : ∀ (b j : Nat), b ≠ g → b < w.heap.size → w'.frozen? ⟨b, j, none⟩ = w.frozen? ⟨b, j, none⟩ := fun b j x y => World.frozen?_of_block (a := ⟨b, j, none⟩) (hk b x y)
  refine ⟨h.gs, h.fr.trans (Frd.of_tch ht (by omega)), hr, Nat.lt_of_lt_of_le h.lt ht.size, (hc _ _ (by omega) (by omega)).trans h.rb, (hf _ _ (by omega) (by omega)).trans h.rz, (hc _ _ (by omega) h.lt).trans h.fb, (hf _ _ (by omega) h.lt).trans h.fz, h.pl, own_keep h.pr fun k a b => hk k (by omega) b, h.xl, own_keep h.xr fun k a b => hk k (by omega) b, ?_, h.ng⟩
  intro hn
  obtain ⟨b, off, e, hb, hcl⟩ := h.nd hn
  have hne := h.ng b off e
  exact ⟨b, off, e, hb, fun j hj => (hc b _ hne (by omega)).trans (hcl j hj)⟩

/-- Nothing that was there has turned. -/
theorem GI.step (h : GI g s A n c bs An nodes w0 P Af nf cf ps v no xs w) (hb : Below w.heap.size w w') : GI g s A n c bs An nodes w0 P Af nf cf ps v no xs w' := by
  have hlt := h.lt
  refine ⟨h.gs, h.fr.trans (Frd.of_below hb (by omega)), h.rd.step hb, Nat.lt_of_lt_of_le h.lt hb.size, (hb.cell (p := ⟨s, 0, none⟩) (by show s < w.heap.size; omega)).trans h.rb, (hb.frozen (p := ⟨s, 0, none⟩) (by show s < w.heap.size; omega)).trans h.rz, (hb.cell (p := ⟨s + 1, 0, none⟩) h.lt).trans h.fb, (hb.frozen (p := ⟨s + 1, 0, none⟩) h.lt).trans h.fz, h.pl, own_below h.pr hb, h.xl, own_below h.xr hb, h.nd.below hb (by omega), h.ng⟩
theorem GI.alloc (h : GI g s A n c bs An nodes w0 P Af nf cf ps v no xs w) (o : Obj) : GI g s A n c bs An nodes w0 P Af nf cf ps v no xs (w.alloc o) := h.step ((Below.refl _ _).alloc (Nat.le_refl _) o)

/-- A row of the call's own was written to. -/
theorem GI.frame (h : GI g s A n c bs An nodes w0 P Af nf cf ps v no xs w) {row : Option Nat} (hg : w.grownBy w' row) (hr : ∀ k, row = some k → s + 2 ≤ k) : Frd g s w0 w' ∧ Rdr g A n c bs P w' ∧ s + 1 < w'.heap.size ∧ w'.cell? ⟨s, 0, none⟩ = some (.slice none 0 0) ∧ w'.frozen? ⟨s, 0, none⟩ = false ∧ w'.cell? ⟨s + 1, 0, none⟩ = some (.slice Af nf cf) ∧ w'.frozen? ⟨s + 1, 0, none⟩ = false ∧ IS w' s An nodes := by
  have hlt := h.lt
  have hgs := h.gs
  have hb : Below (s + 2) w w' := (Below.refl _ _).grown hg (by omega) hr
  have ht : Tch (s + 2) (w.heap.size + s + 2) w w' := ⟨hg.os, hg.tape, hg.output, hg.size, fun k hk hx => hb.block k (by omega)⟩
  refine ⟨h.fr.trans (Frd.of_below hb (by omega)), h.rd.turn ht (by omega), Nat.lt_of_lt_of_le h.lt hg.size, (hb.cell (p := ⟨s, 0, none⟩) (by show s < s + 2; omega)).trans h.rb, (hb.frozen (p := ⟨s, 0, none⟩) (by show s < s + 2; omega)).trans h.rz, (hb.cell (p := ⟨s + 1, 0, none⟩) (by show s + 1 < s + 2; omega)).trans h.fb, (hb.frozen (p := ⟨s + 1, 0, none⟩) (by show s + 1 < s + 2; omega)).trans h.fz, h.nd.below hb (by omega)⟩

/-- Another block of the call's own was written to. -/
theorem GI.poke (h : GI g s A n c bs An nodes w0 P Af nf cf ps v no xs w) {b : Nat} (hb : s + 2 ≤ b) (h1 : ∀ k, (Value.slice Af nf cf).ownBlock = some k → k < b) (h2 : ∀ k, v.ownBlock = some k → k < b) (j : Nat) (x : Value) : GI g s A n c bs An nodes w0 P Af nf cf ps v no xs (w.setCell ⟨b, j, none⟩ x) := by
  have hg := grown_setCell0 w b j x
  obtain ⟨f1, f2, f3, f4, f5, f6, f7, f8⟩ := h.frame hg fun k hk => by cases hk; exact hb
  refine ⟨h.gs, f1, f2, f3, f4, f5, f6, f7, h.pl, h.pr.kept hg ?_, h.xl, h.xr.kept hg ?_, f8, h.ng⟩
  · cases e : (Value.slice Af nf cf).ownBlock with
    | none => exact .inl rfl
    | some k => exact .inr fun e2 => by cases e2; exact absurd (h1 b e) (Nat.lt_irrefl _)
  · cases e : v.ownBlock with
    | none => exact .inl rfl
    | some k => exact .inr fun e2 => by cases e2; exact absurd (h2 b e) (Nat.lt_irrefl _)

theorem int_ne_part : (3 : TypeId) ≠ 54 := by decide

/-- The open ones are other ones. -/
theorem GI.opened (h : GI g s A n c bs An nodes w0 P Af nf cf ps v no xs w) {u v' : Value} {m no' : Nat} {ys : List Value} {xs' : List Int} (hu : w.ownsRow (s + 2) 3 1 u m ys) (hg : w.grownBy w' u.ownBlock) (hv : w'.ownsRow (s + 2) 3 1 v' no' (xs'.map (Value.int .i64))) (hl : no' = xs'.length) : GI g s A n c bs An nodes w0 P Af nf cf ps v' no' xs' w' := by
  obtain ⟨f1, f2, f3, f4, f5, f6, f7, f8⟩ := h.frame hg fun k hk => (hu.lt k hk).1
  exact ⟨h.gs, f1, f2, f3, f4, f5, f6, f7, h.pl, h.pr.kept hg (blocks_ne h.pr hu int_ne_part.symm), hl, hv, f8, h.ng⟩

/-- One part more, stored in the formula's box. -/
theorem GI.parted (h : GI g s A n c bs An nodes w0 P Af nf cf ps v no xs w) {Af' : Option Addr} {nf' cf' : Nat} {ps' : List Pt} (hg : w.grownBy w' (Value.slice Af nf cf).ownBlock) (hv : w'.ownsRow (s + 2) 54 5 (.slice Af' nf' cf') nf' (ps'.flatMap Pt.cells)) (hl : nf' = ps'.length) : GI g s A n c bs An nodes w0 P Af' nf' cf' ps' v no xs (w'.setCell ⟨s + 1, 0, none⟩ (.slice Af' nf' cf')) := by
  obtain ⟨f1, f2, f3, f4, f5, f6, f7, f8⟩ := h.frame hg fun k hk => (h.pr.lt k hk).1
  have hlt := h.lt
  have hgs := h.gs
  have hx := h.xr.kept hg (blocks_ne h.xr h.pr int_ne_part)
  have hsz : (w'.setCell ⟨s + 1, 0, none⟩ (.slice Af' nf' cf')).heap.size = w'.heap.size := by simp [World.setCell]
  have hk : ∀ k, k ≠ s + 1 → (w'.setCell ⟨s + 1, 0, none⟩ (.slice Af' nf' cf')).heap[k]? = w'.heap[k]? := fun k hk => Below.heap_setCell _ _ _ _ (by simpa using hk)
  have ht : Tch (s + 1) (s + 2) w' (w'.setCell ⟨s + 1, 0, none⟩ (.slice Af' nf' cf')) := Tch.of_grown (grown_setCell0 w' (s + 1) 0 (.slice Af' nf' cf')) fun k hk => by cases hk; omega
  exact ⟨h.gs, f1.trans ⟨rfl, rfl, rfl, by rw [hsz]; exact Nat.le_refl _, fun k a b => hk k (by omega)⟩, f2.turn ht (by omega), by rw [hsz]; exact f3, (World.cell?_setCell_other _ _ _ _ (by simp)).trans f4, (World.frozen?_setCell _ _ _ _).trans f5, World.cell?_setCell_same _ _ _ f6, (World.frozen?_setCell _ _ _ _).trans f7, hl, own_keep hv fun k a b => hk k (by omega), h.xl, own_keep hx fun k a b => hk k (by omega), f8.keep fun p hp => World.cell?_of_block (hk p.block (by omega)), h.ng⟩
end
end Go.Proofs.Ytnbohohoceghnaa

/- When values serve a formula; what a part of two makes of two values. -/
namespace Go.Proofs.Ytnbohohoceghnaa
set_option linter.unusedSimpArgs false
set_option linter.unusedVariables false
open Go.RowKit

/-- What a part of two makes of two values. -/
def jn (k x y : Int) : Int :=
  if k == 2 then (x + y) % 1000
  else if k == 3 then (x - y + 1000) % 1000
  else if k == 4 then x * y % 1000
  else if k == 5 then min x y
  else if k == 6 then max x y
  else if x < y then 1 else 0

theorem mul_bd (x y : Int) (hx : 0 ≤ x) (hx' : x ≤ 999) (hy : 0 ≤ y) (hy' : y ≤ 999) : 0 ≤ x * y ∧ x * y ≤ 998001 :=
  ⟨Int.mul_nonneg hx hy, by
    have h1 : x * y ≤ 999 * y := Int.mul_le_mul_of_nonneg_right hx' hy
    omega⟩

theorem jn_bd (k x y : Int) (hx : 0 ≤ x) (hx' : x ≤ 999) (hy : 0 ≤ y) (hy' : y ≤ 999) : 0 ≤ jn k x y ∧ jn k x y ≤ 999 := by
  have := mul_bd x y hx hx' hy hy'
  unfold jn
  (repeat' split) <;> omega

theorem getD_mem' {α : Type} [Inhabited α] (l : List α) (m : Nat) (h : m < l.length) : l.getD m default ∈ l := by
  simp [List.getD, h]

set_option maxHeartbeats 800000 in
theorem impl_combine (k x y : Int) (hx : 0 ≤ x) (hx' : x ≤ 999) (hy : 0 ≤ y) (hy' : y ≤ 999) (w : World) :
    Calls Try.prog 68 #[.int .i64 k, .int .i64 x, .int .i64 y] w fun e w' => e = .returned (.int .i64 (jn k x y)) ∧ w = w' := by
  obtain ⟨hm0, hm1⟩ := mul_bd x y hx hx' hy hy'
  have hs : 0 ≤ x - y + 1000 := by omega
  go_enter Try.func68, Try.ntmps68
  go_wp2
  all_goals
    go_ret
    refine ⟨ret_i ?_, rfl⟩
    simp_all [jn]
    try omega

set_option maxHeartbeats 800000 in
theorem spec_joined (k x y : Int) (hx : 0 ≤ x) (hx' : x ≤ 999) (hy : 0 ≤ y) (hy' : y ≤ 999) (w : World) :
    Calls Try.prog 83 #[.int .i64 k, .int .i64 x, .int .i64 y] w fun e w' => e = .returned (.int .i64 (jn k x y)) ∧ w = w' := by
  obtain ⟨hm0, hm1⟩ := mul_bd x y hx hx' hy hy'
  have hs : 0 ≤ x - y + 1000 := by omega
  go_enter Try.func83, Try.ntmps83
  go_wp2
  all_goals
    go_ret
    refine ⟨ret_i ?_, rfl⟩
    simp_all [jn]
    try omega

/-- There is a value for each node of the formula. -/
def eachOK (ps : List Pt) (n : Nat) : Bool := ps.all fun p => !(p.k == 1 && decide ((n : Int) ≤ p.n))

set_option maxRecDepth 100000 in
set_option maxHeartbeats 800000 in
theorem impl_hasEach (A A' : Option Addr) (n c m c' : Nat) (ps : List Pt) (w : World) (B : Nat) (hB : B ≤ w.heap.size) (hn : n = ps.length) (h : PS w B A ps) (hs : n ≤ 2000000) (hm : m ≤ 2000000) :
    Calls Try.prog 58 #[.agg #[.slice A n c], .slice A' m c'] w fun e w' => e = .returned (.bool (eachOK ps m)) ∧ Below w.heap.size w w' := by
  have H := Lib.hid h
  have HN := Lib.hid hn
  clear hn h
  go_enter Try.func58, Try.ntmps58
  go_wp2
  go_loopw [10] (fun i wr => ∃ k : Nat, k ≤ n ∧ i = .int .i64 k ∧ Hid (∀ j, j < k → ((ps.getD j default).k == 1 && decide ((m : Int) ≤ (ps.getD j default).n)) = false) ∧ Below w.heap.size w wr) (fun i _ => n - (intOf i).toNat)
  case atStart => exact ⟨0, Nat.zero_le _, rfl, by intro j hj; omega, (Below.refl _ _).alloc (Nat.le_refl _) _⟩
  case round =>
    obtain ⟨k, hk, rfl, HA, hb⟩ := hrel
    have hwr : w.heap.size ≤ wr.heap.size := hb.size
    by_cases hlt : k < n
    · obtain ⟨b, off, rfl, hbB, hc⟩ := H.out (by have := HN.out; omega)
      obtain ⟨c0, c1, c2, c3, c4⟩ := hc k (by have := HN.out; omega)
      clear hc
      have b0 := (hb.cell (p := ⟨b, off + k * 5, none⟩) (by simp; omega)).trans c0
      have b1 := (hb.cell (p := ⟨b, off + k * 5 + 1, none⟩) (by simp; omega)).trans c1
      have b2 := (hb.cell (p := ⟨b, off + k * 5 + 2, none⟩) (by simp; omega)).trans c2
      have b3 := (hb.cell (p := ⟨b, off + k * 5 + 3, none⟩) (by simp; omega)).trans c3
      have b4 := (hb.cell (p := ⟨b, off + k * 5 + 4, none⟩) (by simp; omega)).trans c4
      clear c0 c1 c2 c3 c4
      generalize hp : ps.getD k default = p at *
      have HP := Lib.hid hp
      clear hp
      cases h1 : (p.k == 1)
      · have H1 := Lib.hid h1
        go_wp2
        go_roundw
        case rel => exact ⟨k + 1, by omega, by go_num, fun j hj => by
          rcases Nat.lt_or_ge j k with h2 | h2
          · exact HA.out j h2
          · obtain rfl : j = k := by omega
            rw [HP.out, H1.out]; rfl, hb.alloc hwr _⟩
        case measure => simp [intOf]; omega
      · have H1 := Lib.hid h1
        by_cases h2 : (m : Int) ≤ p.n
        · have H2 := Lib.hid h2
          go_wp2
          go_ret
          refine ⟨ret_b ?_, hb.alloc hwr _⟩
          have hf : eachOK ps m = false := by
            unfold eachOK
            rw [List.all_eq_false]
            refine ⟨ps.getD k default, getD_mem' ps k (by have := HN.out; omega), ?_⟩
            rw [HP.out, H1.out, decide_eq_true H2.out]; simp
          rw [hf]; try rfl
        · have H2 := Lib.hid h2
          go_wp2
          go_roundw
          case rel => exact ⟨k + 1, by omega, by go_num, fun j hj => by
            rcases Nat.lt_or_ge j k with h3 | h3
            · exact HA.out j h3
            · obtain rfl : j = k := by omega
              rw [HP.out, H1.out, decide_eq_false H2.out]; rfl, hb.alloc hwr _⟩
          case measure => simp [intOf]; omega
    · go_wp2
      go_ret
      refine ⟨ret_b ?_, hb⟩
      have hf : eachOK ps m = true := by
        unfold eachOK
        rw [List.all_eq_true]
        intro x hx
        obtain ⟨j, hj, rfl⟩ := List.mem_iff_getElem.1 hx
        have := HA.out j (by have := HN.out; omega)
        rw [show ps.getD j default = ps[j] by simp [List.getD, hj]] at this
        rw [this]; rfl
      rw [hf]; try rfl

/-- The values serve the formula, as impl reckons it. -/
def canEv (ps : List Pt) (vs : List Int) : Bool := validF ps && ((decide (vs.length ≤ 10) && allR vs 0 999) && eachOK ps vs.length)

set_option maxHeartbeats 800000 in
theorem impl_canEvaluate (A A' : Option Addr) (n c m c' : Nat) (ps : List Pt) (vs : List Int) (w : World) (B : Nat) (hB : B ≤ w.heap.size) (hn : n = ps.length) (hm : m = vs.length) (h : PS w B A ps) (h' : IS w B A' vs) (hs : n ≤ 2000000) (hs' : m ≤ 2000000) :
    Calls Try.prog 41 #[.agg #[.slice A n c], .slice A' m c'] w fun e w' => e = .returned (.bool (canEv ps vs)) ∧ Below w.heap.size w w' := by
  have H := Lib.hid h
  have HN := Lib.hid hn
  have H' := Lib.hid h'
  have HM := Lib.hid hm
  clear hn h hm h'
  cases hv : validF ps
  · have hr : canEv ps vs = false := by simp [canEv, hv]
    rw [hr]
    have HV := Lib.hid hv
    clear hr hv
    go_enter Try.func41, Try.ntmps41
    go_wp2_with fail
    refine (impl_ValidFormula _ _ _ ps _ B (by simp; omega) HN.out (H.out.alloc hB _) hs).mono ?_
    rintro e w1 ⟨rfl, hb⟩
    rw [HV.out]
    go_wp2
    go_ret
    exact ⟨rfl, ((Below.refl _ _).alloc (Nat.le_refl _) _).trans (hb.mono (by simp))⟩
  · cases hr2 : (decide (vs.length ≤ 10) && allR vs 0 999)
    · have hr : canEv ps vs = false := by simp only [canEv, hr2]; simp
      rw [hr]
      have HV := Lib.hid hv
      have HR2 := Lib.hid hr2
      clear hr hv hr2
      go_enter Try.func41, Try.ntmps41
      go_wp2_with fail
      refine (impl_ValidFormula _ _ _ ps _ B (by simp; omega) HN.out (H.out.alloc hB _) hs).mono ?_
      rintro e w1 ⟨rfl, hb⟩
      rw [HV.out]
      have hz : w.heap.size + 1 ≤ w1.heap.size := by have := hb.size; simpa using this
      have HI1 := Lib.hid ((H'.out.alloc hB _).below hb (by simp; omega))
      go_wp2_with fail
      refine (impl_allInRange _ _ _ vs _ _ B (by omega) HM.out HI1.out hs').mono ?_
      rintro e w2 ⟨rfl, rfl⟩
      rw [HR2.out]
      go_wp2
      go_ret
      exact ⟨rfl, ((Below.refl _ _).alloc (Nat.le_refl _) _).trans (hb.mono (by simp))⟩
    · have hr : canEv ps vs = eachOK ps m := by rw [HM.out]; simp only [canEv, hr2, hv]; simp
      rw [hr]
      have HV := Lib.hid hv
      have HR2 := Lib.hid hr2
      clear hr hv hr2
      go_enter Try.func41, Try.ntmps41
      go_wp2_with fail
      refine (impl_ValidFormula _ _ _ ps _ B (by simp; omega) HN.out (H.out.alloc hB _) hs).mono ?_
      rintro e w1 ⟨rfl, hb⟩
      rw [HV.out]
      have hz : w.heap.size + 1 ≤ w1.heap.size := by have := hb.size; simpa using this
      have hbox : w1.cell? ⟨w.heap.size, 0, none⟩ = some (.slice A n c) := (hb.cell (p := ⟨w.heap.size, 0, none⟩) (by simp)).trans (by go_simp)
      have HI1 := Lib.hid ((H'.out.alloc hB _).below hb (by simp; omega))
      have HP1 := Lib.hid ((H.out.alloc hB _).below hb (by simp; omega))
      go_wp2_with fail
      refine (impl_allInRange _ _ _ vs _ _ B (by omega) HM.out HI1.out hs').mono ?_
      rintro e w2 ⟨rfl, rfl⟩
      rw [HR2.out]
      go_wp2_with fail
      refine (impl_hasEach _ _ _ _ _ _ ps _ B (by omega) HN.out HP1.out hs hs').mono ?_
      rintro e w3 ⟨rfl, hb3⟩
      go_wp2
      go_ret
      exact ⟨by simp, ((Below.refl _ _).alloc (Nat.le_refl _) _).trans ((hb.trans (hb3.mono (by simp; omega))).mono (by simp))⟩

/-- The values serve the formula, as the model reckons it. -/
def lastOK (l : List Int) (n : Nat) : Bool := decide (l.length = 0) || decide (l.getD (l.length - 1) 0 < (n : Int))
def valOK (ps : List Pt) (vs : List Int) : Bool := allR vs 0 999 && decide (vs.length ≤ 10) && lastOK (mayR ps) vs.length

set_option maxRecDepth 100000 in
set_option maxHeartbeats 1600000 in
theorem spec_validValues (A A' : Option Addr) (n c m c' : Nat) (ps : List Pt) (vs : List Int) (w : World) (B : Nat) (hB : B ≤ w.heap.size) (hn : n = ps.length) (hm : m = vs.length) (h : PS w B A ps) (h' : IS w B A' vs) (hs : n ≤ 2000000) (hs' : m ≤ 2000000) :
    Calls Try.prog 47 #[.agg #[.slice A n c], .slice A' m c'] w fun e w' => e = .returned (.bool (valOK ps vs)) ∧ Below w.heap.size w w' := by
  have H := Lib.hid h
  have HN := Lib.hid hn
  have H' := Lib.hid h'
  have HM := Lib.hid hm
  clear hn h hm h'
  have hml := mayR_len ps 10
  rw [show (((List.range 10).filter (hasNode ps)).map fun m : Nat => (m : Int)) = mayR ps from rfl] at hml
  have hcases : (allR vs 0 999 = false) ∨ (allR vs 0 999 = true ∧ ¬ m ≤ 10) ∨ (allR vs 0 999 = true ∧ m ≤ 10 ∧ (mayR ps).length = 0) ∨ (allR vs 0 999 = true ∧ m ≤ 10 ∧ 0 < (mayR ps).length) := by
    cases allR vs 0 999
    · exact .inl rfl
    · by_cases h1 : m ≤ 10
      · by_cases h2 : (mayR ps).length = 0
        · exact .inr (.inr (.inl ⟨rfl, h1, h2⟩))
        · exact .inr (.inr (.inr ⟨rfl, h1, by omega⟩))
      · exact .inr (.inl ⟨rfl, h1⟩)
  have hr : valOK ps vs = (allR vs 0 999 && decide (m ≤ 10) && lastOK (mayR ps) m) := by rw [HM.out]; rfl
  rw [hr]
  generalize hF : mayR ps = F at *
  have HF := Lib.hid hF
  clear hF hr
  rcases hcases with h1 | ⟨h1, h2⟩ | ⟨h1, h2, h3⟩ | ⟨h1, h2, h3⟩
  · rw [h1]
    have H1 := Lib.hid h1
    clear h1
    go_enter Try.func47, Try.ntmps47
    go_wp2_with fail
    refine (spec_mayRead _ _ _ ps _ B (by simp; omega) HN.out (H.out.alloc hB _) hs).mono ?_
    rintro e w1 ⟨v, rfl, hown, hb⟩
    have hz : w.heap.size + 1 ≤ w1.heap.size := by have := hb.size; simpa using this
    have HI1 := Lib.hid ((H'.out.alloc hB _).below hb (by simp; omega))
    go_wp2_with fail
    refine (spec_allIn _ _ _ vs _ _ _ B (by omega) HM.out HI1.out hs').mono ?_
    rintro e w2 ⟨rfl, rfl⟩
    rw [H1.out]
    go_wp2
    go_ret
    exact ⟨by simp, ((Below.refl _ _).alloc (Nat.le_refl _) _).trans (hb.mono (by simp))⟩
  · rw [h1, decide_eq_false h2]
    have H1 := Lib.hid h1
    clear h1
    go_enter Try.func47, Try.ntmps47
    go_wp2_with fail
    refine (spec_mayRead _ _ _ ps _ B (by simp; omega) HN.out (H.out.alloc hB _) hs).mono ?_
    rintro e w1 ⟨v, rfl, hown, hb⟩
    have hz : w.heap.size + 1 ≤ w1.heap.size := by have := hb.size; simpa using this
    have HI1 := Lib.hid ((H'.out.alloc hB _).below hb (by simp; omega))
    go_wp2_with fail
    refine (spec_allIn _ _ _ vs _ _ _ B (by omega) HM.out HI1.out hs').mono ?_
    rintro e w2 ⟨rfl, rfl⟩
    rw [H1.out]
    go_wp2
    go_ret
    exact ⟨by simp, ((Below.refl _ _).alloc (Nat.le_refl _) _).trans (hb.mono (by simp))⟩
  · rw [h1, decide_eq_true h2]
    have hlo : lastOK F m = true := by simp [lastOK, h3]
    rw [hlo]
    have H1 := Lib.hid h1
    have H3 := Lib.hid h3
    clear h1 hlo h3
    go_enter Try.func47, Try.ntmps47
    go_wp2_with fail
    refine (spec_mayRead _ _ _ ps _ B (by simp; omega) HN.out (H.out.alloc hB _) hs).mono ?_
    rintro e w1 ⟨v, rfl, hown, hb⟩
    rw [HF.out] at hown
    obtain ⟨g, cc, rfl, hbg, hgs⟩ := hown.form
    rw [H3.out]
    have hz : w.heap.size + 1 ≤ w1.heap.size := by have := hb.size; simpa using this
    have HI1 := Lib.hid ((H'.out.alloc hB _).below hb (by simp; omega))
    clear hown
    go_wp2_with fail
    refine (spec_allIn _ _ _ vs _ _ _ B (by omega) HM.out HI1.out hs').mono ?_
    rintro e w2 ⟨rfl, rfl⟩
    rw [H1.out]
    go_wp2
    go_ret
    exact ⟨by simp, ((Below.refl _ _).alloc (Nat.le_refl _) _).trans (hb.mono (by simp))⟩
  · rw [h1, decide_eq_true h2]
    have hlo : lastOK F m = decide (F.getD (F.length - 1) 0 < (m : Int)) := by simp [lastOK, show ¬ F.length = 0 by omega]
    rw [hlo]
    have H1 := Lib.hid h1
    clear h1 hlo
    go_enter Try.func47, Try.ntmps47
    go_wp2_with fail
    refine (spec_mayRead _ _ _ ps _ B (by simp; omega) HN.out (H.out.alloc hB _) hs).mono ?_
    rintro e w1 ⟨v, rfl, hown, hb⟩
    rw [HF.out] at hown
    obtain ⟨g, cc, rfl, hbg, hgs⟩ := hown.form
    obtain ⟨l, hl⟩ : ∃ l, F.length = l + 1 := ⟨F.length - 1, by omega⟩
    obtain ⟨b3, off3, e3, _, hc3⟩ := (IS.of_own hown.1) (by omega)
    have hx := hc3 l (by omega)
    simp only [Option.some.injEq, Addr.mk.injEq] at e3
    obtain ⟨rfl, rfl, _⟩ := e3
    rw [hl]
    have hz : w.heap.size + 1 ≤ w1.heap.size := by have := hb.size; simpa using this
    have HI1 := Lib.hid ((H'.out.alloc hB _).below hb (by simp; omega))
    have hl10 : l + 1 ≤ 10 := by omega
    have hne : ((l : Int) + 1 == 0) = false := by simp; omega
    have hx' : w1.cell? ⟨g, l, none⟩ = some (.int .i64 (F.getD l 0)) := by simpa using hx
    generalize hla : F.getD l 0 = last at *
    have HLA := Lib.hid hla
    have HL := Lib.hid hl
    clear hown hc3 hx hl h3 hla
    go_wp2_with fail
    refine (spec_allIn _ _ _ vs _ _ _ B (by omega) HM.out HI1.out hs').mono ?_
    rintro e w2 ⟨rfl, rfl⟩
    rw [H1.out]
    go_wp2
    go_ret
    refine ⟨ret_b ?_, ((Below.refl _ _).alloc (Nat.le_refl _) _).trans (hb.mono (by simp))⟩
    rw [show F.length - 1 = l by have := HL.out; omega, HLA.out]
    simp
end Go.Proofs.Ytnbohohoceghnaa

/- Values and reads of terms; the contract of spec.reckoned. -/
namespace Go.Proofs.Ytnbohohoceghnaa
set_option linter.unusedSimpArgs false
set_option linter.unusedVariables false
open Go.RowKit

def Tm.ev (vs : List Int) : Tm → Int
  | .num v => v
  | .rd v => vs.getD v.toNat 0
  | .pr k l r => jn k (l.ev vs) (r.ev vs)
  | .ch t a b => if t.ev vs == 0 then b.ev vs else a.ev vs

def Tm.rds (vs : List Int) : Tm → List Int
  | .num _ => []
  | .rd v => [v]
  | .pr _ l r => l.rds vs ++ r.rds vs
  | .ch t a b => t.rds vs ++ (if t.ev vs == 0 then b.rds vs else a.rds vs)

def Tm.ok (m : Nat) : Tm → Prop
  | .num v => 0 ≤ v ∧ v ≤ 99
  | .rd v => 0 ≤ v ∧ v < (m : Int)
  | .pr _ l r => l.ok m ∧ r.ok m
  | .ch t a b => t.ok m ∧ a.ok m ∧ b.ok m

/-- All values are in range. -/
def VOK (vs : List Int) : Prop := ∀ j, j < vs.length → 0 ≤ vs.getD j 0 ∧ vs.getD j 0 ≤ 999

theorem Tm.ev_bd (vs : List Int) (hv : VOK vs) (t : Tm) (h : t.ok vs.length) : 0 ≤ t.ev vs ∧ t.ev vs ≤ 999 := by
  induction t with
  | num v => simp only [Tm.ok] at h; simp only [Tm.ev]; omega
  | rd v => simp only [Tm.ok] at h; exact hv _ (by omega)
  | pr k l r hl hr =>
    simp only [Tm.ok] at h
    obtain ⟨a1, a2⟩ := hl h.1
    obtain ⟨b1, b2⟩ := hr h.2
    exact jn_bd _ _ _ a1 a2 b1 b2
  | ch t a b ht ha hb =>
    simp only [Tm.ok] at h
    simp only [Tm.ev]
    split
    · exact hb h.2.2
    · exact ha h.2.1

theorem good_num (p : Pt) (i : Int) (h : goodPt p i = true) : (p.k = 0 → 0 ≤ p.n ∧ p.n ≤ 99) ∧ (p.k = 1 → 0 ≤ p.n ∧ p.n ≤ 9) := by
  constructor
  · intro hk
    have e : ar p.k = 0 := by simp [ar, hk]
    unfold goodPt at h
    rw [e, hk] at h
    simp [rng] at h
    omega
  · intro hk
    have e : ar p.k = 0 := by simp [ar, hk]
    unfold goodPt at h
    rw [e, hk] at h
    simp [rng] at h
    omega

theorem tmAt_eq (ps : List Pt) (f i : Nat) : tmAt ps (f + 1) i = (if (ps.getD i default).k == 0 then .num (ps.getD i default).n else if (ps.getD i default).k == 1 then .rd (ps.getD i default).n
    else if (ps.getD i default).k == 8 then .ch (tmAt ps f (ps.getD i default).a.toNat) (tmAt ps f (ps.getD i default).b.toNat) (tmAt ps f (ps.getD i default).c.toNat)
    else .pr (ps.getD i default).k (tmAt ps f (ps.getD i default).a.toNat) (tmAt ps f (ps.getD i default).b.toNat)) := rfl

theorem tmAt_ok (ps : List Pt) (m : Nat) (hg : AllGood ps) (he : eachOK ps m = true) (f : Nat) : ∀ i, i < f → i < ps.length → (tmAt ps f i).ok m := by
  induction f with
  | zero => intro i hi; omega
  | succ f ih =>
    intro i hif hin
    have hgi := hg i hin
    have hei : ((ps.getD i default).k == 1 && decide ((m : Int) ≤ (ps.getD i default).n)) = false := by
      unfold eachOK at he
      rw [List.all_eq_true] at he
      have := he (ps.getD i default) (getD_mem' ps i hin)
      cases hq : ((ps.getD i default).k == 1 && decide ((m : Int) ≤ (ps.getD i default).n))
      · rfl
      · rw [hq] at this; cases this
    rw [tmAt_eq]
    generalize ps.getD i default = p at *
    rcases good_kind _ _ hgi with h0 | h1 | h2 | h8
    · have := (good_num p i hgi).1 h0
      simp [h0, Tm.ok, this]
    · have := (good_num p i hgi).2 h1
      simp [h1] at hei
      simp [h1, Tm.ok, this, hei]
    · obtain ⟨a, b, ea, eb, la, lb⟩ := (good_bel_nat p i hgi).1 h2
      have k0 : (p.k == 0) = false := by simp only [beq_eq_false_iff_ne, ne_eq]; omega
      have k1 : (p.k == 1) = false := by simp only [beq_eq_false_iff_ne, ne_eq]; omega
      have k8 : (p.k == 8) = false := by simp only [beq_eq_false_iff_ne, ne_eq]; omega
      simp only [k0, k1, k8, Bool.false_eq_true, if_false, Tm.ok]
      exact ⟨ih _ (by omega) (by omega), ih _ (by omega) (by omega)⟩
    · obtain ⟨a, b, c, ea, eb, ec, la, lb, lc⟩ := (good_bel_nat p i hgi).2 h8
      simp only [h8, Tm.ok]
      exact ⟨ih _ (by omega) (by omega), ih _ (by omega) (by omega), ih _ (by omega) (by omega)⟩

theorem rds_len (ps : List Pt) (vs : List Int) (f i : Nat) : ((tmAt ps f i).rds vs).length ≤ 3 ^ f := by
  induction f generalizing i with
  | zero => simp [tmAt, Tm.rds]
  | succ f ih =>
    have hp : 0 < 3 ^ f := Nat.pow_pos (by omega)
    rw [tmAt_eq, Nat.pow_succ]
    generalize ps.getD i default = p
    have ha := ih p.a.toNat
    have hb := ih p.b.toNat
    have hc := ih p.c.toNat
    split
    · simp [Tm.rds]
    · split
      · simp only [Tm.rds, List.length_cons, List.length_nil]; omega
      · split
        · simp only [Tm.rds, List.length_append]
          split <;> omega
        · simp only [Tm.rds, List.length_append]; omega

/-- Returns a value and a fresh slice of numbers that is not nil. -/
def RetVN (w : World) (x : Int) (xs : List Int) (e : Ending) (w' : World) : Prop := ∃ v, e = .returned (.tuple #[.int .i64 x, v]) ∧ OwnN w' w.heap.size v xs ∧ Below w.heap.size w w'

theorem retVN_lit {w w1 : World} (hb : Below w.heap.size w w1) (x : Int) (xs : List Int) (cs : Array Value) (n : Nat) (hn : n = xs.length) (hm : n ≤ maxLen) (hc : cs.toList = xs.map (Value.int .i64)) (e : Ending)
    (he : e = .returned (.tuple #[.int .i64 x, .slice (some ⟨w1.heap.size, 0, none⟩) n n])) : RetVN w x xs e (w1.alloc (.cells cs 3)) := by
  subst hn
  refine ⟨_, he, ⟨?_, by simp⟩, hb.alloc hb.size _⟩
  have h := World.ownsRow_lit (e := 3) (size := 1) w1 cs xs.length hb.size hm (by rw [← Array.length_toList, hc]; simp)
  rw [hc] at h
  exact h

theorem RetVN.drew {w w' : World} {x : Int} {xs : List Int} {e : Ending} (h : RetVN w x xs e w') : RetVN w x xs e w'.drew := by
  obtain ⟨v, he, ho, hb⟩ := h
  exact ⟨v, he, ho, hb.drew⟩

set_option maxRecDepth 100000 in
set_option maxHeartbeats 3200000 in
theorem spec_reckoned (A A' : Option Addr) (n c m c' : Nat) (ps : List Pt) (vs : List Int) (B : Nat) (hn : n = ps.length) (hm : m = vs.length) (hg : AllGood ps) (he : eachOK ps m = true) (hv : VOK vs) (hs : n ≤ 2000000) (hs' : m ≤ 2000000) (f : Nat) (hf : f ≤ 12) :
    ∀ (i : Nat) (w : World), i < f → i < n → B ≤ w.heap.size → PS w B A ps → IS w B A' vs →
    Calls Try.prog 74 #[.agg #[.slice A n c], .slice A' m c', .int .i64 i] w fun e w' => RetVN w ((tmAt ps f i).ev vs) ((tmAt ps f i).rds vs) e w' := by
  obtain ⟨i0, hi, hz0, hz1, hz2⟩ := info_parts info_int
  induction f with
  | zero => intro i w hi; omega
  | succ f ih =>
    intro i w hif hin hB h h'
    obtain ⟨b, off, rfl, hbB, hc⟩ := h (by omega)
    obtain ⟨c0, c1, c2, c3, c4⟩ := hc i (by omega)
    clear hc
    have hgi := hg i (by omega)
    have hok := tmAt_ok ps m hg he (f + 1) i hif (by omega)
    have hbw : b < w.heap.size := by omega
    have hsub : ∀ j, j < i → 0 ≤ (tmAt ps f j).ev vs ∧ (tmAt ps f j).ev vs ≤ 999 := fun j hj => Tm.ev_bd vs hv _ (by rw [← hm]; exact tmAt_ok ps m hg he f j (by omega) (by omega))
    have hlen : ∀ j, ((tmAt ps f j).rds vs).length ≤ 531441 := fun j => Nat.le_trans (rds_len ps vs f j) (Nat.pow_le_pow_right (by omega) (show f ≤ 12 by omega))
    have HE := Lib.hid (tmAt_eq ps f i)
    have H := Lib.hid h
    have H' := Lib.hid h'
    have IH := Lib.hid (ih (by omega))
    have HN := Lib.hid hn
    have HM := Lib.hid hm
    have HV := Lib.hid hv
    have HSUB := Lib.hid hsub
    have HLEN := Lib.hid hlen
    clear h h' ih hn hm hg he hv hsub hlen
    generalize hp : ps.getD i default = p at *
    generalize tmAt ps (f + 1) i = t at *
    clear hp
    rcases good_kind p i hgi with h0 | h1 | h2 | h8
    · have k0 : (p.k == 0) = true := by simp [h0]
      have ht : t = .num p.n := by rw [HE.out, k0]; rfl
      rw [ht]
      clear HE ht h0 hgi hok
      go_enter Try.func74, Try.ntmps74
      go_wp2
      go_ret2
      exact retVN_lit (((Below.refl _ _).alloc (Nat.le_refl _) _).alloc (by simp) _) _ _ _ 0 rfl (by unfold maxLen; omega) rfl _ (by simp [Tm.ev])
    · have k0 : (p.k == 0) = false := by simp [h1]
      have k1 : (p.k == 1) = true := by simp [h1]
      have ht : t = .rd p.n := by rw [HE.out, k0, k1]; rfl
      rw [ht] at hok ⊢
      simp only [Tm.ok] at hok
      obtain ⟨q, hq⟩ : ∃ q : Nat, p.n = (q : Int) := ⟨p.n.toNat, by omega⟩
      have hqm : q < m := by omega
      rw [hq] at c4
      obtain ⟨b2, off2, rfl, hb2, hc2⟩ := H'.out (by have := HM.out; omega)
      have d0 := hc2 q (by have := HM.out; omega)
      have hb2w : b2 < w.heap.size := by omega
      have hb2w1 : b2 < w.heap.size + 1 := by omega
      have hb2w2 : b2 < w.heap.size + 1 + 1 := by omega
      have hev : (Tm.rd p.n).ev vs = vs.getD q 0 := by rw [hq]; simp [Tm.ev]
      have hrd : (Tm.rd p.n).rds vs = [(q : Int)] := by rw [hq]; rfl
      rw [hev, hrd]
      generalize vs.getD q 0 = x at *
      clear HE ht h1 hgi hok hc2 hq hev hrd
      go_enter Try.func74, Try.ntmps74
      go_wp2
      go_region
      go_wp2
      go_ret2
      exact (retVN_lit (((Below.refl _ _).alloc (Nat.le_refl _) _).alloc (by simp) _) _ _ _ 1 rfl (by unfold maxLen; omega) rfl _ (by simp)).drew
    · obtain ⟨ta, tb, ea, eb, la, lb⟩ := (good_bel_nat p i hgi).1 h2
      have k0 : (p.k == 0) = false := by simp only [beq_eq_false_iff_ne, ne_eq]; omega
      have k1 : (p.k == 1) = false := by simp only [beq_eq_false_iff_ne, ne_eq]; omega
      have k8 : (p.k == 8) = false := by simp only [beq_eq_false_iff_ne, ne_eq]; omega
      have ht : t = .pr p.k (tmAt ps f ta) (tmAt ps f tb) := by rw [HE.out, k0, k1, k8, ea, eb]; simp
      rw [ht]
      rw [ea] at c1
      rw [eb] at c2
      obtain ⟨va1, va2⟩ := HSUB.out ta la
      obtain ⟨vb1, vb2⟩ := HSUB.out tb lb
      have la1 := HLEN.out ta
      have lb1 := HLEN.out tb
      have hev : (Tm.pr p.k (tmAt ps f ta) (tmAt ps f tb)).ev vs = jn p.k ((tmAt ps f ta).ev vs) ((tmAt ps f tb).ev vs) := rfl
      have hrd : (Tm.pr p.k (tmAt ps f ta) (tmAt ps f tb)).rds vs = (tmAt ps f ta).rds vs ++ (tmAt ps f tb).rds vs := rfl
      rw [hev, hrd]
      have HIA := Lib.hid (IH.out ta)
      have HIB := Lib.hid (IH.out tb)
      generalize (tmAt ps f ta).ev vs = xa at *
      generalize (tmAt ps f tb).ev vs = xb at *
      generalize (tmAt ps f ta).rds vs = ra at *
      generalize (tmAt ps f tb).rds vs = rb at *
      clear HE ht h2 hgi hok hev hrd ea eb HSUB HLEN IH
      go_enter Try.func74, Try.ntmps74
      go_wp2_with fail
      refine (HIA.out _ (by omega) (by omega) (by simp; omega) ((H.out.alloc hB _).alloc (by simp; omega) _) ((H'.out.alloc hB _).alloc (by simp; omega) _)).mono ?_
      rintro e w1 ⟨v1, rfl, hown1, hb1⟩
      have hw1 : w.heap.size + 1 + 1 ≤ w1.heap.size := by have := hb1.size; simpa using this
      have q0 : w1.cell? ⟨w.heap.size, 0, none⟩ = some (.slice (some ⟨b, off, none⟩) n c) := (hb1.cell (p := ⟨w.heap.size, 0, none⟩) (by simp; try omega)).trans (by go_simp)
      have q1 : w1.cell? ⟨w.heap.size + 1, 0, none⟩ = some (.int .i64 p.k) := (hb1.cell (p := ⟨w.heap.size + 1, 0, none⟩) (by simp; try omega)).trans (by go_simp)
      have q2 : w1.cell? ⟨w.heap.size + 1, 2, none⟩ = some (.int .i64 tb) := (hb1.cell (p := ⟨w.heap.size + 1, 2, none⟩) (by simp; try omega)).trans (by go_simp)
      have HP1 := Lib.hid (((H.out.alloc hB (.cells #[.slice (some ⟨b, off, none⟩) n c] 25)).alloc (by simp; omega) (.cells #[.int .i64 p.k, .int .i64 ta, .int .i64 tb, .int .i64 p.c, .int .i64 p.n] 54)).below hb1 (by simp; omega))
      have HI1 := Lib.hid (((H'.out.alloc hB (.cells #[.slice (some ⟨b, off, none⟩) n c] 25)).alloc (by simp; omega) (.cells #[.int .i64 p.k, .int .i64 ta, .int .i64 tb, .int .i64 p.c, .int .i64 p.n] 54)).below hb1 (by simp; omega))
      have hB1 : Below w.heap.size w w1 := (((Below.refl _ _).alloc (Nat.le_refl _) _).alloc (by simp) _).trans (hb1.mono (by simp; omega))
      obtain ⟨g1, d1, rfl, hg1, hg1'⟩ := hown1.form
      simp only [World.size_alloc] at hg1
      have HO1 := Lib.hid hown1
      clear hb1 hown1 c0 c1 c2 c3 c4
      go_wp2_with fail
      refine (HIB.out _ (by omega) (by omega) (by omega) HP1.out HI1.out).mono ?_
      rintro e w2 ⟨v2, rfl, hown2, hb2⟩
      have hw2 : w1.heap.size ≤ w2.heap.size := hb2.size
      have q1' := (hb2.cell (p := ⟨w.heap.size + 1, 0, none⟩) (by show w.heap.size + 1 < w1.heap.size; omega)).trans q1
      have hB2 : Below w.heap.size w w2 := hB1.trans (hb2.mono (by omega))
      obtain ⟨g2, d2, rfl, hg2, hg2'⟩ := hown2.form
      have HO2 := Lib.hid hown2
      have HO1' : Hid (OwnN w2 w.heap.size (.slice (some ⟨g1, 0, none⟩) ra.length d1) ra) := ⟨own_below (own_mono HO1.out.1 (by simp; omega)) hb2, by simp⟩
      clear hb2 hown2 q0 q1 q2 HO1
      generalize hla : ra.length = na at *
      generalize hlb : rb.length = nb at *
      have HLA := Lib.hid hla
      have HLB := Lib.hid hlb
      clear hla hlb
      have hnews : ∀ j u, (rb.map (Value.int .i64))[j]? = some u → w2.cell? ((⟨g2, 0, none⟩ : Addr).add j) = some u := fun j u hu => HO2.out.1.cells (g := g2) rfl j u hu
      have HNW := Lib.hid hnews
      clear hnews
      go_wp2_with (first
        | (go_at_call 83; refine (spec_joined p.k xa xb (by omega) (by omega) (by omega) (by omega) _).mono ?_; rintro e w3 ⟨rfl, rfl⟩)
        | (at_builtin; refine wpList_append_own _ rfl _ _ 26 rfl w.heap.size 3 i0 (.int .i64 0) 1 8 Try.underlying26 hi hz0 hz1 hz2 rfl (by decide) _ _ _ rfl (by have := HO1'.out.1; rw [HLA.out] at this; exact this) ⟨g2, 0, none⟩ nb d2 (rb.map (Value.int .i64)) rfl ?c1 HNW.out (ints_oneCell _ _) ?c3 ?c4 ?c5 ?_))
      case c1 => have := HLB.out; simp; omega
      case c3 => unfold maxLen; omega
      case c4 => omega
      case c5 => exact hB2.size
      intro v' w4 hown' hgrow hnil
      have hB4 : Below w.heap.size w w4 := hB2.grown hgrow hB2.size (by intro q hq; simp [Value.ownBlock] at hq; omega)
      have HF : Hid (OwnN w4 w.heap.size v' (ra ++ rb)) := by
        refine ⟨?_, by first | exact hnil | (intro e; simp [e] at hnil)⟩
        have h1 := HLA.out
        have h2 := HLB.out
        rw [List.length_append, List.map_append, h1, h2]
        exact hown'
      clear hown' hgrow hnil
      go_wp2
      go_ret2
      exact ⟨v', by simp, HF.out, hB4⟩
    · obtain ⟨ta, tb, tc, ea, eb, ec, la, lb, lc⟩ := (good_bel_nat p i hgi).2 h8
      have k0 : (p.k == 0) = false := by simp only [beq_eq_false_iff_ne, ne_eq]; omega
      have k1 : (p.k == 1) = false := by simp only [beq_eq_false_iff_ne, ne_eq]; omega
      have k8 : (p.k == 8) = true := by simp only [beq_iff_eq]; omega
      have ht : t = .ch (tmAt ps f ta) (tmAt ps f tb) (tmAt ps f tc) := by rw [HE.out, k0, k1, k8, ea, eb, ec]; simp
      rw [ht]
      cases hz : ((tmAt ps f ta).ev vs == 0)
      · rw [ea] at c1
        rw [eb] at c2
        rw [ec] at c3
        obtain ⟨va1, va2⟩ := HSUB.out ta la
        have la1 := HLEN.out ta
        have lb1 := HLEN.out tb
        have hev : (Tm.ch (tmAt ps f ta) (tmAt ps f tb) (tmAt ps f tc)).ev vs = (tmAt ps f tb).ev vs := by simp only [Tm.ev, hz]; rfl
        have hrd : (Tm.ch (tmAt ps f ta) (tmAt ps f tb) (tmAt ps f tc)).rds vs = (tmAt ps f ta).rds vs ++ (tmAt ps f tb).rds vs := by simp only [Tm.rds, hz]; rfl
        rw [hev, hrd]
        have HIA := Lib.hid (IH.out ta)
        have HIB := Lib.hid (IH.out tb)
        generalize (tmAt ps f ta).ev vs = xa at *
        generalize (tmAt ps f tb).ev vs = xb at *
        generalize (tmAt ps f ta).rds vs = ra at *
        generalize (tmAt ps f tb).rds vs = rb at *
        clear HE ht h8 hgi hok hev hrd ea eb ec HSUB HLEN IH
        go_enter Try.func74, Try.ntmps74
        go_wp2_with fail
        refine (HIA.out _ (by omega) (by omega) (by simp; omega) ((H.out.alloc hB _).alloc (by simp; omega) _) ((H'.out.alloc hB _).alloc (by simp; omega) _)).mono ?_
        rintro e w1 ⟨v1, rfl, hown1, hb1⟩
        have hw1 : w.heap.size + 1 + 1 ≤ w1.heap.size := by have := hb1.size; simpa using this
        have q0 : w1.cell? ⟨w.heap.size, 0, none⟩ = some (.slice (some ⟨b, off, none⟩) n c) := (hb1.cell (p := ⟨w.heap.size, 0, none⟩) (by simp; try omega)).trans (by go_simp)
        have q1 : w1.cell? ⟨w.heap.size + 1, 0, none⟩ = some (.int .i64 p.k) := (hb1.cell (p := ⟨w.heap.size + 1, 0, none⟩) (by simp; try omega)).trans (by go_simp)
        have q3 : w1.cell? ⟨w.heap.size + 1, 3, none⟩ = some (.int .i64 tc) := (hb1.cell (p := ⟨w.heap.size + 1, 3, none⟩) (by simp; try omega)).trans (by go_simp)
        have q2 : w1.cell? ⟨w.heap.size + 1, 2, none⟩ = some (.int .i64 tb) := (hb1.cell (p := ⟨w.heap.size + 1, 2, none⟩) (by simp; try omega)).trans (by go_simp)
        have HP1 := Lib.hid (((H.out.alloc hB (.cells #[.slice (some ⟨b, off, none⟩) n c] 25)).alloc (by simp; omega) (.cells #[.int .i64 p.k, .int .i64 ta, .int .i64 tb, .int .i64 tc, .int .i64 p.n] 54)).below hb1 (by simp; omega))
        have HI1 := Lib.hid (((H'.out.alloc hB (.cells #[.slice (some ⟨b, off, none⟩) n c] 25)).alloc (by simp; omega) (.cells #[.int .i64 p.k, .int .i64 ta, .int .i64 tb, .int .i64 tc, .int .i64 p.n] 54)).below hb1 (by simp; omega))
        have hB1 : Below w.heap.size w w1 := (((Below.refl _ _).alloc (Nat.le_refl _) _).alloc (by simp) _).trans (hb1.mono (by simp; omega))
        obtain ⟨g1, d1, rfl, hg1, hg1'⟩ := hown1.form
        simp only [World.size_alloc] at hg1
        have HO1 := Lib.hid hown1
        clear hb1 hown1 c0 c1 c2 c3 c4
        go_wp2_with fail
        refine (HIB.out _ (by omega) (by omega) (by omega) HP1.out HI1.out).mono ?_
        rintro e w2 ⟨v2, rfl, hown2, hb2⟩
        have hw2 : w1.heap.size ≤ w2.heap.size := hb2.size
        have q1' := (hb2.cell (p := ⟨w.heap.size + 1, 0, none⟩) (by show w.heap.size + 1 < w1.heap.size; omega)).trans q1
        have hB2 : Below w.heap.size w w2 := hB1.trans (hb2.mono (by omega))
        obtain ⟨g2, d2, rfl, hg2, hg2'⟩ := hown2.form
        have HO2 := Lib.hid hown2
        have HO1' : Hid (OwnN w2 w.heap.size (.slice (some ⟨g1, 0, none⟩) ra.length d1) ra) := ⟨own_below (own_mono HO1.out.1 (by simp; omega)) hb2, by simp⟩
        clear hb2 hown2 q0 q1 q2 q3 HO1
        generalize hla : ra.length = na at *
        generalize hlb : rb.length = nb at *
        have HLA := Lib.hid hla
        have HLB := Lib.hid hlb
        clear hla hlb
        have hnews : ∀ j u, (rb.map (Value.int .i64))[j]? = some u → w2.cell? ((⟨g2, 0, none⟩ : Addr).add j) = some u := fun j u hu => HO2.out.1.cells (g := g2) rfl j u hu
        have HNW := Lib.hid hnews
        clear hnews
        go_wp2_with ((at_builtin; refine wpList_append_own _ rfl _ _ 26 rfl w.heap.size 3 i0 (.int .i64 0) 1 8 Try.underlying26 hi hz0 hz1 hz2 rfl (by decide) _ _ _ rfl (by have := HO1'.out.1; rw [HLA.out] at this; exact this) ⟨g2, 0, none⟩ nb d2 (rb.map (Value.int .i64)) rfl ?c1 HNW.out (ints_oneCell _ _) ?c3 ?c4 ?c5 ?_))
        case c1 => have := HLB.out; simp; omega
        case c3 => unfold maxLen; omega
        case c4 => omega
        case c5 => exact hB2.size
        intro v' w4 hown' hgrow hnil
        have hB4 : Below w.heap.size w w4 := hB2.grown hgrow hB2.size (by intro q hq; simp [Value.ownBlock] at hq; omega)
        have HF : Hid (OwnN w4 w.heap.size v' (ra ++ rb)) := by
          refine ⟨?_, by first | exact hnil | (intro e; simp [e] at hnil)⟩
          have h1 := HLA.out
          have h2 := HLB.out
          rw [List.length_append, List.map_append, h1, h2]
          exact hown'
        clear hown' hgrow hnil
        go_wp2
        go_ret2
        exact ⟨v', by simp, HF.out, hB4⟩
      · rw [ea] at c1
        rw [eb] at c2
        rw [ec] at c3
        obtain ⟨va1, va2⟩ := HSUB.out ta la
        have la1 := HLEN.out ta
        have lb1 := HLEN.out tc
        have hev : (Tm.ch (tmAt ps f ta) (tmAt ps f tb) (tmAt ps f tc)).ev vs = (tmAt ps f tc).ev vs := by simp only [Tm.ev, hz]; rfl
        have hrd : (Tm.ch (tmAt ps f ta) (tmAt ps f tb) (tmAt ps f tc)).rds vs = (tmAt ps f ta).rds vs ++ (tmAt ps f tc).rds vs := by simp only [Tm.rds, hz]; rfl
        rw [hev, hrd]
        have HIA := Lib.hid (IH.out ta)
        have HIB := Lib.hid (IH.out tc)
        generalize (tmAt ps f ta).ev vs = xa at *
        generalize (tmAt ps f tc).ev vs = xb at *
        generalize (tmAt ps f ta).rds vs = ra at *
        generalize (tmAt ps f tc).rds vs = rb at *
        clear HE ht h8 hgi hok hev hrd ea eb ec HSUB HLEN IH
        go_enter Try.func74, Try.ntmps74
        go_wp2_with fail
        refine (HIA.out _ (by omega) (by omega) (by simp; omega) ((H.out.alloc hB _).alloc (by simp; omega) _) ((H'.out.alloc hB _).alloc (by simp; omega) _)).mono ?_
        rintro e w1 ⟨v1, rfl, hown1, hb1⟩
        have hw1 : w.heap.size + 1 + 1 ≤ w1.heap.size := by have := hb1.size; simpa using this
        have q0 : w1.cell? ⟨w.heap.size, 0, none⟩ = some (.slice (some ⟨b, off, none⟩) n c) := (hb1.cell (p := ⟨w.heap.size, 0, none⟩) (by simp; try omega)).trans (by go_simp)
        have q1 : w1.cell? ⟨w.heap.size + 1, 0, none⟩ = some (.int .i64 p.k) := (hb1.cell (p := ⟨w.heap.size + 1, 0, none⟩) (by simp; try omega)).trans (by go_simp)
        have q3 : w1.cell? ⟨w.heap.size + 1, 3, none⟩ = some (.int .i64 tc) := (hb1.cell (p := ⟨w.heap.size + 1, 3, none⟩) (by simp; try omega)).trans (by go_simp)
        have q2 : w1.cell? ⟨w.heap.size + 1, 2, none⟩ = some (.int .i64 tb) := (hb1.cell (p := ⟨w.heap.size + 1, 2, none⟩) (by simp; try omega)).trans (by go_simp)
        have HP1 := Lib.hid (((H.out.alloc hB (.cells #[.slice (some ⟨b, off, none⟩) n c] 25)).alloc (by simp; omega) (.cells #[.int .i64 p.k, .int .i64 ta, .int .i64 tb, .int .i64 tc, .int .i64 p.n] 54)).below hb1 (by simp; omega))
        have HI1 := Lib.hid (((H'.out.alloc hB (.cells #[.slice (some ⟨b, off, none⟩) n c] 25)).alloc (by simp; omega) (.cells #[.int .i64 p.k, .int .i64 ta, .int .i64 tb, .int .i64 tc, .int .i64 p.n] 54)).below hb1 (by simp; omega))
        have hB1 : Below w.heap.size w w1 := (((Below.refl _ _).alloc (Nat.le_refl _) _).alloc (by simp) _).trans (hb1.mono (by simp; omega))
        obtain ⟨g1, d1, rfl, hg1, hg1'⟩ := hown1.form
        simp only [World.size_alloc] at hg1
        have HO1 := Lib.hid hown1
        clear hb1 hown1 c0 c1 c2 c3 c4
        go_wp2_with fail
        refine (HIB.out _ (by omega) (by omega) (by omega) HP1.out HI1.out).mono ?_
        rintro e w2 ⟨v2, rfl, hown2, hb2⟩
        have hw2 : w1.heap.size ≤ w2.heap.size := hb2.size
        have q1' := (hb2.cell (p := ⟨w.heap.size + 1, 0, none⟩) (by show w.heap.size + 1 < w1.heap.size; omega)).trans q1
        have hB2 : Below w.heap.size w w2 := hB1.trans (hb2.mono (by omega))
        obtain ⟨g2, d2, rfl, hg2, hg2'⟩ := hown2.form
        have HO2 := Lib.hid hown2
        have HO1' : Hid (OwnN w2 w.heap.size (.slice (some ⟨g1, 0, none⟩) ra.length d1) ra) := ⟨own_below (own_mono HO1.out.1 (by simp; omega)) hb2, by simp⟩
        clear hb2 hown2 q0 q1 q2 q3 HO1
        generalize hla : ra.length = na at *
        generalize hlb : rb.length = nb at *
        have HLA := Lib.hid hla
        have HLB := Lib.hid hlb
        clear hla hlb
        have hnews : ∀ j u, (rb.map (Value.int .i64))[j]? = some u → w2.cell? ((⟨g2, 0, none⟩ : Addr).add j) = some u := fun j u hu => HO2.out.1.cells (g := g2) rfl j u hu
        have HNW := Lib.hid hnews
        clear hnews
        go_wp2_with ((at_builtin; refine wpList_append_own _ rfl _ _ 26 rfl w.heap.size 3 i0 (.int .i64 0) 1 8 Try.underlying26 hi hz0 hz1 hz2 rfl (by decide) _ _ _ rfl (by have := HO1'.out.1; rw [HLA.out] at this; exact this) ⟨g2, 0, none⟩ nb d2 (rb.map (Value.int .i64)) rfl ?c1 HNW.out (ints_oneCell _ _) ?c3 ?c4 ?c5 ?_))
        case c1 => have := HLB.out; simp; omega
        case c3 => unfold maxLen; omega
        case c4 => omega
        case c5 => exact hB2.size
        intro v' w4 hown' hgrow hnil
        have hB4 : Below w.heap.size w w4 := hB2.grown hgrow hB2.size (by intro q hq; simp [Value.ownBlock] at hq; omega)
        have HF : Hid (OwnN w4 w.heap.size v' (ra ++ rb)) := by
          refine ⟨?_, by first | exact hnil | (intro e; simp [e] at hnil)⟩
          have h1 := HLA.out
          have h2 := HLB.out
          rw [List.length_append, List.map_append, h1, h2]
          exact hown'
        clear hown' hgrow hnil
        go_wp2
        go_ret2
        exact ⟨v', by simp, HF.out, hB4⟩
end Go.Proofs.Ytnbohohoceghnaa
