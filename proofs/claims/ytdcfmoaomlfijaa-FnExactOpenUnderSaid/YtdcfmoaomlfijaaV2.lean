/- Owners: the laws' own copies, sizes and comparisons. -/
import Derived.Test.YtdcfmoaomlfijaaV1
import Derived.StillTailTactics

namespace Go.Proofs.Ytdcfmoaomlfijaa
set_option linter.unusedSimpArgs false
set_option linter.unusedVariables false
open Go.RowKit

/-- The four cells of a box. -/
structure Bx4 (b : Nat) (x y z t : Value) (w : World) : Prop where
  lt : b < w.heap.size
  c0 : w.cell? ⟨b, 0, none⟩ = some x
  c1 : w.cell? ⟨b, 1, none⟩ = some y
  c2 : w.cell? ⟨b, 2, none⟩ = some z
  c3 : w.cell? ⟨b, 3, none⟩ = some t
  f : ∀ j, w.frozen? ⟨b, j, none⟩ = false
theorem Bx4.step {b : Nat} {x y z t : Value} {w w' : World} {C : Nat} (h : Bx4 b x y z t w) (hb : Below C w w') (hC : b < C) : Bx4 b x y z t w' :=
  ⟨Nat.lt_of_lt_of_le h.lt hb.size, (hb.cell (p := ⟨b, 0, none⟩) hC).trans h.c0, (hb.cell (p := ⟨b, 1, none⟩) hC).trans h.c1, (hb.cell (p := ⟨b, 2, none⟩) hC).trans h.c2, (hb.cell (p := ⟨b, 3, none⟩) hC).trans h.c3, fun j => (hb.frozen (p := ⟨b, j, none⟩) hC).trans (h.f j)⟩
theorem Bx4.other {b g j : Nat} {x y z t u : Value} {w : World} (h : Bx4 b x y z t w) (hg : b ≠ g) : Bx4 b x y z t (w.setCell ⟨g, j, none⟩ u) := by
  have k (i : Nat) : (w.setCell ⟨g, j, none⟩ u).cell? ⟨b, i, none⟩ = w.cell? ⟨b, i, none⟩ := World.cell?_setCell_other _ _ _ _ (by intro e; cases e; exact hg rfl)
  exact ⟨by simpa [World.setCell] using h.lt, (k 0).trans h.c0, (k 1).trans h.c1, (k 2).trans h.c2, (k 3).trans h.c3, fun i => (World.frozen?_setCell _ _ _ _).trans (h.f i)⟩
theorem Bx4.set0 {b : Nat} {x y z t u : Value} {w : World} (h : Bx4 b x y z t w) : Bx4 b u y z t (w.setCell ⟨b, 0, none⟩ u) :=
  ⟨by simpa [World.setCell] using h.lt, World.cell?_setCell_same _ _ _ h.c0, (World.cell?_setCell_other _ _ _ _ (by simp)).trans h.c1, (World.cell?_setCell_other _ _ _ _ (by simp)).trans h.c2, (World.cell?_setCell_other _ _ _ _ (by simp)).trans h.c3, fun i => (World.frozen?_setCell _ _ _ _).trans (h.f i)⟩
theorem Bx4.set1 {b : Nat} {x y z t u : Value} {w : World} (h : Bx4 b x y z t w) : Bx4 b x u z t (w.setCell ⟨b, 1, none⟩ u) :=
  ⟨by simpa [World.setCell] using h.lt, (World.cell?_setCell_other _ _ _ _ (by simp)).trans h.c0, World.cell?_setCell_same _ _ _ h.c1, (World.cell?_setCell_other _ _ _ _ (by simp)).trans h.c2, (World.cell?_setCell_other _ _ _ _ (by simp)).trans h.c3, fun i => (World.frozen?_setCell _ _ _ _).trans (h.f i)⟩
theorem Bx4.set2 {b : Nat} {x y z t u : Value} {w : World} (h : Bx4 b x y z t w) : Bx4 b x y u t (w.setCell ⟨b, 2, none⟩ u) :=
  ⟨by simpa [World.setCell] using h.lt, (World.cell?_setCell_other _ _ _ _ (by simp)).trans h.c0, (World.cell?_setCell_other _ _ _ _ (by simp)).trans h.c1, World.cell?_setCell_same _ _ _ h.c2, (World.cell?_setCell_other _ _ _ _ (by simp)).trans h.c3, fun i => (World.frozen?_setCell _ _ _ _).trans (h.f i)⟩
theorem Bx4.alloc {b : Nat} {x y z t : Value} {w : World} (h : Bx4 b x y z t w) (o : Obj) : Bx4 b x y z t (w.alloc o) := h.step ((Below.refl w.heap.size w).alloc (Nat.le_refl _) o) h.lt
theorem box4_start (w : World) (x y z t : Value) (ty : TypeId) : Bx4 w.heap.size x y z t (w.alloc (.cells #[x, y, z, t] ty)) :=
  ⟨by simp, by go_simp, by go_simp, by go_simp, by go_simp, fun j => by go_simp⟩

/-- Returns an owner with fresh lists. -/
def RetOn (w : World) (d : On) (e : Ending) (w' : World) : Prop := ∃ (A : Option Addr) (n c : Nat) (A' : Option Addr) (n' c' mid : Nat), e = .returned (.agg #[.int .i64 d.p, .bool d.o, .slice A n c, .slice A' n' c']) ∧ n = d.cl.length ∧ n' = d.cx.length ∧
  OwR w.heap.size mid 3 1 (.slice A n c) n (d.cl.map (Value.int .i64)) w' ∧ OwR mid w'.heap.size 3 1 (.slice A' n' c') n' (d.cx.map (Value.int .i64)) w' ∧ w.heap.size ≤ mid ∧ mid ≤ w'.heap.size ∧ Below w.heap.size w w'

set_option maxRecDepth 100000 in
set_option maxHeartbeats 1600000 in
theorem laws_toOwner (p : Int) (o : Bool) (A A' : Option Addr) (n c n' c' : Nat) (xs ys : List Int) (w : World) (B : Nat) (hB : B ≤ w.heap.size) (hn : n = xs.length) (hn' : n' = ys.length) (h : IS w B A xs) (h' : IS w B A' ys) (hs : n ≤ 2000000) (hs' : n' ≤ 2000000) :
    Calls Try.prog 41 #[.agg #[.int .i64 p, .bool o, .slice A n c, .slice A' n' c']] w fun e w' => RetOn w ⟨p, o, xs, ys⟩ e w' := by
  have HC1 := Lib.hid fun (w : World) (hB : B ≤ w.heap.size) (h : IS w B A xs) => laws_toIntS A n c xs w B hB hn h hs
  have HC2 := Lib.hid fun (w : World) (hB : B ≤ w.heap.size) (h : IS w B A' ys) => laws_toIntS A' n' c' ys w B hB hn' h hs'
  have HN := Lib.hid hn
  have HN' := Lib.hid hn'
  have HIS := Lib.hid h
  have HIS' := Lib.hid h'
  have hB0 : Below w.heap.size w (((w.alloc (.cells #[.int .i64 p, .bool o, .slice A n c, .slice A' n' c'] 49)).alloc (.cells #[.int .i64 0, .bool false, .slice none 0 0, .slice none 0 0] 50)).alloc (.cells #[.int .i64 p, .bool o, .slice none 0 0, .slice none 0 0] 50)) := (((Below.refl _ _).alloc (Nat.le_refl _) _).alloc (by simp) _).alloc (by simp; omega) _
  have X0 := Lib.hid (((box4_start w (.int .i64 p) (.bool o) (.slice A n c) (.slice A' n' c') 49).alloc (.cells #[.int .i64 0, .bool false, .slice none 0 0, .slice none 0 0] 50)).alloc (.cells #[.int .i64 p, .bool o, .slice none 0 0, .slice none 0 0] 50))
  have X1 := Lib.hid ((box4_start (w.alloc (.cells #[.int .i64 p, .bool o, .slice A n c, .slice A' n' c'] 49)) (.int .i64 0) (.bool false) (.slice none 0 0) (.slice none 0 0) 50).alloc (.cells #[.int .i64 p, .bool o, .slice none 0 0, .slice none 0 0] 50))
  have X2 := Lib.hid (box4_start ((w.alloc (.cells #[.int .i64 p, .bool o, .slice A n c, .slice A' n' c'] 49)).alloc (.cells #[.int .i64 0, .bool false, .slice none 0 0, .slice none 0 0] 50)) (.int .i64 p) (.bool o) (.slice none 0 0) (.slice none 0 0) 50)
  clear hn hn' h h'
  simp only [World.size_alloc] at X0 X1 X2
  go_enter Try.func41, Try.ntmps41
  go_wp2_with fail
  generalize hW0 : (((w.alloc (.cells #[.int .i64 p, .bool o, .slice A n c, .slice A' n' c'] 49)).alloc (.cells #[.int .i64 0, .bool false, .slice none 0 0, .slice none 0 0] 50)).alloc (.cells #[.int .i64 p, .bool o, .slice none 0 0, .slice none 0 0] 50)) = W1 at *
  have hw0 : W1.heap.size = w.heap.size + 3 := by rw [← hW0]; simp
  clear hW0
  have hw1a : w.heap.size + 3 ≤ W1.heap.size := by omega
  have hw1b : W1.heap.size ≤ w.heap.size + 3 := by omega
  have HI1 := Lib.hid (HIS.out.below hB0 hB)
  have HI1' := Lib.hid (HIS'.out.below hB0 hB)
  have Y0 := X0
  have Y1 := X1
  have Y2 := X2
  have hB1 := hB0
  clear X0 X1 X2 hB0 HIS HIS' hw0
  have HB1 := Lib.hid hB1
  refine (HC1.out W1 (Nat.le_trans hB hB1.size) HI1.out).mono ?_
  rintro e w2 ⟨rfl, ho1, hb1⟩
  have hs2 := hb1.size
  have Z0 := Lib.hid (Y0.out.step hb1 (by omega))
  have Z1 := Lib.hid (Y1.out.step hb1 (by omega))
  have Z2 := Lib.hid (Y2.out.step hb1 (by omega))
  have hlt1 : W1.heap.size < w2.heap.size := (ho1.lt _ rfl).2
  have c1 := Z0.out.c3
  have d0 := Z2.out.c2
  have d1 := Z2.out.f 2
  obtain ⟨V1, hV1⟩ : ∃ V : Value, V = .slice (some ⟨W1.heap.size, 0, none⟩) n n := ⟨_, rfl⟩
  obtain ⟨w3, hw3⟩ : ∃ w3 : World, w3 = w2.setCell ⟨w.heap.size + 1 + 1, 2, none⟩ V1 := ⟨_, rfl⟩
  have hs3 : w3.heap.size = w2.heap.size := by rw [hw3]; simp [World.setCell]
  have hbA : Below w.heap.size w w3 := by rw [hw3]; exact (HB1.out.trans (hb1.mono (by omega))).setCell (by simp; omega) _
  have HL2 := Lib.hid (HI1'.out.below (show Below B W1 w3 from by rw [hw3]; exact (hb1.mono (by omega)).setCell (by simp; omega) _) (Nat.le_refl _))
  have Q0 := Lib.hid (show Bx4 _ _ _ _ _ w3 from by rw [hw3]; exact Z0.out.other (by omega))
  have Q1 := Lib.hid (show Bx4 _ _ _ _ _ w3 from by rw [hw3]; exact Z1.out.other (by omega))
  have Q2 := Lib.hid (show Bx4 _ _ _ V1 _ w3 from by rw [hw3]; exact Z2.out.set2)
  have ho2 := ownsRow_setCell_below ho1 (a := ⟨w.heap.size + 1 + 1, 2, none⟩) (by simp; omega) V1
  rw [← hw3] at ho2
  have HO := Lib.hid ho2
  have HV := Lib.hid hV1
  have HB2 := Lib.hid hbA
  have hlt2 : W1.heap.size < w3.heap.size := by omega
  clear hb1 ho1 ho2 Y0 Y1 Y2 Z0 Z1 Z2 HI1 HI1' HC1 HB1 hB1 hbA
  go_wp2_with fail
  rw [← hV1, ← hw3]
  clear hw3 hV1 c1 d0 d1
  refine (HC2.out w3 (by omega) HL2.out).mono ?_
  rintro e w5 ⟨rfl, ho5, hb5⟩
  have hs5 := hb5.size
  have R1 := Lib.hid (Q1.out.step hb5 (by omega))
  have R2 := Lib.hid (Q2.out.step hb5 (by omega))
  have d0 := R2.out.c0
  have d1 := R2.out.c1
  have d2 := R2.out.c2
  have d3 := R2.out.c3
  have f2 := R2.out.f 3
  have e0 := R1.out.c0
  have e1 := R1.out.c1
  have e2 := R1.out.c2
  have e3 := R1.out.c3
  have g0 := R1.out.f 0
  have g1 := R1.out.f 1
  have g2 := R1.out.f 2
  have g3 := R1.out.f 3
  rw [HV.out] at d2
  have hlt5 := ho5.lt _ rfl
  have HO5 := Lib.hid ho5
  have r1 := own_below HO.out hb5
  try rw [HV.out] at r1
  have HR1 := Lib.hid r1
  have HB5 := Lib.hid (HB2.out.trans (hb5.mono (by omega)))
  clear hb5 ho5 Q0 Q1 Q2 R1 R2 HL2 HC2 HO HB2 r1
  go_wp2
  refine bodyPost_ret (v := .agg #[.int .i64 p, .bool o, .slice (some ⟨W1.heap.size, 0, none⟩) n n, .slice (some ⟨w3.heap.size, 0, none⟩) n' n']) (by simp [results, Try.results41, go_sem, d0, d1, d2, d3, e0, e1, e2, e3]) rfl ?_
  have p1 : ∀ x0 x1 x2 x3 x4 : Value, (((((w5.setCell ⟨w.heap.size + 1 + 1, 3, none⟩ x0).setCell ⟨w.heap.size + 1, 0, none⟩ x1).setCell ⟨w.heap.size + 1, 1, none⟩ x2).setCell ⟨w.heap.size + 1, 2, none⟩ x3).setCell ⟨w.heap.size + 1, 3, none⟩ x4).ownsRow W1.heap.size 3 1 (.slice (some ⟨W1.heap.size, 0, none⟩) n n) n (xs.map (Value.int .i64)) := fun x0 x1 x2 x3 x4 => ownsRow_setCell_below (ownsRow_setCell_below (ownsRow_setCell_below (ownsRow_setCell_below (ownsRow_setCell_below (HR1.out) (by simp; omega) _) (by simp; omega) _) (by simp; omega) _) (by simp; omega) _) (by simp; omega) _
  have p2 : ∀ x0 x1 x2 x3 x4 : Value, (((((w5.setCell ⟨w.heap.size + 1 + 1, 3, none⟩ x0).setCell ⟨w.heap.size + 1, 0, none⟩ x1).setCell ⟨w.heap.size + 1, 1, none⟩ x2).setCell ⟨w.heap.size + 1, 2, none⟩ x3).setCell ⟨w.heap.size + 1, 3, none⟩ x4).ownsRow w3.heap.size 3 1 (.slice (some ⟨w3.heap.size, 0, none⟩) n' n') n' (ys.map (Value.int .i64)) := fun x0 x1 x2 x3 x4 => ownsRow_setCell_below (ownsRow_setCell_below (ownsRow_setCell_below (ownsRow_setCell_below (ownsRow_setCell_below (HO5.out) (by simp; omega) _) (by simp; omega) _) (by simp; omega) _) (by simp; omega) _) (by simp; omega) _
  have p3 : ∀ x0 x1 x2 x3 x4 : Value, Below w.heap.size w (((((w5.setCell ⟨w.heap.size + 1 + 1, 3, none⟩ x0).setCell ⟨w.heap.size + 1, 0, none⟩ x1).setCell ⟨w.heap.size + 1, 1, none⟩ x2).setCell ⟨w.heap.size + 1, 2, none⟩ x3).setCell ⟨w.heap.size + 1, 3, none⟩ x4) := fun x0 x1 x2 x3 x4 => ((((HB5.out.setCell (by simp; omega) _).setCell (by simp) _).setCell (by simp) _).setCell (by simp) _).setCell (by simp) _
  generalize hx : Value.slice (some ⟨w2.heap.size, 0, none⟩) n' n' = VX
  have hz : (((((w5.setCell ⟨w.heap.size + 1 + 1, 3, none⟩ VX).setCell ⟨w.heap.size + 1, 0, none⟩ (.int .i64 p)).setCell ⟨w.heap.size + 1, 1, none⟩ (.bool o)).setCell ⟨w.heap.size + 1, 2, none⟩ (.slice (some ⟨W1.heap.size, 0, none⟩) n n)).setCell ⟨w.heap.size + 1, 3, none⟩ VX).heap.size = w5.heap.size := by simp [World.setCell]
  refine ⟨_, _, _, _, _, _, w3.heap.size, rfl, HN.out, HN'.out, ⟨own_mono (p1 _ _ _ _ _) (by omega), fun k hk => by cases hk; exact hlt2⟩, ⟨p2 _ _ _ _ _, fun k hk => by cases hk; rw [hz]; exact hlt5.2⟩, by omega, by rw [hz]; exact hs5, p3 _ _ _ _ _⟩

theorem laws_toOwner' (d : On) (A A' : Option Addr) (n c n' c' : Nat) (w : World) (B : Nat) (hB : B ≤ w.heap.size) (hn : n = d.cl.length) (hn' : n' = d.cx.length) (h : IS w B A d.cl) (h' : IS w B A' d.cx) (hs : n ≤ 2000000) (hs' : n' ≤ 2000000) :
    Calls Try.prog 41 #[.agg #[.int .i64 d.p, .bool d.o, .slice A n c, .slice A' n' c']] w fun e w' => RetOn w d e w' :=
  laws_toOwner d.p d.o A A' n c n' c' d.cl d.cx w B hB hn hn' h h' hs hs'

theorem made4 (x y z t : Value) (n j : Nat) (hj : j < n) : ((madeCells (.agg #[x, y, z, t] : Value).cells (n * 4)).toList)[j * 4]? = some x ∧ ((madeCells (.agg #[x, y, z, t] : Value).cells (n * 4)).toList)[j * 4 + 1]? = some y ∧ ((madeCells (.agg #[x, y, z, t] : Value).cells (n * 4)).toList)[j * 4 + 2]? = some z ∧ ((madeCells (.agg #[x, y, z, t] : Value).cells (n * 4)).toList)[j * 4 + 3]? = some t := by
  have k (i : Nat) (hi : i < 4) : ((madeCells (.agg #[x, y, z, t] : Value).cells (n * 4)).toList)[j * 4 + i]? = #[x, y, z, t][i]? := by
    have e : (.agg #[x, y, z, t] : Value).cells = #[x, y, z, t] := by simp [Value.cells]
    rw [e]
    have h1 : j * 4 + i < n * 4 := by omega
    have h2 : (j * 4 + i) % 4 = i := by omega
    simp only [madeCells, Array.toList_map, List.getElem?_map, Array.getElem?_toList, Array.getElem?_range]
    rw [if_pos h1]
    show some (#[x, y, z, t][(j * 4 + i) % 4]!) = _
    rw [h2]
    match i, hi with
    | 0, _ => rfl
    | 1, _ => rfl
    | 2, _ => rfl
    | 3, _ => rfl
  exact ⟨k 0 (by omega), k 1 (by omega), k 2 (by omega), k 3 (by omega)⟩

/-- Returns owners in fresh blocks. -/
def RetO (w : World) (ds : List On) (e : Ending) (w' : World) : Prop := ∃ v, e = .returned v ∧ OwO w.heap.size w'.heap.size v ds.length ds w' ∧ Below w.heap.size w w'
theorem RetO.nil {w w' : World} (hb : Below w.heap.size w w') : RetO w [] (.returned (.slice none 0 0)) w' := ⟨_, rfl, OwO.nil _ _ _, hb⟩

set_option maxRecDepth 100000 in
set_option maxHeartbeats 1600000 in
theorem laws_toOwnerS (A : Option Addr) (n c : Nat) (ds : List On) (w : World) (B : Nat) (hB : B ≤ w.heap.size) (hn : n = ds.length) (h : OS w B A ds) (hs : OB ds) :
    Calls Try.prog 14 #[.slice A n c] w fun e w' => e = .returned (.slice (some ⟨w.heap.size, 0, none⟩) n n) ∧ OwO w.heap.size w'.heap.size (.slice (some ⟨w.heap.size, 0, none⟩) n n) n ds w' ∧ Below w.heap.size w w' := by
  have hn1 : n ≤ 1048576 := by rw [hn]; exact hs.1
  obtain ⟨i0, hi, hz0, hz1, hz2⟩ := info_parts info_owner
  obtain ⟨w0, hmk, hown0, hgr0⟩ := run_make_full (P := Try.prog) w w.heap.size 25 50 i0 _ 4 Try.underlying25 hi hz0 hz1 .i64 .i64 n (by rw [hz2]; omega) (by unfold maxLen; omega) (Nat.le_refl _)
  have hgl : w.heap.size < w0.heap.size := (hown0.lt _ rfl).2
  have hb0 : Below w.heap.size w w0 := ⟨hgr0.os, hgr0.tape, hgr0.output, hgr0.size, fun k hk => hgr0.block k hk (by simp)⟩
  have HO0 := Lib.hid (made_owners ds hn hown0 (fun j hj => made4 _ _ _ _ n j hj))
  have H := Lib.hid h
  have HN := Lib.hid hn
  have HS := Lib.hid hs
  have HB0 := Lib.hid hb0
  clear hn h hs hown0 hgr0 hb0
  go_enter Try.func14, Try.ntmps14
  go_wp2
  clear hmk
  go_loopw [4] (fun i wr => ∃ k : Nat, k ≤ n ∧ i = .int .i64 k ∧ Hid (OwO w.heap.size wr.heap.size (.slice (some ⟨w.heap.size, 0, none⟩) n n) n (cpO ds n k) wr) ∧ Hid (Below w.heap.size w wr) ∧ w.heap.size < wr.heap.size) (fun i _ => n - (intOf i).toNat)
  case atStart => exact ⟨0, Nat.zero_le _, rfl, HO0.out, HB0.out, hgl⟩
  case round =>
    obtain ⟨k, hk, rfl, HO, HB, hwr⟩ := hrel
    by_cases hlt : k < n
    · obtain ⟨b, off, rfl, hbB, c0, c1, ⟨A1, n1, d1, c2, hn1', hp1⟩, A2, n2, d2, c3, hn2', hp2⟩ := H.out.at_ k (by have := HN.out; omega)
      have hnb := HS.out.2.2 k
      have e0 := (HB.out.cell (p := ⟨b, off + k * 4, none⟩) (by simp; omega)).trans c0
      have e1 := (HB.out.cell (p := ⟨b, off + k * 4 + 1, none⟩) (by simp; omega)).trans c1
      have e2 := (HB.out.cell (p := ⟨b, off + k * 4 + 2, none⟩) (by simp; omega)).trans c2
      have e3 := (HB.out.cell (p := ⟨b, off + k * 4 + 3, none⟩) (by simp; omega)).trans c3
      have HP1 := Lib.hid (hp1.below HB.out hB)
      have HP2 := Lib.hid (hp2.below HB.out hB)
      have HSU := Lib.hid (cpO_succ ds n k HN.out hlt)
      generalize ds.getD k default = d at *
      obtain ⟨dp, dO, dcl, dcx⟩ := d
      dsimp only at *
      have HN1 := Lib.hid hn1'
      have HN2 := Lib.hid hn2'
      have hb1 : n1 ≤ 2000000 := by omega
      have hb2 : n2 ≤ 2000000 := by omega
      clear c0 c1 c2 c3 hp1 hp2 hn1' hn2' hnb H
      go_wp2_with fail
      refine (laws_toOwner dp dO A1 A2 n1 d1 n2 d2 dcl dcx _ B (by omega) HN1.out HN2.out HP1.out HP2.out hb1 hb2).mono ?_
      rintro e w1 ⟨A3, n3, c3, A4, n4, c4, mid, rfl, hn3, hn4, ho3, ho4, hm1, hm2, hb3⟩
      have HW1 := Lib.hid (HO.out.keep (w' := w1) fun q _ hq => hb3.block q hq)
      obtain ⟨-, xs, us, hr, -⟩ := HW1.out
      have hxl : xs.length = n * 4 := hr.1.1
      have u0 := hr.1.cellAt (k * 4) (by omega)
      have u1 := hr.1.cellAt (k * 4 + 1) (by omega)
      have u2 := hr.1.cellAt (k * 4 + 2) (by omega)
      have u3 := hr.1.cellAt (k * 4 + 3) (by omega)
      rw [List.getElem?_eq_getElem (by omega)] at u0 u1 u2 u3
      have f0 := hr.1.frozenAt (k * 4)
      have f1 := hr.1.frozenAt (k * 4 + 1)
      have f2 := hr.1.frozenAt (k * 4 + 2)
      have f3 := hr.1.frozenAt (k * 4 + 3)
      generalize xs[k * 4]'(by omega) = v0 at u0
      generalize xs[k * 4 + 1]'(by omega) = v1 at u1
      generalize xs[k * 4 + 2]'(by omega) = v2 at u2
      generalize xs[k * 4 + 3]'(by omega) = v3 at u3
      have HNEW := Lib.hid (HW1.out.put (d := ⟨dp, dO, dcl, dcx⟩) hlt hn3 hn4 ho3 ho4 (by omega) hm1 hm2)
      have HB3 := Lib.hid (put4_below (HB.out.trans (hb3.mono HB.out.size)) (Nat.le_refl w.heap.size) (k * 4) (.int .i64 dp) (.bool dO) (.slice A3 n3 c3) (.slice A4 n4 c4))
      have HS3 := Lib.hid hb3.size
      have hs4 : w.heap.size < w1.heap.size := by have := hb3.size; omega
      clear hr hxl HW1 ho3 ho4 hb3 hn3 hn4 HO HB hm1 hm2 hb1 hb2 hwr
      go_wp2
      go_roundw
      case rel =>
        refine ⟨k + 1, by omega, by go_num, ?_, HB3.out, ?_⟩
        · have h1 := HNEW.out
          rw [HSU.out] at h1
          show OwO _ (put4 w1 w.heap.size (k * 4) _ _ _ _).heap.size _ _ _ (put4 w1 w.heap.size (k * 4) _ _ _ _)
          rw [put4_size]
          exact h1
        · show _ < (put4 w1 w.heap.size (k * 4) _ _ _ _).heap.size
          rw [put4_size]; exact hs4
      case measure => simp [intOf]; omega
    · go_wp2
      go_ret
      have hkn : k = n := by omega
      subst hkn
      have h1 := HO.out
      rw [cpO_all ds k HN.out] at h1
      exact ⟨by simp, h1, HB.out⟩
end Go.Proofs.Ytdcfmoaomlfijaa
