/- Contracts of the laws' own copies of graphs: toNode, toNodeS, toGraph. -/
import Derived.Test.YtkmhpiojbocjkaaA5
import Derived.Test.YtkmhpiojbocjkaaG1
namespace Go.Proofs.Ytkmhpiojbocjkaa
set_option linter.unusedSimpArgs false
set_option linter.unusedVariables false
open Go.RowKit

/-- Returns a node of fresh parts. -/
def RetNd (w : World) (d : Nd) (e : Ending) (w' : World) : Prop := ∃ (A : Option Addr) (n c : Nat), e = .returned (.agg #[.int .i64 d.k, .slice A n c]) ∧ n = d.ps.length ∧ w'.ownsRow w.heap.size 117 5 (.slice A n c) n (d.ps.flatMap Pt.cells) ∧ Below w.heap.size w w'

set_option maxHeartbeats 800000 in
theorem laws_toNode (A : Option Addr) (k : Int) (n c : Nat) (ps : List Pt) (w : World) (B : Nat) (hB : B ≤ w.heap.size) (hn : n = ps.length) (h : PS w B A ps) (hs : n ≤ 2000000) :
    Calls Try.prog 37 #[.agg #[.int .i64 k, .slice A n c]] w fun e w' => RetNd w ⟨k, ps⟩ e w' := by
  have H := Lib.hid h
  have HN := Lib.hid hn
  clear hn h
  go_enter Try.func37, Try.ntmps37
  go_wp2_with fail
  refine (laws_toFormula A n c ps _ B (by simp; omega) HN.out (((H.out.alloc hB _).alloc (by simp; omega) _).alloc (by simp; omega) _) hs).mono ?_
  rintro e w1 ⟨A1, n1, c1, rfl, hn1, hown, hb⟩
  obtain ⟨hc, hf⟩ := bcell hb
  have HO := Lib.hid hown
  have HN1 := Lib.hid hn1
  clear hown hn1
  have hw1 : w.heap.size + 3 ≤ w1.heap.size := by have := hb.size; simp at this; omega
  have q1 : w1.cell? ⟨w.heap.size + 1, 0, none⟩ = some (.int .i64 0) := by rw [hc _ _ (by simp)]; go_simp
  have q2 : w1.cell? ⟨w.heap.size + 1, 1, none⟩ = some (.slice none 0 0) := by rw [hc _ _ (by simp)]; go_simp
  have q3 : w1.cell? ⟨w.heap.size + 1 + 1, 0, none⟩ = some (.int .i64 k) := by rw [hc _ _ (by simp)]; go_simp
  have q4 : w1.cell? ⟨w.heap.size + 1 + 1, 1, none⟩ = some (.slice none 0 0) := by rw [hc _ _ (by simp)]; go_simp
  have q5 : w1.frozen? ⟨w.heap.size + 1, 0, none⟩ = false := by rw [hf _ _ (by simp)]; go_simp
  have q6 : w1.frozen? ⟨w.heap.size + 1, 1, none⟩ = false := by rw [hf _ _ (by simp)]; go_simp
  have q7 : w1.frozen? ⟨w.heap.size + 1 + 1, 0, none⟩ = false := by rw [hf _ _ (by simp)]; go_simp
  have q8 : w1.frozen? ⟨w.heap.size + 1 + 1, 1, none⟩ = false := by rw [hf _ _ (by simp)]; go_simp
  clear hc hf
  go_wp2
  refine bodyPost_ret (v := .agg #[.int .i64 k, .slice A1 n1 c1]) (by simp [results, Try.results37, go_sem, q1, q2, q3, q4]) rfl ?_
  have o1 := ownsRow_setCell_below HO.out (a := ⟨w.heap.size + 1 + 1, 1, none⟩) (by simp) (.slice A1 n1 c1)
  have o2 := ownsRow_setCell_below o1 (a := ⟨w.heap.size + 1, 0, none⟩) (by simp) (.int .i64 k)
  have o3 := ownsRow_setCell_below o2 (a := ⟨w.heap.size + 1, 1, none⟩) (by simp) (.slice A1 n1 c1)
  refine ⟨A1, n1, c1, rfl, HN1.out, own_mono o3 (by simp; omega), ?_⟩
  exact (((((((Below.refl _ _).alloc (Nat.le_refl _) _).alloc (by simp) _).alloc (by simp; omega) _).trans (hb.mono (by simp; omega))).setCell (by simp; omega) _).setCell (by simp) _).setCell (by simp) _

/-- Two cells written one after the other. -/
def set2 (xs : List Value) (j : Nat) (x y : Value) : List Value := (xs.set j x).set (j + 1) y

theorem set2_get (xs : List Value) (j : Nat) (x y : Value) (h : j + 1 < xs.length) : (set2 xs j x y)[j]? = some x ∧ (set2 xs j x y)[j + 1]? = some y ∧ ∀ i, i ≠ j → i ≠ j + 1 → (set2 xs j x y)[i]? = xs[i]? := by
  unfold set2
  refine ⟨?_, ?_, fun i h1 h2 => ?_⟩
  · rw [List.getElem?_set, if_neg (by omega), List.getElem?_set, if_pos rfl, if_pos (by omega)]
  · rw [List.getElem?_set, if_pos rfl, if_pos (by simpa using h)]
  · rw [List.getElem?_set, if_neg (by omega), List.getElem?_set, if_neg (by omega)]

theorem own_set2 {w : World} {base e size n cap g : Nat} {xs : List Value} (h : w.ownsRow base e size (.slice (some ⟨g, 0, none⟩) n cap) n xs) (j : Nat) (x y : Value) :
    ((w.setCell ⟨g, j, none⟩ x).setCell ⟨g, j + 1, none⟩ y).ownsRow base e size (.slice (some ⟨g, 0, none⟩) n cap) n (set2 xs j x y) :=
  ((h.stored j x).1.stored (j + 1) y).1

theorem NdO.setCell {lo hi : Nat} {d : Nd} {x y : Value} {w : World} (h : NdO lo hi d x y w) {a : Addr} (ha : a.block < lo) (u : Value) : NdO lo hi d x y (w.setCell a u) :=
  h.keep fun k hk _ => Below.heap_setCell _ _ _ _ (by omega)

theorem info_node : (Try.prog.info? 85).map (fun i => (i.zero, i.size, i.bytes)) = some (some (.agg #[.int .i64 0, .slice none 0 0]), 2, 32) := by kernel_rfl

set_option maxRecDepth 100000 in
set_option maxHeartbeats 800000 in
theorem laws_toNodeS (A : Option Addr) (n c : Nat) (gs : List Nd) (w : World) (B : Nat) (hB : B ≤ w.heap.size) (hn : n = gs.length) (h : GS w B A gs) (hs : GB gs) :
    Calls Try.prog 23 #[.slice A n c] w fun e w' => e = .returned (.slice (some ⟨w.heap.size, 0, none⟩) n n) ∧ OwG w.heap.size w'.heap.size (.slice (some ⟨w.heap.size, 0, none⟩) n n) n gs w' ∧ Below w.heap.size w w' := by
  have hn1 : n ≤ 1048576 := by rw [hn]; exact hs.1
  obtain ⟨i0, hi, hz0, hz1, hz2⟩ := info_parts info_node
  obtain ⟨w0, hmk, hown0, hgr0⟩ := run_make_full (P := Try.prog) w w.heap.size 29 85 i0 _ 2 Try.underlying29 hi hz0 hz1 .i64 .i64 n (by rw [hz2]; omega) (by unfold maxLen; omega) (Nat.le_refl _)
  have H := Lib.hid h
  have HN := Lib.hid hn
  have HS := Lib.hid hs
  clear hn h hs
  go_enter Try.func23, Try.ntmps23
  go_wp2
  go_loopw [4] (fun i wr => ∃ (k : Nat) (xs : List Value), k ≤ n ∧ i = .int .i64 k ∧ Hid (wr.ownsRow w.heap.size 85 2 (.slice (some ⟨w.heap.size, 0, none⟩) n n) n xs) ∧ Hid (∀ j, j < k → ∃ x y, xs[j * 2]? = some x ∧ xs[j * 2 + 1]? = some y ∧ NdO (w.heap.size + 1) wr.heap.size (gs.getD j default) x y wr) ∧ Below w.heap.size w wr ∧ w.heap.size < wr.heap.size) (fun i _ => n - (intOf i).toNat)
  case atStart => exact ⟨0, _, Nat.zero_le _, rfl, hown0, by intro j hj; omega, ⟨hgr0.os, hgr0.tape, hgr0.output, hgr0.size, fun k hk => hgr0.block k hk (by simp)⟩, (hown0.lt _ rfl).2⟩
  case round =>
    obtain ⟨k, xs, hk, rfl, HO, HT, hb, hsz⟩ := hrel
    by_cases hlt : k < n
    · obtain ⟨b, off, rfl, hbB, hc⟩ := H.out (by have := HN.out; omega)
      obtain ⟨c0, A1, n1, c1, c2, hn1', hps⟩ := hc k (by have := HN.out; omega)
      have hnb := HS.out.2 k
      clear hc H
      have b0 := (hb.cell (p := ⟨b, off + k * 2, none⟩) (by simp; omega)).trans c0
      have b1 := (hb.cell (p := ⟨b, off + k * 2 + 1, none⟩) (by simp; omega)).trans c2
      have HPS := Lib.hid (hps.below hb hB)
      clear c0 c2 hps
      generalize hp : gs.getD k default = d at *
      have HP := Lib.hid hp
      have HN1 := Lib.hid hn1'
      have hn1b : n1 ≤ 2000000 := by omega
      clear hp hn1'
      go_wp2_with fail
      refine (laws_toNode A1 d.k n1 c1 d.ps _ B (by omega) HN1.out HPS.out hn1b).mono ?_
      rintro e w1 ⟨A2, n2, c2, rfl, hn2, hown2, hb1⟩
      have hO1 := own_below HO.out hb1
      have hxl : xs.length = n * 2 := hO1.1
      have u0 := hO1.cellAt (k * 2) (by omega)
      have u1 := hO1.cellAt (k * 2 + 1) (by omega)
      rw [List.getElem?_eq_getElem (by omega)] at u0 u1
      have f0 := hO1.frozenAt (k * 2)
      have f1 := hO1.frozenAt (k * 2 + 1)
      generalize xs[k * 2]'(by omega) = v0 at u0
      generalize xs[k * 2 + 1]'(by omega) = v1 at u1
      have HO1 := Lib.hid hO1
      have HXL := Lib.hid hxl
      have HOW2 := Lib.hid hown2
      have HN2 := Lib.hid hn2
      clear hO1 hxl HO hown2 hn2
      go_wp2
      go_roundw
      case rel =>
        obtain ⟨s0, s1, s2⟩ := set2_get xs (k * 2) (.int .i64 d.k) (.slice A2 n2 c2) (by have := HXL.out; omega)
        refine ⟨k + 1, _, by omega, by go_num, own_set2 HO1.out (k * 2) _ _, ?_, ((hb.trans (hb1.mono hb.size)).setCell (Nat.le_refl _) _).setCell (Nat.le_refl _) _, by have := hb1.size; simp [World.setCell]; omega⟩
        intro j hj
        have hnew : NdO (w.heap.size + 1) w1.heap.size d (.int .i64 d.k) (.slice A2 n2 c2) w1 := ⟨rfl, A2, n2, c2, rfl, HN2.out, own_mono HOW2.out (by omega), fun k' hk' => (HOW2.out.lt k' hk').2⟩
        rcases Nat.lt_or_ge j k with h1 | h1
        · obtain ⟨x, y, hx, hy, hd⟩ := HT.out j h1
          refine ⟨x, y, by rw [s2 _ (by omega) (by omega)]; exact hx, by rw [s2 _ (by omega) (by omega)]; exact hy, ?_⟩
          have := ((hd.keep fun q _ hq => hb1.block q hq).mono (Nat.le_refl _) hb1.size : NdO (w.heap.size + 1) w1.heap.size _ x y w1)
          simpa [World.setCell] using (this.setCell (a := ⟨w.heap.size, k * 2, none⟩) (by simp) (.int .i64 d.k)).setCell (a := ⟨w.heap.size, k * 2 + 1, none⟩) (by simp) (.slice A2 n2 c2)
        · obtain rfl : j = k := by omega
          refine ⟨_, _, s0, s1, ?_⟩
          rw [HP.out]
          simpa [World.setCell] using (hnew.setCell (a := ⟨w.heap.size, j * 2, none⟩) (by simp) (.int .i64 d.k)).setCell (a := ⟨w.heap.size, j * 2 + 1, none⟩) (by simp) (.slice A2 n2 c2)
      case measure => simp [intOf]; omega
    · go_wp2
      go_ret
      have hkn : k = n := by omega
      subst hkn
      refine ⟨by simp, ⟨HN.out, xs, OwR.start HO.out, fun j hj => ?_⟩, hb⟩
      obtain ⟨x, y, hx, hy, hd⟩ := HT.out j hj
      exact ⟨x, y, hx, hy, hd.mono (by omega) (Nat.le_refl _)⟩

/-- Returns a graph of fresh nodes. -/
def RetGr (w : World) (gs : List Nd) (e : Ending) (w' : World) : Prop := ∃ (A : Option Addr) (n c : Nat), e = .returned (.agg #[.slice A n c]) ∧ n = gs.length ∧ OwG w.heap.size w'.heap.size (.slice A n c) n gs w' ∧ Below w.heap.size w w'

theorem OwG.setCell {lo hi n : Nat} {v : Value} {gs : List Nd} {w : World} (h : OwG lo hi v n gs w) {a : Addr} (ha : a.block < lo) (u : Value) : OwG lo hi v n gs (w.setCell a u) :=
  OwG.loc _ _ _ _ _ _ _ h fun k hk _ => Below.heap_setCell _ _ _ _ (by omega)

set_option maxHeartbeats 800000 in
theorem laws_toGraph (A : Option Addr) (n c : Nat) (gs : List Nd) (w : World) (B : Nat) (hB : B ≤ w.heap.size) (hn : n = gs.length) (h : GS w B A gs) (hs : GB gs) :
    Calls Try.prog 9 #[.agg #[.slice A n c]] w fun e w' => RetGr w gs e w' := by
  have H := Lib.hid h
  have HN := Lib.hid hn
  have HS := Lib.hid hs
  clear hn h hs
  go_enter Try.func9, Try.ntmps9
  go_wp2_with fail
  refine (laws_toNodeS _ _ _ gs _ B (by simp; omega) HN.out (((H.out.alloc hB _).alloc (by simp; omega) _).alloc (by simp; omega) _) HS.out).mono ?_
  rintro e w1 ⟨rfl, hown, hb⟩
  obtain ⟨hc, hf⟩ := bcell hb
  have HO := Lib.hid hown
  clear hown
  have hw1 : w.heap.size + 3 ≤ w1.heap.size := by have := hb.size; simp at this; omega
  have q1 : w1.cell? ⟨w.heap.size + 1, 0, none⟩ = some (.slice none 0 0) := by rw [hc _ _ (by simp)]; go_simp
  have q2 : w1.cell? ⟨w.heap.size + 1 + 1, 0, none⟩ = some (.slice none 0 0) := by rw [hc _ _ (by simp)]; go_simp
  have q3 : w1.frozen? ⟨w.heap.size + 1, 0, none⟩ = false := by rw [hf _ _ (by simp)]; go_simp
  have q4 : w1.frozen? ⟨w.heap.size + 1 + 1, 0, none⟩ = false := by rw [hf _ _ (by simp)]; go_simp
  clear hc hf
  go_wp2
  refine bodyPost_ret (v := .agg #[.slice (some ⟨w.heap.size + 1 + 1 + 1, 0, none⟩) n n]) (by simp [results, Try.results9, go_sem, q1]) rfl ?_
  have o1 := HO.out.setCell (a := ⟨w.heap.size + 1 + 1, 0, none⟩) (by simp) (.slice (some ⟨w.heap.size + 1 + 1 + 1, 0, none⟩) n n)
  have o2 := o1.setCell (a := ⟨w.heap.size + 1, 0, none⟩) (by simp) (.slice (some ⟨w.heap.size + 1 + 1 + 1, 0, none⟩) n n)
  have o3 := o2.mono (lo' := w.heap.size) (hi' := w1.heap.size) (by simp; omega) (Nat.le_refl _)
  simp only [World.size_alloc] at o3
  refine ⟨_, n, n, rfl, HN.out, by simpa [World.setCell] using o3, ?_⟩
  exact ((((((Below.refl _ _).alloc (Nat.le_refl _) _).alloc (by simp) _).alloc (by simp; omega) _).trans (hb.mono (by simp; omega))).setCell (by simp; omega) _).setCell (by simp) _
end Go.Proofs.Ytkmhpiojbocjkaa
