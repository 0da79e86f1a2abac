/- The laws' equalLazy, and words for lazy states in promise laws. -/
import Derived.Test.YtbnioefhfpahcaaS1

namespace Go.Proofs.Ytbnioefhfpahcaa
set_option linter.unusedSimpArgs false
set_option linter.unusedVariables false
open Go.RowKit

theorem LS4.step {A E C : Option Addr} {st : Lz} {wk wl : World} (h : LS4 wk wk.heap.size A E C st) (hb : Below wk.heap.size wk wl) : LS4 wl wl.heap.size A E C st := (h.below hb (Nat.le_refl _)).more hb.size

set_option maxHeartbeats 1600000 in
theorem laws_equalLazy (A E C A' E' C' : Option Addr) (n c en ec m d c' ec' d' : Nat) (st : Lz) (w : World) (hn : n = st.vs.length) (he : en = st.rs.length) (hm : m = st.cs.length) (h : LS4 w w.heap.size A E C st) (h' : LS4 w w.heap.size A' E' C' st) (hb : LB st) :
    Calls Try.prog 6 #[.agg #[.slice A n c, .slice E en ec, .slice C m d], .agg #[.slice A' n c', .slice E' en ec', .slice C' m d']] w fun e w' => e = .returned (.bool true) ∧ Below w.heap.size w w' := by
  have H := Lib.hid h.1
  have H' := Lib.hid h'.1
  have HI := Lib.hid fun (w' : World) (B : Nat) (hB : B ≤ w'.heap.size) (h : IS w' B A st.vs) (h' : IS w' B A' st.vs) => laws_equalInts A A' n n c c' st.vs st.vs w' B hB hn hn h h' (by have := hb.1; omega) (by have := hb.1; omega)
  have HL := Lib.hid fun (w' : World) (B : Nat) (hB : B ≤ w'.heap.size) (h : SS w' B E st.rs) (h' : SS w' B E' st.rs) => laws_equalLists E E' en en ec ec' st.rs st.rs w' B hB he he h h' hb.2.1 hb.2.1
  have HK := Lib.hid fun (w' : World) (B : Nat) (hB : B ≤ w'.heap.size) (h : IS w' B C st.cs) (h' : IS w' B C' st.cs) => laws_equalInts C C' m m d d' st.cs st.cs w' B hB hm hm h h' (by have := hb.2.2.2.2.2; omega) (by have := hb.2.2.2.2.2; omega)
  rw [show decide (st.vs = st.vs) = true from decide_eq_true rfl] at HI
  rw [show decide (st.rs = st.rs) = true from decide_eq_true rfl] at HL
  rw [show decide (st.cs = st.cs) = true from decide_eq_true rfl] at HK
  clear h h' hn he hm hb
  go_enter Try.func6, Try.ntmps6
  go_wp2_with fail
  obtain ⟨w0, hw0⟩ : ∃ W, W = (w.alloc (.cells #[.slice A n c, .slice E en ec, .slice C m d] 31)).alloc (.cells #[.slice A' n c', .slice E' en ec', .slice C' m d'] 31) := ⟨_, rfl⟩
  have hs0 : w0.heap.size = w.heap.size + 1 + 1 := by rw [hw0]; simp
  have HB0 : Hid (Below w.heap.size w w0) := by rw [hw0]; exact ((Below.refl w.heap.size w).alloc (Nat.le_refl _) _).alloc (by simp) _
  have p1 : w0.cell? ⟨w.heap.size, 1, none⟩ = some (.slice E en ec) := by rw [hw0]; go_simp
  have p2 : w0.cell? ⟨w.heap.size, 2, none⟩ = some (.slice C m d) := by rw [hw0]; go_simp
  have r1 : w0.cell? ⟨w.heap.size + 1, 1, none⟩ = some (.slice E' en ec') := by rw [hw0]; go_simp
  have r2 : w0.cell? ⟨w.heap.size + 1, 2, none⟩ = some (.slice C' m d') := by rw [hw0]; go_simp
  have HS : Hid (LS3 w0 w.heap.size A E C st) := Lib.hid (H.out.below HB0.out (Nat.le_refl _))
  have HS' : Hid (LS3 w0 w.heap.size A' E' C' st) := Lib.hid (H'.out.below HB0.out (Nat.le_refl _))
  rw [← hw0]
  clear hw0
  refine (HI.out w0 w.heap.size (by omega) HS.out.1 HS'.out.1).mono ?_
  rintro e w1 ⟨rfl, hb⟩
  have q1 : w1.cell? ⟨w.heap.size, 1, none⟩ = some (.slice E en ec) := (hb.cell (p := ⟨w.heap.size, 1, none⟩) (by show w.heap.size < w0.heap.size; omega)).trans p1
  have q2 : w1.cell? ⟨w.heap.size + 1, 1, none⟩ = some (.slice E' en ec') := (hb.cell (p := ⟨w.heap.size + 1, 1, none⟩) (by show w.heap.size + 1 < w0.heap.size; omega)).trans r1
  have q3 : w1.cell? ⟨w.heap.size, 2, none⟩ = some (.slice C m d) := (hb.cell (p := ⟨w.heap.size, 2, none⟩) (by show w.heap.size < w0.heap.size; omega)).trans p2
  have q4 : w1.cell? ⟨w.heap.size + 1, 2, none⟩ = some (.slice C' m d') := (hb.cell (p := ⟨w.heap.size + 1, 2, none⟩) (by show w.heap.size + 1 < w0.heap.size; omega)).trans r2
  have HS1 := Lib.hid (HS.out.below hb (by omega))
  have HS1' := Lib.hid (HS'.out.below hb (by omega))
  have HB1 := Lib.hid (HB0.out.trans (hb.mono (by omega)))
  have hs1 : w0.heap.size ≤ w1.heap.size := hb.size
  clear hb p1 p2 r1 r2 HS HS' HB0
  go_wp2_with fail
  refine (HL.out w1 w.heap.size (by omega) HS1.out.2.1 HS1'.out.2.1).mono ?_
  rintro e w2 ⟨rfl, hb⟩
  have q5 : w2.cell? ⟨w.heap.size, 2, none⟩ = some (.slice C m d) := (hb.cell (p := ⟨w.heap.size, 2, none⟩) (by show w.heap.size < w1.heap.size; omega)).trans q3
  have q6 : w2.cell? ⟨w.heap.size + 1, 2, none⟩ = some (.slice C' m d') := (hb.cell (p := ⟨w.heap.size + 1, 2, none⟩) (by show w.heap.size + 1 < w1.heap.size; omega)).trans q4
  have HS2 := Lib.hid (HS1.out.below hb (by omega))
  have HS2' := Lib.hid (HS1'.out.below hb (by omega))
  have HB2 := Lib.hid (HB1.out.trans (hb.mono (by omega)))
  have hs2 : w1.heap.size ≤ w2.heap.size := hb.size
  clear hb q1 q2 q3 q4 HS1 HS1' HB1
  go_wp2_with fail
  refine (HK.out w2 w.heap.size (by omega) HS2.out.2.2 HS2'.out.2.2).mono ?_
  rintro e w3 ⟨rfl, hb⟩
  go_wp2
  go_ret
  exact ⟨rfl, HB2.out.trans (hb.mono (by omega))⟩
theorem isIn_v (A : Option Addr) (n c : Nat) (xs : List Int) (x : Int) (b : Bool) (w : World) (hn : n = xs.length) (h : IS w w.heap.size A xs) (hs : n ≤ 2000000) (hb : decide (x ∈ xs) = b) :
    Calls Try.prog 10 #[.slice A n c, .int .i64 x] w fun e w' => e = .returned (.bool b) ∧ Below w.heap.size w w' := by
  refine (laws_isIn A n c xs x w w.heap.size (Nat.le_refl _) hn h hs).mono ?_
  rintro e w' ⟨rfl, rfl⟩
  exact ⟨by rw [hb], Below.refl _ _⟩
end Go.Proofs.Ytbnioefhfpahcaa
