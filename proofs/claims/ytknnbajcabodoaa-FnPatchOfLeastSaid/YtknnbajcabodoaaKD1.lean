/- The drawing of keys: goodKeys, someKeys, and what the law of ValidKeys draws. -/
import Derived.Test.YtknnbajcabodoaaQ0

namespace Go.Proofs.Ytknnbajcabodoaa
set_option linter.unusedSimpArgs false
set_option linter.unusedVariables false
open Go.RowKit

/-- Returns a list of at most M numbers in a fresh block; the reader goes on. -/
def KyP (g : Nat) (A : Option Addr) (n c : Nat) (bs : List Int) (Q M : Nat) (w : World) (e : Ending) (w' : World) : Prop :=
  ∃ (v : Value) (l : Nat) (xs : List Int), e = .returned v ∧ l = xs.length ∧ l ≤ M ∧ OwR w.heap.size w'.heap.size 3 1 v l (xs.map (Value.int .i64)) w' ∧ Rdr g A n c bs Q w' ∧ Frd g w.heap.size w w'

set_option maxRecDepth 100000 in
set_option maxHeartbeats 6400000 in
theorem goodKeys_any (g : Nat) (A : Option Addr) (n c : Nat) (bs : List Int) (P : Nat) (w : World) (h : Rdr g A n c bs P w) (hn : n = bs.length) (hby : BY bs) (hs : n ≤ 2000) (hP : P ≤ 600000) :
    Calls Try.prog 59 #[.pointer (some ⟨g, 0, none⟩)] w fun e w' => KyP g A n c bs (P + 11) 10 w e w' := by
  obtain ⟨i0, hi, hz0, hz1, hz2⟩ := info_parts info_int
  have hgw := h.lt
  have HN := Lib.hid hn
  have HR0 := Lib.hid ((h.alloc (.cells #[] 3)).alloc (.cells #[.int .i64 5, .int .i64 4, .int .i64 6, .int .i64 3, .int .i64 8, .int .i64 10, .int .i64 1, .int .i64 0] 3))
  have hrow0 := World.ownsRow_lit (e := 3) (size := 1) (base := w.heap.size) w #[] 0 (Nat.le_refl _) (by unfold maxLen; omega) (by simp)
  have HROW := Lib.hid (OwR.start (hrow0.alloc (.cells #[.int .i64 5, .int .i64 4, .int .i64 6, .int .i64 3, .int .i64 8, .int .i64 10, .int .i64 1, .int .i64 0] 3)))
  have HF0 := Lib.hid (Frd.of_below (g := g) (s := w.heap.size) (((Below.refl w.heap.size w).alloc (Nat.le_refl _) (.cells #[] 3)).alloc (by simp) (.cells #[.int .i64 5, .int .i64 4, .int .i64 6, .int .i64 3, .int .i64 8, .int .i64 10, .int .i64 1, .int .i64 0] 3)) (Nat.le_refl _))
  clear h hn hrow0
  go_enter Try.func59, Try.ntmps59
  go_wp2_with fail
  refine (one_any g A n c bs P (w.heap.size + 1) 0 8 8 [5, 4, 6, 3, 8, 10, 1, 0] _ HR0.out HN.out hby hs (by omega) rfl (by omega) (by omega) ?_ (by omega) (by simp)).mono ?_
  · intro j hj
    have : j = 0 ∨ j = 1 ∨ j = 2 ∨ j = 3 ∨ j = 4 ∨ j = 5 ∨ j = 6 ∨ j = 7 := by omega
    rcases this with rfl | rfl | rfl | rfl | rfl | rfl | rfl | rfl <;> go_simp
  rintro e w4 ⟨x, rfl, hxm, hr4, ht4⟩
  obtain ⟨N, rfl, hN10⟩ : ∃ N : Nat, x = (N : Int) ∧ N ≤ 10 := by
    simp only [List.mem_cons, List.not_mem_nil, or_false] at hxm
    exact ⟨x.toNat, by omega, by omega⟩
  have hs4 : w.heap.size + 2 ≤ w4.heap.size := by have := ht4.size; simpa using this
  have HR4 := Lib.hid hr4
  have HF4 := Lib.hid (HF0.out.trans (Frd.of_tch ht4 (by simp; omega)))
  have HO4 : Hid (OwR w.heap.size w4.heap.size 3 1 (.slice (some ⟨w.heap.size, 0, none⟩) 0 0) 0 [] w4) := by
    have h0 := (HROW.out.keep (w' := w4) fun k hk hk' => ht4.block k (by simpa using hk') (.inr (by omega))).mono (Nat.le_refl _) (show _ ≤ w4.heap.size by have := ht4.size; simpa using this)
    simpa [Hid] using h0
  clear hxm hr4 ht4 HR0 HF0 HROW
  go_wp2
  go_loopw [3, 4] (fun v u wr => ∃ (i m l : Nat) (xs : List Int), i + m = N ∧ u = .int .i64 m ∧ l ≤ i ∧ Hid (l = xs.length) ∧ Hid (OwR w.heap.size wr.heap.size 3 1 v l (xs.map (Value.int .i64)) wr) ∧ Hid (Rdr g A n c bs (P + 1 + i) wr) ∧ Hid (Frd g w.heap.size w wr) ∧ w.heap.size + 2 ≤ wr.heap.size) (fun _ u _ => (intOf u).toNat)
  case atStart => exact ⟨0, N, 0, [], by omega, rfl, Nat.le_refl _, rfl, HO4.out, HR4.out.mono (by omega), HF4.out, hs4⟩
  case round =>
    obtain ⟨i, m, l, xs, him, rfl, hli, HL, HO, HR, HF, hwr⟩ := hrel
    obtain ⟨Av, cv, rfl⟩ := row_form HO.out.1
    clear HO4 HR4 HF4 hs4
    by_cases hm : 0 < m
    · go_wp2_with fail
      refine (pick_any g A n c bs (P + 1 + i) 12 _ HR.out HN.out hby hs (by omega) (by omega)).mono ?_
      rintro e w5 ⟨z, rfl, _, _, hr5, ht5⟩
      have hs5 := ht5.size
      have HR5 := Lib.hid hr5
      have HF5 := Lib.hid (HF.out.trans (Frd.of_tch ht5 (by omega)))
      have HO5 := Lib.hid ((HO.out.keep (w' := w5) fun q hq hq' => ht5.block q hq' (.inr (by omega))).mono (Nat.le_refl _) hs5)
      have HPL := Lib.hid (spec_placeIn Av l cv xs (z : Int) w5 w5.heap.size (Nat.le_refl _) HL.out HO5.out.ints (by omega))
      clear hr5 ht5 HR HF HO
      go_wp2_with fail
      refine HPL.out.mono ?_
      rintro e w6 ⟨rfl, rfl⟩
      clear HPL
      generalize plc xs z = p at *
      by_cases hp : p < 0
      · have HR6 := Lib.hid (HR5.out.alloc (.cells #[.int .i64 z] 3))
        have HF6 := Lib.hid (HF5.out.trans (Frd.of_below (w' := w5.alloc (.cells #[.int .i64 z] 3)) ((Below.refl w5.heap.size _).alloc (Nat.le_refl _) _) (by omega)))
        clear HR5 HF5
        go_wp2_with (at_builtin; refine wpList_append_own _ rfl _ _ 23 rfl w.heap.size 3 i0 (.int .i64 0) 1 8 Try.underlying23 hi hz0 hz1 hz2 rfl (by decide) _ _ _ rfl (HO5.out.1.alloc _) ⟨_, 0, none⟩ 1 1 [.int .i64 z] rfl rfl (cell_one_new _ _ _) ?c2 ?c3 ?c4 ?c5 ?_)
        case c2 => first | rfl | (intro u hu; simp at hu; subst hu; rfl)
        case c3 => unfold maxLen; omega
        case c4 => omega
        case c5 => first | omega | (simp; omega)
        intro v9 w9 hown9 hgrow9 _
        have hpos := (HO5.out.1.alloc (.cells #[.int .i64 z] 3)).lt
        have hb9 : Below w.heap.size (w5.alloc (.cells #[.int .i64 z] 3)) w9 := (Below.refl _ _).grown hgrow9 (by simp; omega) (fun q hq => (hpos q hq).1)
        have ht9 : Tch w.heap.size (w5.heap.size + 1) (w5.alloc (.cells #[.int .i64 z] 3)) w9 := Tch.of_grown hgrow9 fun q hq => by have := hpos q hq; simp at this; omega
        have hz9 := ht9.size
        simp only [World.size_alloc] at hz9
        have HR9 := Lib.hid (HR6.out.turn ht9 (by omega))
        have HF9 := Lib.hid (HF6.out.trans (Frd.of_below hb9 (Nat.le_refl _)))
        have HO9 : Hid (OwR w.heap.size w9.heap.size 3 1 v9 (l + 1) ((xs ++ [(z : Int)]).map (Value.int .i64)) w9) := ⟨by simpa using hown9, fun q hq => (hown9.lt q hq).2⟩
        clear hown9 hgrow9 hpos hb9 ht9 HO5
        go_wp2
        go_roundw
        case rel => exact ⟨i + 1, m - 1, l + 1, xs ++ [(z : Int)], by omega, by go_num, by omega, by rw [List.length_append, ← HL.out]; rfl, HO9.out, HR9.out.mono (by omega), HF9.out, by omega⟩
        case measure => simp [intOf]; omega
      · go_wp2
        go_roundw
        case rel => exact ⟨i + 1, m - 1, l, xs, by omega, by go_num, by omega, HL.out, HO5.out, HR5.out.mono (by omega), HF5.out, by omega⟩
        case measure => simp [intOf]; omega
    · obtain rfl : m = 0 := by omega
      go_wp2
      go_ret
      exact ⟨_, l, xs, rfl, HL.out, by omega, HO.out, HR.out.mono (by omega), HF.out⟩
end Go.Proofs.Ytknnbajcabodoaa
