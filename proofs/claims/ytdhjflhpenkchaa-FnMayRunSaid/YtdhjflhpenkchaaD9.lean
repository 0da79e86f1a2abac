/- The drawing of cells: goodCells, someCells; a graph and cells: graphOf. -/
import Derived.Test.YtdhjflhpenkchaaD8
import Derived.Test.YtdhjflhpenkchaaH0

namespace Go.Proofs.Ytdhjflhpenkchaa
set_option linter.unusedSimpArgs false
set_option linter.unusedVariables false
open Go.RowKit

/-- Returns l numbers in a fresh block; the reader has picked Q times at most. -/
def CsP (g : Nat) (A : Option Addr) (n c : Nat) (bs : List Int) (Q : Nat) (l1 l2 : Nat) (w : World) (e : Ending) (w' : World) : Prop :=
  ∃ (v : Value) (xs : List Int), e = .returned v ∧ l1 ≤ xs.length ∧ xs.length ≤ l2 ∧ OwnI w' w.heap.size v xs ∧ Rdr g A n c bs Q w' ∧ Tch g (g + 1) w w'

set_option maxRecDepth 100000 in
set_option maxHeartbeats 3200000 in
theorem goodCells_any (g : Nat) (A : Option Addr) (n c : Nat) (bs : List Int) (P : Nat) (Ag : Option Addr) (k cg lo hi : Nat) (gs : List Nd) (w : World) (h : Rdr g A n c bs P w) (hn : n = bs.length) (hby : BY bs) (hs : n ≤ 2000) (hP : P ≤ 800000)
    (hg : As lo hi (OwG lo hi (.slice Ag k cg) k gs) w) (hlo : g < lo) (hk1 : 1 ≤ k) (hk : k ≤ 10) :
    Calls Try.prog 124 #[.pointer (some ⟨g, 0, none⟩), .agg #[.slice Ag k cg]] w fun e w' => CsP g A n c bs (P + 20) k k w e w' := by
  obtain ⟨i0, hi0, hz0, hz1, hz2⟩ := info_parts info_int
  have hgw := h.lt
  have hhi := hg.le
  have HN := Lib.hid hn
  have HR0 := Lib.hid ((h.alloc (.cells #[.slice Ag k cg] 25)).alloc (.cells #[] 3))
  have HA0 := Lib.hid ((hg.alloc (.cells #[.slice Ag k cg] 25)).alloc (.cells #[] 3))
  have HB0 := Lib.hid ((box_new w (.slice Ag k cg) 25).alloc (.cells #[] 3))
  have hrow0 := World.ownsRow_lit (e := 3) (size := 1) (base := w.heap.size + 1) (w.alloc (.cells #[.slice Ag k cg] 25)) #[] 0 (by simp) (by unfold maxLen; omega) (by simp)
  have HROW := Lib.hid (OwR.start hrow0)
  have hBW : Below w.heap.size w ((w.alloc (.cells #[.slice Ag k cg] 25)).alloc (.cells #[] 3)) := ((Below.refl _ _).alloc (Nat.le_refl _) _).alloc (by simp) _
  have HF0 := Lib.hid (Frd.of_below (g := g) (s := w.heap.size) hBW (Nat.le_refl _))
  clear h hn hg hrow0 hBW
  go_enter Try.func124, Try.ntmps124
  go_wp2
  go_loopw [5, 6] (fun v u wr => ∃ (i : Nat) (xs : List Int), i ≤ k ∧ u = .int .i64 i ∧ xs.length = i ∧ Hid (OwR (w.heap.size + 1) wr.heap.size 3 1 v i (xs.map (Value.int .i64)) wr) ∧ Hid (As lo hi (OwG lo hi (.slice Ag k cg) k gs) wr) ∧ Hid (As w.heap.size (w.heap.size + 1) (fun w' => w'.cell? ⟨w.heap.size, 0, none⟩ = some (.slice Ag k cg)) wr) ∧ Hid (Rdr g A n c bs (P + 2 * i) wr) ∧ Hid (Frd g w.heap.size w wr)) (fun _ u _ => k - (intOf u).toNat)
  case atStart => exact ⟨0, [], Nat.zero_le _, rfl, rfl, by simpa [Hid] using HROW.out, HA0.out, HB0.out, by simpa [Hid] using HR0.out, HF0.out⟩
  case round =>
    obtain ⟨i, xs, hik, rfl, hxl, HO, HA, HB, HR, HF⟩ := hrel
    obtain ⟨Av, cv, rfl⟩ := row_form' HO.out.1
    have hwr : w.heap.size + 1 ≤ wr.heap.size := HB.out.le
    have qb := HB.out.it
    by_cases hlt : i < k
    · obtain ⟨b, off, rfl, hbB, hcc⟩ := HA.out.it.nodes (by have := HA.out.it.1; omega)
      obtain ⟨c0, _⟩ := hcc i (by have := HA.out.it.1; omega)
      have hbw : b < wr.heap.size := by omega
      clear HROW HA0 HB0 HR0 HF0
      generalize gs.getD i default = d at c0
      cases hd : (d.k == 0)
      · have HOa := Lib.hid HO.out
        have HAa := Lib.hid HA.out
        have HBa := Lib.hid HB.out
        have HRa := Lib.hid HR.out
        have HFa := Lib.hid HF.out
        clear HO HA HB HR HF
        have HAb := Lib.hid (HAa.out.alloc (.cells #[.int .i64 0] 3))
        have HBb := Lib.hid (HBa.out.alloc (.cells #[.int .i64 0] 3))
        have HRb := Lib.hid (HRa.out.alloc (.cells #[.int .i64 0] 3))
        have HFb := Lib.hid (HFa.out.trans (Frd.of_below (w' := wr.alloc (.cells #[.int .i64 0] 3)) ((Below.refl wr.heap.size wr).alloc (Nat.le_refl _) _) (by omega)))
        go_wp2_with (at_builtin; refine wpList_append_own _ rfl _ _ 28 rfl (w.heap.size + 1) 3 i0 (.int .i64 0) 1 8 Try.underlying28 hi0 hz0 hz1 hz2 rfl (by decide) _ _ _ rfl (HOa.out.1.alloc _) ⟨_, 0, none⟩ 1 1 [.int .i64 0] rfl rfl (cell_one_new _ _ _) ?c2 ?c3 ?c4 ?c5 ?_)
        case c2 => first | rfl | (intro u hu; simp at hu; subst hu; rfl)
        case c3 => unfold maxLen; omega
        case c4 => omega
        case c5 => first | omega | (simp; omega)
        intro v9 w9 hown9 hgrow9 _
        have hpos := (HOa.out.1.alloc (.cells #[.int .i64 0] 3)).lt
        have hb9 : Below (w.heap.size + 1) (wr.alloc (.cells #[.int .i64 0] 3)) w9 := (Below.refl _ _).grown hgrow9 (by simp; omega) (fun q hq => (hpos q hq).1)
        have ht9 : Tch (w.heap.size + 1) (wr.heap.size + 1) (wr.alloc (.cells #[.int .i64 0] 3)) w9 := Tch.of_grown hgrow9 fun q hq => by have := hpos q hq; simp at this; omega
        have HA9 := Lib.hid (HAb.out.turn ht9 (.inr (by omega)))
        have HB9 := Lib.hid (HBb.out.turn ht9 (.inr (Nat.le_refl _)))
        have HR9 := Lib.hid (HRb.out.turn ht9 (by omega))
        have HF9 := Lib.hid (HFb.out.trans (Frd.of_below hb9 (by omega)))
        have HO9 : Hid (OwR (w.heap.size + 1) w9.heap.size 3 1 v9 (i + 1) ((xs ++ [(0 : Int)]).map (Value.int .i64)) w9) := ⟨by simpa using hown9, fun q hq => (hown9.lt q hq).2⟩
        clear hown9 hgrow9 hpos hb9 ht9
        go_wp2
        go_roundw
        case rel => exact ⟨i + 1, xs ++ [(0 : Int)], by omega, by go_num, by simp [hxl], HO9.out, HA9.out, HB9.out, HR9.out.mono (by omega), HF9.out⟩
        case measure => simp [intOf]; omega
      · go_wp2_with fail
        refine (pick_any g A n c bs (P + 2 * i) 1000 _ HR.out HN.out hby hs (by omega) (by omega)).mono ?_
        rintro e w3 ⟨y, rfl, _, _, hr3, ht3⟩
        have hs3 := ht3.size
        have HR3 := Lib.hid (hr3.alloc (.cells #[.int .i64 0, .int .i64 1, .int .i64 y, .int .i64 2, .int .i64 5] 3))
        have HA3 := Lib.hid ((HA.out.turn ht3 (.inl (by omega))).alloc (.cells #[.int .i64 0, .int .i64 1, .int .i64 y, .int .i64 2, .int .i64 5] 3))
        have HB3 := Lib.hid ((HB.out.turn ht3 (.inl (by omega))).alloc (.cells #[.int .i64 0, .int .i64 1, .int .i64 y, .int .i64 2, .int .i64 5] 3))
        have HF3 := Lib.hid ((HF.out.trans (Frd.of_tch ht3 (by omega))).trans (Frd.of_below (w' := w3.alloc (.cells #[.int .i64 0, .int .i64 1, .int .i64 y, .int .i64 2, .int .i64 5] 3)) ((Below.refl w3.heap.size w3).alloc (Nat.le_refl _) _) (by omega)))
        have HO3 := Lib.hid ((HO.out.keep (w' := w3) fun q hq hq' => ht3.block q hq' (.inr (by omega))).keep (w' := w3.alloc (.cells #[.int .i64 0, .int .i64 1, .int .i64 y, .int .i64 2, .int .i64 5] 3)) fun q hq hq' => Below.heap_alloc _ _ _ (by omega))
        clear hr3 ht3 HO HA HB HR HF
        go_wp2_with fail
        refine (one_any g A n c bs (P + 2 * i + 1) w3.heap.size 0 5 5 [0, 1, y, 2, 5] _ HR3.out HN.out hby hs (by omega) rfl (by omega) (by omega) ?_ (by omega) (by simp)).mono ?_
        · intro j hj
          have : j = 0 ∨ j = 1 ∨ j = 2 ∨ j = 3 ∨ j = 4 := by omega
          rcases this with rfl | rfl | rfl | rfl | rfl <;> go_simp
        rintro e w4 ⟨z, rfl, _, hr4, ht4⟩
        have hs4 : w3.heap.size + 1 ≤ w4.heap.size := by have := ht4.size; simpa using this
        have HRa := Lib.hid hr4
        have HAa := Lib.hid (HA3.out.turn ht4 (.inl (by omega)))
        have HBa := Lib.hid (HB3.out.turn ht4 (.inl (by omega)))
        have HFa := Lib.hid (HF3.out.trans (Frd.of_tch ht4 (by simp; omega)))
        have HOa := Lib.hid ((HO3.out.keep (w' := w4) fun q hq hq' => ht4.block q (by simp; omega) (.inr (by omega))).mono (Nat.le_refl _) (show wr.heap.size ≤ w4.heap.size by omega))
        clear hr4 ht4 HR3 HA3 HB3 HF3 HO3
        have HAb := Lib.hid (HAa.out.alloc (.cells #[.int .i64 z] 3))
        have HBb := Lib.hid (HBa.out.alloc (.cells #[.int .i64 z] 3))
        have HRb := Lib.hid (HRa.out.alloc (.cells #[.int .i64 z] 3))
        have HFb := Lib.hid (HFa.out.trans (Frd.of_below (w' := w4.alloc (.cells #[.int .i64 z] 3)) ((Below.refl w4.heap.size w4).alloc (Nat.le_refl _) _) (by omega)))
        go_wp2_with (at_builtin; refine wpList_append_own _ rfl _ _ 28 rfl (w.heap.size + 1) 3 i0 (.int .i64 0) 1 8 Try.underlying28 hi0 hz0 hz1 hz2 rfl (by decide) _ _ _ rfl (HOa.out.1.alloc _) ⟨_, 0, none⟩ 1 1 [.int .i64 z] rfl rfl (cell_one_new _ _ _) ?c2 ?c3 ?c4 ?c5 ?_)
        case c2 => first | rfl | (intro u hu; simp at hu; subst hu; rfl)
        case c3 => unfold maxLen; omega
        case c4 => omega
        case c5 => first | omega | (simp; omega)
        intro v9 w9 hown9 hgrow9 _
        have hpos := (HOa.out.1.alloc (.cells #[.int .i64 z] 3)).lt
        have hb9 : Below (w.heap.size + 1) (w4.alloc (.cells #[.int .i64 z] 3)) w9 := (Below.refl _ _).grown hgrow9 (by simp; omega) (fun q hq => (hpos q hq).1)
        have ht9 : Tch (w.heap.size + 1) (w4.heap.size + 1) (w4.alloc (.cells #[.int .i64 z] 3)) w9 := Tch.of_grown hgrow9 fun q hq => by have := hpos q hq; simp at this; omega
        have HA9 := Lib.hid (HAb.out.turn ht9 (.inr (by omega)))
        have HB9 := Lib.hid (HBb.out.turn ht9 (.inr (Nat.le_refl _)))
        have HR9 := Lib.hid (HRb.out.turn ht9 (by omega))
        have HF9 := Lib.hid (HFb.out.trans (Frd.of_below hb9 (by omega)))
        have HO9 : Hid (OwR (w.heap.size + 1) w9.heap.size 3 1 v9 (i + 1) ((xs ++ [(z : Int)]).map (Value.int .i64)) w9) := ⟨by simpa using hown9, fun q hq => (hown9.lt q hq).2⟩
        clear hown9 hgrow9 hpos hb9 ht9
        go_wp2
        go_roundw
        case rel => exact ⟨i + 1, xs ++ [(z : Int)], by omega, by go_num, by simp [hxl], HO9.out, HA9.out, HB9.out, HR9.out.mono (by omega), HF9.out⟩
        case measure => simp [intOf]; omega
    · obtain rfl : i = k := by omega
      go_wp2
      go_ret
      exact ⟨_, xs, rfl, by omega, by omega, by unfold OwnI; rw [hxl]; exact own_mono HO.out.1 (by omega), HR.out.mono (by omega), HF.out.tch⟩
end Go.Proofs.Ytdhjflhpenkchaa
