/- The drawing of keys that may be invalid: someKeys, and what the law of ValidKeys draws. -/
import Derived.Test.YtknnbajcabodoaaKD1
import Derived.Test.YtknnbajcabodoaaQ0

namespace Go.Proofs.Ytknnbajcabodoaa
set_option linter.unusedSimpArgs false
set_option linter.unusedVariables false
open Go.RowKit

set_option maxRecDepth 100000 in
set_option maxHeartbeats 6400000 in
theorem someKeys_any (g : Nat) (A : Option Addr) (n c : Nat) (bs : List Int) (P : Nat) (w : World) (h : Rdr g A n c bs P w) (hn : n = bs.length) (hby : BY bs) (hs : n ≤ 2000) (hP : P ≤ 500000) :
    Calls Try.prog 43 #[.pointer (some ⟨g, 0, none⟩)] w fun e w' => KyP g A n c bs (P + 13) 11 w e w' := by
  obtain ⟨i0, hi, hz0, hz1, hz2⟩ := info_parts info_int
  have hgw := h.lt
  have HN := Lib.hid hn
  have HC := Lib.hid (goodKeys_any g A n c bs P w h hn hby hs (by omega))
  clear h hn
  go_enter Try.func43, Try.ntmps43
  go_wp2_with fail
  refine HC.out.mono ?_
  rintro e w1 ⟨v1, l, xs, rfl, hl, hlM, ho, hr, hf⟩
  obtain ⟨Av, cv, rfl⟩ := row_form ho.1
  have hs1 := hf.size
  have HL := Lib.hid hl
  have HO1 := Lib.hid ho
  have HR1 := Lib.hid hr
  have HF1 := Lib.hid hf
  clear hl ho hr hf HC
  by_cases h0 : 0 < l
  case neg =>
    obtain rfl : l = 0 := by omega
    go_wp2
    go_ret
    exact ⟨_, 0, xs, rfl, HL.out, by omega, HO1.out, HR1.out.mono (by omega), HF1.out⟩
  go_wp2_with fail
  refine (pick_any g A n c bs (P + 11) 24 _ HR1.out HN.out hby hs (by omega) (by omega)).mono ?_
  rintro e w5 ⟨y, rfl, _, _, hr5, ht5⟩
  have hs5 := ht5.size
  have HR5 := Lib.hid hr5
  have HF5 := Lib.hid (HF1.out.trans (Frd.of_tch ht5 (by omega)))
  have HO5 := Lib.hid ((HO1.out.keep (w' := w5) fun q hq hq' => ht5.block q hq' (.inr (by omega))).mono (Nat.le_refl _) hs5)
  clear hr5 ht5 HR1 HF1 HO1
  obtain ⟨go, co, hv⟩ := row_form2 HO5.out.1 (by omega)
  cases hv
  have hgo := (HO5.out.1.lt go rfl).1
  have hgo5 := HO5.out.2 go rfl
  by_cases hy0 : y = 0
  · have hy0' : ((y : Int) == 0) = true := by simp [hy0]
    clear hy0
    have u0 := HO5.out.1.cellAt 0 (by omega)
    obtain ⟨z0, hz⟩ : ∃ z0, (xs.map (Value.int .i64))[0]? = some (.int .i64 z0) := ⟨xs[0]'(by rw [← HL.out]; exact h0), by rw [List.getElem?_map, List.getElem?_eq_getElem (by rw [← HL.out]; exact h0)]; rfl⟩
    rw [hz] at u0
    clear hz
    have HR6 := Lib.hid (HR5.out.alloc (.cells #[.int .i64 z0] 3))
    have HF6 := Lib.hid (HF5.out.trans (Frd.of_below (w' := w5.alloc (.cells #[.int .i64 z0] 3)) ((Below.refl w5.heap.size _).alloc (Nat.le_refl _) _) (by omega)))
    clear HR5 HF5
    go_wp2_with (at_builtin; refine wpList_append_own _ rfl _ _ 23 rfl w.heap.size 3 i0 (.int .i64 0) 1 8 Try.underlying23 hi hz0 hz1 hz2 rfl (by decide) _ _ _ rfl (HO5.out.1.alloc _) ⟨_, 0, none⟩ 1 1 [.int .i64 z0] rfl rfl (cell_one_new _ _ _) ?c2 ?c3 ?c4 ?c5 ?_)
    case c2 => first | rfl | (intro u hu; simp at hu; subst hu; rfl)
    case c3 => unfold maxLen; omega
    case c4 => omega
    case c5 => first | omega | (simp; omega)
    intro v9 w9 hown9 hgrow9 _
    have hpos := (HO5.out.1.alloc (.cells #[.int .i64 z0] 3)).lt
    have hb9 : Below w.heap.size (w5.alloc (.cells #[.int .i64 z0] 3)) w9 := (Below.refl _ _).grown hgrow9 (by simp; omega) (fun q hq => (hpos q hq).1)
    have ht9 : Tch w.heap.size (w5.heap.size + 1) (w5.alloc (.cells #[.int .i64 z0] 3)) w9 := Tch.of_grown hgrow9 fun q hq => by have := hpos q hq; simp at this; omega
    have hz9 := ht9.size
    simp only [World.size_alloc] at hz9
    have HR9 := Lib.hid (HR6.out.turn ht9 (by omega))
    have HF9 := Lib.hid (HF6.out.trans (Frd.of_below hb9 (Nat.le_refl _)))
    have HO9 : Hid (OwR w.heap.size w9.heap.size 3 1 v9 (l + 1) ((xs ++ [z0]).map (Value.int .i64)) w9) := ⟨by simpa using hown9, fun q hq => (hown9.lt q hq).2⟩
    clear hown9 hgrow9 hpos hb9 ht9 HO5
    go_wp2
    go_ret
    exact ⟨_, l + 1, xs ++ [z0], rfl, by rw [List.length_append, ← HL.out]; rfl, by omega, HO9.out, HR9.out.mono (by omega), HF9.out⟩
  have hy0' : ((y : Int) == 0) = false := by simp; omega
  clear hy0
  by_cases hy1 : y = 1
  case neg =>
    have hy1' : ((y : Int) == 1) = false := by simp; omega
    clear hy1
    go_wp2
    go_ret
    exact ⟨_, l, xs, rfl, HL.out, by omega, HO5.out, HR5.out.mono (by omega), HF5.out⟩
  have hy1' : ((y : Int) == 1) = true := by simp [hy1]
  clear hy1
  have HR6 := Lib.hid (HR5.out.alloc (.cells #[.int .i64 (-1), .int .i64 31] 3))
  have HF6 := Lib.hid (HF5.out.trans (Frd.of_below (w' := w5.alloc (.cells #[.int .i64 (-1), .int .i64 31] 3)) ((Below.refl w5.heap.size _).alloc (Nat.le_refl _) _) (by omega)))
  have HO6 := Lib.hid (HO5.out.keep (w' := w5.alloc (.cells #[.int .i64 (-1), .int .i64 31] 3)) fun q hq hq' => Below.heap_alloc _ _ _ (by omega))
  clear HR5 HF5 HO5
  have hgx : g < w5.heap.size := by omega
  go_wp2_with fail
  refine (one_any g A n c bs (P + 12) w5.heap.size 0 2 2 [-1, 31] _ (HR6.out.mono (by omega)) HN.out hby hs (by omega) rfl (by omega) (by omega) ?_ (by omega) (by simp)).mono ?_
  · intro j hj
    have : j = 0 ∨ j = 1 := by omega
    rcases this with rfl | rfl <;> go_simp
  rintro e w6 ⟨z, rfl, _, hr6, ht6⟩
  have hs6 : w5.heap.size + 1 ≤ w6.heap.size := by have := ht6.size; simpa using this
  have HT := Lib.hid (Tch.of_grown (a := go) (b := go + 1) (grown_setCell0 w6 go 0 (.int .i64 z)) fun k hk => by cases hk; exact ⟨Nat.le_refl _, Nat.lt_succ_self _⟩)
  have HF7 := Lib.hid ((HF6.out.trans (Frd.of_tch ht6 (by simp; omega))).trans (Frd.of_below (HT.out.below (B := w.heap.size) (by omega) (by omega)) (Nat.le_refl _)))
  have HR7 := Lib.hid ((Lib.hid hr6).out.turn HT.out (by omega))
  have HO7 := Lib.hid (HO6.out.keep (w' := w6) fun q hq hq' => ht6.block q (by simp; omega) (.inr (by omega)))
  have u0 := HO7.out.1.cellAt 0 (by omega)
  rw [List.getElem?_eq_getElem (by rw [List.length_map, ← HL.out]; omega)] at u0
  have f0 := HO7.out.1.frozenAt 0
  have hst := (HO7.out.1.stored 0 (.int .i64 z)).1
  rw [← List.map_set] at hst
  have HST := Lib.hid hst
  generalize (xs.map (Value.int .i64))[0]'_ = vv at u0
  clear hr6 ht6 hst HR6 HF6 HO6
  go_wp2
  go_ret
  have hsz : (w6.setCell ⟨go, 0, none⟩ (.int .i64 z)).heap.size = w6.heap.size := by simp [World.setCell]
  exact ⟨_, l, xs.set 0 z, rfl, by rw [List.length_set]; exact HL.out, by omega, ⟨HST.out, fun k hk => by have := HO7.out.2 k hk; rw [hsz]; omega⟩, HR7.out.mono (by omega), HF7.out⟩

/-- Returns a list of at most eleven numbers. -/
def DrK (w : World) (e : Ending) (w' : World) : Prop :=
  ∃ (A : Option Addr) (n c : Nat) (xs : List Int), e = .returned (.slice A n c) ∧ n = xs.length ∧ n ≤ 11 ∧ n ≤ c ∧ IS w' w'.heap.size A xs ∧ Below w.heap.size w w'

end Go.Proofs.Ytknnbajcabodoaa
