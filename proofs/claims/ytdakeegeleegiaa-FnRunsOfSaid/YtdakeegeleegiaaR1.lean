/- What the law of RunsOf draws out of its bytes. -/
import Derived.Test.YtdakeegeleegiaaD1
import Derived.Test.YtdakeegeleegiaaA10
namespace Go.Proofs.Ytdakeegeleegiaa
set_option linter.unusedSimpArgs false
set_option linter.unusedVariables false
open Go.RowKit

/-- Returns a fresh reader that has not picked yet. -/
def RdP (w : World) (e : Ending) (w' : World) : Prop :=
  ∃ (g : Nat) (A : Option Addr) (n c : Nat) (bs : List Int), e = .returned (.pointer (some ⟨g, 0, none⟩)) ∧ n = bs.length ∧ n ≤ 2000 ∧ BY bs ∧ Rdr g A n c bs 0 w' ∧ w.heap.size ≤ g ∧ Below w.heap.size w w'

theorem row_form {w : World} {base n size : Nat} {e : TypeId} {v : Value} {xs : List Value} (h : w.ownsRow base e size v n xs) : ∃ A c, v = .slice A n c := by
  rcases h.2 with ⟨rfl, rfl⟩ | ⟨g, cap, cur, rfl, _⟩
  · exact ⟨none, 0, rfl⟩
  · exact ⟨some ⟨g, 0, none⟩, cap, rfl⟩

theorem BY.take {bs : List Int} (h : BY bs) (k : Nat) : BY (bs.take k) := by
  intro j
  by_cases hj : j < k
  · have : (bs.take k).getD j 0 = bs.getD j 0 := by simp only [List.getD, List.getElem?_take, if_pos hj]
    rw [this]; exact h j
  · have : (bs.take k).getD j 0 = 0 := by simp only [List.getD, List.getElem?_take, if_neg hj]; rfl
    rw [this]; omega
theorem BS.take {w : World} {B : Nat} {A : Option Addr} {bs : List Int} (h : BS w B A bs) (k : Nat) : BS w B A (bs.take k) := by
  intro hn
  rw [List.length_take] at hn
  obtain ⟨b, off, e, hb, hc⟩ := h (by omega)
  refine ⟨b, off, e, hb, fun j hj => ?_⟩
  rw [List.length_take] at hj
  have : (bs.take k).getD j 0 = bs.getD j 0 := by simp only [List.getD, List.getElem?_take, if_pos (show j < k by omega)]
  rw [this]
  exact hc j (by omega)

set_option maxHeartbeats 800000 in
theorem spec_newReader (A : Option Addr) (n c : Nat) (bs : List Int) (w : World) (B : Nat) (hB : B ≤ w.heap.size) (hn : n = bs.length) (hnc : n ≤ c) (h : BS w B A bs) (hy : BY bs) (hs : n ≤ 1048576) :
    Calls Try.prog 9 #[.slice A n c] w fun e w' => RdP w e w' := by
  by_cases h2 : 2000 < n
  · have h3 : 2000 ≤ c := by omega
    obtain ⟨b, off, rfl, hb, hc⟩ := h (by omega)
    have H := Lib.hid (BS.take (w := w) (B := B) (A := some ⟨b, off, none⟩) (bs := bs) (fun _ => ⟨b, off, rfl, hb, hc⟩) 2000)
    have HY := Lib.hid (hy.take 2000)
    have HL : Hid ((bs.take 2000).length = 2000) := by show _ = _; rw [List.length_take]; omega
    generalize bs.take 2000 = ds at *
    clear h hy hn hc
    go_enter Try.func9, Try.ntmps9
    go_wp2
    go_ret
    refine ⟨w.heap.size, some ⟨b, off, none⟩, 2000, c, ds, rfl, HL.out.symm, by omega, HY.out, ⟨by simp, by go_simp, ⟨0, Nat.le_refl _, by go_simp⟩, by go_simp, ?_⟩, ?_, ?_⟩
    · exact (H.out.keep fun p hp => World.cell?_alloc_lt w _ p (by omega)).more hB
    · exact Nat.le_refl _
    · exact (Below.refl _ _).alloc (Nat.le_refl _) _
  · have H := Lib.hid h
    have HN := Lib.hid hn
    clear h hn
    go_enter Try.func9, Try.ntmps9
    go_wp2
    go_ret
    refine ⟨w.heap.size, A, n, c, bs, rfl, HN.out, by omega, hy, ⟨by simp, by go_simp, ⟨0, Nat.le_refl _, by go_simp⟩, by go_simp, ?_⟩, ?_, ?_⟩
    · exact (H.out.keep fun p hp => World.cell?_alloc_lt w _ p (by omega)).more hB
    · exact Nat.le_refl _
    · exact (Below.refl _ _).alloc (Nat.le_refl _) _

/-- Returns a list of at most nine numbers in a fresh block, and a number. -/
def DrR (w : World) (e : Ending) (w' : World) : Prop :=
  ∃ (A : Option Addr) (c : Nat) (xs : List Int) (x : Int), e = .returned (.tuple #[.slice A xs.length c, .int .i64 x]) ∧ xs.length ≤ 9 ∧ IS w' w'.heap.size A xs ∧ Below w.heap.size w w'

set_option maxRecDepth 100000 in
set_option maxHeartbeats 1600000 in
theorem spec_DrawRunsOf (A : Option Addr) (n c : Nat) (bs : List Int) (w : World) (B : Nat) (hB : B ≤ w.heap.size) (hn : n = bs.length) (hnc : n ≤ c) (h : BS w B A bs) (hy : BY bs) (hs : n ≤ 1048576) :
    Calls Try.prog 4 #[.slice A n c] w fun e w' => DrR w e w' := by
  obtain ⟨i0, hi, hz0, hz1, hz2⟩ := info_parts info_int
  have HC := Lib.hid (spec_newReader A n c bs w B hB hn hnc h hy hs)
  clear hn hnc h hy hs
  go_enter Try.func4, Try.ntmps4
  go_wp2_with fail
  refine HC.out.mono ?_
  rintro e w1 ⟨g, A1, n1, c1, ds, rfl, hn1, hn2, hy1, hr, hg, hb⟩
  have hg1 := hr.lt
  have HR1 := Lib.hid (hr.alloc (.cells #[] 3))
  have HN1 := Lib.hid hn1
  have hrow0 := World.ownsRow_lit (e := 3) (size := 1) (base := w1.heap.size) w1 #[] 0 (Nat.le_refl _) (by unfold maxLen; omega) (by simp)
  have HROW := Lib.hid hrow0
  have HB1 := Lib.hid hb
  clear hr hn1 hb HC hrow0
  go_wp2_with fail
  refine (pick_any g A1 n1 c1 ds 0 10 _ HR1.out HN1.out hy1 hn2 (by omega) (by omega)).mono ?_
  rintro e w2 ⟨x, rfl, hx, _, hr2, ht2⟩
  have hx9 : x ≤ 9 := by have := hx (by omega); omega
  have HR2 := Lib.hid hr2
  have HT2 := Lib.hid ((Tch.of_below (a := g) (b := g + 1) ((Below.refl w1.heap.size w1).alloc (Nat.le_refl _) (.cells #[] 3))).trans ht2)
  have hs2 : w1.heap.size + 1 ≤ w2.heap.size := by have := ht2.size; simpa using this
  have HO2 : Hid (OwR w1.heap.size w2.heap.size 3 1 (.slice (some ⟨w1.heap.size, 0, none⟩) 0 0) 0 [] w2) := ((OwR.start HROW.out).keep fun k hk hk' => ht2.block k hk' (.inr (by omega))).mono (Nat.le_refl _) (by simp; omega)
  clear hx hr2 ht2 HROW HR1
  go_wp2
  go_loopw [5, 6] (fun v u wr => ∃ (k : Nat) (xs : List Int), xs.length + k = x ∧ u = .int .i64 k ∧ Hid (OwR w1.heap.size wr.heap.size 3 1 v xs.length (xs.map (Value.int .i64)) wr) ∧ Hid (Rdr g A1 n1 c1 ds (1 + xs.length) wr) ∧ Hid (Below g w1 wr) ∧ w1.heap.size + 1 ≤ wr.heap.size) (fun _ u _ => (intOf u).toNat)
  case atStart => exact ⟨x, [], by simp, rfl, by simpa using HO2, by simpa using HR2, HT2.out.below (Nat.le_refl _) (by omega), hs2⟩
  case round =>
    obtain ⟨k, xs, hkx, rfl, HO, HR, HB, hwr⟩ := hrel
    by_cases hlt : 0 < k
    · have hxl : xs.length ≤ 9 := by omega
      obtain ⟨l, hl⟩ : ∃ l : Nat, l = xs.length := ⟨_, rfl⟩
      have HL := Lib.hid hl
      have hl9 : l ≤ 9 := by omega
      rw [← hl] at HO HR hkx
      clear hl hxl
      go_wp2_with fail
      refine (pick_any g A1 n1 c1 ds (1 + l) 4 _ HR.out HN1.out hy1 hn2 (by omega) (by omega)).mono ?_
      rintro e w3 ⟨y, rfl, _, _, hr3, ht3⟩
      have HO3 := Lib.hid (HO.out.keep (w' := w3) fun q hq hq' => ht3.block q hq' (.inr (by omega)))
      have HR3 := Lib.hid (hr3.alloc (.cells #[.int .i64 y] 3))
      have hs3 := ht3.size
      have HB3 := Lib.hid ((HB.out.trans (ht3.below (Nat.le_refl g) (by omega))).alloc (by omega) (.cells #[.int .i64 y] 3))
      clear hr3 ht3
      go_wp2_with (at_builtin; refine wpList_append_own _ rfl _ _ 23 rfl w1.heap.size 3 i0 (.int .i64 0) 1 8 Try.underlying23 hi hz0 hz1 hz2 rfl (by decide) _ _ _ rfl (HO3.out.1.alloc _) ⟨_, 0, none⟩ 1 1 [.int .i64 y] rfl rfl (cell_one_new _ _ _) ?c2 ?c3 ?c4 ?c5 ?_)
      case c2 => first | rfl | (intro u hu; simp at hu; subst hu; rfl)
      case c3 => unfold maxLen; omega
      case c4 => omega
      case c5 => first | omega | (simp; omega)
      intro v' w4 hown' hgrow _
      have hpos := (HO3.out.1.alloc (.cells #[.int .i64 y] 3)).lt
      have ht4 : Tch w1.heap.size (w3.heap.size + 1) (w3.alloc (.cells #[.int .i64 y] 3)) w4 := Tch.of_grown hgrow fun q hq => by have := hpos q hq; simp at this; omega
      have HR4 := Lib.hid (HR3.out.turn ht4 hg1)
      have HB4 := Lib.hid (HB3.out.trans (ht4.below (by omega) (by simp; omega)))
      have hs4 : w3.heap.size + 1 ≤ w4.heap.size := by have := ht4.size; simpa using this
      have HO4 : Hid (OwR w1.heap.size w4.heap.size 3 1 v' (l + 1) ((xs ++ [(y : Int)]).map (Value.int .i64)) w4) := by
        refine ⟨by simpa using hown', fun q hq => (hown'.lt q hq).2⟩
      clear hown' hgrow hpos ht4
      go_wp2
      go_roundw
      case rel => exact ⟨k - 1, xs ++ [(y : Int)], by rw [List.length_append, ← HL.out]; simp; omega, by go_num, by rw [List.length_append, ← HL.out]; exact HO4.out, by rw [List.length_append, ← HL.out]; exact HR4.out, HB4.out, by omega⟩
      case measure => simp [intOf]; omega
    · obtain rfl : k = 0 := by omega
      have hg2 : g < wr.heap.size := by omega
      have HRA := Lib.hid (HR.out.alloc (.cells #[.int .i64 0, .int .i64 1, .int .i64 2, .int .i64 3, .int .i64 9] 3))
      have hxl : xs.length ≤ 9 := by omega
      obtain ⟨Av, cv, rfl⟩ := row_form HO.out.1
      obtain ⟨l, hl⟩ : ∃ l : Nat, l = xs.length := ⟨_, rfl⟩
      have HL := Lib.hid hl
      rw [← hl] at HO hkx
      have hP : 1 + xs.length ≤ 1000000 := by omega
      rw [← hl] at hP
      rw [← hl] at HRA HR
      rw [← hl]
      clear hl
      go_wp2_with fail
      refine (one_any g A1 n1 c1 ds (1 + l) wr.heap.size 0 5 5 [0, 1, 2, 3, 9] _ HRA.out HN1.out hy1 hn2 hP rfl (by omega) (by omega) ?_ (by omega) (by simp)).mono ?_
      · intro j hj
        have : j = 0 ∨ j = 1 ∨ j = 2 ∨ j = 3 ∨ j = 4 := by omega
        rcases this with rfl | rfl | rfl | rfl | rfl <;> go_simp
      rintro e w5 ⟨y, rfl, _, hr5, ht5⟩
      have hs5 : wr.heap.size + 1 ≤ w5.heap.size := by have := ht5.size; simpa using this
      have HO5 := Lib.hid ((((HO.out.keep (w' := wr.alloc (.cells #[.int .i64 0, .int .i64 1, .int .i64 2, .int .i64 3, .int .i64 9] 3)) fun q hq hq' => Below.heap_alloc _ _ _ hq').keep (w' := w5) fun q hq hq' => ht5.block q (by simp; omega) (.inr (by omega))).ints).more (B' := w5.heap.size) (by omega))
      have HB5 := Lib.hid ((HB1.out.trans ((HB.out.alloc (by omega) (.cells #[.int .i64 0, .int .i64 1, .int .i64 2, .int .i64 3, .int .i64 9] 3)).mono hg)).trans ((ht5.below (Nat.le_refl g) (by simp; omega)).mono hg))
      clear hr5 ht5
      go_wp2
      go_ret2
      exact ⟨Av, cv, xs, y, by first | rfl | (rw [HL.out]; rfl), by omega, HO5.out, HB5.out⟩
end Go.Proofs.Ytdakeegeleegiaa
