/- What the laws on rows of keys draw: rows, a number, keys. (Made by kd10.py.) -/
import Derived.Test.YtlbomopjldhmeaaKD9
import Derived.Test.YtlbomopjldhmeaaB15a

namespace Go.Proofs.Ytlbomopjldhmeaa
set_option linter.unusedSimpArgs false
set_option linter.unusedVariables false
open Go.RowKit

/-- Returns rows, a number, and keys. -/
def DrRK (w : World) (e : Ending) (w' : World) : Prop :=
  ∃ (A1 : Option Addr) (n1 c1 : Nat) (rs : List Rk) (nx : Int) (A2 : Option Addr) (n2 c2 : Nat) (ys : List Int), e = .returned (.tuple #[.slice A1 n1 c1, .int .i64 nx, .slice A2 n2 c2]) ∧ n1 = rs.length ∧ n1 ≤ 11 ∧ n1 ≤ c1 ∧ n2 = ys.length ∧ n2 ≤ 11 ∧ n2 ≤ c2 ∧ 0 ≤ nx ∧ nx ≤ 1000 ∧ WS w' w'.heap.size A1 rs ∧ IS w' w'.heap.size A2 ys ∧ Below w.heap.size w w'
theorem KL.finR {g n c l c1 c2 d1 P : Nat} {A Aa : Option Addr} {bs ys : List Int} {A2 : Option Addr} {ps : List Rk} {w0 w : World} (h : KL w0.heap.size g A n c bs w0 Aa ys d1 53 2 (.slice A2 l c2) l (ps.flatMap Rk.cells) P w) (n1 : Nat) (h1 : n1 = ys.length) (h2 : n1 ≤ 11) (h3 : n1 ≤ c1) (h4 : l = ps.length) (h5 : l ≤ 11) (nx : Int) (h6 : 0 ≤ nx) (h7 : nx ≤ 1000) :
    DrRK w0 (.returned (.tuple #[.slice A2 l c2, .int .i64 nx, .slice Aa n1 c1])) w :=
  ⟨A2, l, c2, ps, nx, Aa, n1, c1, ys, rfl, h4, h5, own_ncap h.row.1, h1, h2, h3, h6, h7, WS.of_own h.row.1, h.li.more h.dl, h.bl⟩
theorem KL.store {B0 g n c d1 sz P gr l cr : Nat} {A Aa : Option Addr} {bs xs : List Int} {T : TypeId} {cs : List Value} {w0 w : World} (h : KL B0 g A n c bs w0 Aa xs d1 T sz (.slice (some ⟨gr, 0, none⟩) l cr) l cs P w) (j : Nat) (v : Value) :
    KL B0 g A n c bs w0 Aa xs d1 T sz (.slice (some ⟨gr, 0, none⟩) l cr) l (cs.set j v) P (w.setCell ⟨gr, j, none⟩ v) :=
  h.grow (h.row.1.stored j v).1 (h.row.1.stored j v).2
theorem set_second (p : Rk) (ps : List Rk) (v : Int) : ((p :: ps).flatMap Rk.cells).set 1 (.int .i64 v) = ((⟨p.k, v⟩ : Rk) :: ps).flatMap Rk.cells := by
  simp [List.flatMap_cons, Rk.cells]

set_option maxRecDepth 100000 in
set_option maxHeartbeats 6400000 in
theorem spec_DrawMatchRows (A : Option Addr) (n c : Nat) (bs : List Int) (w : World) (hn : n = bs.length) (hnc : n ≤ c) (h : BS w w.heap.size A bs) (hy : BY bs) (hs : n ≤ 1048576) :
    Calls Try.prog 30 #[.slice A n c] w fun e w' => DrRK w e w' := by
  obtain ⟨i1, hi1, hy0, hy1, hy2⟩ := info_parts info_row
  have HC := Lib.hid (spec_newReader A n c bs w w.heap.size (Nat.le_refl _) hn hnc h hy hs)
  clear hn hnc h hy hs
  go_enter Try.func30, Try.ntmps30
  go_wp2_with fail
  refine HC.out.mono ?_
  rintro e w1 ⟨g, A1, n1, c1, ds, rfl, hn1, hs1, hby, hr, hg, hb⟩
  have HN := Lib.hid hn1
  have HS := Lib.hid (keysOf_q g A1 n1 c1 ds 0 w1 hr hn1 hby hs1 (by omega))
  have HB1 := Lib.hid hb
  have hgw := hr.lt
  clear hn1 hr hb HC
  go_wp2_with fail
  refine HS.out.mono ?_
  rintro e w2 ⟨A2, l2, c2, xs, A3, l3, c3, ys, rfl, h1, h2, h3, h4, h5, h6, h7, h8, hr2, hf, hlo2, hlo3⟩
  have HL2 := Lib.hid h1
  have HL3 := Lib.hid h4
  have hs12 := hf.size
  have hs01 := HB1.out.size
  have HIX := Lib.hid h7
  have HK2 : Hid (KL w.heap.size g A1 n1 c1 ds w A3 ys w2.heap.size 53 2 (.slice (some ⟨w2.heap.size, 0, none⟩) 0 0) 0 [] 60 (w2.alloc (.cells #[] 53))) :=
    ⟨by omega, (hr2.step (below_new w2 _)).mono (by omega), h8.alloc (Nat.le_refl _) _, hlo3.less (show g + 1 ≤ w1.heap.size from hgw), by omega, by simp, OwR.start (World.ownsRow_lit (e := 53) (size := 2) w2 #[] 0 (Nat.le_refl _) (by unfold maxLen; omega) rfl), (HB1.out.trans (hf.tch.below (B := w.heap.size) (by omega) HB1.out.size)).alloc (by omega) _⟩
  clear h1 h4 h7 h8 hr2 hf hlo2 hlo3 HS HB1
  go_wp2
  go_loopw [8, 9] (fun v u wr => ∃ (k : Nat) (ps : List Rk), k ≤ l2 ∧ u = .int .i64 k ∧ Hid (k = ps.length) ∧ Hid (KL w.heap.size g A1 n1 c1 ds w A3 ys w2.heap.size 53 2 v k (ps.flatMap Rk.cells) 60 wr) ∧ Hid (Below w2.heap.size w2 wr)) (fun _ u _ => l2 - (intOf u).toNat)
  case atStart => exact ⟨0, [], Nat.zero_le _, rfl, rfl, HK2.out, below_new w2 _⟩
  case round =>
    obtain ⟨k, ps, hk, rfl, HL, HK, HBR⟩ := hrel
    obtain ⟨Av, cv, rfl⟩ := row_form HK.out.row.1
    clear HK2
    by_cases hlt : k < l2
    · obtain ⟨b, off, hA2, hbw, hc⟩ := HIX.out (by have := HL2.out; omega)
      subst hA2
      have c0 := (HBR.out.cell (p := ⟨b, off + k, none⟩) hbw).trans (hc k (by have := HL2.out; omega))
      have hbr : b < wr.heap.size := by have := HBR.out.size; omega
      have hw2 : IntKind.i64.wrap (2 * (k : Int)) = ((2 * k : Nat) : Int) := by rw [IntKind.wrap_i64] <;> omega
      have HKb := Lib.hid (HK.out.alloc (.cells #[.int .i64 (xs.getD k 0), .int .i64 ((2 * k : Nat) : Int)] 53))
      clear hc HIX
      generalize xs.getD k 0 = z at *
      go_wp2_with (at_builtin; refine wpList_append_own _ rfl _ _ 46 rfl w2.heap.size 53 i1 _ 2 16 Try.underlying46 hi1 hy0 hy1 hy2 rfl (by decide) _ _ _ rfl HKb.out.row.1 ⟨_, 0, none⟩ 1 1 (Rk.cells ⟨z, ((2 * k : Nat) : Int)⟩) rfl rfl (acells_new _ _ _ _ rfl) ?c2 ?c3 ?c4 ?c5 ?_)
      case c2 => first | rfl | (intro u hu; simp [Rk.cells] at hu; rcases hu with rfl | rfl <;> rfl)
      case c3 => unfold maxLen; omega
      case c4 => omega
      case c5 => exact HKb.out.dl
      intro v9 wc hownc hgrowc _
      have HKc : Hid (KL w.heap.size g A1 n1 c1 ds w A3 ys w2.heap.size 53 2 v9 (k + 1) ((ps ++ [(⟨z, ((2 * k : Nat) : Int)⟩ : Rk)]).flatMap Rk.cells) 60 wc) :=
        HKb.out.grow (by simpa using hownc) hgrowc
      have HBc := Lib.hid ((HBR.out.alloc HBR.out.size (.cells #[.int .i64 z, .int .i64 ((2 * k : Nat) : Int)] 53)).grown hgrowc (by have := HBR.out.size; simp; omega) (fun q hq => (HKb.out.row.1.lt q hq).1))
      clear hownc hgrowc HKb HK HBR
      go_wp2
      go_roundw
      case rel => exact ⟨k + 1, _, by omega, by go_num, (by have := HL.out; rw [List.length_append, ← this]; rfl), HKc.out, HBc.out⟩
      case measure => simp [intOf]; omega
    · obtain rfl : k = l2 := by omega
      clear hlt HIX HBR
      have hw2 : IntKind.i64.wrap (2 * (k : Int)) = ((2 * k : Nat) : Int) := by rw [IntKind.wrap_i64] <;> omega
      go_wp2_with fail
      refine (pick_any g A1 n1 c1 ds 60 3 wr HK.out.rd HN.out hby hs1 (by omega) (by omega)).mono ?_
      rintro e w5 ⟨x5, rfl, hx5, _, hr5, ht5⟩
      have HK5 := Lib.hid (HK.out.pick hr5 ht5)
      have hx53 : (x5 : Int) < 3 := hx5 (by omega)
      have hnx0 : (0 : Int) ≤ 2 * (k : Int) + (x5 : Int) := by omega
      have hnx1 : 2 * (k : Int) + (x5 : Int) ≤ 1000 := by omega
      clear hx5 hr5 ht5 HK hw2
      go_wp2_with fail
      refine (pick_any g A1 n1 c1 ds 61 16 w5 HK5.out.rd HN.out hby hs1 (by omega) (by omega)).mono ?_
      rintro e w6 ⟨x6, rfl, _, _, hr6, ht6⟩
      have HK6 := Lib.hid (HK5.out.pick hr6 ht6)
      clear hr6 ht6 HK5
      by_cases hz0 : x6 = 0
      · have e60 : ((x6 : Int) == 0) = true := by simp [hz0]
        have HK7 := Lib.hid (HK6.out.alloc (.cells #[.int .i64 0, .int .i64 100, .int .i64 101] 3))
        have hg6 : g < w6.heap.size := HK6.out.rd.lt
        clear hz0 HK6
        go_wp2_with fail
        refine (one_any g A1 n1 c1 ds 62 w6.heap.size 0 3 3 [0, 100, 101] _ HK7.out.rd HN.out hby hs1 (by omega) rfl (by omega) (by omega) ?_ (by omega) (by simp)).mono ?_
        · intro j hj
          have : j = 0 ∨ j = 1 ∨ j = 2 := by omega
          rcases this with rfl | rfl | rfl <;> go_simp
        rintro e w8 ⟨x8, rfl, hx8, hr8, ht8⟩
        have HK8 := Lib.hid (HK7.out.pick hr8 ht8)
        have hx9 : 0 ≤ x8 ∧ x8 ≤ 1000 := by
          simp only [List.mem_cons, List.not_mem_nil, or_false] at hx8
          omega
        have HFN := Lib.hid (HK8.out.finR (c1 := c3) l3 HL3.out h5 h6 HL.out h2 x8 hx9.1 hx9.2)
        clear hx8 hx9 hr8 ht8 HK7 HK8
        go_wp2
        go_ret3
        exact HFN.out
      have e60 : ((x6 : Int) == 0) = false := by simp; omega
      by_cases hz1 : x6 = 1
      · have e61 : ((x6 : Int) == 1) = true := by simp [hz1]
        clear hz0 hz1
        by_cases hk0 : 0 < k
        · have hkz : (0 : Int) < (k : Int) := by omega
          have HK7 := Lib.hid (HK6.out.alloc (.cells #[.int .i64 (-1), .int .i64 (2 * (k : Int) + (x5 : Int)), .int .i64 2] 3))
          have hg6 : g < w6.heap.size := HK6.out.rd.lt
          obtain ⟨gr, cr, hAv⟩ := row_form2 HK6.out.row.1 hk0
          cases hAv
          clear HK6
          go_wp2_with fail
          refine (one_any g A1 n1 c1 ds 62 w6.heap.size 0 3 3 [-1, (2 * (k : Int) + (x5 : Int)), 2] _ HK7.out.rd HN.out hby hs1 (by omega) rfl (by omega) (by omega) ?_ (by omega) (by simp)).mono ?_
          · intro j hj
            have : j = 0 ∨ j = 1 ∨ j = 2 := by omega
            rcases this with rfl | rfl | rfl <;> go_simp
          rintro e w8 ⟨x8, rfl, _, hr8, ht8⟩
          have HK8 := Lib.hid (HK7.out.pick hr8 ht8)
          obtain ⟨p, qs, hpq⟩ : ∃ p qs, ps = p :: qs := by
            cases ps with
            | nil => have := HL.out; simp at this; omega
            | cons p qs => exact ⟨p, qs, rfl⟩
          have hps : HL.out = HL.out := rfl
          have HLP := Lib.hid (hpq ▸ HL.out)
          rw [hpq] at HK8
          have u1 := HK8.out.row.1.cellAt 1 (by omega)
          have f1 := HK8.out.row.1.frozenAt 1
          have u2 : w8.cell? ⟨gr, 1, none⟩ = some (.int .i64 p.a) := by rw [u1]; simp [List.flatMap_cons, Rk.cells]
          have HK9 := Lib.hid (HK8.out.store 1 (.int .i64 x8))
          rw [set_second] at HK9
          have HFN := Lib.hid (HK9.out.finR (c1 := c3) l3 HL3.out h5 h6 (show k = ((⟨p.k, x8⟩ : Rk) :: qs).length from HLP.out) h2 (2 * (k : Int) + (x5 : Int)) hnx0 hnx1)
          clear hr8 ht8 HK7 HK8 HK9 u1 hpq hps HL HLP
          go_wp2
          go_ret3
          exact HFN.out
        · have HFN := Lib.hid (HK6.out.finR (c1 := c3) l3 HL3.out h5 h6 HL.out h2 (2 * (k : Int) + (x5 : Int)) hnx0 hnx1)
          have hkz : ¬ (0 : Int) < (k : Int) := by omega
          clear HK6
          go_wp2
          go_ret3
          exact HFN.out
      · have e61 : ((x6 : Int) == 1) = false := by simp; omega
        have HFN := Lib.hid (HK6.out.finR (c1 := c3) l3 HL3.out h5 h6 HL.out h2 (2 * (k : Int) + (x5 : Int)) hnx0 hnx1)
        clear hz0 hz1 HK6
        go_wp2
        go_ret3
        exact HFN.out
end Go.Proofs.Ytlbomopjldhmeaa
