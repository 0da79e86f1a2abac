/- What the laws on patches draw: keys and changes. (Made by kd9.py.) -/
import Derived.Test.YtlbomopjldhmeaaKD8
import Derived.Test.YtlbomopjldhmeaaB9a
import Derived.Test.YtlbomopjldhmeaaK20

namespace Go.Proofs.Ytlbomopjldhmeaa
set_option linter.unusedSimpArgs false
set_option linter.unusedVariables false
open Go.RowKit

theorem IS.keepLo {g B : Nat} {A : Option Addr} {xs : List Int} {w w' : World} (h : IS w B A xs) (hl : Lo (g + 1) A) (hk : ∀ k, k < B → g < k → w'.heap[k]? = w.heap[k]?) : IS w' B A xs := by
  intro hn
  obtain ⟨b, off, rfl, hb, hc⟩ := h hn
  have hlb := hl _ rfl
  exact ⟨b, off, rfl, hb, fun j hj => (World.cell?_of_block (a := ⟨b, off + j, none⟩) (hk b hb (by simp at hlb; omega))).trans (hc j hj)⟩
theorem CS.more' {w : World} {A : Option Addr} {ps : List Ac} {B B' : Nat} (h : CS w B A ps) (hB : B ≤ B') : CS w B' A ps := h.more hB

/-- While a row grows beside the reader: a list that stays, the row, the reader. -/
structure KL (B0 g : Nat) (A : Option Addr) (n c : Nat) (bs : List Int) (w0 : World) (Aa : Option Addr) (xs : List Int) (d1 : Nat) (T : TypeId) (sz : Nat) (v : Value) (l : Nat) (cs : List Value) (P : Nat) (w : World) : Prop where
  b0 : B0 ≤ g
  rd : Rdr g A n c bs P w
  li : IS w d1 Aa xs
  lo : Lo (g + 1) Aa
  gd : g < d1
  dl : d1 ≤ w.heap.size
  row : OwR d1 w.heap.size T sz v l cs w
  bl : Below B0 w0 w
section
variable {B0 g n c l l' d1 sz P P' : Nat} {A Aa : Option Addr} {bs xs : List Int} {T : TypeId} {v v' : Value} {cs cs' : List Value} {w0 w w' : World}
theorem KL.pick (h : KL B0 g A n c bs w0 Aa xs d1 T sz v l cs P w) (hr : Rdr g A n c bs P' w') (ht : Tch g (g + 1) w w') : KL B0 g A n c bs w0 Aa xs d1 T sz v l cs P' w' :=
  ⟨h.b0, hr, h.li.keepLo h.lo (fun k hk hg => ht.block k (by have := h.dl; omega) (.inr hg)), h.lo, h.gd, Nat.le_trans h.dl ht.size, (h.row.keep fun k hk hk' => ht.block k hk' (.inr (by have := h.gd; omega))).mono (Nat.le_refl _) ht.size, h.bl.trans (ht.below h.b0 (by have := h.rd.lt; have := h.b0; omega))⟩
theorem KL.below (h : KL B0 g A n c bs w0 Aa xs d1 T sz v l cs P w) (hb : Below w.heap.size w w') : KL B0 g A n c bs w0 Aa xs d1 T sz v l cs P w' :=
  ⟨h.b0, h.rd.step hb, h.li.below hb h.dl, h.lo, h.gd, Nat.le_trans h.dl hb.size, (h.row.step hb).mono (Nat.le_refl _) hb.size, h.bl.trans (hb.mono (by have := h.rd.lt; have := h.b0; omega))⟩
theorem KL.alloc (h : KL B0 g A n c bs w0 Aa xs d1 T sz v l cs P w) (o : Obj) : KL B0 g A n c bs w0 Aa xs d1 T sz v l cs P (w.alloc o) := h.below (below_new w o)
theorem KL.grow (h : KL B0 g A n c bs w0 Aa xs d1 T sz v l cs P w) (ho : w'.ownsRow d1 T sz v' l' cs') (hg : w.grownBy w' v.ownBlock) : KL B0 g A n c bs w0 Aa xs d1 T sz v' l' cs' P w' := by
  have hb : Below d1 w w' := (Below.refl d1 w).grown hg h.dl (fun k hk => (h.row.1.lt k hk).1)
  exact ⟨h.b0, h.rd.turn (Tch.of_below' hb) h.gd, h.li.below hb (Nat.le_refl _), h.lo, h.gd, Nat.le_trans h.dl hg.size, OwR.start ho, h.bl.trans (hb.mono (by have := h.gd; have := h.b0; omega))⟩
theorem KL.mono (h : KL B0 g A n c bs w0 Aa xs d1 T sz v l cs P w) (hP : P ≤ P') : KL B0 g A n c bs w0 Aa xs d1 T sz v l cs P' w := ⟨h.b0, h.rd.mono hP, h.li, h.lo, h.gd, h.dl, h.row, h.bl⟩
end

theorem CS.tail {w : World} {B b off n c : Nat} {ps : List Ac} (h : CS w B (some ⟨b, off, none⟩) ps) (hn : n = ps.length) (k : Nat) (hk : k ≤ n) :
    ∃ A, (if c = k then some ({ block := b, off := off } : Addr) else some { block := b, off := off + k * 3 }) = A ∧ (n ≤ c → CS w B A (ps.drop k)) := by
  refine ⟨_, rfl, fun hnc => ?_⟩
  intro hl
  rw [List.length_drop] at hl
  obtain ⟨b', off', e, hb, hc⟩ := h (by omega)
  cases e
  rw [if_neg (by omega)]
  refine ⟨b, off + k * 3, rfl, hb, fun j hj => ?_⟩
  rw [List.length_drop] at hj
  obtain ⟨c0, c1, c2⟩ := hc (k + j) (by omega)
  have e1 : (ps.drop k).getD j default = ps.getD (k + j) default := by simp [List.getD, List.getElem?_drop]
  rw [e1, show off + k * 3 + j * 3 = off + (k + j) * 3 by omega]
  exact ⟨c0, c1, c2⟩
theorem CS.take {w : World} {B : Nat} {A : Option Addr} {ps : List Ac} (h : CS w B A ps) (k : Nat) (hk : k ≤ ps.length) : CS w B A (ps.take k) := by
  intro hl
  rw [List.length_take] at hl
  obtain ⟨b, off, e, hb, hc⟩ := h (by omega)
  refine ⟨b, off, e, hb, fun j hj => ?_⟩
  rw [List.length_take] at hj
  have e1 : (ps.take k).getD j default = ps.getD j default := by simp [List.getD, List.getElem?_take, show j < k by omega]
  rw [e1]
  exact hc j (by omega)

/-- Returns keys and changes. -/
def DrKC (w : World) (e : Ending) (w' : World) : Prop :=
  ∃ (A1 : Option Addr) (n1 c1 : Nat) (xs : List Int) (A2 : Option Addr) (n2 c2 : Nat) (ac : List Ac), e = .returned (.tuple #[.slice A1 n1 c1, .slice A2 n2 c2]) ∧ n1 = xs.length ∧ n1 ≤ 11 ∧ n1 ≤ c1 ∧ n2 = ac.length ∧ n2 ≤ 30 ∧ n2 ≤ c2 ∧ IS w' w'.heap.size A1 xs ∧ CS w' w'.heap.size A2 ac ∧ Below w.heap.size w w'
theorem KL.fin {g n c l c1 c2 d1 P : Nat} {A Aa : Option Addr} {bs xs : List Int} {A2 : Option Addr} {ps : List Ac} {w0 w : World} (h : KL w0.heap.size g A n c bs w0 Aa xs d1 44 3 (.slice A2 l c2) l (ps.flatMap Ac.cells) P w) (n1 : Nat) (h1 : n1 = xs.length) (h2 : n1 ≤ 11) (h3 : n1 ≤ c1) (h4 : l = ps.length) (h5 : l ≤ 30) :
    DrKC w0 (.returned (.tuple #[.slice Aa n1 c1, .slice A2 l c2])) w :=
  ⟨Aa, n1, c1, xs, A2, l, c2, ps, rfl, h1, h2, h3, h4, h5, own_ncap h.row.1, h.li.more h.dl, CS.of_own h.row.1, h.bl⟩

set_option maxRecDepth 100000 in
set_option maxHeartbeats 6400000 in
theorem spec_DrawApplyPatch (A : Option Addr) (n c : Nat) (bs : List Int) (w : World) (hn : n = bs.length) (hnc : n ≤ c) (h : BS w w.heap.size A bs) (hy : BY bs) (hs : n ≤ 1048576) :
    Calls Try.prog 25 #[.slice A n c] w fun e w' => DrKC w e w' := by
  obtain ⟨i1, hi1, hy0, hy1, hy2⟩ := info_parts info_chg
  have HC := Lib.hid (spec_newReader A n c bs w w.heap.size (Nat.le_refl _) hn hnc h hy hs)
  clear hn hnc h hy hs
  go_enter Try.func25, Try.ntmps25
  go_wp2_with fail
  refine HC.out.mono ?_
  rintro e w1 ⟨g, A1, n1, c1, ds, rfl, hn1, hs1, hby, hr, hg, hb⟩
  have HN := Lib.hid hn1
  have HS := Lib.hid (keysOf_q g A1 n1 c1 ds 0 w1 hr hn1 hby hs1 (by omega))
  have HB1 := Lib.hid hb
  have hgw := hr.lt
  clear hn1 hr hb HC
  go_wp2_with fail
  refine HS.out.mono ?_
  rintro e w2 ⟨A2, l2, c2, xs, A3, l3, c3, ys, rfl, h1, h2, h3, h4, h5, h6, h7, h8, hr2, hf, hlo2, hlo3⟩
  have HL2 := Lib.hid h1
  have HL3 := Lib.hid h4
  have HR2 := Lib.hid hr2
  have HLO := Lib.hid (hlo2.less (show g + 1 ≤ w1.heap.size from hgw))
  have HB2 := Lib.hid (HB1.out.trans (hf.tch.below (B := w.heap.size) (by omega) HB1.out.size))
  have HIX := Lib.hid h7
  have HIY := Lib.hid h8
  have HVX := Lib.hid (spec_validKeys A2 l2 c2 xs w2 w2.heap.size (Nat.le_refl _) h1 h3 h7 (by omega))
  have hs12 := hf.size
  have hs01 := HB1.out.size
  clear h1 h4 h7 h8 hr2 hf hlo2 hlo3 HS HB1
  go_wp2_with fail
  refine HVX.out.mono ?_
  rintro e w3 ⟨rfl, hb3⟩
  have HB3 := Lib.hid (HB2.out.trans (hb3.mono (by omega)))
  have HIX3 := Lib.hid ((HIX.out.below hb3 (Nat.le_refl _)).more hb3.size)
  have HIY3 := Lib.hid ((HIY.out.below hb3 (Nat.le_refl _)).more hb3.size)
  have HR3 := Lib.hid (HR2.out.step hb3)
  have hs23 := hb3.size
  generalize hvx : validK xs = vx
  clear hb3 HB2 HIX HIY HR2 HVX hvx
  cases vx
  · have HK : Hid (DrKC w (.returned (.tuple #[.slice A2 l2 c2, .slice (some ⟨w3.heap.size, 0, none⟩) 0 0])) (w3.alloc (.cells #[] 44))) :=
      ⟨A2, l2, c2, xs, _, 0, 0, [], rfl, HL2.out, h2, h3, rfl, by omega, Nat.le_refl _, (HIX3.out.alloc (Nat.le_refl _) _).more (by simp), CS.nil _ _ _, HB3.out.alloc (by omega) _⟩
    go_wp2
    go_ret2
    exact HK.out
  have HVY := Lib.hid (spec_validKeys A3 l3 c3 ys w3 w3.heap.size (Nat.le_refl _) HL3.out h6 HIY3.out (by omega))
  go_wp2_with fail
  refine HVY.out.mono ?_
  rintro e w4 ⟨rfl, hb4⟩
  have HB4 := Lib.hid (HB3.out.trans (hb4.mono (by omega)))
  have HIX4 := Lib.hid ((HIX3.out.below hb4 (Nat.le_refl _)).more hb4.size)
  have HIY4 := Lib.hid ((HIY3.out.below hb4 (Nat.le_refl _)).more hb4.size)
  have HR4 := Lib.hid (HR3.out.step hb4)
  have hs34 := hb4.size
  generalize hvy : validK ys = vy
  clear hb4 HB3 HIX3 HIY3 HR3 HVY hvy
  cases vy
  · have HK : Hid (DrKC w (.returned (.tuple #[.slice A2 l2 c2, .slice (some ⟨w4.heap.size, 0, none⟩) 0 0])) (w4.alloc (.cells #[] 44))) :=
      ⟨A2, l2, c2, xs, _, 0, 0, [], rfl, HL2.out, h2, h3, rfl, by omega, Nat.le_refl _, (HIX4.out.alloc (Nat.le_refl _) _).more (by simp), CS.nil _ _ _, HB4.out.alloc (by omega) _⟩
    go_wp2
    go_ret2
    exact HK.out
  have HPT := Lib.hid (spec_patch A2 A3 l2 c2 l3 c3 xs ys w4 HL2.out HL3.out HIX4.out HIY4.out (by omega) (by omega))
  have hpl := patchK_len xs ys
  rw [← HL2.out, ← HL3.out] at hpl
  go_wp2_with fail
  refine HPT.out.mono ?_
  rintro e w5 ⟨v5, rfl, ho5, hb5⟩
  have hgw4 : g < w4.heap.size := by omega
  have HK5 : Hid (KL w.heap.size g A1 n1 c1 ds w A2 xs w4.heap.size 44 3 v5 (patchK xs ys).length ((patchK xs ys).flatMap Ac.cells) 60 w5) :=
    ⟨by omega, (HR4.out.step hb5).mono (by omega), HIX4.out.below hb5 (Nat.le_refl _), HLO.out, hgw4, hb5.size, OwR.start ho5, HB4.out.trans (hb5.mono (by omega))⟩
  obtain ⟨ps5, hps5⟩ : ∃ ps5, ps5 = patchK xs ys := ⟨_, rfl⟩
  rw [← hps5] at HK5 hpl
  clear ho5 hb5 HPT HIX4 HIY4 HR4 HB4 HL3 hps5
  go_wp2_with fail
  refine (pick_any g A1 n1 c1 ds 60 3 w5 HK5.out.rd HN.out hby hs1 (by omega) (by omega)).mono ?_
  rintro e w6 ⟨N, rfl, hN, _, hr6, ht6⟩
  have hN3 : (N : Int) < 3 := hN (by omega)
  have HK6 := Lib.hid (HK5.out.pick hr6 ht6)
  clear hN hr6 ht6 HK5
  go_wp2
  go_loopw [7, 8] (fun v u wr => ∃ (i m l : Nat) (ps : List Ac), i + m = N ∧ u = .int .i64 m ∧ l ≤ 22 + i ∧ Hid (l = ps.length) ∧ Hid (KL w.heap.size g A1 n1 c1 ds w A2 xs w4.heap.size 44 3 v l (ps.flatMap Ac.cells) (61 + 4 * i) wr)) (fun _ u _ => (intOf u).toNat)
  case atStart => exact ⟨0, N, ps5.length, ps5, by omega, rfl, by omega, rfl, HK6.out.mono (by omega)⟩
  case round =>
    obtain ⟨i, m, l, ps, him, rfl, hli, HL, HK⟩ := hrel
    obtain ⟨Av, cv, rfl⟩ := row_form HK.out.row.1
    clear HK6
    by_cases hm : 0 < m
    · have HK7 := Lib.hid (HK.out.alloc (.cells #[.int .i64 2, .int .i64 1, .int .i64 0, .int .i64 3] 3))
      have hgr : g < wr.heap.size := HK.out.rd.lt
      clear HK
      go_wp2_with fail
      refine (one_any g A1 n1 c1 ds (61 + 4 * i) wr.heap.size 0 4 4 [2, 1, 0, 3] _ HK7.out.rd HN.out hby hs1 (by omega) rfl (by omega) (by omega) ?_ (by omega) (by simp)).mono ?_
      · intro j hj
        have : j = 0 ∨ j = 1 ∨ j = 2 ∨ j = 3 := by omega
        rcases this with rfl | rfl | rfl | rfl <;> go_simp
      rintro e w8 ⟨x1, rfl, _, hr8, ht8⟩
      have HK8 := Lib.hid (HK7.out.pick hr8 ht8)
      clear hr8 ht8 HK7
      go_wp2_with fail
      refine (pick_any g A1 n1 c1 ds (61 + 4 * i + 1) 12 w8 HK8.out.rd HN.out hby hs1 (by omega) (by omega)).mono ?_
      rintro e w9 ⟨x2, rfl, _, _, hr9, ht9⟩
      have HK9 := Lib.hid (HK8.out.pick hr9 ht9)
      clear hr9 ht9 HK8
      go_wp2_with fail
      refine (pick_any g A1 n1 c1 ds (61 + 4 * i + 1 + 1) 12 w9 HK9.out.rd HN.out hby hs1 (by omega) (by omega)).mono ?_
      rintro e wa ⟨x3, rfl, _, _, hra, hta⟩
      have HKa := Lib.hid ((HK9.out.pick hra hta).alloc (.cells #[.int .i64 (-1), .int .i64 x3, .int .i64 (-2)] 3))
      have hga : g < wa.heap.size := hra.lt
      clear hra hta HK9
      go_wp2_with fail
      refine (one_any g A1 n1 c1 ds (61 + 4 * i + 1 + 1 + 1) wa.heap.size 0 3 3 [-1, x3, -2] _ HKa.out.rd HN.out hby hs1 (by omega) rfl (by omega) (by omega) ?_ (by omega) (by simp)).mono ?_
      · intro j hj
        have : j = 0 ∨ j = 1 ∨ j = 2 := by omega
        rcases this with rfl | rfl | rfl <;> go_simp
      rintro e wb ⟨x4, rfl, _, hrb, htb⟩
      have HKb := Lib.hid ((HKa.out.pick hrb htb).alloc (.cells #[.int .i64 x1, .int .i64 x2, .int .i64 x4] 44))
      clear hrb htb HKa
      go_wp2_with (at_builtin; refine wpList_append_own _ rfl _ _ 28 rfl w4.heap.size 44 i1 _ 3 24 Try.underlying28 hi1 hy0 hy1 hy2 rfl (by decide) _ _ _ rfl HKb.out.row.1 ⟨_, 0, none⟩ 1 1 (Ac.cells ⟨x1, x2, x4⟩) rfl rfl (acells_new _ _ _ _ rfl) ?c2 ?c3 ?c4 ?c5 ?_)
      case c2 => first | rfl | (intro u hu; simp [Ac.cells] at hu; rcases hu with rfl | rfl | rfl <;> rfl)
      case c3 => unfold maxLen; omega
      case c4 => omega
      case c5 => exact HKb.out.dl
      intro v9 wc hownc hgrowc _
      have HKc : Hid (KL w.heap.size g A1 n1 c1 ds w A2 xs w4.heap.size 44 3 v9 (l + 1) ((ps ++ [(⟨x1, x2, x4⟩ : Ac)]).flatMap Ac.cells) (61 + 4 * (i + 1)) wc) :=
        (HKb.out.grow (by simpa using hownc) hgrowc).mono (by omega)
      clear hownc hgrowc HKb
      go_wp2
      go_roundw
      case rel => exact ⟨i + 1, m - 1, l + 1, _, by omega, by go_num, by omega, (by have := HL.out; rw [List.length_append, ← this]; rfl), HKc.out⟩
      case measure => simp [intOf]; omega
    · obtain rfl : m = 0 := by omega
      clear hm
      by_cases hl0 : 0 < l
      · obtain ⟨gl, cl, hAv⟩ := row_form2 HK.out.row.1 hl0
        cases hAv
        have hlz : (0 : Int) < (l : Int) := by omega
        go_wp2_with fail
        refine (pick_any g A1 n1 c1 ds (61 + 4 * i) 8 wr HK.out.rd HN.out hby hs1 (by omega) (by omega)).mono ?_
        rintro e w7 ⟨x7, rfl, _, _, hr7, ht7⟩
        have HK7 := Lib.hid (HK.out.pick hr7 ht7)
        clear hr7 ht7 HK
        by_cases hx7 : x7 = 0
        · have e7 : ((x7 : Int) == 0) = true := by simp [hx7]
          have hlc : l ≤ cv := own_ncap HK7.out.row.1
          have hcs := CS.of_own HK7.out.row.1
          obtain ⟨A9, hA9, hcs9⟩ := hcs.tail (c := cv) HL.out 1 (by omega)
          have HFN : Hid (DrKC w (.returned (.tuple #[.slice A2 l2 c2, .slice A9 (l - 1) (cv - 1)])) w7) :=
            ⟨A2, l2, c2, xs, A9, l - 1, cv - 1, ps.drop 1, rfl, HL2.out, h2, h3, by rw [List.length_drop, ← HL.out], by omega, by omega, HK7.out.li.more HK7.out.dl, hcs9 hlc, HK7.out.bl⟩
          have h1l : (1 : Int) ≤ (l : Int) := by omega
          have h1c : 1 ≤ cv := by omega
          clear hx7 hcs hcs9 HK7
          by_cases hc1 : cv = 1
          · rw [if_pos hc1] at hA9
            subst hA9
            subst hc1
            obtain rfl : l = 1 := by omega
            go_wp2
            go_ret2
            exact HFN.out
          · rw [if_neg hc1] at hA9
            subst hA9
            go_wp2
            go_ret2
            exact HFN.out
        · have e7 : ((x7 : Int) == 0) = false := by simp; omega
          have HFN := Lib.hid (HK7.out.fin (c1 := c2) l2 HL2.out h2 h3 HL.out (by omega))
          clear hx7 HK7
          go_wp2
          go_ret2
          exact HFN.out
      · obtain rfl : l = 0 := by omega
        have HFN := Lib.hid (HK.out.fin (c1 := c2) l2 HL2.out h2 h3 HL.out (by omega))
        clear HK hl0
        go_wp2
        go_ret2
        exact HFN.out
end Go.Proofs.Ytlbomopjldhmeaa
