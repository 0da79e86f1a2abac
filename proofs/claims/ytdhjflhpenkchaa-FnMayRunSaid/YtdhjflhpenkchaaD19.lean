/- The drawing of what is to be written: someWrites. (Made by d19.py.) -/
import Derived.Test.YtdhjflhpenkchaaD18
import Derived.Test.YtdhjflhpenkchaaD9
import Derived.Test.YtdhjflhpenkchaaD8
import Derived.Test.YtdhjflhpenkchaaH22
import Derived.Maps.AppendAt

namespace Go.Proofs.Ytdhjflhpenkchaa
set_option linter.unusedSimpArgs false
set_option linter.unusedVariables false
open Go.RowKit

/-- Returns two lists of one length in fresh blocks; the numbers of the first are nodes. -/
def SwP (g : Nat) (A : Option Addr) (n c : Nat) (bs : List Int) (Q k : Nat) (w : World) (e : Ending) (w' : World) : Prop :=
  ∃ (vN vV : Value) (xs ys : List Int), e = .returned (.tuple #[vN, vV]) ∧ xs.length = ys.length ∧ xs.length ≤ 3 ∧ (∀ x ∈ xs, 0 ≤ x ∧ x < (k : Int)) ∧ w'.ownsRow (w.heap.size + 1) 3 1 vN xs.length (xs.map (Value.int .i64)) ∧ w'.ownsRow (w.heap.size + 1) 3 1 vV ys.length (ys.map (Value.int .i64)) ∧ Rdr g A n c bs Q w' ∧ Frd g w.heap.size w w'

set_option maxRecDepth 100000 in
set_option maxHeartbeats 12800000 in
theorem someWrites_any (g : Nat) (A : Option Addr) (n c : Nat) (bs : List Int) (P : Nat) (Ag : Option Addr) (k cg lo hi : Nat) (gs : List Nd) (w : World) (h : Rdr g A n c bs P w) (hn : n = bs.length) (hby : BY bs) (hs : n ≤ 2000) (hP : P ≤ 800000)
    (hg : As lo hi (OwG lo hi (.slice Ag k cg) k gs) w) (hlo : g < lo) (hk1 : 1 ≤ k) (hk : k ≤ 10) :
    Calls Try.prog 87 #[.pointer (some ⟨g, 0, none⟩), .agg #[.slice Ag k cg]] w fun e w' => SwP g A n c bs (P + 40) k w e w' := by
  obtain ⟨i0, hi0, hz0, hz1, hz2⟩ := info_parts info_int
  have hgw := h.lt
  have hhi := hg.le
  have HN := Lib.hid hn
  have HGL := Lib.hid hg.it.1
  have hBW : Below w.heap.size w (((w.alloc (.cells #[.slice Ag k cg] 25)).alloc (.cells #[] 3)).alloc (.cells #[] 3)) := (((Below.refl _ _).alloc (Nat.le_refl _) _).alloc (by simp) _).alloc (by simp; omega) _
  have hN0 := World.ownsRow_lit (e := 3) (size := 1) (base := w.heap.size + 1) (w.alloc (.cells #[.slice Ag k cg] 25)) #[] 0 (by simp) (by unfold maxLen; omega) (by simp)
  have hV0 := World.ownsRow_lit (e := 3) (size := 1) (base := w.heap.size + 1) ((w.alloc (.cells #[.slice Ag k cg] 25)).alloc (.cells #[] 3)) #[] 0 (by simp) (by unfold maxLen; omega) (by simp)
  have hX3 : Bn g A n c bs lo hi Ag k cg gs w.heap.size w P (.slice (some ⟨w.heap.size + 1, 0, none⟩) 0 0) (.slice (some ⟨w.heap.size + 2, 0, none⟩) 0 0) [] [] (((w.alloc (.cells #[.slice Ag k cg] 25)).alloc (.cells #[] 3)).alloc (.cells #[] 3)) :=
    ⟨((h.alloc _).alloc _).alloc _, ((hg.alloc _).alloc _).alloc _, ((box_new w (.slice Ag k cg) 25).alloc _).alloc _, Frd.of_below (g := g) hBW (Nat.le_refl _), by simpa using hN0.alloc (.cells #[] 3), by simpa using hV0, by simp [Value.ownBlock], by simp⟩
  have HX4 := Lib.hid (hX3.alloc (.cells #[.int .i64 1, .int .i64 2, .int .i64 1, .int .i64 3, .int .i64 0] 3))
  clear h hn hg hBW hN0 hV0 hX3
  go_enter Try.func87, Try.ntmps87
  go_wp2_with fail
  refine (one_any g A n c bs P (w.heap.size + 3) 0 5 5 [1, 2, 1, 3, 0] _ HX4.out.rd HN.out hby hs (by omega) rfl (by omega) (by omega) ?_ (by omega) (by simp)).mono ?_
  · intro j hj
    have : j = 0 ∨ j = 1 ∨ j = 2 ∨ j = 3 ∨ j = 4 := by omega
    rcases this with rfl | rfl | rfl | rfl | rfl <;> go_simp
  rintro e w5 ⟨x, rfl, hxm, hr5, ht5⟩
  obtain ⟨N, rfl, hN3⟩ : ∃ N : Nat, x = (N : Int) ∧ N ≤ 3 := by
    simp only [List.mem_cons, List.not_mem_nil, or_false] at hxm
    exact ⟨x.toNat, by omega, by omega⟩
  have HX5 := Lib.hid (HX4.out.turn hr5 ht5 hlo hgw)
  clear hxm hr5 ht5 HX4
  go_wp2
  go_loopw [6, 7, 8] (fun vN vV u wr => ∃ (i m : Nat) (xs ys : List Int), i + m = N ∧ u = .int .i64 m ∧ xs.length ≤ i ∧ Hid (xs.length = ys.length) ∧ Hid (Bn g A n c bs lo hi Ag k cg gs w.heap.size w (P + 1 + 6 * i) vN vV xs ys wr)) (fun _ _ u _ => (intOf u).toNat)
  case atStart => exact ⟨0, N, [], [], by omega, rfl, Nat.le_refl _, rfl, HX5.out⟩
  case round =>
    obtain ⟨i, m, xs, ys, him, rfl, hli, HE, HX⟩ := hrel
    obtain ⟨AN, cN, rfl⟩ := row_form' HX.out.ro.n
    obtain ⟨AV, cV, rfl⟩ := row_form' HX.out.ro.v
    clear HX5
    have HIC := Lib.hid fun (z : Int) (w' : World) (hX : As lo hi (OwG lo hi (.slice Ag k cg) k gs) w') => spec_isCell Ag k cg gs z w' hi hX.le HGL.out hX.it.nodes (by omega)
    generalize hxl : xs.length = lx at *
    generalize hyl : ys.length = ly at *
    have HXL := Lib.hid hxl
    have HYL := Lib.hid hyl
    clear hxl hyl
    by_cases hm : 0 < m
    · skip
      have hmi : (0 : Int) < (m : Int) := by omega
      have qb := HX.out.bx.it
      go_wp2_with fail
      refine (pick_any g A n c bs _ k _ HX.out.rd HN.out hby hs (by omega) (by omega)).mono ?_
      rintro e v1 ⟨z, rfl, hz, _, hr, ht⟩
      have X1 := Lib.hid (HX.out.turn hr ht hlo hgw)
      clear hr ht HX
      have hzk : (z : Int) < (k : Int) := hz (by omega)
      clear qb
      have qb := X1.out.bx.it
      have HCZ := Lib.hid (HIC.out (z : Int))
      generalize isC gs (z : Int) = ic at *
      go_wp2_with fail
      refine (HCZ.out _ X1.out.gr).mono ?_
      rintro e w7 ⟨rfl, hb⟩
      have Y1 := Lib.hid (X1.out.step hb)
      clear hb qb HCZ HIC X1
      cases ic
      · skip
        go_wp2_with fail
        refine (pick_any g A n c bs _ 8 _ Y1.out.rd HN.out hby hs (by omega) (by omega)).mono ?_
        rintro e v2 ⟨q8, rfl, hq8, _, hr, ht⟩
        have X2 := Lib.hid (Y1.out.turn hr ht hlo hgw)
        clear hr ht Y1
        by_cases hq : 0 < q8
        · skip
          have hqi : (0 : Int) < (q8 : Int) := by omega
          have HPL := Lib.hid (spec_placeIn AN lx cN xs (0) v2 v2.heap.size (Nat.le_refl _) HXL.out.symm (IS.of_own (n := lx) (by have := X2.out.ro.n; rw [HXL.out] at this; exact this)) (by omega))
          generalize plc xs (0) = p at *
          go_wp2_with fail
          refine HPL.out.mono ?_
          rintro e w6 ⟨rfl, rfl⟩
          clear HPL
          by_cases hp : 0 ≤ p
          · skip
            go_wp2_with fail
            refine (pick_any g A n c bs _ 8 _ X2.out.rd HN.out hby hs (by omega) (by omega)).mono ?_
            rintro e v3 ⟨p8, rfl, hp8, _, hr, ht⟩
            have X3 := Lib.hid (X2.out.turn hr ht hlo hgw)
            clear hr ht X2
            by_cases h8 : 0 < p8
            · skip
              have h8i : (0 : Int) < (p8 : Int) := by omega
              go_wp2
              go_roundw
              case rel => exact ⟨i + 1, m - 1, xs, ys, by omega, by go_num, by have := HXL.out; omega, by rw [HXL.out, HYL.out]; exact HE.out, ⟨X3.out.rd.mono (by omega), X3.out.gr, X3.out.bx, X3.out.fr, X3.out.ro⟩⟩
              case measure => simp [intOf]; omega
            · skip
              obtain rfl : p8 = 0 := by omega
              have Xa := Lib.hid (X3.out.alloc (.cells #[.int .i64 0] 3))
              go_wp2_with (at_builtin; refine wpList_append_own_at _ rfl _ _ 28 rfl (w.heap.size + 1) 3 i0 (.int .i64 0) 1 8 Try.underlying28 hi0 hz0 hz1 hz2 rfl (by decide) _ _ _ rfl Xa.out.ro.n ⟨_, 0, none⟩ 1 1 [.int .i64 0] rfl rfl (cell_one_new _ _ _) ?c2 ?c3 ?c4 ?c5 ?_)
              case c2 => first | rfl | (intro u hu; simp at hu; subst hu; rfl)
              case c3 => have := HXL.out; have := HYL.out; have := HE.out; unfold maxLen; omega
              case c4 => have := HXL.out; have := HYL.out; have := HE.out; omega
              case c5 => have := X3.out.bx.le; first | omega | (simp; omega)
              intro v9 v4 hown hgrow _ hblk
              have X4 := Lib.hid (Xa.out.snocN (by omega) hgw hown hgrow (by simpa using hblk) (by omega) (by omega))
              clear hown hgrow hblk Xa X3
              go_wp2_with fail
              refine (pick_any g A n c bs _ 1000 _ X4.out.rd HN.out hby hs (by omega) (by omega)).mono ?_
              rintro e v5 ⟨y, rfl, hy, _, hr, ht⟩
              have X5 := Lib.hid (X4.out.turn hr ht hlo hgw)
              clear hr ht X4
              have Xb := Lib.hid (X5.out.alloc (.cells #[.int .i64 0, .int .i64 1, .int .i64 y, .int .i64 3] 3))
              go_wp2_with fail
              refine (one_any g A n c bs _ v5.heap.size 0 4 4 [0, 1, (y : Int), 3] _ Xb.out.rd HN.out hby hs (by omega) rfl (by omega) (by omega) ?_ (by have := X5.out.rd.lt; omega) (by simp)).mono ?_
              · intro j hj
                have : j = 0 ∨ j = 1 ∨ j = 2 ∨ j = 3 := by omega
                rcases this with rfl | rfl | rfl | rfl <;> go_simp
              rintro e v6 ⟨u, rfl, _, hr, ht⟩
              have X6 := Lib.hid (Xb.out.turn hr ht hlo hgw)
              clear hr ht Xb X5
              have Xa := Lib.hid (X6.out.alloc (.cells #[.int .i64 u] 3))
              go_wp2_with (at_builtin; refine wpList_append_own_at _ rfl _ _ 28 rfl (w.heap.size + 1) 3 i0 (.int .i64 0) 1 8 Try.underlying28 hi0 hz0 hz1 hz2 rfl (by decide) _ _ _ rfl Xa.out.ro.v ⟨_, 0, none⟩ 1 1 [.int .i64 u] rfl rfl (cell_one_new _ _ _) ?c2 ?c3 ?c4 ?c5 ?_)
              case c2 => first | rfl | (intro u hu; simp at hu; subst hu; rfl)
              case c3 => have := HXL.out; have := HYL.out; have := HE.out; unfold maxLen; omega
              case c4 => have := HXL.out; have := HYL.out; have := HE.out; omega
              case c5 => have := X6.out.bx.le; first | omega | (simp; omega)
              intro v9 v7 hown hgrow _ hblk
              have X7 := Lib.hid (Xa.out.snocV (by omega) hgw hown hgrow (by simpa using hblk))
              clear hown hgrow hblk Xa X6
              go_wp2
              go_roundw
              case rel => exact ⟨i + 1, m - 1, xs ++ [0], ys ++ [u], by omega, by go_num, by rw [List.length_append]; have := HXL.out; simp; omega, by rw [List.length_append, List.length_append, HXL.out, HYL.out, HE.out]; rfl, ⟨X7.out.rd.mono (by omega), X7.out.gr, X7.out.bx, X7.out.fr, X7.out.ro⟩⟩
              case measure => simp [intOf]; omega
          · skip
            have Xa := Lib.hid (X2.out.alloc (.cells #[.int .i64 0] 3))
            go_wp2_with (at_builtin; refine wpList_append_own_at _ rfl _ _ 28 rfl (w.heap.size + 1) 3 i0 (.int .i64 0) 1 8 Try.underlying28 hi0 hz0 hz1 hz2 rfl (by decide) _ _ _ rfl Xa.out.ro.n ⟨_, 0, none⟩ 1 1 [.int .i64 0] rfl rfl (cell_one_new _ _ _) ?c2 ?c3 ?c4 ?c5 ?_)
            case c2 => first | rfl | (intro u hu; simp at hu; subst hu; rfl)
            case c3 => have := HXL.out; have := HYL.out; have := HE.out; unfold maxLen; omega
            case c4 => have := HXL.out; have := HYL.out; have := HE.out; omega
            case c5 => have := X2.out.bx.le; first | omega | (simp; omega)
            intro v9 v8 hown hgrow _ hblk
            have X8 := Lib.hid (Xa.out.snocN (by omega) hgw hown hgrow (by simpa using hblk) (by omega) (by omega))
            clear hown hgrow hblk Xa X2
            go_wp2_with fail
            refine (pick_any g A n c bs _ 1000 _ X8.out.rd HN.out hby hs (by omega) (by omega)).mono ?_
            rintro e v9 ⟨y, rfl, hy, _, hr, ht⟩
            have X9 := Lib.hid (X8.out.turn hr ht hlo hgw)
            clear hr ht X8
            have Xb := Lib.hid (X9.out.alloc (.cells #[.int .i64 0, .int .i64 1, .int .i64 y, .int .i64 3] 3))
            go_wp2_with fail
            refine (one_any g A n c bs _ v9.heap.size 0 4 4 [0, 1, (y : Int), 3] _ Xb.out.rd HN.out hby hs (by omega) rfl (by omega) (by omega) ?_ (by have := X9.out.rd.lt; omega) (by simp)).mono ?_
            · intro j hj
              have : j = 0 ∨ j = 1 ∨ j = 2 ∨ j = 3 := by omega
              rcases this with rfl | rfl | rfl | rfl <;> go_simp
            rintro e v10 ⟨u, rfl, _, hr, ht⟩
            have X10 := Lib.hid (Xb.out.turn hr ht hlo hgw)
            clear hr ht Xb X9
            have Xa := Lib.hid (X10.out.alloc (.cells #[.int .i64 u] 3))
            go_wp2_with (at_builtin; refine wpList_append_own_at _ rfl _ _ 28 rfl (w.heap.size + 1) 3 i0 (.int .i64 0) 1 8 Try.underlying28 hi0 hz0 hz1 hz2 rfl (by decide) _ _ _ rfl Xa.out.ro.v ⟨_, 0, none⟩ 1 1 [.int .i64 u] rfl rfl (cell_one_new _ _ _) ?c2 ?c3 ?c4 ?c5 ?_)
            case c2 => first | rfl | (intro u hu; simp at hu; subst hu; rfl)
            case c3 => have := HXL.out; have := HYL.out; have := HE.out; unfold maxLen; omega
            case c4 => have := HXL.out; have := HYL.out; have := HE.out; omega
            case c5 => have := X10.out.bx.le; first | omega | (simp; omega)
            intro v9 v11 hown hgrow _ hblk
            have X11 := Lib.hid (Xa.out.snocV (by omega) hgw hown hgrow (by simpa using hblk))
            clear hown hgrow hblk Xa X10
            go_wp2
            go_roundw
            case rel => exact ⟨i + 1, m - 1, xs ++ [0], ys ++ [u], by omega, by go_num, by rw [List.length_append]; have := HXL.out; simp; omega, by rw [List.length_append, List.length_append, HXL.out, HYL.out, HE.out]; rfl, ⟨X11.out.rd.mono (by omega), X11.out.gr, X11.out.bx, X11.out.fr, X11.out.ro⟩⟩
            case measure => simp [intOf]; omega
        · skip
          obtain rfl : q8 = 0 := by omega
          have HPL := Lib.hid (spec_placeIn AN lx cN xs ((z : Int)) v2 v2.heap.size (Nat.le_refl _) HXL.out.symm (IS.of_own (n := lx) (by have := X2.out.ro.n; rw [HXL.out] at this; exact this)) (by omega))
          generalize plc xs ((z : Int)) = p at *
          go_wp2_with fail
          refine HPL.out.mono ?_
          rintro e w6 ⟨rfl, rfl⟩
          clear HPL
          by_cases hp : 0 ≤ p
          · skip
            go_wp2_with fail
            refine (pick_any g A n c bs _ 8 _ X2.out.rd HN.out hby hs (by omega) (by omega)).mono ?_
            rintro e v12 ⟨p8, rfl, hp8, _, hr, ht⟩
            have X12 := Lib.hid (X2.out.turn hr ht hlo hgw)
            clear hr ht X2
            by_cases h8 : 0 < p8
            · skip
              have h8i : (0 : Int) < (p8 : Int) := by omega
              go_wp2
              go_roundw
              case rel => exact ⟨i + 1, m - 1, xs, ys, by omega, by go_num, by have := HXL.out; omega, by rw [HXL.out, HYL.out]; exact HE.out, ⟨X12.out.rd.mono (by omega), X12.out.gr, X12.out.bx, X12.out.fr, X12.out.ro⟩⟩
              case measure => simp [intOf]; omega
            · skip
              obtain rfl : p8 = 0 := by omega
              have Xa := Lib.hid (X12.out.alloc (.cells #[.int .i64 (z : Int)] 3))
              go_wp2_with (at_builtin; refine wpList_append_own_at _ rfl _ _ 28 rfl (w.heap.size + 1) 3 i0 (.int .i64 0) 1 8 Try.underlying28 hi0 hz0 hz1 hz2 rfl (by decide) _ _ _ rfl Xa.out.ro.n ⟨_, 0, none⟩ 1 1 [.int .i64 (z : Int)] rfl rfl (cell_one_new _ _ _) ?c2 ?c3 ?c4 ?c5 ?_)
              case c2 => first | rfl | (intro u hu; simp at hu; subst hu; rfl)
              case c3 => have := HXL.out; have := HYL.out; have := HE.out; unfold maxLen; omega
              case c4 => have := HXL.out; have := HYL.out; have := HE.out; omega
              case c5 => have := X12.out.bx.le; first | omega | (simp; omega)
              intro v9 v13 hown hgrow _ hblk
              have X13 := Lib.hid (Xa.out.snocN (by omega) hgw hown hgrow (by simpa using hblk) (by omega) (by omega))
              clear hown hgrow hblk Xa X12
              go_wp2_with fail
              refine (pick_any g A n c bs _ 1000 _ X13.out.rd HN.out hby hs (by omega) (by omega)).mono ?_
              rintro e v14 ⟨y, rfl, hy, _, hr, ht⟩
              have X14 := Lib.hid (X13.out.turn hr ht hlo hgw)
              clear hr ht X13
              have Xb := Lib.hid (X14.out.alloc (.cells #[.int .i64 0, .int .i64 1, .int .i64 y, .int .i64 3] 3))
              go_wp2_with fail
              refine (one_any g A n c bs _ v14.heap.size 0 4 4 [0, 1, (y : Int), 3] _ Xb.out.rd HN.out hby hs (by omega) rfl (by omega) (by omega) ?_ (by have := X14.out.rd.lt; omega) (by simp)).mono ?_
              · intro j hj
                have : j = 0 ∨ j = 1 ∨ j = 2 ∨ j = 3 := by omega
                rcases this with rfl | rfl | rfl | rfl <;> go_simp
              rintro e v15 ⟨u, rfl, _, hr, ht⟩
              have X15 := Lib.hid (Xb.out.turn hr ht hlo hgw)
              clear hr ht Xb X14
              have Xa := Lib.hid (X15.out.alloc (.cells #[.int .i64 u] 3))
              go_wp2_with (at_builtin; refine wpList_append_own_at _ rfl _ _ 28 rfl (w.heap.size + 1) 3 i0 (.int .i64 0) 1 8 Try.underlying28 hi0 hz0 hz1 hz2 rfl (by decide) _ _ _ rfl Xa.out.ro.v ⟨_, 0, none⟩ 1 1 [.int .i64 u] rfl rfl (cell_one_new _ _ _) ?c2 ?c3 ?c4 ?c5 ?_)
              case c2 => first | rfl | (intro u hu; simp at hu; subst hu; rfl)
              case c3 => have := HXL.out; have := HYL.out; have := HE.out; unfold maxLen; omega
              case c4 => have := HXL.out; have := HYL.out; have := HE.out; omega
              case c5 => have := X15.out.bx.le; first | omega | (simp; omega)
              intro v9 v16 hown hgrow _ hblk
              have X16 := Lib.hid (Xa.out.snocV (by omega) hgw hown hgrow (by simpa using hblk))
              clear hown hgrow hblk Xa X15
              go_wp2
              go_roundw
              case rel => exact ⟨i + 1, m - 1, xs ++ [(z : Int)], ys ++ [u], by omega, by go_num, by rw [List.length_append]; have := HXL.out; simp; omega, by rw [List.length_append, List.length_append, HXL.out, HYL.out, HE.out]; rfl, ⟨X16.out.rd.mono (by omega), X16.out.gr, X16.out.bx, X16.out.fr, X16.out.ro⟩⟩
              case measure => simp [intOf]; omega
          · skip
            have Xa := Lib.hid (X2.out.alloc (.cells #[.int .i64 (z : Int)] 3))
            go_wp2_with (at_builtin; refine wpList_append_own_at _ rfl _ _ 28 rfl (w.heap.size + 1) 3 i0 (.int .i64 0) 1 8 Try.underlying28 hi0 hz0 hz1 hz2 rfl (by decide) _ _ _ rfl Xa.out.ro.n ⟨_, 0, none⟩ 1 1 [.int .i64 (z : Int)] rfl rfl (cell_one_new _ _ _) ?c2 ?c3 ?c4 ?c5 ?_)
            case c2 => first | rfl | (intro u hu; simp at hu; subst hu; rfl)
            case c3 => have := HXL.out; have := HYL.out; have := HE.out; unfold maxLen; omega
            case c4 => have := HXL.out; have := HYL.out; have := HE.out; omega
            case c5 => have := X2.out.bx.le; first | omega | (simp; omega)
            intro v9 v17 hown hgrow _ hblk
            have X17 := Lib.hid (Xa.out.snocN (by omega) hgw hown hgrow (by simpa using hblk) (by omega) (by omega))
            clear hown hgrow hblk Xa X2
            go_wp2_with fail
            refine (pick_any g A n c bs _ 1000 _ X17.out.rd HN.out hby hs (by omega) (by omega)).mono ?_
            rintro e v18 ⟨y, rfl, hy, _, hr, ht⟩
            have X18 := Lib.hid (X17.out.turn hr ht hlo hgw)
            clear hr ht X17
            have Xb := Lib.hid (X18.out.alloc (.cells #[.int .i64 0, .int .i64 1, .int .i64 y, .int .i64 3] 3))
            go_wp2_with fail
            refine (one_any g A n c bs _ v18.heap.size 0 4 4 [0, 1, (y : Int), 3] _ Xb.out.rd HN.out hby hs (by omega) rfl (by omega) (by omega) ?_ (by have := X18.out.rd.lt; omega) (by simp)).mono ?_
            · intro j hj
              have : j = 0 ∨ j = 1 ∨ j = 2 ∨ j = 3 := by omega
              rcases this with rfl | rfl | rfl | rfl <;> go_simp
            rintro e v19 ⟨u, rfl, _, hr, ht⟩
            have X19 := Lib.hid (Xb.out.turn hr ht hlo hgw)
            clear hr ht Xb X18
            have Xa := Lib.hid (X19.out.alloc (.cells #[.int .i64 u] 3))
            go_wp2_with (at_builtin; refine wpList_append_own_at _ rfl _ _ 28 rfl (w.heap.size + 1) 3 i0 (.int .i64 0) 1 8 Try.underlying28 hi0 hz0 hz1 hz2 rfl (by decide) _ _ _ rfl Xa.out.ro.v ⟨_, 0, none⟩ 1 1 [.int .i64 u] rfl rfl (cell_one_new _ _ _) ?c2 ?c3 ?c4 ?c5 ?_)
            case c2 => first | rfl | (intro u hu; simp at hu; subst hu; rfl)
            case c3 => have := HXL.out; have := HYL.out; have := HE.out; unfold maxLen; omega
            case c4 => have := HXL.out; have := HYL.out; have := HE.out; omega
            case c5 => have := X19.out.bx.le; first | omega | (simp; omega)
            intro v9 v20 hown hgrow _ hblk
            have X20 := Lib.hid (Xa.out.snocV (by omega) hgw hown hgrow (by simpa using hblk))
            clear hown hgrow hblk Xa X19
            go_wp2
            go_roundw
            case rel => exact ⟨i + 1, m - 1, xs ++ [(z : Int)], ys ++ [u], by omega, by go_num, by rw [List.length_append]; have := HXL.out; simp; omega, by rw [List.length_append, List.length_append, HXL.out, HYL.out, HE.out]; rfl, ⟨X20.out.rd.mono (by omega), X20.out.gr, X20.out.bx, X20.out.fr, X20.out.ro⟩⟩
            case measure => simp [intOf]; omega
      · skip
        have HPL := Lib.hid (spec_placeIn AN lx cN xs ((z : Int)) w7 w7.heap.size (Nat.le_refl _) HXL.out.symm (IS.of_own (n := lx) (by have := Y1.out.ro.n; rw [HXL.out] at this; exact this)) (by omega))
        generalize plc xs ((z : Int)) = p at *
        go_wp2_with fail
        refine HPL.out.mono ?_
        rintro e w6 ⟨rfl, rfl⟩
        clear HPL
        by_cases hp : 0 ≤ p
        · skip
          go_wp2_with fail
          refine (pick_any g A n c bs _ 8 _ Y1.out.rd HN.out hby hs (by omega) (by omega)).mono ?_
          rintro e v21 ⟨p8, rfl, hp8, _, hr, ht⟩
          have X21 := Lib.hid (Y1.out.turn hr ht hlo hgw)
          clear hr ht Y1
          by_cases h8 : 0 < p8
          · skip
            have h8i : (0 : Int) < (p8 : Int) := by omega
            go_wp2
            go_roundw
            case rel => exact ⟨i + 1, m - 1, xs, ys, by omega, by go_num, by have := HXL.out; omega, by rw [HXL.out, HYL.out]; exact HE.out, ⟨X21.out.rd.mono (by omega), X21.out.gr, X21.out.bx, X21.out.fr, X21.out.ro⟩⟩
            case measure => simp [intOf]; omega
          · skip
            obtain rfl : p8 = 0 := by omega
            have Xa := Lib.hid (X21.out.alloc (.cells #[.int .i64 (z : Int)] 3))
            go_wp2_with (at_builtin; refine wpList_append_own_at _ rfl _ _ 28 rfl (w.heap.size + 1) 3 i0 (.int .i64 0) 1 8 Try.underlying28 hi0 hz0 hz1 hz2 rfl (by decide) _ _ _ rfl Xa.out.ro.n ⟨_, 0, none⟩ 1 1 [.int .i64 (z : Int)] rfl rfl (cell_one_new _ _ _) ?c2 ?c3 ?c4 ?c5 ?_)
            case c2 => first | rfl | (intro u hu; simp at hu; subst hu; rfl)
            case c3 => have := HXL.out; have := HYL.out; have := HE.out; unfold maxLen; omega
            case c4 => have := HXL.out; have := HYL.out; have := HE.out; omega
            case c5 => have := X21.out.bx.le; first | omega | (simp; omega)
            intro v9 v22 hown hgrow _ hblk
            have X22 := Lib.hid (Xa.out.snocN (by omega) hgw hown hgrow (by simpa using hblk) (by omega) (by omega))
            clear hown hgrow hblk Xa X21
            go_wp2_with fail
            refine (pick_any g A n c bs _ 1000 _ X22.out.rd HN.out hby hs (by omega) (by omega)).mono ?_
            rintro e v23 ⟨y, rfl, hy, _, hr, ht⟩
            have X23 := Lib.hid (X22.out.turn hr ht hlo hgw)
            clear hr ht X22
            have Xb := Lib.hid (X23.out.alloc (.cells #[.int .i64 0, .int .i64 1, .int .i64 y, .int .i64 3] 3))
            go_wp2_with fail
            refine (one_any g A n c bs _ v23.heap.size 0 4 4 [0, 1, (y : Int), 3] _ Xb.out.rd HN.out hby hs (by omega) rfl (by omega) (by omega) ?_ (by have := X23.out.rd.lt; omega) (by simp)).mono ?_
            · intro j hj
              have : j = 0 ∨ j = 1 ∨ j = 2 ∨ j = 3 := by omega
              rcases this with rfl | rfl | rfl | rfl <;> go_simp
            rintro e v24 ⟨u, rfl, _, hr, ht⟩
            have X24 := Lib.hid (Xb.out.turn hr ht hlo hgw)
            clear hr ht Xb X23
            have Xa := Lib.hid (X24.out.alloc (.cells #[.int .i64 u] 3))
            go_wp2_with (at_builtin; refine wpList_append_own_at _ rfl _ _ 28 rfl (w.heap.size + 1) 3 i0 (.int .i64 0) 1 8 Try.underlying28 hi0 hz0 hz1 hz2 rfl (by decide) _ _ _ rfl Xa.out.ro.v ⟨_, 0, none⟩ 1 1 [.int .i64 u] rfl rfl (cell_one_new _ _ _) ?c2 ?c3 ?c4 ?c5 ?_)
            case c2 => first | rfl | (intro u hu; simp at hu; subst hu; rfl)
            case c3 => have := HXL.out; have := HYL.out; have := HE.out; unfold maxLen; omega
            case c4 => have := HXL.out; have := HYL.out; have := HE.out; omega
            case c5 => have := X24.out.bx.le; first | omega | (simp; omega)
            intro v9 v25 hown hgrow _ hblk
            have X25 := Lib.hid (Xa.out.snocV (by omega) hgw hown hgrow (by simpa using hblk))
            clear hown hgrow hblk Xa X24
            go_wp2
            go_roundw
            case rel => exact ⟨i + 1, m - 1, xs ++ [(z : Int)], ys ++ [u], by omega, by go_num, by rw [List.length_append]; have := HXL.out; simp; omega, by rw [List.length_append, List.length_append, HXL.out, HYL.out, HE.out]; rfl, ⟨X25.out.rd.mono (by omega), X25.out.gr, X25.out.bx, X25.out.fr, X25.out.ro⟩⟩
            case measure => simp [intOf]; omega
        · skip
          have Xa := Lib.hid (Y1.out.alloc (.cells #[.int .i64 (z : Int)] 3))
          go_wp2_with (at_builtin; refine wpList_append_own_at _ rfl _ _ 28 rfl (w.heap.size + 1) 3 i0 (.int .i64 0) 1 8 Try.underlying28 hi0 hz0 hz1 hz2 rfl (by decide) _ _ _ rfl Xa.out.ro.n ⟨_, 0, none⟩ 1 1 [.int .i64 (z : Int)] rfl rfl (cell_one_new _ _ _) ?c2 ?c3 ?c4 ?c5 ?_)
          case c2 => first | rfl | (intro u hu; simp at hu; subst hu; rfl)
          case c3 => have := HXL.out; have := HYL.out; have := HE.out; unfold maxLen; omega
          case c4 => have := HXL.out; have := HYL.out; have := HE.out; omega
          case c5 => have := Y1.out.bx.le; first | omega | (simp; omega)
          intro v9 v26 hown hgrow _ hblk
          have X26 := Lib.hid (Xa.out.snocN (by omega) hgw hown hgrow (by simpa using hblk) (by omega) (by omega))
          clear hown hgrow hblk Xa Y1
          go_wp2_with fail
          refine (pick_any g A n c bs _ 1000 _ X26.out.rd HN.out hby hs (by omega) (by omega)).mono ?_
          rintro e v27 ⟨y, rfl, hy, _, hr, ht⟩
          have X27 := Lib.hid (X26.out.turn hr ht hlo hgw)
          clear hr ht X26
          have Xb := Lib.hid (X27.out.alloc (.cells #[.int .i64 0, .int .i64 1, .int .i64 y, .int .i64 3] 3))
          go_wp2_with fail
          refine (one_any g A n c bs _ v27.heap.size 0 4 4 [0, 1, (y : Int), 3] _ Xb.out.rd HN.out hby hs (by omega) rfl (by omega) (by omega) ?_ (by have := X27.out.rd.lt; omega) (by simp)).mono ?_
          · intro j hj
            have : j = 0 ∨ j = 1 ∨ j = 2 ∨ j = 3 := by omega
            rcases this with rfl | rfl | rfl | rfl <;> go_simp
          rintro e v28 ⟨u, rfl, _, hr, ht⟩
          have X28 := Lib.hid (Xb.out.turn hr ht hlo hgw)
          clear hr ht Xb X27
          have Xa := Lib.hid (X28.out.alloc (.cells #[.int .i64 u] 3))
          go_wp2_with (at_builtin; refine wpList_append_own_at _ rfl _ _ 28 rfl (w.heap.size + 1) 3 i0 (.int .i64 0) 1 8 Try.underlying28 hi0 hz0 hz1 hz2 rfl (by decide) _ _ _ rfl Xa.out.ro.v ⟨_, 0, none⟩ 1 1 [.int .i64 u] rfl rfl (cell_one_new _ _ _) ?c2 ?c3 ?c4 ?c5 ?_)
          case c2 => first | rfl | (intro u hu; simp at hu; subst hu; rfl)
          case c3 => have := HXL.out; have := HYL.out; have := HE.out; unfold maxLen; omega
          case c4 => have := HXL.out; have := HYL.out; have := HE.out; omega
          case c5 => have := X28.out.bx.le; first | omega | (simp; omega)
          intro v9 v29 hown hgrow _ hblk
          have X29 := Lib.hid (Xa.out.snocV (by omega) hgw hown hgrow (by simpa using hblk))
          clear hown hgrow hblk Xa X28
          go_wp2
          go_roundw
          case rel => exact ⟨i + 1, m - 1, xs ++ [(z : Int)], ys ++ [u], by omega, by go_num, by rw [List.length_append]; have := HXL.out; simp; omega, by rw [List.length_append, List.length_append, HXL.out, HYL.out, HE.out]; rfl, ⟨X29.out.rd.mono (by omega), X29.out.gr, X29.out.bx, X29.out.fr, X29.out.ro⟩⟩
          case measure => simp [intOf]; omega
    · skip
      obtain rfl : m = 0 := by omega
      by_cases hl0 : ly = 0
      · skip
        subst hl0
        go_wp2
        refine bodyPost_ret (v := .tuple #[.slice AN lx cN, .slice AV 0 cV]) (by simp [results, Try.results87, go_sem]) rfl ?_
        exact ⟨_, _, xs, ys, rfl, by rw [HXL.out, HYL.out]; exact HE.out, by have := HXL.out; omega, HX.out.ro.ok, HX.out.ro.n, HX.out.ro.v, HX.out.rd.mono (by omega), HX.out.fr⟩
      · skip
        have hli2 : (0 : Int) < (ly : Int) := by omega
        go_wp2_with fail
        refine (pick_any g A n c bs _ 24 _ HX.out.rd HN.out hby hs (by omega) (by omega)).mono ?_
        rintro e v30 ⟨q24, rfl, hq24, _, hr, ht⟩
        have X30 := Lib.hid (HX.out.turn hr ht hlo hgw)
        clear hr ht HX
        cases hq24 : ((q24 : Int) == 0)
        · skip
          go_wp2
          refine bodyPost_ret (v := .tuple #[.slice AN lx cN, .slice AV ly cV]) (by simp [results, Try.results87, go_sem]) rfl ?_
          exact ⟨_, _, xs, ys, rfl, by rw [HXL.out, HYL.out]; exact HE.out, by have := HXL.out; omega, X30.out.ro.ok, X30.out.ro.n, X30.out.ro.v, X30.out.rd.mono (by omega), X30.out.fr⟩
        · skip
          have HQ0 := Lib.hid hq24
          have Xa := Lib.hid (X30.out.alloc (.cells #[.int .i64 (-1), .int .i64 1000] 3))
          obtain ⟨gv, rfl⟩ : ∃ gv, AV = some ⟨gv, 0, none⟩ := by
            rcases X30.out.ro.v.2 with ⟨_, hz⟩ | ⟨gv, cap, cur, hv, _⟩
            · have := HYL.out; omega
            · simp only [Value.slice.injEq] at hv; exact ⟨gv, hv.1⟩
          go_wp2_with fail
          refine (one_any g A n c bs _ v30.heap.size 0 2 2 [-1, 1000] _ Xa.out.rd HN.out hby hs (by omega) rfl (by omega) (by omega) ?_ (by have := X30.out.rd.lt; omega) (by simp)).mono ?_
          · intro j hj
            have : j = 0 ∨ j = 1 := by omega
            rcases this with rfl | rfl <;> go_simp
          rintro e wz ⟨u, rfl, _, hr, ht⟩
          have Xz := Lib.hid (Xa.out.turn hr ht hlo hgw)
          clear hr ht Xa X30
          have hvo : wz.ownsRow (w.heap.size + 1) 3 1 (.slice (some ⟨gv, 0, none⟩) ly cV) ly (ys.map (Value.int .i64)) := by have := Xz.out.ro.v; rw [HYL.out] at this; exact this
          have u0 := hvo.cellAt 0 (by omega)
          rw [List.getElem?_eq_getElem (by rw [List.length_map, HYL.out]; omega)] at u0
          have f0 := hvo.frozenAt 0
          have hst := (hvo.stored 0 (.int .i64 u)).1
          rw [← List.map_set] at hst
          generalize (ys.map (Value.int .i64))[0]'_ = vv at u0
          have hgv := hvo.lt gv rfl
          have hbz : Below (w.heap.size + 1) wz (wz.setCell ⟨gv, 0, none⟩ (.int .i64 u)) := (Below.refl _ _).setCell (p := ⟨gv, 0, none⟩) hgv.1 _
          have htz : Tch (w.heap.size + 1) wz.heap.size wz (wz.setCell ⟨gv, 0, none⟩ (.int .i64 u)) := Tch.of_grown (hvo.stored 0 (.int .i64 u)).2 fun q hq => by cases hq; exact hgv
          have HV2 : Hid ((wz.setCell ⟨gv, 0, none⟩ (.int .i64 u)).ownsRow (w.heap.size + 1) 3 1 (.slice (some ⟨gv, 0, none⟩) ly cV) (ys.set 0 u).length ((ys.set 0 u).map (Value.int .i64))) := by show World.ownsRow _ _ _ _ _ _ _; rw [List.length_set, HYL.out]; exact hst
          have HN2 := Lib.hid (Xz.out.ro.n.kept (hvo.stored 0 (.int .i64 u)).2 (.inr Xz.out.ro.ne))
          have HRz := Lib.hid (Xz.out.rd.turn htz (by omega))
          have HFz := Lib.hid (Xz.out.fr.trans (Frd.of_below hbz (by omega)))
          have HOK := Lib.hid Xz.out.ro.ok
          clear hst hbz htz hvo Xz
          go_wp2
          refine bodyPost_ret (v := .tuple #[.slice AN lx cN, .slice (some ⟨gv, 0, none⟩) ly cV]) (by simp [results, Try.results87, go_sem]) rfl ?_
          exact ⟨_, _, xs, ys.set 0 u, rfl, by rw [List.length_set, HXL.out, HYL.out]; exact HE.out, by have := HXL.out; omega, HOK.out, HN2.out, HV2.out, HRz.out.mono (by omega), HFz.out⟩
end Go.Proofs.Ytdhjflhpenkchaa
