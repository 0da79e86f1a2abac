/- What the laws on clearing owners draw. (Made by r25.py.) -/
import Derived.Test.YtkfglodjnnlbkaaT8a

namespace Go.Proofs.Ytkfglodjnnlbkaa
set_option linter.unusedSimpArgs false
set_option linter.unusedVariables false
open Go.RowKit

set_option maxRecDepth 100000 in
set_option maxHeartbeats 1600000 in
theorem spec_DrawValidOwners (A : Option Addr) (n c : Nat) (bs : List Int) (w : World) (hn : n = bs.length) (hnc : n ≤ c) (h : BS w w.heap.size A bs) (hy : BY bs) (hs : n ≤ 1048576) :
    Calls Try.prog 12 #[.slice A n c] w fun e w' => DrO0 w e w' := by
  have HC := Lib.hid (spec_newReader A n c bs w w.heap.size (Nat.le_refl _) hn hnc h hy hs)
  clear hn hnc h hy hs
  go_enter Try.func12, Try.ntmps12
  go_wp2_with fail
  refine HC.out.mono ?_
  rintro e w1 ⟨g, A1, n1, c1, ds, rfl, hn1, hn2, hy1, hr, hg, hb⟩
  have HS := Lib.hid (someOwners_any g A1 n1 c1 ds 0 w1 hr hn1 hy1 hn2 (by omega))
  have HB1 := Lib.hid hb
  clear hn1 hr hb HC hy1
  go_wp2_with fail
  refine HS.out.mono ?_
  rintro e w2 ⟨B, l, m, es, rfl, h1, h2, h3, h4, h5, h6, _, hf⟩
  have HK := Lib.hid (show DrO0 w (.returned (.slice B l m)) w2 from ⟨B, l, m, es, rfl, GO.of h1 h2 h3 h4 h5 h6 HB1.out hg hf⟩)
  clear h1 h2 h3 h4 h5 h6 hf HS HB1
  go_wp2
  go_ret
  exact HK.out

set_option maxRecDepth 100000 in
set_option maxHeartbeats 1600000 in
theorem spec_DrawRerunOwner (A : Option Addr) (n c : Nat) (bs : List Int) (w : World) (hn : n = bs.length) (hnc : n ≤ c) (h : BS w w.heap.size A bs) (hy : BY bs) (hs : n ≤ 1048576) :
    Calls Try.prog 23 #[.slice A n c] w fun e w' => DrO1 w e w' := by
  have HC := Lib.hid (spec_newReader A n c bs w w.heap.size (Nat.le_refl _) hn hnc h hy hs)
  clear hn hnc h hy hs
  go_enter Try.func23, Try.ntmps23
  go_wp2_with fail
  refine HC.out.mono ?_
  rintro e w1 ⟨g, A1, n1, c1, ds, rfl, hn1, hn2, hy1, hr, hg, hb⟩
  have HS := Lib.hid (ownerOf_any g A1 n1 c1 ds 0 w1 hr hn1 hy1 hn2 (by omega))
  have HB1 := Lib.hid hb
  clear hn1 hr hb HC hy1
  go_wp2_with fail
  refine HS.out.mono ?_
  rintro e w2 ⟨B, l, m, es, o, rfl, h1, h2, h3, h4, h5, ho1, ho2, h6, _, hf⟩
  have HK := Lib.hid (show DrO1 w (.returned (.tuple #[.slice B l m, .int .i64 o])) w2 from ⟨B, l, m, es, o, rfl, ho1, ho2, GO.of h1 h2 h3 h4 h5 h6 HB1.out hg hf⟩)
  clear h1 h2 h3 h4 h5 h6 hf HS HB1 ho1 ho2
  go_wp2
  go_ret2
  exact HK.out

set_option maxRecDepth 100000 in
set_option maxHeartbeats 1600000 in
theorem spec_DrawDisposeOwner (A : Option Addr) (n c : Nat) (bs : List Int) (w : World) (hn : n = bs.length) (hnc : n ≤ c) (h : BS w w.heap.size A bs) (hy : BY bs) (hs : n ≤ 1048576) :
    Calls Try.prog 27 #[.slice A n c] w fun e w' => DrO1 w e w' := by
  have HC := Lib.hid (spec_newReader A n c bs w w.heap.size (Nat.le_refl _) hn hnc h hy hs)
  clear hn hnc h hy hs
  go_enter Try.func27, Try.ntmps27
  go_wp2_with fail
  refine HC.out.mono ?_
  rintro e w1 ⟨g, A1, n1, c1, ds, rfl, hn1, hn2, hy1, hr, hg, hb⟩
  have HS := Lib.hid (ownerOf_any g A1 n1 c1 ds 0 w1 hr hn1 hy1 hn2 (by omega))
  have HB1 := Lib.hid hb
  clear hn1 hr hb HC hy1
  go_wp2_with fail
  refine HS.out.mono ?_
  rintro e w2 ⟨B, l, m, es, o, rfl, h1, h2, h3, h4, h5, ho1, ho2, h6, _, hf⟩
  have HK := Lib.hid (show DrO1 w (.returned (.tuple #[.slice B l m, .int .i64 o])) w2 from ⟨B, l, m, es, o, rfl, ho1, ho2, GO.of h1 h2 h3 h4 h5 h6 HB1.out hg hf⟩)
  clear h1 h2 h3 h4 h5 h6 hf HS HB1 ho1 ho2
  go_wp2
  go_ret2
  exact HK.out

set_option maxRecDepth 100000 in
set_option maxHeartbeats 1600000 in
theorem spec_DrawLabelsOf (A : Option Addr) (n c : Nat) (bs : List Int) (w : World) (hn : n = bs.length) (hnc : n ≤ c) (h : BS w w.heap.size A bs) (hy : BY bs) (hs : n ≤ 1048576) :
    Calls Try.prog 31 #[.slice A n c] w fun e w' => DrO1 w e w' := by
  have HC := Lib.hid (spec_newReader A n c bs w w.heap.size (Nat.le_refl _) hn hnc h hy hs)
  clear hn hnc h hy hs
  go_enter Try.func31, Try.ntmps31
  go_wp2_with fail
  refine HC.out.mono ?_
  rintro e w1 ⟨g, A1, n1, c1, ds, rfl, hn1, hn2, hy1, hr, hg, hb⟩
  have HS := Lib.hid (ownerOf_any g A1 n1 c1 ds 0 w1 hr hn1 hy1 hn2 (by omega))
  have HB1 := Lib.hid hb
  clear hn1 hr hb HC hy1
  go_wp2_with fail
  refine HS.out.mono ?_
  rintro e w2 ⟨B, l, m, es, o, rfl, h1, h2, h3, h4, h5, ho1, ho2, h6, _, hf⟩
  have HK := Lib.hid (show DrO1 w (.returned (.tuple #[.slice B l m, .int .i64 o])) w2 from ⟨B, l, m, es, o, rfl, ho1, ho2, GO.of h1 h2 h3 h4 h5 h6 HB1.out hg hf⟩)
  clear h1 h2 h3 h4 h5 h6 hf HS HB1 ho1 ho2
  go_wp2
  go_ret2
  exact HK.out

set_option maxRecDepth 100000 in
set_option maxHeartbeats 1600000 in
theorem spec_DrawAddCleanup (A : Option Addr) (n c : Nat) (bs : List Int) (w : World) (hn : n = bs.length) (hnc : n ≤ c) (h : BS w w.heap.size A bs) (hy : BY bs) (hs : n ≤ 1048576) :
    Calls Try.prog 16 #[.slice A n c] w fun e w' => DrO2 w e w' := by
  have HC := Lib.hid (spec_newReader A n c bs w w.heap.size (Nat.le_refl _) hn hnc h hy hs)
  clear hn hnc h hy hs
  go_enter Try.func16, Try.ntmps16
  go_wp2_with fail
  refine HC.out.mono ?_
  rintro e w1 ⟨g, A1, n1, c1, ds, rfl, hn1, hn2, hy1, hr, hg, hb⟩
  have HS := Lib.hid (ownerOf_any g A1 n1 c1 ds 0 w1 hr hn1 hy1 hn2 (by omega))
  have HB1 := Lib.hid hb
  have HN1 := Lib.hid hn1
  have HY1 := Lib.hid hy1
  have HGB := Lib.hid hr.lt
  clear hn1 hr hb HC hy1
  go_wp2_with fail
  refine HS.out.mono ?_
  rintro e w2 ⟨B, l, m, es, o, rfl, h1, h2, h3, h4, h5, ho1, ho2, h6, hr6, hf⟩
  have HL1 := Lib.hid h1
  have HLE := Lib.hid h5
  have HO := Lib.hid (And.intro ho1 ho2)
  have HK2a := Lib.hid h6
  have HR2a := Lib.hid hr6
  have HF2a := Lib.hid hf
  clear h1 h5 h6 hr6 hf HS ho1 ho2
  have HK2 := Lib.hid (HK2a.out.below (below_new w2 (.cells #[.int .i64 7, .int .i64 0, .int .i64 50, .int .i64 51, .int .i64 (-1)] 3)))
  have HR2 := Lib.hid (HR2a.out.alloc (.cells #[.int .i64 7, .int .i64 0, .int .i64 50, .int .i64 51, .int .i64 (-1)] 3))
  have HF2 := Lib.hid (HF2a.out.trans (Frd.of_below (below_new w2 (.cells #[.int .i64 7, .int .i64 0, .int .i64 50, .int .i64 51, .int .i64 (-1)] 3)) HF2a.out.size))
  have hgw2 : g < w2.heap.size := HR2a.out.lt
  clear HK2a HR2a HF2a
  go_wp2_with fail
  refine (one_any g A1 n1 c1 ds (0 + 70) w2.heap.size 0 5 5 [7, 0, 50, 51, -1] _ HR2.out HN1.out HY1.out hn2 (by omega) rfl (by omega) (by omega) ?_ (by omega) (by simp)).mono ?_
  · intro j hj
    have : j = 0 ∨ j = 1 ∨ j = 2 ∨ j = 3 ∨ j = 4 := by omega
    rcases this with rfl | rfl | rfl | rfl | rfl <;> go_simp
  rintro e w3 ⟨k, rfl, hxm, hr4, ht4⟩
  have hk : -1 ≤ k ∧ k ≤ 51 := by
    simp only [List.mem_cons, List.not_mem_nil, or_false] at hxm
    omega
  have HK3a := Lib.hid (HK2.out.pick ht4 HGB.out)
  have HR3a := Lib.hid hr4
  have HF3a := Lib.hid (HF2.out.trans (Frd.of_tch ht4 HF2.out.size))
  have HXk := Lib.hid hk
  clear hxm hr4 ht4 HK2 HR2 HF2 hk hgw2
  have HK := Lib.hid (show DrO2 w (.returned (.tuple #[.slice B l m, .int .i64 o, .int .i64 k])) w3 from ⟨B, l, m, es, o, k, rfl, HO.out.1, HO.out.2, HXk.out.1, HXk.out.2, GO.of HL1.out h2 h3 h4 HLE.out HK3a.out HB1.out hg HF3a.out⟩)
  clear HK3a HR3a HF3a HL1 HLE HO HXk HB1
  go_wp2
  go_ret3
  exact HK.out

end Go.Proofs.Ytkfglodjnnlbkaa
