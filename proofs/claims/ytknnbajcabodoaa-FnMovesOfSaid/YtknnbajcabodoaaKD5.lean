/- What the laws on two lists of keys draw. -/
import Derived.Test.YtknnbajcabodoaaQ3
import Derived.Test.YtknnbajcabodoaaKD4

namespace Go.Proofs.Ytknnbajcabodoaa
set_option linter.unusedSimpArgs false
set_option linter.unusedVariables false
open Go.RowKit

/-- Returns two lists of at most eleven numbers. -/
def DrK2 (w : World) (e : Ending) (w' : World) : Prop :=
  ∃ (A1 : Option Addr) (n1 c1 : Nat) (xs : List Int) (A2 : Option Addr) (n2 c2 : Nat) (ys : List Int), e = .returned (.tuple #[.slice A1 n1 c1, .slice A2 n2 c2]) ∧ n1 = xs.length ∧ n1 ≤ 11 ∧ n1 ≤ c1 ∧ n2 = ys.length ∧ n2 ≤ 11 ∧ n2 ≤ c2 ∧ IS w' w'.heap.size A1 xs ∧ IS w' w'.heap.size A2 ys ∧ Below w.heap.size w w'

set_option maxRecDepth 100000 in
set_option maxHeartbeats 1600000 in
theorem spec_DrawStaysOf (A : Option Addr) (n c : Nat) (bs : List Int) (w : World) (hn : n = bs.length) (hnc : n ≤ c) (h : BS w w.heap.size A bs) (hy : BY bs) (hs : n ≤ 1048576) :
    Calls Try.prog 8 #[.slice A n c] w fun e w' => DrK2 w e w' := by
  have HC := Lib.hid (spec_newReader A n c bs w w.heap.size (Nat.le_refl _) hn hnc h hy hs)
  clear hn hnc h hy hs
  go_enter Try.func8, Try.ntmps8
  go_wp2_with fail
  refine HC.out.mono ?_
  rintro e w1 ⟨g, A1, n1, c1, ds, rfl, hn1, hn2, hy1, hr, hg, hb⟩
  have HS := Lib.hid (keysOf_any g A1 n1 c1 ds 0 w1 hr hn1 hy1 hn2 (by omega))
  have HB1 := Lib.hid hb
  clear hn1 hr hb HC hy1
  go_wp2_with fail
  refine HS.out.mono ?_
  rintro e w2 ⟨A2, l2, c2, xs, A3, l3, c3, ys, rfl, h1, h2, h3, h4, h5, h6, h7, h8, _, hf⟩
  have HK := Lib.hid (show DrK2 w (.returned (.tuple #[.slice A2 l2 c2, .slice A3 l3 c3])) w2 from ⟨A2, l2, c2, xs, A3, l3, c3, ys, rfl, h1, h2, h3, h4, h5, h6, h7, h8, HB1.out.trans (hf.tch.below (B := w.heap.size) (by omega) HB1.out.size)⟩)
  clear h1 h2 h3 h4 h5 h6 h7 h8 hf HS HB1
  go_wp2
  go_ret2
  exact HK.out

set_option maxRecDepth 100000 in
set_option maxHeartbeats 1600000 in
theorem spec_DrawMovesOf (A : Option Addr) (n c : Nat) (bs : List Int) (w : World) (hn : n = bs.length) (hnc : n ≤ c) (h : BS w w.heap.size A bs) (hy : BY bs) (hs : n ≤ 1048576) :
    Calls Try.prog 16 #[.slice A n c] w fun e w' => DrK2 w e w' := by
  have HC := Lib.hid (spec_newReader A n c bs w w.heap.size (Nat.le_refl _) hn hnc h hy hs)
  clear hn hnc h hy hs
  go_enter Try.func16, Try.ntmps16
  go_wp2_with fail
  refine HC.out.mono ?_
  rintro e w1 ⟨g, A1, n1, c1, ds, rfl, hn1, hn2, hy1, hr, hg, hb⟩
  have HS := Lib.hid (keysOf_any g A1 n1 c1 ds 0 w1 hr hn1 hy1 hn2 (by omega))
  have HB1 := Lib.hid hb
  clear hn1 hr hb HC hy1
  go_wp2_with fail
  refine HS.out.mono ?_
  rintro e w2 ⟨A2, l2, c2, xs, A3, l3, c3, ys, rfl, h1, h2, h3, h4, h5, h6, h7, h8, _, hf⟩
  have HK := Lib.hid (show DrK2 w (.returned (.tuple #[.slice A2 l2 c2, .slice A3 l3 c3])) w2 from ⟨A2, l2, c2, xs, A3, l3, c3, ys, rfl, h1, h2, h3, h4, h5, h6, h7, h8, HB1.out.trans (hf.tch.below (B := w.heap.size) (by omega) HB1.out.size)⟩)
  clear h1 h2 h3 h4 h5 h6 h7 h8 hf HS HB1
  go_wp2
  go_ret2
  exact HK.out

set_option maxRecDepth 100000 in
set_option maxHeartbeats 1600000 in
theorem spec_DrawPatchOf (A : Option Addr) (n c : Nat) (bs : List Int) (w : World) (hn : n = bs.length) (hnc : n ≤ c) (h : BS w w.heap.size A bs) (hy : BY bs) (hs : n ≤ 1048576) :
    Calls Try.prog 19 #[.slice A n c] w fun e w' => DrK2 w e w' := by
  have HC := Lib.hid (spec_newReader A n c bs w w.heap.size (Nat.le_refl _) hn hnc h hy hs)
  clear hn hnc h hy hs
  go_enter Try.func19, Try.ntmps19
  go_wp2_with fail
  refine HC.out.mono ?_
  rintro e w1 ⟨g, A1, n1, c1, ds, rfl, hn1, hn2, hy1, hr, hg, hb⟩
  have HS := Lib.hid (keysOf_any g A1 n1 c1 ds 0 w1 hr hn1 hy1 hn2 (by omega))
  have HB1 := Lib.hid hb
  clear hn1 hr hb HC hy1
  go_wp2_with fail
  refine HS.out.mono ?_
  rintro e w2 ⟨A2, l2, c2, xs, A3, l3, c3, ys, rfl, h1, h2, h3, h4, h5, h6, h7, h8, _, hf⟩
  have HK := Lib.hid (show DrK2 w (.returned (.tuple #[.slice A2 l2 c2, .slice A3 l3 c3])) w2 from ⟨A2, l2, c2, xs, A3, l3, c3, ys, rfl, h1, h2, h3, h4, h5, h6, h7, h8, HB1.out.trans (hf.tch.below (B := w.heap.size) (by omega) HB1.out.size)⟩)
  clear h1 h2 h3 h4 h5 h6 h7 h8 hf HS HB1
  go_wp2
  go_ret2
  exact HK.out

end Go.Proofs.Ytknnbajcabodoaa
