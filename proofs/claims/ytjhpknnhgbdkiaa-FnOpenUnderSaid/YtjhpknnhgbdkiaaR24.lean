/- What the laws on owners draw. (Made by r24.py.) -/
import Derived.Test.YtjhpknnhgbdkiaaP7a
import Derived.Test.YtjhpknnhgbdkiaaD21

namespace Go.Proofs.Ytjhpknnhgbdkiaa
set_option linter.unusedSimpArgs false
set_option linter.unusedVariables false
open Go.RowKit

/-- A slice of owners, as drawn: at most twelve, with short lists. -/
def GO (w0 w : World) (A : Option Addr) (n c : Nat) (ds : List On) : Prop :=
  n = ds.length ∧ 1 ≤ n ∧ n ≤ 12 ∧ n ≤ c ∧ OB ds ∧ (∀ j, (ds.getD j default).cl.length ≤ 6 ∧ (ds.getD j default).cx.length ≤ 3) ∧ OS w w.heap.size A ds ∧ Below w0.heap.size w0 w
def DrO0 (w : World) (e : Ending) (w' : World) : Prop :=
  ∃ (A1 : Option Addr) (n1 c1 : Nat) (ds : List On), e = .returned (.slice A1 n1 c1) ∧ GO w w' A1 n1 c1 ds
def DrO1 (w : World) (e : Ending) (w' : World) : Prop :=
  ∃ (A1 : Option Addr) (n1 c1 : Nat) (ds : List On) (o : Int), e = .returned (.tuple #[.slice A1 n1 c1, .int .i64 o]) ∧ -1 ≤ o ∧ o ≤ 12 ∧ GO w w' A1 n1 c1 ds
def DrO2 (w : World) (e : Ending) (w' : World) : Prop :=
  ∃ (A1 : Option Addr) (n1 c1 : Nat) (ds : List On) (o k : Int), e = .returned (.tuple #[.slice A1 n1 c1, .int .i64 o, .int .i64 k]) ∧ -1 ≤ o ∧ o ≤ 12 ∧ -1 ≤ k ∧ k ≤ 51 ∧ GO w w' A1 n1 c1 ds
def DrO3 (w : World) (e : Ending) (w' : World) : Prop :=
  ∃ (A1 : Option Addr) (n1 c1 : Nat) (ds : List On) (o k x : Int), e = .returned (.tuple #[.slice A1 n1 c1, .int .i64 o, .int .i64 k, .int .i64 x]) ∧ -1 ≤ o ∧ o ≤ 12 ∧ -1 ≤ k ∧ k ≤ 51 ∧ -1 ≤ x ∧ x ≤ 51 ∧ GO w w' A1 n1 c1 ds
theorem results_four {fn : Func} {t u v x : Tmp} (h : fn.results = #[.tmp t, .tmp u, .tmp v, .tmp x]) (tmps : Array Value) (P : Program) (w : World) :
    (results fn tmps).run P w = .ok (.tuple #[tmps.getD t undef, tmps.getD u undef, tmps.getD v undef, tmps.getD x undef]) w := by
  simp [results, h]
theorem GO.of {g n c B0 : Nat} {A : Option Addr} {ds : List On} {w0 w1 w : World} (h1 : n = ds.length) (h2 : 1 ≤ n) (h3 : n ≤ 12) (h4 : n ≤ c) (h5 : ∀ j, (ds.getD j default).cl.length ≤ 6 ∧ (ds.getD j default).cx.length ≤ 3) (h6 : KpO B0 A ds w) (hb1 : Below w0.heap.size w0 w1) (hg : w0.heap.size ≤ g) (hf : Frd g w1.heap.size w1 w) : GO w0 w A n c ds :=
  ⟨h1, h2, h3, h4, OB.small (by omega) (fun j => ⟨by have := (h5 j).1; omega, by have := (h5 j).2; omega⟩), h5, h6.os, hb1.trans (hf.tch.below (B := w0.heap.size) hg hb1.size)⟩


set_option maxRecDepth 100000 in
set_option maxHeartbeats 1600000 in
theorem spec_DrawLiveOf (A : Option Addr) (n c : Nat) (bs : List Int) (w : World) (hn : n = bs.length) (hnc : n ≤ c) (h : BS w w.heap.size A bs) (hy : BY bs) (hs : n ≤ 1048576) :
    Calls Try.prog 22 #[.slice A n c] w fun e w' => DrO0 w e w' := by
  have HC := Lib.hid (spec_newReader A n c bs w w.heap.size (Nat.le_refl _) hn hnc h hy hs)
  clear hn hnc h hy hs
  go_enter Try.func22, Try.ntmps22
  go_wp2_with fail
  refine HC.out.mono ?_
  rintro e w1 ⟨g, A1, n1, c1, ds, rfl, hn1, hn2, hy1, hr, hg, hb⟩
  have HS := Lib.hid (someOwners_any g A1 n1 c1 ds 0 w1 hr hn1 hy1 hn2 (by omega))
  have HB1 := Lib.hid hb
  clear hn1 hr hb HC hy1
  go_wp2_with fail
  refine HS.out.mono ?_
  rintro e w2 ⟨B, l, m, es, rfl, h1, h2, h3, h4, h5, h6, _, hf⟩
  have HK := Lib.hid (show DrO0 w (.returned (.slice B l m)) w2 from ⟨B, l, m, es, rfl, GO.of h1 h2 h3 h4 h5 h6 HB1.out hg hf⟩)
  clear h1 h2 h3 h4 h5 h6 hf HS HB1
  go_wp2
  go_ret
  exact HK.out

set_option maxRecDepth 100000 in
set_option maxHeartbeats 1600000 in
theorem spec_DrawKidsOf (A : Option Addr) (n c : Nat) (bs : List Int) (w : World) (hn : n = bs.length) (hnc : n ≤ c) (h : BS w w.heap.size A bs) (hy : BY bs) (hs : n ≤ 1048576) :
    Calls Try.prog 9 #[.slice A n c] w fun e w' => DrO1 w e w' := by
  have HC := Lib.hid (spec_newReader A n c bs w w.heap.size (Nat.le_refl _) hn hnc h hy hs)
  clear hn hnc h hy hs
  go_enter Try.func9, Try.ntmps9
  go_wp2_with fail
  refine HC.out.mono ?_
  rintro e w1 ⟨g, A1, n1, c1, ds, rfl, hn1, hn2, hy1, hr, hg, hb⟩
  have HS := Lib.hid (ownerOf_any g A1 n1 c1 ds 0 w1 hr hn1 hy1 hn2 (by omega))
  have HB1 := Lib.hid hb
  clear hn1 hr hb HC hy1
  go_wp2_with fail
  refine HS.out.mono ?_
  rintro e w2 ⟨B, l, m, es, o, rfl, h1, h2, h3, h4, h5, ho1, ho2, h6, _, hf⟩
  have HK := Lib.hid (show DrO1 w (.returned (.tuple #[.slice B l m, .int .i64 o])) w2 from ⟨B, l, m, es, o, rfl, ho1, ho2, GO.of h1 h2 h3 h4 h5 h6 HB1.out hg hf⟩)
  clear h1 h2 h3 h4 h5 h6 hf HS HB1 ho1 ho2
  go_wp2
  go_ret2
  exact HK.out

set_option maxRecDepth 100000 in
set_option maxHeartbeats 1600000 in
theorem spec_DrawAboveOf (A : Option Addr) (n c : Nat) (bs : List Int) (w : World) (hn : n = bs.length) (hnc : n ≤ c) (h : BS w w.heap.size A bs) (hy : BY bs) (hs : n ≤ 1048576) :
    Calls Try.prog 16 #[.slice A n c] w fun e w' => DrO1 w e w' := by
  have HC := Lib.hid (spec_newReader A n c bs w w.heap.size (Nat.le_refl _) hn hnc h hy hs)
  clear hn hnc h hy hs
  go_enter Try.func16, Try.ntmps16
  go_wp2_with fail
  refine HC.out.mono ?_
  rintro e w1 ⟨g, A1, n1, c1, ds, rfl, hn1, hn2, hy1, hr, hg, hb⟩
  have HS := Lib.hid (ownerOf_any g A1 n1 c1 ds 0 w1 hr hn1 hy1 hn2 (by omega))
  have HB1 := Lib.hid hb
  clear hn1 hr hb HC hy1
  go_wp2_with fail
  refine HS.out.mono ?_
  rintro e w2 ⟨B, l, m, es, o, rfl, h1, h2, h3, h4, h5, ho1, ho2, h6, _, hf⟩
  have HK := Lib.hid (show DrO1 w (.returned (.tuple #[.slice B l m, .int .i64 o])) w2 from ⟨B, l, m, es, o, rfl, ho1, ho2, GO.of h1 h2 h3 h4 h5 h6 HB1.out hg hf⟩)
  clear h1 h2 h3 h4 h5 h6 hf HS HB1 ho1 ho2
  go_wp2
  go_ret2
  exact HK.out

set_option maxRecDepth 100000 in
set_option maxHeartbeats 1600000 in
theorem spec_DrawOpenUnder (A : Option Addr) (n c : Nat) (bs : List Int) (w : World) (hn : n = bs.length) (hnc : n ≤ c) (h : BS w w.heap.size A bs) (hy : BY bs) (hs : n ≤ 1048576) :
    Calls Try.prog 26 #[.slice A n c] w fun e w' => DrO1 w e w' := by
  have HC := Lib.hid (spec_newReader A n c bs w w.heap.size (Nat.le_refl _) hn hnc h hy hs)
  clear hn hnc h hy hs
  go_enter Try.func26, Try.ntmps26
  go_wp2_with fail
  refine HC.out.mono ?_
  rintro e w1 ⟨g, A1, n1, c1, ds, rfl, hn1, hn2, hy1, hr, hg, hb⟩
  have HS := Lib.hid (ownerOf_any g A1 n1 c1 ds 0 w1 hr hn1 hy1 hn2 (by omega))
  have HB1 := Lib.hid hb
  clear hn1 hr hb HC hy1
  go_wp2_with fail
  refine HS.out.mono ?_
  rintro e w2 ⟨B, l, m, es, o, rfl, h1, h2, h3, h4, h5, ho1, ho2, h6, _, hf⟩
  have HK := Lib.hid (show DrO1 w (.returned (.tuple #[.slice B l m, .int .i64 o])) w2 from ⟨B, l, m, es, o, rfl, ho1, ho2, GO.of h1 h2 h3 h4 h5 h6 HB1.out hg hf⟩)
  clear h1 h2 h3 h4 h5 h6 hf HS HB1 ho1 ho2
  go_wp2
  go_ret2
  exact HK.out

set_option maxRecDepth 100000 in
set_option maxHeartbeats 1600000 in
theorem spec_DrawLookUp (A : Option Addr) (n c : Nat) (bs : List Int) (w : World) (hn : n = bs.length) (hnc : n ≤ c) (h : BS w w.heap.size A bs) (hy : BY bs) (hs : n ≤ 1048576) :
    Calls Try.prog 19 #[.slice A n c] w fun e w' => DrO2 w e w' := by
  have HC := Lib.hid (spec_newReader A n c bs w w.heap.size (Nat.le_refl _) hn hnc h hy hs)
  clear hn hnc h hy hs
  go_enter Try.func19, Try.ntmps19
  go_wp2_with fail
  refine HC.out.mono ?_
  rintro e w1 ⟨g, A1, n1, c1, ds, rfl, hn1, hn2, hy1, hr, hg, hb⟩
  have HS := Lib.hid (ownerOf_any g A1 n1 c1 ds 0 w1 hr hn1 hy1 hn2 (by omega))
  have HB1 := Lib.hid hb
  have HN1 := Lib.hid hn1
  have HY1 := Lib.hid hy1
  have HGB := Lib.hid hr.lt
  clear hn1 hr hb HC hy1
  go_wp2_with fail
  refine HS.out.mono ?_
  rintro e w2 ⟨B, l, m, es, o, rfl, h1, h2, h3, h4, h5, ho1, ho2, h6, hr6, hf⟩
  have HL1 := Lib.hid h1
  have HLE := Lib.hid h5
  have HO := Lib.hid (And.intro ho1 ho2)
  have HK2a := Lib.hid h6
  have HR2a := Lib.hid hr6
  have HF2a := Lib.hid hf
  clear h1 h5 h6 hr6 hf HS ho1 ho2
  have HK2 := Lib.hid (HK2a.out.below (below_new w2 (.cells #[.int .i64 0, .int .i64 1, .int .i64 2, .int .i64 3, .int .i64 (-1)] 3)))
  have HR2 := Lib.hid (HR2a.out.alloc (.cells #[.int .i64 0, .int .i64 1, .int .i64 2, .int .i64 3, .int .i64 (-1)] 3))
  have HF2 := Lib.hid (HF2a.out.trans (Frd.of_below (below_new w2 (.cells #[.int .i64 0, .int .i64 1, .int .i64 2, .int .i64 3, .int .i64 (-1)] 3)) HF2a.out.size))
  have hgw2 : g < w2.heap.size := HR2a.out.lt
  clear HK2a HR2a HF2a
  go_wp2_with fail
  refine (one_any g A1 n1 c1 ds (0 + 70) w2.heap.size 0 5 5 [0, 1, 2, 3, -1] _ HR2.out HN1.out HY1.out hn2 (by omega) rfl (by omega) (by omega) ?_ (by omega) (by simp)).mono ?_
  · intro j hj
    have : j = 0 ∨ j = 1 ∨ j = 2 ∨ j = 3 ∨ j = 4 := by omega
    rcases this with rfl | rfl | rfl | rfl | rfl <;> go_simp
  rintro e w3 ⟨k, rfl, hxm, hr4, ht4⟩
  have hk : -1 ≤ k ∧ k ≤ 51 := by
    simp only [List.mem_cons, List.not_mem_nil, or_false] at hxm
    omega
  have HK3a := Lib.hid (HK2.out.pick ht4 HGB.out)
  have HR3a := Lib.hid hr4
  have HF3a := Lib.hid (HF2.out.trans (Frd.of_tch ht4 HF2.out.size))
  have HXk := Lib.hid hk
  clear hxm hr4 ht4 HK2 HR2 HF2 hk hgw2
  have HK := Lib.hid (show DrO2 w (.returned (.tuple #[.slice B l m, .int .i64 o, .int .i64 k])) w3 from ⟨B, l, m, es, o, k, rfl, HO.out.1, HO.out.2, HXk.out.1, HXk.out.2, GO.of HL1.out h2 h3 h4 HLE.out HK3a.out HB1.out hg HF3a.out⟩)
  clear HK3a HR3a HF3a HL1 HLE HO HXk HB1
  go_wp2
  go_ret3
  exact HK.out

set_option maxRecDepth 100000 in
set_option maxHeartbeats 1600000 in
theorem spec_DrawSetContext (A : Option Addr) (n c : Nat) (bs : List Int) (w : World) (hn : n = bs.length) (hnc : n ≤ c) (h : BS w w.heap.size A bs) (hy : BY bs) (hs : n ≤ 1048576) :
    Calls Try.prog 30 #[.slice A n c] w fun e w' => DrO3 w e w' := by
  have HC := Lib.hid (spec_newReader A n c bs w w.heap.size (Nat.le_refl _) hn hnc h hy hs)
  clear hn hnc h hy hs
  go_enter Try.func30, Try.ntmps30
  go_wp2_with fail
  refine HC.out.mono ?_
  rintro e w1 ⟨g, A1, n1, c1, ds, rfl, hn1, hn2, hy1, hr, hg, hb⟩
  have HS := Lib.hid (ownerOf_any g A1 n1 c1 ds 0 w1 hr hn1 hy1 hn2 (by omega))
  have HB1 := Lib.hid hb
  have HN1 := Lib.hid hn1
  have HY1 := Lib.hid hy1
  have HGB := Lib.hid hr.lt
  clear hn1 hr hb HC hy1
  go_wp2_with fail
  refine HS.out.mono ?_
  rintro e w2 ⟨B, l, m, es, o, rfl, h1, h2, h3, h4, h5, ho1, ho2, h6, hr6, hf⟩
  have HL1 := Lib.hid h1
  have HLE := Lib.hid h5
  have HO := Lib.hid (And.intro ho1 ho2)
  have HK2a := Lib.hid h6
  have HR2a := Lib.hid hr6
  have HF2a := Lib.hid hf
  clear h1 h5 h6 hr6 hf HS ho1 ho2
  have HK2 := Lib.hid (HK2a.out.below (below_new w2 (.cells #[.int .i64 0, .int .i64 1, .int .i64 2, .int .i64 3, .int .i64 (-1)] 3)))
  have HR2 := Lib.hid (HR2a.out.alloc (.cells #[.int .i64 0, .int .i64 1, .int .i64 2, .int .i64 3, .int .i64 (-1)] 3))
  have HF2 := Lib.hid (HF2a.out.trans (Frd.of_below (below_new w2 (.cells #[.int .i64 0, .int .i64 1, .int .i64 2, .int .i64 3, .int .i64 (-1)] 3)) HF2a.out.size))
  have hgw2 : g < w2.heap.size := HR2a.out.lt
  clear HK2a HR2a HF2a
  go_wp2_with fail
  refine (one_any g A1 n1 c1 ds (0 + 70) w2.heap.size 0 5 5 [0, 1, 2, 3, -1] _ HR2.out HN1.out HY1.out hn2 (by omega) rfl (by omega) (by omega) ?_ (by omega) (by simp)).mono ?_
  · intro j hj
    have : j = 0 ∨ j = 1 ∨ j = 2 ∨ j = 3 ∨ j = 4 := by omega
    rcases this with rfl | rfl | rfl | rfl | rfl <;> go_simp
  rintro e w3 ⟨k, rfl, hxm, hr4, ht4⟩
  have hk : -1 ≤ k ∧ k ≤ 51 := by
    simp only [List.mem_cons, List.not_mem_nil, or_false] at hxm
    omega
  have HK3a := Lib.hid (HK2.out.pick ht4 HGB.out)
  have HR3a := Lib.hid hr4
  have HF3a := Lib.hid (HF2.out.trans (Frd.of_tch ht4 HF2.out.size))
  have HXk := Lib.hid hk
  clear hxm hr4 ht4 HK2 HR2 HF2 hk hgw2
  have HK3 := Lib.hid (HK3a.out.below (below_new w3 (.cells #[.int .i64 7, .int .i64 0, .int .i64 50, .int .i64 51, .int .i64 (-1)] 3)))
  have HR3 := Lib.hid (HR3a.out.alloc (.cells #[.int .i64 7, .int .i64 0, .int .i64 50, .int .i64 51, .int .i64 (-1)] 3))
  have HF3 := Lib.hid (HF3a.out.trans (Frd.of_below (below_new w3 (.cells #[.int .i64 7, .int .i64 0, .int .i64 50, .int .i64 51, .int .i64 (-1)] 3)) HF3a.out.size))
  have hgw3 : g < w3.heap.size := HR3a.out.lt
  clear HK3a HR3a HF3a
  go_wp2_with fail
  refine (one_any g A1 n1 c1 ds (0 + 70 + 1) w3.heap.size 0 5 5 [7, 0, 50, 51, -1] _ HR3.out HN1.out HY1.out hn2 (by omega) rfl (by omega) (by omega) ?_ (by omega) (by simp)).mono ?_
  · intro j hj
    have : j = 0 ∨ j = 1 ∨ j = 2 ∨ j = 3 ∨ j = 4 := by omega
    rcases this with rfl | rfl | rfl | rfl | rfl <;> go_simp
  rintro e w4 ⟨x, rfl, hxm, hr4, ht4⟩
  have hx : -1 ≤ x ∧ x ≤ 51 := by
    simp only [List.mem_cons, List.not_mem_nil, or_false] at hxm
    omega
  have HK4a := Lib.hid (HK3.out.pick ht4 HGB.out)
  have HR4a := Lib.hid hr4
  have HF4a := Lib.hid (HF3.out.trans (Frd.of_tch ht4 HF3.out.size))
  have HXx := Lib.hid hx
  clear hxm hr4 ht4 HK3 HR3 HF3 hx hgw3
  have HK := Lib.hid (show DrO3 w (.returned (.tuple #[.slice B l m, .int .i64 o, .int .i64 k, .int .i64 x])) w4 from ⟨B, l, m, es, o, k, x, rfl, HO.out.1, HO.out.2, HXk.out.1, HXk.out.2, HXx.out.1, HXx.out.2, GO.of HL1.out h2 h3 h4 HLE.out HK4a.out HB1.out hg HF4a.out⟩)
  clear HK4a HR4a HF4a HL1 HLE HO HXk HXx HB1
  go_wp2
  (try simp only [Exit.inBlock, Exit.then]); refine bodyPost_ret (results_four rfl _ _ _) rfl ?_
  exact HK.out
end Go.Proofs.Ytjhpknnhgbdkiaa
