/- laws.join where the first list lies in a block and may be empty. -/
import Derived.Test.YtdhjflhpenkchaaH20
import Derived.Test.YtdhjflhpenkchaaQNeedOf
import Derived.Maps.AppendAt

namespace Go.Proofs.Ytdhjflhpenkchaa
set_option linter.unusedSimpArgs false
set_option linter.unusedVariables false
open Go.RowKit

set_option maxRecDepth 100000 in
set_option maxHeartbeats 1600000 in
theorem laws_join2 (A A' : Option Addr) (n c m c' : Nat) (xs ys : List Int) (w : World) (hn : n = xs.length) (h : IS w w.heap.size A xs) (hs : n ≤ 2000000) (hm : m = ys.length) (h' : IS w w.heap.size A' ys) (hs' : m ≤ 2000000) (b off : Nat) (hA : A = some ⟨b, off, none⟩) (hbBx : b < w.heap.size) (hp' : 0 < m) :
    Calls Try.prog 28 #[.slice A n c, .slice A' m c'] w fun e w' => RetI w (xs ++ ys) e w' := by
  obtain ⟨i0, hi, hz0, hz1, hz2⟩ := info_parts info_int
  have hc : ∀ j, j < xs.length → w.cell? ⟨b, off + j, none⟩ = some (.int .i64 (xs.getD j 0)) := fun j hj => by
    obtain ⟨b2, off2, e, _, hc⟩ := h (by omega)
    rw [hA] at e
    cases e
    exact hc j hj
  subst hA
  have hbB := hbBx
  obtain ⟨b', off', rfl, hbB', hc'⟩ := h' (by omega)
  have HNEW := Lib.hid (World.ownsRow_lit (e := 3) (size := 1) (base := w.heap.size) w #[] 0 (Nat.le_refl _) (by unfold maxLen; omega) (by simp))
  have HNS := Lib.hid (news_i fun j hj => (World.cell?_alloc_lt w (.cells #[] 3) ⟨b, off + j, none⟩ hbB).trans (hc j hj))
  have HC' := Lib.hid hc'
  have HN := Lib.hid hn
  have HM := Lib.hid hm
  clear hc hc' hn hm h h'
  go_enter Try.func28, Try.ntmps28
  go_wp2_with (at_builtin; refine wpList_append_own_at _ rfl _ _ 28 rfl w.heap.size 3 i0 (.int .i64 0) 1 8 Try.underlying28 hi hz0 hz1 hz2 rfl (by decide) _ _ _ rfl HNEW.out ⟨b, off, none⟩ n c (xs.map (Value.int .i64)) rfl (by rw [List.length_map, ← HN.out]; omega) HNS.out (one_i xs) (by unfold maxLen; omega) (by omega) (by simp) ?_)
  intro v1 w1 hown1 hgrow1 _ _
  have hb1 : Below w.heap.size w w1 := ((Below.refl _ _).alloc (Nat.le_refl _) (.cells #[] 3)).grown hgrow1 (by simp) (fun q hq => by simp [Value.ownBlock] at hq; omega)
  have HNS2 := Lib.hid (news_i fun j hj => (hb1.cell (p := ⟨b', off' + j, none⟩) hbB').trans (HC'.out j hj))
  have HO1 := Lib.hid hown1
  have HB1 := Lib.hid hb1
  clear hown1 hgrow1 hb1
  go_wp2_with (at_builtin; refine wpList_append_own_at _ rfl _ _ 28 rfl w.heap.size 3 i0 (.int .i64 0) 1 8 Try.underlying28 hi hz0 hz1 hz2 rfl (by decide) _ _ _ rfl HO1.out ⟨b', off', none⟩ m c' (ys.map (Value.int .i64)) rfl (by rw [List.length_map, ← HM.out]; omega) HNS2.out (one_i ys) (by unfold maxLen; omega) (by omega) HB1.out.size ?_)
  intro v2 w2 hown2 hgrow2 _ _
  have hpos := HO1.out.lt
  have HB2 := Lib.hid (HB1.out.grown hgrow2 HB1.out.size (fun q hq => (hpos q hq).1))
  have HO2 := Lib.hid hown2
  clear hown2 hgrow2 hpos
  go_wp2
  go_ret
  refine ⟨v2, rfl, ?_, HB2.out⟩
  unfold OwnI
  rw [List.length_append, ← HN.out, ← HM.out]
  simpa using HO2.out
end Go.Proofs.Ytdhjflhpenkchaa
