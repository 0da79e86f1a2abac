/- Appending a list of numbers that may be empty, and laws.join of any two lists. -/
import Derived.Test.YtkfglodjnnlbkaaT19a
import Derived.Maps.AppendAt


namespace Go.Proofs.Ytkfglodjnnlbkaa
set_option linter.unusedSimpArgs false
set_option linter.unusedVariables false
open Go.RowKit

theorem run_append_is (w : World) (base : Nat) (v : Value) (k : Nat) (xs : List Value) (hown : w.ownsRow base 3 1 v k xs) (A : Option Addr) (m c : Nat) (ys : List Int) (hm : m = ys.length) (h : IS w w.heap.size A ys) (hk : k + m ≤ 4000000) (hbase : base ≤ w.heap.size) (ty : TypeId) :
    ∃ v' w', (Builtin.append_ #[26, 26] ty #[v, .slice A m c]).run Try.prog w = .ok v' w' ∧ w'.ownsRow base 3 1 v' (k + m) (xs ++ ys.map (Value.int .i64)) ∧ w.grownBy w' v.ownBlock ∧ (v'.ownBlock = v.ownBlock ∨ v'.ownBlock = some w.heap.size) := by
  obtain ⟨i0, hi, hz0, hz1, hz2⟩ := info_parts info_int
  have key : ∀ ad : Addr, A = some ad → (∀ j u, (ys.map (Value.int .i64))[j]? = some u → w.cell? (ad.add j) = some u) → ∃ v' w', (Builtin.append_ #[26, 26] ty #[v, .slice A m c]).run Try.prog w = .ok v' w' ∧ w'.ownsRow base 3 1 v' (k + m) (xs ++ ys.map (Value.int .i64)) ∧ w.grownBy w' v.ownBlock ∧ (v'.ownBlock = v.ownBlock ∨ v'.ownBlock = some w.heap.size) := by
    rintro ad rfl hn
    obtain ⟨v', w', h1, h2, h3, _, h5⟩ := run_append_own_at (P := Try.prog) w base 26 ty 3 i0 (.int .i64 0) 1 8 Try.underlying26 hi hz0 hz1 hz2 rfl (by decide) v k xs hown ad m c (ys.map (Value.int .i64)) (by rw [List.length_map]; omega) hn (one_i ys) (by unfold maxLen; omega) (by omega) hbase
    exact ⟨v', w', h1, h2, h3, h5⟩
  cases ys with
  | cons y ys =>
    obtain ⟨b, off, hA, hb, hc⟩ := h (by simp)
    exact key _ hA (news_i hc)
  | nil =>
    cases A with
    | some ad => exact key ad rfl (fun j u hj => by simp at hj)
    | none =>
      have hm0 : m = 0 := hm
      subst hm0
      have hinfo : (Try.prog.info? 3) = some i0 := hi
      refine ⟨v, w, ?_, by simpa using hown, ⟨rfl, rfl, rfl, Nat.le_refl _, fun _ _ _ => rfl⟩, .inl rfl⟩
      rcases hown.2 with ⟨hv, h0⟩ | ⟨g, cap, cur, hv, _, _, hkc, _⟩
      · subst hv; subst h0
        simp [Builtin.append_, run_underlying (P := Try.prog) (w := w) Try.underlying26, sizeOf, typeInfo, hinfo, Builtin.lenOf, Builtin.firstCells, loadCells, loadCellsFrom, storeCells]
      · subst hv
        simp [Builtin.append_, run_underlying (P := Try.prog) (w := w) Try.underlying26, sizeOf, typeInfo, hinfo, Builtin.lenOf, Builtin.firstCells, loadCells, loadCellsFrom, storeCells, hkc]
theorem wpList_append_is (w : World) {ops : Array Oper} {rest : List Oper} {o : Oper} {a : Act} {Q : Exit → Act → World → Prop} (hgd : o.guard = none) (s x : Operand)
    (ho : o.op = .call { callee := .builtin .append, args := #[s, x], argTypes := #[26, 26] })
    (base : Nat) (v : Value) (k : Nat) (xs : List Value) (hs : a.eval s = v) (hown : w.ownsRow base 3 1 v k xs) (A : Option Addr) (m c : Nat) (ys : List Int) (hx : a.eval x = .slice A m c) (hm : m = ys.length) (hI : IS w w.heap.size A ys) (hk : k + m ≤ 4000000) (hbase : base ≤ w.heap.size)
    (h : ∀ v' w', w'.ownsRow base 3 1 v' (k + m) (xs ++ ys.map (Value.int .i64)) → w.grownBy w' v.ownBlock → (v'.ownBlock = v.ownBlock ∨ v'.ownBlock = some w.heap.size) → wpList Try.prog ops Q rest (a.put o.dst v') w') :
    wpList Try.prog ops Q (o :: rest) a w := by
  refine wpList_plain hgd fun K hK => ?_
  obtain ⟨v', w', hr, h2, h3, h5⟩ := run_append_is w base v k xs hown A m c ys hm hI hk hbase o.type
  unfold Oper.wp execOp
  simp only [ho, resolve, invoke, builtin, Sem.run_bind, Sem.run_pure, Result.andThen_ok, List.map_toArray, List.map_cons, List.map_nil, hs, hx, hr]
  exact hK _ _ (h v' w' h2 h3 h5)
theorem step_append_is (w : World) {ops : Array Oper} {o : Oper} {a : Act} {K : Act → World → Prop} {Q : Exit → Act → World → Prop} {E : Prop} (hgd : o.guard = none) (s x : Operand)
    (ho : o.op = .call { callee := .builtin .append, args := #[s, x], argTypes := #[26, 26] })
    (base : Nat) (v : Value) (k : Nat) (xs : List Value) (hs : a.eval s = v) (hown : w.ownsRow base 3 1 v k xs) (A : Option Addr) (m c : Nat) (ys : List Int) (hx : a.eval x = .slice A m c) (hm : m = ys.length) (hI : IS w w.heap.size A ys) (hk : k + m ≤ 4000000) (hbase : base ≤ w.heap.size)
    (h : ∀ v' w', w'.ownsRow base 3 1 v' (k + m) (xs ++ ys.map (Value.int .i64)) → w.grownBy w' v.ownBlock → (v'.ownBlock = v.ownBlock ∨ v'.ownBlock = some w.heap.size) → K (a.put o.dst v') w') :
    if Region.wanted o (yielded ops a.tmps) = true then Oper.wp Try.prog o a w K Q else E := by
  obtain ⟨v', w', hr, h2, h3, h5⟩ := run_append_is w base v k xs hown A m c ys hm hI hk hbase o.type
  have hw : Oper.wp Try.prog o a w K Q := by
    unfold Oper.wp execOp
    simp only [ho, resolve, invoke, builtin, Sem.run_bind, Sem.run_pure, Result.andThen_ok, List.map_toArray, List.map_cons, List.map_nil, hs, hx, hr]
    exact h v' w' h2 h3 h5
  have hwt : Region.wanted o (yielded ops a.tmps) = true := by unfold Region.wanted; rw [hgd]
  rw [if_pos hwt]; exact hw

set_option maxHeartbeats 1600000 in
theorem laws_joinG (A A' : Option Addr) (n c m c' : Nat) (xs ys : List Int) (w : World) (hn : n = xs.length) (h : IS w w.heap.size A xs) (hs : n ≤ 1000000) (hm : m = ys.length) (h' : IS w w.heap.size A' ys) (hs' : m ≤ 1000000) :
    Calls Try.prog 22 #[.slice A n c, .slice A' m c'] w fun e w' => RetI w (xs ++ ys) e w' := by
  have HNEW := Lib.hid (World.ownsRow_lit (e := 3) (size := 1) (base := w.heap.size) w #[] 0 (Nat.le_refl _) (by unfold maxLen; omega) (by simp))
  have hb0 : Below w.heap.size w (w.alloc (.cells #[] 3)) := (Below.refl _ _).alloc (Nat.le_refl _) _
  have HI1 := Lib.hid ((h.below hb0 (Nat.le_refl _)).more hb0.size)
  have HI2 := Lib.hid ((h'.below hb0 (Nat.le_refl _)).more hb0.size)
  have HH := Lib.hid h'
  have HN := Lib.hid hn
  have HM := Lib.hid hm
  clear hn hm h h' hb0
  go_enter Try.func22, Try.ntmps22
  go_wp2_with (at_builtin; refine wpList_append_is _ rfl _ _ rfl w.heap.size _ _ _ rfl HNEW.out A n c xs rfl HN.out HI1.out (by omega) (by simp) ?_)
  intro v1 w1 hown1 hgrow1 _
  have hb1 : Below w.heap.size w w1 := ((Below.refl _ _).alloc (Nat.le_refl _) (.cells #[] 3)).grown hgrow1 (by simp) (fun q hq => by simp [Value.ownBlock] at hq; omega)
  have HO1 := Lib.hid hown1
  have HB1 := Lib.hid hb1
  have HI3 := Lib.hid ((HH.out.below hb1 (Nat.le_refl _)).more hb1.size)
  clear hown1 hgrow1 hb1 HI1 HI2 HH
  go_wp2_with (at_builtin; refine wpList_append_is _ rfl _ _ rfl w.heap.size _ _ _ rfl HO1.out A' m c' ys rfl HM.out HI3.out (by omega) HB1.out.size ?_)
  intro v2 w2 hown2 hgrow2 _
  have hpos := HO1.out.lt
  have HB2 := Lib.hid (HB1.out.grown hgrow2 HB1.out.size (fun q hq => (hpos q hq).1))
  have HO2 := Lib.hid hown2
  clear hown2 hgrow2 hpos
  go_wp2
  go_ret
  refine ⟨v2, rfl, ?_, HB2.out⟩
  unfold OwnI
  rw [List.length_append, ← HN.out, ← HM.out]
  simpa using HO2.out
end Go.Proofs.Ytkfglodjnnlbkaa
