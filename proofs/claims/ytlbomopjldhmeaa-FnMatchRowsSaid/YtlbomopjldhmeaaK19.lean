/- slices.Insert of one number and slices.Delete of one, over a row of the call's own; impl.putBehind, impl.takeAway. -/
import Derived.Test.YtlbomopjldhmeaaB1a
import Derived.Test.YtlbomopjldhmeaaK18
import Derived.Shelf.Spec.SlicesInsertGrow
import Derived.Shelf.Slices.Delete
import Derived.Sort.OwnSortedInts

namespace Go.Proofs.Ytlbomopjldhmeaa
set_option linter.unusedSimpArgs false
set_option linter.unusedVariables false
open Go.RowKit Go.Shelf

def insRen : Ren := ⟨fun | 21 => 77 | 27 => 85 | 28 => 86 | 35 => 88 | 39 => 89 | 23 => 76 | n => n, fun | 0 => 0 | 3 => 3 | 4 => 4 | 22 => 22 | n => n, fun n => n⟩

theorem insLay : Lays2.n21 Try.prog insRen where
  mixed := by kernel_rfl
  f21 := Try.func77.trans (congrArg some (by kernel_rfl))
  f27 := Try.func85.trans (congrArg some (by kernel_rfl))
  f28 := Try.func86.trans (congrArg some (by kernel_rfl))
  f35 := Try.func88.trans (congrArg some (by kernel_rfl))
  f39 := Try.func89.trans (congrArg some (by kernel_rfl))
  t0 := Try.underlying0
  a0 := Try.isAgg0
  z0 := Try.sizeOf0
  v0 := Try.zeroValue0
  t3 := Try.underlying3
  a3 := Try.isAgg3
  z3 := Try.sizeOf3
  v3 := Try.zeroValue3
  t4 := Try.underlying4
  a4 := Try.isAgg4
  z4 := Try.sizeOf4
  v4 := Try.zeroValue4
  t22 := Try.underlying22
  a22 := Try.isAgg22
  z22 := Try.sizeOf22
  v22 := Try.zeroValue22
  i3 := by kernel_rfl
theorem delLay : Lays2.n23 Try.prog insRen where
  mixed := by kernel_rfl
  f23 := Try.func76.trans (congrArg some (by kernel_rfl))
  t0 := Try.underlying0
  a0 := Try.isAgg0
  z0 := Try.sizeOf0
  v0 := Try.zeroValue0
  t3 := Try.underlying3
  a3 := Try.isAgg3
  z3 := Try.sizeOf3
  v3 := Try.zeroValue3
  t4 := Try.underlying4
  a4 := Try.isAgg4
  z4 := Try.sizeOf4
  v4 := Try.zeroValue4
  t22 := Try.underlying22
  a22 := Try.isAgg22
  z22 := Try.sizeOf22
  v22 := Try.zeroValue22
  i3 := by kernel_rfl

theorem own_setCells {base g cap m : Nat} : ∀ (vs : List Value) (o : Nat) (R : List Value) (w : World), w.ownsRow base 3 1 (.slice (some ⟨g, 0, none⟩) m cap) m R → o + vs.length ≤ m →
    (w.setCells g o vs).ownsRow base 3 1 (.slice (some ⟨g, 0, none⟩) m cap) m (R.take o ++ vs ++ R.drop (o + vs.length)) ∧ w.grownBy (w.setCells g o vs) (some g) := by
  intro vs
  induction vs with
  | nil => intro o R w h ho; exact ⟨by simpa [World.setCells] using h, grown_refl _ _⟩
  | cons v r ih =>
    intro o R w h ho
    simp only [List.length_cons] at ho
    have h1 := h.stored o v
    obtain ⟨h2, h3⟩ := ih (o + 1) (R.set o v) _ h1.1 (by omega)
    have hl := h.1
    refine ⟨?_, grown_tr h1.2 h3⟩
    have e : (R.set o v).take (o + 1) ++ r ++ (R.set o v).drop (o + 1 + r.length) = R.take o ++ (v :: r) ++ R.drop (o + (v :: r).length) := by
      have e1 : (R.set o v).take (o + 1) = R.take o ++ [v] := by
        apply List.ext_getElem?
        intro j
        rw [List.getElem?_take, List.getElem?_set, List.getElem?_append, List.length_take, Nat.min_eq_left (by omega), List.getElem?_take]
        by_cases a1 : j < o
        · rw [if_pos (by omega), if_neg (by omega), if_pos a1, if_pos a1]
        · by_cases a2 : j = o
          · subst a2; rw [if_pos (by omega), if_pos rfl, if_pos (by omega), if_neg a1]; simp
          · rw [if_neg (by omega), if_neg a1]
            symm; apply List.getElem?_eq_none; simp; omega
      have e2 : (R.set o v).drop (o + 1 + r.length) = R.drop (o + (v :: r).length) := by
        apply List.ext_getElem?
        intro j
        rw [List.getElem?_drop, List.getElem?_drop, List.getElem?_set, if_neg (by omega)]
        congr 1
        simp only [List.length_cons]; omega
      rw [e1, e2]; simp
    rw [← e]
    exact h2

theorem own_widen {w : World} {base g n cap : Nat} {R : List Value} (h : w.ownsRow base 3 1 (.slice (some ⟨g, 0, none⟩) n cap) n R) (hc : n + 1 ≤ cap) :
    ∃ z, w.ownsRow base 3 1 (.slice (some ⟨g, 0, none⟩) (n + 1) cap) (n + 1) (R ++ [z]) := by
  have hl := h.1
  rcases h.2 with ⟨hv, _⟩ | ⟨g', cap', cur, hv, hb, hh, h1, h2, h3, h4⟩
  · cases hv
  · cases hv
    have hsz : n < cur.size := by omega
    refine ⟨cur[n], by simp; omega, .inr ⟨g, cap, cur, rfl, hb, hh, by omega, h2, h3, ?_⟩⟩
    rw [Nat.mul_one] at *
    have e : cur.toList.take (n + 1) = cur.toList.take n ++ [cur[n]] := by
      rw [List.take_succ_eq_append_getElem (by simpa using hsz)]; simp
    rw [e, h4]

theorem own_drew {w : World} {base e n : Nat} {t : TypeId} {v : Value} {R : List Value} (h : w.ownsRow base t e v n R) : w.drew.ownsRow base t e v n R := h
theorem grown_drew (w : World) (row : Option Nat) : w.grownBy w.drew row := ⟨rfl, rfl, rfl, Nat.le_refl _, fun _ _ _ => rfl⟩

/-- Returns numbers in a row of the call's own. -/
def RetQI (base g : Nat) (w : World) (ys : List Int) (e : Ending) (w' : World) : Prop :=
  ∃ (g' cap l : Nat), e = .returned (.slice (some ⟨g', 0, none⟩) l cap) ∧ l = ys.length ∧ w'.ownsRow base 3 1 (.slice (some ⟨g', 0, none⟩) l cap) l (ys.map (Value.int .i64)) ∧ w.grownBy w' (some g)

theorem ins_list (R : List Value) (xs : List Int) (i : Nat) (x : Int) (z : Value) (hR : R = xs.map (Value.int .i64)) (hi : i ≤ xs.length) :
    ((((R ++ [z]).take (i + 1) ++ (xs.map (Value.int .i64)).drop i ++ (R ++ [z]).drop (i + 1 + ((xs.map (Value.int .i64)).drop i).length)).take i ++ [.int .i64 x] ++
      ((R ++ [z]).take (i + 1) ++ (xs.map (Value.int .i64)).drop i ++ (R ++ [z]).drop (i + 1 + ((xs.map (Value.int .i64)).drop i).length)).drop (i + 1)) : List Value) = (xs.take i ++ [x] ++ xs.drop i).map (Value.int .i64) := by
  subst hR
  have hl : ((xs.map (Value.int .i64)).drop i).length = xs.length - i := by simp
  have e0 : (xs.map (Value.int .i64) ++ [z]).drop (i + 1 + ((xs.map (Value.int .i64)).drop i).length) = [] := by
    apply List.drop_eq_nil_of_le; simp; omega
  rw [e0, List.append_nil]
  have hl1 : ((xs.map (Value.int .i64) ++ [z]).take (i + 1)).length = i + 1 := by simp; omega
  have e1 : ((xs.map (Value.int .i64) ++ [z]).take (i + 1) ++ (xs.map (Value.int .i64)).drop i).drop (i + 1) = (xs.map (Value.int .i64)).drop i := by
    rw [List.drop_append_of_le_length (by omega), List.drop_eq_nil_of_le (by omega)]; rfl
  have e2 : ((xs.map (Value.int .i64) ++ [z]).take (i + 1) ++ (xs.map (Value.int .i64)).drop i).take i = (xs.map (Value.int .i64)).take i := by
    rw [List.take_append_of_le_length (by omega), List.take_take, Nat.min_eq_left (by omega), List.take_append_of_le_length (by simp; omega)]
  rw [e1, e2]
  simp

set_option maxRecDepth 100000 in
set_option maxHeartbeats 3200000 in
theorem slices_Insert1 (base g n cap i vb : Nat) (xs : List Int) (x : Int) (w : World) (ho : w.ownsRow base 3 1 (.slice (some ⟨g, 0, none⟩) n cap) n (xs.map (Value.int .i64))) (hi : i ≤ n) (hs : n ≤ 1000) (hbase : base ≤ w.heap.size) (hvb : vb ≠ g) (hv : w.heap[vb]? = some (.cells #[.int .i64 x] 3 (0, 0))) :
    Calls Try.prog 77 #[.slice (some ⟨g, 0, none⟩) n cap, .int .i64 i, .slice (some ⟨vb, 0, none⟩) 1 1] w fun e w' => RetQI base g w (xs.take i ++ [x] ++ xs.drop i) e w' := by
  have hl : n = xs.length := by have := ho.1; simpa using this.symm
  have hlen : (xs.take i ++ [x] ++ xs.drop i).length = n + 1 := by simp; omega
  have hcs : ∀ (j : Nat) (v : Value), (xs.map (Value.int .i64))[j]? = some v → w.cell? ⟨g, 0 + j, none⟩ = some v := by
    intro j v hj
    have hjl := (List.getElem?_eq_some_iff.1 hj).1
    rw [Nat.zero_add, ho.cellAt j (by simpa [hl] using hjl)]; exact hj
  have hvs : ∀ (j : Nat) (v : Value), ([Value.int .i64 x])[j]? = some v → w.cell? ⟨vb, 0 + j, none⟩ = some v := by
    intro j v hj
    match j, hj with
    | 0, hj => simp at hj; subst hj; simp [World.cell?, hv]
  have h1c : ∀ v ∈ xs.map (Value.int .i64), v.oneCell' = true := one_ints xs
  have h1v : ∀ v ∈ [Value.int .i64 x], v.oneCell' = true := by intro u hu; simp at hu; subst hu; rfl
  have hcl : (xs.map (Value.int .i64)).length = n := by simp [hl]
  obtain ⟨hnc, hcm, hgh, hblk⟩ : n ≤ cap ∧ cap ≤ 9223372036854775807 ∧ base ≤ g ∧ ∃ cur, w.heap[g]? = some (.cells cur 3 (0, 0)) ∧ cur.size = cap := by
    rcases ho.2 with ⟨hv, _⟩ | ⟨g', cap', cur, hv, hb, hh, h1, h2, h3, h4⟩
    · cases hv
    · cases hv
      unfold maxLen at h2
      exact ⟨h1, by omega, hb, cur, hh, by omega⟩
  obtain ⟨cur, hh, hcz⟩ := hblk
  have hfz : ∀ j, w.frozen? ⟨g, 0 + j, none⟩ = false := fun j => ho.frozenAt _
  rcases Nat.lt_or_ge i n with hin | hin
  · rcases Nat.lt_or_ge n cap with hr | hr
    · have hsp : ∀ j, j < n + 1 → (w.cell? ⟨g, 0 + j, none⟩).isSome = true := fun j hj => by simp [World.cell?, hh, show j < cur.size by omega]
      refine (Any2.slices_Insert_int_shift insLay g 0 n cap i vb 0 1 1 (xs.map (Value.int .i64)) [.int .i64 x] w hin (by omega) (by omega) hcm hvb hcl rfl hcs hsp (fun j _ => hfz j) hvs h1c h1v 3 3 1 cap (by simp [World.shape?, hv]) (by simp [World.shape?, hh, hcz]) (by omega) (by simp [World.frozen?, hv]) (by simp [World.frozen?, hv])).mono ?_
      rintro e w' ⟨rfl, rfl⟩
      obtain ⟨z, hw⟩ := own_widen ho (by omega)
      obtain ⟨h2, h3⟩ := own_setCells ((xs.map (Value.int .i64)).drop i) (0 + (i + 1)) _ _ (own_drew hw) (by simp; omega)
      obtain ⟨h4, h5⟩ := own_setCells [.int .i64 x] (0 + i) _ _ h2 (by simp; omega)
      refine ⟨g, cap, n + 1, rfl, hlen.symm, ?_, grown_tr (grown_drew _ _) (grown_tr h3 h5)⟩
      rw [← ins_list (xs.map (Value.int .i64)) xs i x z rfl (by omega)]
      simpa using h4
    · obtain rfl : cap = n := by omega
      refine (Any2.slices_Insert_int_grow insLay g 0 cap cap i vb 0 1 1 (xs.map (Value.int .i64)) [.int .i64 x] w hin (by omega) (Nat.le_refl _) (by omega) (by omega) hcl rfl hcs hvs h1c h1v).mono ?_
      rintro e w' ⟨rfl, rfl⟩
      obtain ⟨G, hG⟩ : ∃ G, G = grownCap w (cap + 1) cap (insRen.t 3) := ⟨_, rfl⟩
      have hGn : cap + 1 ≤ G := by rw [hG]; exact grownCap_ge w _ _ _
      have hGm : G ≤ maxLen := by rw [hG]; exact grownCap_le_maxLen w _ _ _ (by unfold maxLen; omega)
      rw [← hG]
      obtain ⟨ROW, hROW⟩ : ∃ ROW : Array Value, ROW = ((xs.map (Value.int .i64)).take i).toArray ++ Builtin.zeroCells (Value.int .i64 0).cells (cap + 1 - i) ++ Builtin.zeroCells (Value.int .i64 0).cells (G - (cap + 1)) := ⟨_, rfl⟩
      rw [← hROW]
      have hRs : ROW.size = G := by rw [hROW]; simp [Builtin.zeroCells, Value.cells]; omega
      have hRt : ROW.toList.take i = (xs.map (Value.int .i64)).take i := by
        rw [hROW]
        simp only [Array.toList_append, List.append_assoc]
        rw [List.take_append_of_le_length (by simp; omega)]
        simp [List.take_take]
      have how : (w.alloc (.cells ROW 3)).ownsRow base 3 1 (.slice (some ⟨w.heap.size, 0, none⟩) (cap + 1) G) (cap + 1) (ROW.toList.take (cap + 1)) :=
        ⟨by rw [List.length_take]; simp; omega, .inr ⟨w.heap.size, G, ROW, rfl, hbase, heap_alloc_new w _, hGn, hGm, by omega, by rw [Nat.mul_one]⟩⟩
      obtain ⟨h2, h3⟩ := own_setCells [.int .i64 x] i _ _ (own_drew how) (by simp; omega)
      obtain ⟨h4, h5⟩ := own_setCells ((xs.map (Value.int .i64)).drop i) (i + 1) _ _ (own_drew h2) (by simp; omega)
      have hgr : w.grownBy (w.alloc (.cells ROW 3)) (some g) := World.grownBy_alloc w _ _
      refine ⟨w.heap.size, G, cap + 1, rfl, hlen.symm, ?_, ?_⟩
      · have e : ((((ROW.toList.take (cap + 1)).take i ++ [Value.int .i64 x] ++ (ROW.toList.take (cap + 1)).drop (i + [Value.int .i64 x].length)).take (i + 1) ++ (xs.map (Value.int .i64)).drop i ++
            ((ROW.toList.take (cap + 1)).take i ++ [Value.int .i64 x] ++ (ROW.toList.take (cap + 1)).drop (i + [Value.int .i64 x].length)).drop (i + 1 + ((xs.map (Value.int .i64)).drop i).length)) : List Value) = (xs.take i ++ [x] ++ xs.drop i).map (Value.int .i64) := by
          have a1 : (ROW.toList.take (cap + 1)).take i = (xs.map (Value.int .i64)).take i := by rw [List.take_take, Nat.min_eq_left (by omega), hRt]
          have a2 : ((xs.map (Value.int .i64)).take i ++ [Value.int .i64 x]).length = i + 1 := by simp; omega
          rw [a1]
          have a3 : ((xs.map (Value.int .i64)).take i ++ [Value.int .i64 x] ++ (ROW.toList.take (cap + 1)).drop (i + [Value.int .i64 x].length)).take (i + 1) = (xs.map (Value.int .i64)).take i ++ [Value.int .i64 x] := by
            rw [List.take_append_of_le_length (by omega), List.take_of_length_le (by omega)]
          have a4 : ((xs.map (Value.int .i64)).take i ++ [Value.int .i64 x] ++ (ROW.toList.take (cap + 1)).drop (i + [Value.int .i64 x].length)).drop (i + 1 + ((xs.map (Value.int .i64)).drop i).length) = [] := by
            apply List.drop_eq_nil_of_le; simp; omega
          rw [a3, a4]; simp
        rw [← e]; exact h4
      · have t1 := h3
        have t2 := h5
        refine ⟨t2.os.trans t1.os, t2.tape.trans t1.tape, t2.output.trans t1.output, ?_, fun k hk hne => ?_⟩
        · exact Nat.le_trans (show w.heap.size ≤ (w.alloc (.cells ROW 3)).drew.heap.size by simp) (Nat.le_trans t1.size t2.size)
        · have b1 := t1.block k (by simp; omega) (by intro e; simp at e; omega)
          have b2 := t2.block k (by have := t1.size; simp at this ⊢; omega) (by intro e; simp at e; omega)
          exact b2.trans (b1.trans (hgr.block k hk hne))
  · obtain rfl : i = n := by omega
    have exs : xs.take i ++ [x] ++ xs.drop i = xs ++ [x] := by rw [List.take_of_length_le (by omega), List.drop_eq_nil_of_le (by omega)]; simp
    rw [exs] at hlen ⊢
    rcases Nat.lt_or_ge i cap with hr | hr
    · refine (Any2.slices_Insert_int_end_room insLay g 0 i cap vb 0 1 1 [.int .i64 x] w (by omega) (by omega) hcm rfl (fun j hj => by obtain rfl : j = 0 := by omega
                                                                                                                                      simp [World.cell?, hh, show i < cur.size by omega]) (fun j _ => by have := hfz (i + j); simpa [Nat.add_assoc] using this) hvs h1v).mono ?_
      rintro e w' ⟨rfl, rfl⟩
      obtain ⟨z, hw⟩ := own_widen ho (by omega)
      obtain ⟨h2, h3⟩ := own_setCells [.int .i64 x] (0 + i) _ _ hw (by simp)
      refine ⟨g, cap, i + 1, rfl, hlen.symm, ?_, h3⟩
      have e : ((xs.map (Value.int .i64) ++ [z]).take (0 + i) ++ [Value.int .i64 x] ++ (xs.map (Value.int .i64) ++ [z]).drop (0 + i + [Value.int .i64 x].length) : List Value) = (xs ++ [x]).map (Value.int .i64) := by
        rw [Nat.zero_add, List.take_append_of_le_length (by simp; omega), List.take_of_length_le (by simp; omega), List.drop_eq_nil_of_le (by simp; omega)]; simp
      rw [← e]; exact h2
    · obtain rfl : cap = i := by omega
      refine (Any2.slices_Insert_int_end_grow insLay (some ⟨g, 0, none⟩) cap cap vb 0 1 1 (xs.map (Value.int .i64)) [.int .i64 x] w (by omega) (Nat.le_refl _) (by omega) (by omega) hcl rfl (fun h => by cases h) (fun a ha j v hj => by cases ha; rw [addr_add']; exact hcs j v hj) hvs h1v).mono ?_
      rintro e w' ⟨rfl, rfl⟩
      obtain ⟨G, hG⟩ : ∃ G, G = grownCap w (cap + 1) cap (insRen.t 3) := ⟨_, rfl⟩
      have hGn : cap + 1 ≤ G := by rw [hG]; exact grownCap_ge w _ _ _
      have hGm : G ≤ maxLen := by rw [hG]; exact grownCap_le_maxLen w _ _ _ (by unfold maxLen; omega)
      rw [← hG]
      refine ⟨w.heap.size, G, cap + 1, rfl, hlen.symm, ⟨by simp; omega, .inr ⟨w.heap.size, G, _, rfl, hbase, heap_alloc_new w.drew _, hGn, hGm, by simp [Builtin.zeroCells, Value.cells]; omega, ?_⟩⟩, grown_tr (grown_drew _ _) (World.grownBy_alloc _ _ _)⟩
      rw [Nat.mul_one, Array.toList_append, List.take_append_of_le_length (by simp; omega), List.take_of_length_le (by simp; omega)]
      simp

theorem slices_Delete1 (base g n cap i : Nat) (xs : List Int) (w : World) (ho : w.ownsRow base 3 1 (.slice (some ⟨g, 0, none⟩) n cap) n (xs.map (Value.int .i64))) (hi : i < n) :
    Calls Try.prog 76 #[.slice (some ⟨g, 0, none⟩) n cap, .int .i64 i, .int .i64 ((i + 1 : Nat) : Int)] w fun e w' => ∃ l, e = .returned (.slice (some ⟨g, 0, none⟩) l cap) ∧ l = (xs.take i ++ xs.drop (i + 1)).length ∧ w'.ownsRow base 3 1 (.slice (some ⟨g, 0, none⟩) l cap) l ((xs.take i ++ xs.drop (i + 1)).map (Value.int .i64)) ∧ w.grownBy w' (some g) := by
  have hl : n = xs.length := by have := ho.1; simpa using this.symm
  subst hl
  rcases ho.2 with ⟨hv, _⟩ | ⟨g', cap', cur, hv, hb, hh, h1, h2, h3, h4⟩
  · cases hv
  · cases hv
    have hH : Sort.Holds (Value.int .i64) w g 0 xs.toArray := holds_of_blockI hh (by rw [Nat.mul_one] at h4; exact h4)
    refine (Any.slices_Delete_int delLay g 0 cap i (i + 1) xs w hH h1 (by unfold maxLen at h2; omega) (by omega) (by omega)).mono ?_
    rintro e w' ⟨rfl, q, rfl⟩
    have hln : (xs.take i ++ xs.drop (i + 1) ++ List.replicate (i + 1 - i) 0).length = xs.length := by simp; omega
    have hown : (Sort.grow (Sort.putRow (Value.int .i64) (Sort.ahead w q) g 0 (xs.take i ++ xs.drop (i + 1) ++ List.replicate (i + 1 - i) 0).toArray) #[]).ownsRow base 3 1 (.slice (some ⟨g, 0, none⟩) xs.length cap) xs.length ((xs.take i ++ xs.drop (i + 1) ++ List.replicate (i + 1 - i) 0).map (Value.int .i64)) := ownsRow_sortedI hln hb hh h1 h2 h3
    have hgr : w.grownBy (Sort.grow (Sort.putRow (Value.int .i64) (Sort.ahead w q) g 0 (xs.take i ++ xs.drop (i + 1) ++ List.replicate (i + 1 - i) 0).toArray) #[]) (some g) := grownBy_sortedI _
    rw [Sort.grow_empty] at hown hgr
    have hll : (xs.take i ++ xs.drop (i + 1)).length = xs.length - (i + 1 - i) := by simp; omega
    refine ⟨_, rfl, hll.symm, ?_, hgr⟩
    have := own_shrink hown (show xs.length - (i + 1 - i) ≤ xs.length by omega)
    rw [← hll] at this ⊢
    rw [List.map_append, List.take_left' (by rw [List.length_map])] at this
    exact this
end Go.Proofs.Ytlbomopjldhmeaa
