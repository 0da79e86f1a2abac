/- Owners: one owner alone, one owner more: words for lists of owners that are made or grow. -/
import Derived.Test.YtgjodcddkmjboaaV2

namespace Go.Proofs.Ytgjodcddkmjboaa
set_option linter.unusedSimpArgs false
set_option linter.unusedVariables false
open Go.RowKit

theorem SSk.two {lo mid top : Nat} {w : World} {A A' : Option Addr} {m c m' c' : Nat} {lens : Nat → Nat} {cont : Nat → List Value} (h1 : OwR lo mid 3 1 (.slice A m c) m (cont 0) w) (h2 : OwR mid top 3 1 (.slice A' m' c') m' (cont 1) w) (hm : m = lens 0) (hm' : m' = lens 1) (hlo : lo ≤ mid) (htop : mid ≤ top) :
    SSk lo top [.slice A m c, .slice A' m' c'] lens cont w := by
  refine ⟨fun j hj => ?_, fun i j v u k hij hi hj hv hu => ?_⟩
  · match j, hj with
    | 0, _ => exact ⟨A, m, c, rfl, hm, h1.mono (Nat.le_refl _) htop⟩
    | 1, _ => exact ⟨A', m', c', rfl, hm', h2.mono hlo (Nat.le_refl _)⟩
  · have b1 : ∀ q, (Value.slice A m c).ownBlock = some q → lo ≤ q ∧ q < mid := fun q hq => ⟨(h1.1.lt q hq).1, h1.2 q hq⟩
    have b2 : ∀ q, (Value.slice A' m' c').ownBlock = some q → mid ≤ q ∧ q < top := fun q hq => ⟨(h2.1.lt q hq).1, h2.2 q hq⟩
    match i, j with
    | 0, 0 => exact absurd rfl hij
    | 1, 1 => exact absurd rfl hij
    | 0, 1 => cases hi; cases hj; have := b1 k hv; have := b2 k hu; omega
    | 1, 0 => cases hi; cases hj; have := b2 k hv; have := b1 k hu; omega
    | i + 2, _ => simp at hi
    | 0, j + 2 => simp at hj
    | 1, j + 2 => simp at hj

theorem rowO_one (d : On) (i : Nat) : rowO [d] i = if i = 0 then d.cl else if i = 1 then d.cx else [] := by
  unfold rowO
  match i with
  | 0 => rfl
  | 1 => rfl
  | i + 2 =>
    have h2 : (i + 2) / 2 = i / 2 + 1 := by omega
    have e : ([d] : List On).getD (i / 2 + 1) default = default := by simp [List.getD]
    rw [h2, e]
    simp only [if_neg (show ¬ i + 2 = 0 by omega), if_neg (show ¬ i + 2 = 1 by omega)]
    split <;> rfl

/-- A list of one owner that was just made. -/
theorem OwO.single {lo mid : Nat} {w : World} {d : On} {A A' : Option Addr} {m c m' c' : Nat} (h1 : OwR lo mid 3 1 (.slice A m c) m (d.cl.map (Value.int .i64)) w) (hm : m = d.cl.length) (h2 : OwR mid w.heap.size 3 1 (.slice A' m' c') m' (d.cx.map (Value.int .i64)) w) (hm' : m' = d.cx.length) (hlo : lo ≤ mid) (hmid : mid ≤ w.heap.size) :
    OwO lo (w.alloc (.cells #[.int .i64 d.p, .bool d.o, .slice A m c, .slice A' m' c'] 41)).heap.size (.slice (some ⟨w.heap.size, 0, none⟩) 1 1) 1 [d] (w.alloc (.cells #[.int .i64 d.p, .bool d.o, .slice A m c, .slice A' m' c'] 41)) := by
  have hl := World.ownsRow_lit (e := 41) (size := 4) (base := lo) w #[.int .i64 d.p, .bool d.o, .slice A m c, .slice A' m' c'] 1 (by omega) (by unfold maxLen; omega) rfl
  refine ⟨rfl, _, [.slice A m c, .slice A' m' c'], OwR.start hl, rfl, ?_, ?_⟩
  · intro j hj
    obtain rfl : j = 0 := by simpa using hj
    exact ⟨rfl, rfl, rfl, rfl⟩
  · have k1 := h1.keep (w' := w.alloc (.cells #[.int .i64 d.p, .bool d.o, .slice A m c, .slice A' m' c'] 41)) fun k _ hk => ((Below.refl w.heap.size w).alloc (Nat.le_refl _) _).block k (by omega)
    have k2 := h2.keep (w' := w.alloc (.cells #[.int .i64 d.p, .bool d.o, .slice A m c, .slice A' m' c'] 41)) fun k _ hk => ((Below.refl w.heap.size w).alloc (Nat.le_refl _) _).block k hk
    refine SSk.two (mid := mid) ?_ ?_ ?_ ?_ hlo (by simp; omega)
    · rw [rowOfO, rowO_one, if_pos rfl]; exact k1
    · rw [rowOfO, rowO_one, if_neg (by omega), if_pos rfl]; exact k2.mono (Nat.le_refl _) (by simp)
    · rw [lenOfO, rowO_one, if_pos rfl]; exact hm
    · rw [lenOfO, rowO_one, if_neg (by omega), if_pos rfl]; exact hm'

theorem getD_snoc (ds : List On) (d : On) (j : Nat) : (ds ++ [d]).getD j default = if j = ds.length then d else ds.getD j default := by
  simp only [List.getD, List.getElem?_append]
  by_cases h : j < ds.length
  · rw [if_pos h, if_neg (by omega)]
  · rw [if_neg h]
    by_cases h2 : j = ds.length
    · subst h2; simp
    · rw [if_neg h2, List.getElem?_eq_none (by simp; omega), List.getElem?_eq_none (by omega)]

theorem OwO.snoc {lo hi mid top k : Nat} {v v' : Value} {ds : List On} {w w' : World} {d : On} {A A' : Option Addr} {m c m' c' : Nat} {xs us : List Value}
    (h0 : k = ds.length) (hx : OwR lo hi 41 4 v k xs w) (hul : us.length = k * 2) (hf : OwF xs us ds) (hs : SSk lo hi us (lenOf (rowsO ds)) (rowOf (rowsO ds)) w)
    (h1 : OwR hi mid 3 1 (.slice A m c) m (d.cl.map (Value.int .i64)) w) (hm : m = d.cl.length) (h2 : OwR mid top 3 1 (.slice A' m' c') m' (d.cx.map (Value.int .i64)) w) (hm' : m' = d.cx.length) (hlo : lo ≤ hi) (hmid : hi ≤ mid) (htop : mid ≤ top) (hsz : top ≤ w.heap.size)
    (hg : w.grownBy w' v.ownBlock) (hv : w'.ownsRow lo 41 4 v' (k + 1) (xs ++ [.int .i64 d.p, .bool d.o, .slice A m c, .slice A' m' c'])) : OwO lo w'.heap.size v' (k + 1) (ds ++ [d]) w' := by
  have hxl : xs.length = k * 4 := hx.1.1
  have hw' := hg.size
  have hs1 := hs.grown hg (hs.ne hx.1 owner_ne_int.symm)
  have r1 := h1.1.kept hg (blocks_ne h1.1 hx.1 owner_ne_int.symm)
  have r2 := h2.1.kept hg (blocks_ne h2.1 hx.1 owner_ne_int.symm)
  have hrow (i : Nat) : rowO (ds ++ [d]) i = if i = k * 2 then d.cl else if i = k * 2 + 1 then d.cx else rowO ds i := by
    unfold rowO
    rw [getD_snoc ds d (i / 2), ← h0]
    by_cases e1 : i / 2 = k
    · rw [if_pos e1]
      by_cases e2 : i % 2 = 0
      · rw [if_pos e2, if_pos (by omega)]
      · rw [if_neg e2, if_neg (by omega), if_pos (by omega)]
    · have e3 : ¬ i = k * 2 := by omega
      have e4 : ¬ i = k * 2 + 1 := by omega
      simp only [if_neg e1, if_neg e3, if_neg e4]
  refine ⟨by simp [h0], _, (us ++ [.slice A m c]) ++ [.slice A' m' c'], ⟨hv, fun q hq => (hv.lt q hq).2⟩, by simp [hul]; omega, ?_, ?_⟩
  · intro j hj
    rw [getD_snoc ds d j, ← h0]
    by_cases e : j = k
    · subst e
      rw [if_pos rfl]
      refine ⟨?_, ?_, ?_, ?_⟩
      · rw [List.getElem?_append_right (by omega), hxl]; simp
      · rw [List.getElem?_append_right (by omega), hxl, show j * 4 + 1 - j * 4 = 1 by omega]; rfl
      · rw [List.getElem?_append_right (by omega), hxl, show j * 4 + 2 - j * 4 = 2 by omega, List.getElem?_append_left (by simp; omega), List.getElem?_append_right (by omega), hul]; simp
      · rw [List.getElem?_append_right (by omega), hxl, show j * 4 + 3 - j * 4 = 3 by omega, List.getElem?_append_right (by simp; omega)]; simp [hul]
    · rw [if_neg e]
      have hjk : j < k := by simp at hj; omega
      obtain ⟨f0, f1, f2, f3⟩ := hf j (by omega)
      refine ⟨?_, ?_, ?_, ?_⟩
      · rw [List.getElem?_append_left (by omega)]; exact f0
      · rw [List.getElem?_append_left (by omega)]; exact f1
      · rw [List.getElem?_append_left (by omega), List.getElem?_append_left (by simp; omega), List.getElem?_append_left (by omega)]; exact f2
      · rw [List.getElem?_append_left (by omega), List.getElem?_append_left (by simp; omega), List.getElem?_append_left (by omega)]; exact f3
  · have p1 : SSk lo mid (us ++ [.slice A m c]) (fun i => if i = k * 2 then d.cl.length else lenOf (rowsO ds) i) (fun i => if i = k * 2 then d.cl.map (Value.int .i64) else rowOf (rowsO ds) i) w' :=
      hs1.put (A := A) (m := m) (c := c) (k * 2) (by rw [List.getElem?_append_right (by omega), hul]; simp) (fun j hj => by
        rcases Nat.lt_or_ge j (k * 2) with h | h
        · rw [List.getElem?_append_left (by omega)]
        · rw [List.getElem?_eq_none (by simp; omega), List.getElem?_eq_none (by omega)]) (fun j hj h => by simp at hj; omega) (by simpa using hm) (fun j hj => by simp [hj]) (by simpa using ⟨r1, h1.2⟩) hlo hmid
    have p2 := p1.put (hi' := top) (k := k * 2 + 1) (vs' := (us ++ [.slice A m c]) ++ [.slice A' m' c']) (lens' := lenOf (rowsO (ds ++ [d]))) (cont' := rowOf (rowsO (ds ++ [d]))) (A := A') (m := m') (c := c') (by rw [List.getElem?_append_right (by simp; omega)]; simp [hul]) (fun j hj => by
        rcases Nat.lt_or_ge j (k * 2 + 1) with h | h
        · rw [List.getElem?_append_left (by simp; omega)]
        · rw [List.getElem?_eq_none (by simp; omega), List.getElem?_eq_none (by simp; omega)]) (fun j hj h => by simp at hj ⊢; omega) ?_ (fun j hj => ?_) ?_ (by omega) htop
    · exact p2.mono (Nat.le_refl _) (by omega)
    · rw [lenOfO, hrow, if_neg (by omega), if_pos rfl]; exact hm'
    · rw [lenOfO, rowOfO, hrow]
      by_cases e : j = k * 2
      · simp [e]
      · rw [if_neg e, if_neg hj, if_neg e, if_neg e, ← lenOfO, ← rowOfO]; exact ⟨rfl, rfl⟩
    · rw [rowOfO, hrow, if_neg (by omega), if_pos rfl]; exact ⟨r2, h2.2⟩

/-- One owner was written anew; its lists lie in new blocks, the second one ahead. -/
theorem OwO.putS {lo hi mid top n cap g k : Nat} {ds : List On} {d : On} {w : World} {A A' : Option Addr} {m c m' c' : Nat} (h : OwO lo hi (.slice (some ⟨g, 0, none⟩) n cap) n ds w) (hk : k < n)
    (hm : m = d.cl.length) (hm' : m' = d.cx.length) (h1 : OwR mid top 3 1 (.slice A m c) m (d.cl.map (Value.int .i64)) w) (h2 : OwR hi mid 3 1 (.slice A' m' c') m' (d.cx.map (Value.int .i64)) w) (hlo : lo ≤ hi) (hmid : hi ≤ mid) (htop : mid ≤ top) :
    OwO lo top (.slice (some ⟨g, 0, none⟩) n cap) n (ds.set k d) (put4 w g (k * 4) (.int .i64 d.p) (.bool d.o) (.slice A m c) (.slice A' m' c')) := by
  obtain ⟨hn, xs, us, hr, hu, hf, hs⟩ := h
  have hxl : xs.length = n * 4 := hr.1.1
  have hst := own_put4 hr.1 (k * 4) (.int .i64 d.p) (.bool d.o) (.slice A m c) (.slice A' m' c')
  have hs1 := hs.grown hst.2 (hs.ne hr.1 owner_ne_int.symm)
  have r1 := h1.1.kept hst.2 (blocks_ne h1.1 hr.1 owner_ne_int.symm)
  have r2 := h2.1.kept hst.2 (blocks_ne h2.1 hr.1 owner_ne_int.symm)
  have hkl : k < ds.length := by omega
  obtain ⟨s0, s1, s2, s3, s4⟩ := set4_get xs (k * 4) (.int .i64 d.p) (.bool d.o) (.slice A m c) (.slice A' m' c') (by omega)
  have hrow (i : Nat) : rowO (ds.set k d) i = if i = k * 2 then d.cl else if i = k * 2 + 1 then d.cx else rowO ds i := by
    unfold rowO
    rw [getD_set ds k (i / 2) d hkl]
    by_cases e1 : i / 2 = k
    · rw [if_pos e1]
      by_cases e2 : i % 2 = 0
      · rw [if_pos e2, if_pos (by omega)]
      · rw [if_neg e2, if_neg (by omega), if_pos (by omega)]
    · have e3 : ¬ i = k * 2 := by omega
      have e4 : ¬ i = k * 2 + 1 := by omega
      simp only [if_neg e1, if_neg e3, if_neg e4]
  refine ⟨by simp; omega, _, (us.set (k * 2 + 1) (.slice A' m' c')).set (k * 2) (.slice A m c), ⟨hst.1, fun q hq => Nat.lt_of_lt_of_le (hr.2 q hq) (by omega)⟩, by simp; omega, ?_, ?_⟩
  · intro j hj
    rw [getD_set ds k j d hkl]
    by_cases e : j = k
    · subst e
      rw [if_pos rfl]
      refine ⟨s0, s1, s2.trans ?_, s3.trans ?_⟩
      · rw [List.getElem?_set, if_pos rfl, if_pos (by simp; omega)]
      · rw [List.getElem?_set, if_neg (by omega), List.getElem?_set, if_pos rfl, if_pos (by omega)]
    · rw [if_neg e]
      obtain ⟨f0, f1, f2, f3⟩ := hf j (by simpa using hj)
      refine ⟨(s4 _ (by omega)).trans f0, (s4 _ (by omega)).trans f1, ((s4 _ (by omega)).trans f2).trans ?_, ((s4 _ (by omega)).trans f3).trans ?_⟩
      · rw [List.getElem?_set, if_neg (by omega), List.getElem?_set, if_neg (by omega)]
      · rw [List.getElem?_set, if_neg (by omega), List.getElem?_set, if_neg (by omega)]
  · have p1 : SSk lo mid (us.set (k * 2 + 1) (.slice A' m' c')) (fun i => if i = k * 2 + 1 then d.cx.length else lenOf (rowsO ds) i) (fun i => if i = k * 2 + 1 then d.cx.map (Value.int .i64) else rowOf (rowsO ds) i) (put4 w g (k * 4) (.int .i64 d.p) (.bool d.o) (.slice A m c) (.slice A' m' c')) :=
      hs1.put (k * 2 + 1) (by rw [List.getElem?_set, if_pos rfl, if_pos (by omega)]) (fun j hj => by rw [List.getElem?_set, if_neg (by omega)]) (fun j hj _ => by simpa using hj) (by simpa using hm') (fun j hj => by simp [hj]) (by simpa using ⟨r2, h2.2⟩) hlo hmid
    refine p1.put (k * 2) (A := A) (m := m) (c := c) (by rw [List.getElem?_set, if_pos rfl, if_pos (by simp; omega)]) (fun j hj => by rw [List.getElem?_set, if_neg (by omega)]) (fun j hj _ => by simpa using hj) ?_ (fun j hj => ?_) ?_ (by omega) htop
    · rw [lenOfO, hrow, if_pos rfl]; exact hm
    · rw [lenOfO, rowOfO, hrow]
      by_cases e : j = k * 2 + 1
      · subst e; simp
      · rw [if_neg hj, if_neg e, if_neg e, if_neg e, ← lenOfO, ← rowOfO]; exact ⟨rfl, rfl⟩
    · rw [rowOfO, hrow, if_pos rfl]; exact ⟨r1, h1.2⟩
end Go.Proofs.Ytgjodcddkmjboaa
