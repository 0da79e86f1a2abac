/- linksOf: links of a valid graph. -/
import Derived.Test.YtcfiondggnbnoaaN1
import Derived.Test.YtcfiondggnbnoaaM25
import Derived.Test.YtcfiondggnbnoaaS2
import Derived.Deep.Cut

namespace Go.Proofs.Ytcfiondggnbnoaa
set_option linter.unusedSimpArgs false
set_option linter.unusedVariables false
open Go.RowKit Go.Maps

/-- The rows while the reads of node k are linked: q of them are done. -/
def lkR (gs : List Nd) (k q : Nat) (K : Nat) : List Nat :=
  if K % 2 = 0 then (if K / 2 < k then rdsN gs (K / 2) else if K / 2 = k then (rdsN gs k).take q else [])
  else usN gs k (K / 2) ++ (if K / 2 ∈ (rdsN gs k).take q then [k] else [])
theorem lkR_even (gs : List Nd) (k q j : Nat) : lkR gs k q (2 * j) = if j < k then rdsN gs j else if j = k then (rdsN gs k).take q else [] := by
  unfold lkR; rw [if_pos (by omega), show 2 * j / 2 = j by omega]
theorem lkR_odd (gs : List Nd) (k q j : Nat) : lkR gs k q (2 * j + 1) = usN gs k j ++ (if j ∈ (rdsN gs k).take q then [k] else []) := by
  unfold lkR; rw [if_neg (by omega), show (2 * j + 1) / 2 = j by omega]
theorem lkR_zero (gs : List Nd) (k : Nat) : lkR gs k 0 = linkR gs k := by
  funext K
  unfold lkR linkR
  simp only [List.take_zero, List.not_mem_nil, if_false, List.append_nil]
  by_cases h : K % 2 = 0
  · rw [if_pos h, if_pos h]
    by_cases h2 : K / 2 < k
    · rw [if_pos h2, if_pos h2]
    · rw [if_neg h2, if_neg h2]; split <;> rfl
  · rw [if_neg h, if_neg h]
theorem usN_succ (gs : List Nd) (k j : Nat) : usN gs (k + 1) j = usN gs k j ++ (if (j : Int) ∈ mayR (gs.getD k default).ps then [k] else []) := by
  unfold usN
  rw [List.range_succ, List.filter_append]
  congr 1
  by_cases h : (j : Int) ∈ mayR (gs.getD k default).ps
  · rw [if_pos h]; simp only [List.filter_cons, decide_eq_true h, if_true, List.filter_nil]
  · rw [if_neg h]; simp only [List.filter_cons, decide_eq_false h, Bool.false_eq_true, if_false, List.filter_nil]
theorem lkR_all (gs : List Nd) (hv : validG gs = true) (k : Nat) (hk : k < gs.length) (l : Nat) (hl : (rdsN gs k).length = l) : lkR gs k l = linkR gs (k + 1) := by
  funext K
  unfold lkR linkR
  rw [List.take_of_length_le (by omega)]
  by_cases h : K % 2 = 0
  · rw [if_pos h, if_pos h]
    by_cases h2 : K / 2 < k
    · rw [if_pos h2, if_pos (by omega)]
    · rw [if_neg h2]
      by_cases h3 : K / 2 = k
      · rw [if_pos h3, if_pos (by omega), h3]
      · rw [if_neg h3, if_neg (by omega)]
  · rw [if_neg h, if_neg h, usN_succ]
    congr 1
    have := mem_rdsN gs hv k (K / 2) hk
    by_cases h2 : K / 2 ∈ rdsN gs k
    · rw [if_pos h2, if_pos (this.1 h2)]
    · rw [if_neg h2, if_neg (fun h => h2 (this.2 h))]
theorem linkR_new (gs : List Nd) (hv : validG gs = true) (k : Nat) (hk : k ≤ gs.length) : linkR gs k (2 * k) = [] ∧ linkR gs k (2 * k + 1) = [] := by
  unfold linkR
  refine ⟨?_, ?_⟩
  · rw [if_pos (by omega), if_neg (by omega)]
  · rw [if_neg (by omega), show (2 * k + 1) / 2 = k by omega]
    unfold usN
    rw [List.filter_eq_nil_iff]
    intro u hu hc
    have h1 : u ∈ usN gs k k := List.mem_filter.2 ⟨hu, hc⟩
    have := usN_gt gs hv k k u hk h1
    have := List.mem_range.1 hu
    omega
theorem rdsN_nodup (gs : List Nd) (hv : validG gs = true) (k : Nat) (hk : k < gs.length) : (rdsN gs k).Nodup := by
  have h1 : (mayR (gs.getD k default).ps).Nodup := by
    have : (mayR (gs.getD k default).ps).Pairwise (· < ·) := by
      unfold mayR
      rw [List.pairwise_map]
      exact ((List.pairwise_lt_range (n := 10)).filter _).imp fun h => by omega
    exact this.imp fun h => by omega
  unfold rdsN
  have hah := mayR_ahead gs k hv hk
  generalize mayR (gs.getD k default).ps = l at *
  clear hk
  induction l with
  | nil => simp
  | cons x l ih =>
    obtain ⟨a, b⟩ := List.nodup_cons.1 h1
    rw [List.map_cons, List.nodup_cons]
    refine ⟨fun hm => ?_, ih b fun y hy => hah y (by simp [hy])⟩
    obtain ⟨y, hy, e⟩ := List.mem_map.1 hm
    have := hah x (by simp)
    have := hah y (by simp [hy])
    have : y = x := by omega
    subst this
    exact a hy
theorem lkR_step (gs : List Nd) (hv : validG gs = true) (k : Nat) (hk : k < gs.length) (q t : Nat) (hq : (rdsN gs k)[q]? = some t) :
    lkR gs k (q + 1) = fun K => if K = 2 * t + 1 then ((fun K => if K = 2 * k then lkR gs k q (2 * k) ++ [t] else lkR gs k q K) (2 * t + 1)) ++ [k] else ((fun K => if K = 2 * k then lkR gs k q (2 * k) ++ [t] else lkR gs k q K) K) := by
  have hql := (List.getElem?_eq_some_iff.1 hq).1
  have htk : (rdsN gs k).take (q + 1) = (rdsN gs k).take q ++ [t] := by
    rw [List.take_add_one, hq]; rfl
  have hnd := rdsN_nodup gs hv k hk
  have hnt : t ∉ (rdsN gs k).take q := by
    intro hm
    obtain ⟨i, hi, e⟩ := List.mem_iff_getElem.1 hm
    rw [List.length_take] at hi
    rw [List.getElem_take] at e
    have h2 : (rdsN gs k)[q] = t := by rw [List.getElem?_eq_getElem hql] at hq; simpa using hq
    have := (List.getElem_inj hnd).1 (e.trans h2.symm)
    omega
  have htl : t < k := rdsN_lt gs hv k t hk (List.mem_of_getElem? hq)
  funext K
  dsimp only
  by_cases h1 : K = 2 * t + 1
  · subst h1
    have h0 : ¬ 2 * t + 1 = 2 * k := by omega
    rw [if_pos rfl, if_neg h0, lkR_odd, lkR_odd, htk, if_pos (by simp), if_neg hnt]
    simp
  · rw [if_neg h1]
    by_cases h2 : K = 2 * k
    · subst h2
      rw [if_pos rfl, lkR_even, lkR_even, if_neg (by omega), if_pos rfl, if_neg (by omega), if_pos rfl, htk]
    · rw [if_neg h2]
      obtain ⟨j, e⟩ : ∃ j, K = 2 * j ∨ K = 2 * j + 1 := ⟨K / 2, by omega⟩
      rcases e with e | e
      · subst e
        rw [lkR_even, lkR_even]
        have h3 : ¬ j = k := by omega
        rw [if_neg h3, if_neg h3]
      · subst e
        have h5 : ¬ j = t := by omega
        rw [lkR_odd, lkR_odd, htk]
        congr 1
        by_cases h6 : j ∈ (rdsN gs k).take q
        · rw [if_pos h6, if_pos (by simp [h6])]
        · rw [if_neg h6, if_neg (by simp [h6, h5])]

theorem LkW.mid {lo : Nat} {lb : List Nat} {R : Nat → List Nat} {V : List Value} {w w' : World} (h : LkW lo lb R V w) {K : Nat} {X : Value} {o : Obj} (hX : V[K]? = some X) (hg : (w.alloc o).grownBy w' X.ownBlock) :
    ∀ (i g' : Nat), lb[i]? = some g' → Bx g' [.int .i64 i, V.getD (2 * i) undef, V.getD (2 * i + 1) undef] w' ∧ Tg g' 49 w' := by
  have hs := h.step ((Below.refl _ _).alloc (Nat.le_refl _) o)
  have hKl : K < V.length := (List.getElem?_eq_some_iff.1 hX).1
  intro i g' hi
  have h1 := hs.bx i g' hi
  have e := hg.block g' h1.1.lt (fun e => by
    obtain ⟨A, m, c, e1, e2, e3⟩ := hs.rows.row K hKl
    rw [hX] at e1
    cases e1
    exact own_tag e3.1 h1.2.1 link_ne_ptr e.symm)
  exact ⟨h1.1.keepE e hg.size, h1.2.1.keep e⟩
theorem LkW.row {lo : Nat} {lb : List Nat} {R : Nat → List Nat} {V : List Value} {w : World} (h : LkW lo lb R V w) {K : Nat} (hK : K < 2 * lb.length) :
    ∃ A c, V[K]? = some (.slice A (R K).length c) ∧ V.getD K undef = .slice A (R K).length c ∧ w.ownsRow lo 50 1 (.slice A (R K).length c) (R K).length (ptrs lb (R K)) := by
  obtain ⟨A, m, c, e1, e2, e3⟩ := h.rows.row K (by have := h.vl; omega)
  subst e2
  exact ⟨A, c, e1, by simp [List.getD, e1], e3.1⟩
end Go.Proofs.Ytcfiondggnbnoaa
