/- Helpers of the histories' laws: equal histories, and plain facts. -/
import Derived.Test.YtfooafnfdeofoaaR16
import Derived.Test.YtfooafnfdeofoaaH4

namespace Go.Proofs.Ytfooafnfdeofoaa
set_option linter.unusedSimpArgs false
set_option linter.unusedVariables false
open Go.RowKit

theorem sum_le11 : ∀ (ss : List (List Int)), (∀ x ∈ ss, x.length ≤ 11) → (ss.map List.length).sum ≤ 11 * ss.length
  | [], _ => by simp
  | x :: l, h => by
    have h1 := h x (List.mem_cons_self ..)
    have h2 := sum_le11 l fun y hy => h y (List.mem_cons_of_mem _ hy)
    simp only [List.map_cons, List.sum_cons, List.length_cons]
    omega

theorem HiB.of_drawn {ss : List (List Int)} (y : Int) (h : ss.length ≤ 10) (h' : ∀ x ∈ ss, x.length ≤ 11) : HiB ⟨ss, y⟩ := by
  have h1 := sum_le11 ss h'
  refine ⟨by show ss.length ≤ 1048576; omega, ⟨by show ss.length ≤ 1048576; omega, fun j => ?_⟩, by show (ss.map List.length).sum ≤ 1048576; omega⟩
  show (ss.getD j []).length ≤ 1048576
  by_cases hj : j < ss.length
  · have : ss.getD j [] ∈ ss := by simp [List.getD, hj]
    have := h' _ this
    omega
  · simp [List.getD, List.getElem?_eq_none (show ss.length ≤ j by omega)]

theorem validHi_at {gs : List Nd} {ss : List (List Int)} {y : Int} (h : validHi gs ⟨ss, y⟩ = true) (k : Nat) (hk : k < ss.length) : validHi gs ⟨ss, k⟩ = true := by
  unfold validHi at h ⊢
  simp only [Bool.and_eq_true, rng, decide_eq_true_eq] at h ⊢
  exact ⟨⟨h.1.1, by omega, by omega⟩, h.2⟩

theorem new_ok {gs : List Nd} {xs : List Int} (h : okC gs xs = true) : newH gs xs = ⟨[xs], 0⟩ ∧ validHi gs ⟨[xs], 0⟩ = true ∧ moveB gs ⟨[xs], 0⟩ (-1) = false ∧ moveB gs ⟨[xs], 0⟩ 1 = false := by
  have h0 := h
  unfold okC at h
  simp only [Bool.and_eq_true] at h
  refine ⟨by unfold newH; rw [h0, if_pos rfl], ?_, ?_, ?_⟩
  · unfold validHi
    simp [h.1, h.2, rng]
  · unfold moveB; simp [rng]
  · unfold moveB; simp [rng]

theorem commit_facts {gs : List Nd} {ss : List (List Int)} {y : Int} {xs : List Int} (h : commitB gs ⟨ss, y⟩ xs = true) : ∃ k : Nat, y = (k : Int) ∧ k < ss.length ∧ k < 9 ∧ commitH gs ⟨ss, y⟩ xs = ⟨ss.take (k + 1) ++ [xs], (k : Int) + 1⟩ ∧ (ss.take (k + 1) ++ [xs]).length = k + 2 ∧ (ss.take (k + 1) ++ [xs]).getD k [] = ss.getD k [] ∧ (ss.take (k + 1) ++ [xs]).getD (k + 1) [] = xs ∧
    validHi gs ⟨ss.take (k + 1) ++ [xs], (k : Int) + 1⟩ = true ∧ moveB gs ⟨ss.take (k + 1) ++ [xs], (k : Int) + 1⟩ (-1) = true ∧ moveH gs ⟨ss.take (k + 1) ++ [xs], (k : Int) + 1⟩ (-1) = ⟨ss.take (k + 1) ++ [xs], k⟩ ∧ moveB gs ⟨ss.take (k + 1) ++ [xs], (k : Int) + 1⟩ 1 = false := by
  have h0 := h
  unfold commitB at h
  simp only [Bool.and_eq_true, Bool.not_eq_true'] at h
  obtain ⟨⟨hv, hc⟩, h10⟩ := h
  obtain ⟨hg, hl1, hl2, hy1, hy2, hall⟩ := validHi_parts hv
  simp only at hl1 hl2 hy1 hy2 hall
  obtain ⟨k, rfl⟩ : ∃ k : Nat, y = k := ⟨y.toNat, by omega⟩
  have hk : k < ss.length := by simpa using hy2
  have hk9 : k ≠ 9 := by
    intro e
    subst e
    simp at h10
  have hl2' : ss.length ≤ 10 := hl2
  have hk8 : k < 9 := by omega
  have hln : (ss.take (k + 1) ++ [xs]).length = k + 2 := by simp; omega
  have hval : validHi gs ⟨ss.take (k + 1) ++ [xs], (k : Int) + 1⟩ = true := by
    unfold validHi
    simp only [Bool.and_eq_true, rng, decide_eq_true_eq, hln, hg, true_and]
    refine ⟨⟨by omega, by omega⟩, ?_⟩
    rw [List.all_eq_true]
    intro x hx
    rcases List.mem_append.1 hx with hx | hx
    · obtain ⟨j, hj, rfl⟩ := List.getElem_of_mem hx
      rw [List.length_take] at hj
      have := hall j (by show j < ss.length; omega)
      simpa [List.getD, List.getElem_take, show j < ss.length by omega] using this
    · simp at hx; subst hx; exact hc
  have hm : moveB gs ⟨ss.take (k + 1) ++ [xs], (k : Int) + 1⟩ (-1) = true := by
    unfold moveB
    simp only [Bool.and_eq_true, rng, decide_eq_true_eq, hln, hval, true_and]
    omega
  refine ⟨k, rfl, hk, hk8, ?_, hln, ?_, ?_, hval, hm, ?_, ?_⟩
  · unfold commitH
    rw [h0, if_pos rfl]
    simp only [show ((k : Int) + 1).toNat = k + 1 by omega]
  · rw [List.getD, List.getElem?_append_left (by simp; omega), List.getElem?_take_of_lt (by omega)]; rfl
  · rw [List.getD, List.getElem?_append_right (by simp; omega)]
    have : k + 1 - (ss.take (k + 1)).length = 0 := by simp; omega
    rw [this]; rfl
  · unfold moveH
    rw [hm, if_pos rfl]
    show Hi.mk _ ((k : Int) + 1 + -1) = _
    rw [show (k : Int) + 1 + -1 = k by omega]
  · cases hb : moveB gs ⟨ss.take (k + 1) ++ [xs], (k : Int) + 1⟩ 1
    · rfl
    · exfalso
      unfold moveB at hb
      simp only [Bool.and_eq_true, rng, decide_eq_true_eq, hln] at hb
      omega

theorem diffTo_symm (a b : List Int) (k : Nat) : diffTo a b k = diffTo b a k := by
  unfold diffTo
  congr 1
  refine List.filter_congr fun i _ => ?_
  have : (a.getD i 0 == b.getD i 0) = (b.getD i 0 == a.getD i 0) := by
    rw [Bool.eq_iff_iff]; simp only [beq_iff_eq]; exact ⟨Eq.symm, Eq.symm⟩
  rw [this]

theorem chgF_symm (gs : List Nd) (xs ys : List Int) : chgF gs xs ys = chgF gs ys xs := by
  have h : chgB gs xs ys = chgB gs ys xs := by
    unfold chgB
    cases validG gs <;> cases validC gs xs <;> cases validC gs ys <;> rfl
  unfold chgF
  rw [h, diffTo_symm]

theorem move_facts {gs : List Nd} {ss : List (List Int)} {y z : Int} (h : moveB gs ⟨ss, y⟩ z = true) : ∃ (k m : Nat), y = (k : Int) ∧ y + z = (m : Int) ∧ k < ss.length ∧ m < ss.length ∧ ss.length ≤ 10 ∧ moveH gs ⟨ss, y⟩ z = ⟨ss, (m : Int)⟩ ∧ moveI gs ⟨ss, y⟩ z = chgF gs (ss.getD k []) (ss.getD m []) ∧ moveB gs ⟨ss, (m : Int)⟩ (-z) = true ∧ moveH gs ⟨ss, (m : Int)⟩ (-z) = ⟨ss, y⟩ ∧ moveI gs ⟨ss, (m : Int)⟩ (-z) = chgF gs (ss.getD k []) (ss.getD m []) := by
  have h0 := h
  unfold moveB at h
  simp only [Bool.and_eq_true, rng, decide_eq_true_eq] at h
  obtain ⟨⟨hv, h1, h2⟩, h3, h4⟩ := h
  obtain ⟨hg, hl1, hl2, hy1, hy2, hall⟩ := validHi_parts hv
  simp only at hl1 hl2 hy1 hy2 hall h3 h4
  obtain ⟨k, rfl⟩ : ∃ k : Nat, y = k := ⟨y.toNat, by omega⟩
  obtain ⟨m, hm⟩ : ∃ m : Nat, (k : Int) + z = m := ⟨((k : Int) + z).toNat, by omega⟩
  have hk : k < ss.length := by omega
  have hml : m < ss.length := by omega
  have hb : moveB gs ⟨ss, (m : Int)⟩ (-z) = true := by
    unfold moveB
    simp only [Bool.and_eq_true, rng, decide_eq_true_eq, validHi_at hv m hml, true_and]
    omega
  have hz : (m : Int) + -z = k := by omega
  refine ⟨k, m, rfl, hm, hk, hml, hl2, ?_, ?_, hb, ?_, ?_⟩
  · unfold moveH; rw [h0, if_pos rfl]; show Hi.mk _ _ = _; rw [hm]
  · unfold moveI; rw [h0, if_pos rfl]; show chgF gs (ss.getD ((k : Int)).toNat []) (ss.getD ((k : Int) + z).toNat []) = _; rw [hm]; simp
  · unfold moveH; rw [hb, if_pos rfl]; show Hi.mk _ _ = _; rw [hz]
  · unfold moveI; rw [hb, if_pos rfl]; show chgF gs (ss.getD ((m : Int)).toNat []) (ss.getD ((m : Int) + -z).toNat []) = _; rw [hz, chgF_symm]; simp

set_option maxRecDepth 100000 in
set_option maxHeartbeats 3200000 in
theorem laws_equalHistory (A A' : Option Addr) (n c c' : Nat) (st : Hi) (w : World) (hn : n = st.ss.length) (h : SS w w.heap.size A st.ss) (h' : SS w w.heap.size A' st.ss) (hb : HiB st) :
    Calls Try.prog 13 #[.agg #[.slice A n c, .int .i64 st.ix], .agg #[.slice A' n c', .int .i64 st.ix]] w fun e w' => e = .returned (.bool true) ∧ Below w.heap.size w w' := by
  obtain ⟨W1, hW1⟩ : ∃ W, W = (w.alloc (.cells #[.slice A n c, .int .i64 st.ix] 28)).alloc (.cells #[.slice A' n c', .int .i64 st.ix] 28) := ⟨_, rfl⟩
  have hb1 : Below w.heap.size w W1 := by rw [hW1]; exact ((Below.refl _ _).alloc (Nat.le_refl _) _).alloc (by simp) _
  have hs1 : W1.heap.size = w.heap.size + 2 := by rw [hW1]; simp
  have HE := Lib.hid (laws_equalLists A A' n n c c' st.ss st.ss W1 w.heap.size (by omega) hn hn (h.below hb1 (Nat.le_refl _)) (h'.below hb1 (Nat.le_refl _)) hb.2.1 hb.2.1)
  rw [show decide (st.ss = st.ss) = true from decide_eq_true rfl] at HE
  have q0 : W1.cell? ⟨w.heap.size, 0, none⟩ = some (.slice A n c) := by rw [hW1]; go_simp
  have q1 : W1.cell? ⟨w.heap.size, 1, none⟩ = some (.int .i64 st.ix) := by rw [hW1]; go_simp
  have q2 : W1.cell? ⟨w.heap.size + 1, 0, none⟩ = some (.slice A' n c') := by rw [hW1]; go_simp
  have q3 : W1.cell? ⟨w.heap.size + 1, 1, none⟩ = some (.int .i64 st.ix) := by rw [hW1]; go_simp
  have HB1 := Lib.hid hb1
  have HW1 := Lib.hid hW1
  have hyy : (st.ix == st.ix) = true := by simp
  clear h h' hb hb1 hW1 hn
  generalize st.ix = y at *
  go_enter Try.func13, Try.ntmps13
  go_wp2_with fail
  rw [← HW1.out]
  refine HE.out.mono ?_
  rintro e w2 ⟨rfl, hb2⟩
  have r1 := (hb2.cell (p := ⟨w.heap.size, 1, none⟩) (by show w.heap.size < W1.heap.size; omega)).trans q1
  have r3 := (hb2.cell (p := ⟨w.heap.size + 1, 1, none⟩) (by show w.heap.size + 1 < W1.heap.size; omega)).trans q3
  have HB2 := Lib.hid (HB1.out.trans (hb2.mono HB1.out.size))
  clear hb2 q0 q1 q2 q3
  go_wp2
  go_ret
  exact ⟨rfl, HB2.out⟩
end Go.Proofs.Ytfooafnfdeofoaa
