/- For all bytes the law FnValidFormula holds: a valid formula has a value, and is valid in order, too; and the bytes stay as they were. Conditions: none. -/
import Derived.Test.YtnbohohoceghnaaZ07
import Derived.Deep.RegionHeld3
/- The laws' own helpers on formulas and on lists that ascend, where they answer true. -/
namespace Go.Proofs.Ytnbohohoceghnaa
set_option linter.unusedSimpArgs false
set_option linter.unusedVariables false
open Go.RowKit

set_option maxHeartbeats 1600000 in
theorem laws_ascends (A : Option Addr) (n c : Nat) (xs : List Int) (w : World) (B : Nat) (hB : B ≤ w.heap.size) (hn : n = xs.length) (h : IS w B A xs) (hs : n ≤ 2000000) (hd : ∀ j, j + 1 < xs.length → xs.getD j 0 < xs.getD (j + 1) 0) :
    Calls Try.prog 28 #[.slice A n c] w fun e w' => e = .returned (.bool true) ∧ Below w.heap.size w w' := by
  have H := Lib.hid h
  have HN := Lib.hid hn
  have HD := Lib.hid hd
  clear hn h hd
  go_enter Try.func28, Try.ntmps28
  go_wp2
  go_loopw [3] (fun i wr => ∃ j : Nat, i = .int .i64 ((j : Int) + 1) ∧ Hid (Below w.heap.size w wr)) (fun i _ => n - (intOf i).toNat)
  case atStart => exact ⟨0, rfl, Below.refl _ _⟩
  case round =>
    obtain ⟨j, rfl, HB⟩ := hrel
    by_cases hlt : j + 1 < n
    · obtain ⟨b, off, rfl, hbB, hc⟩ := H.out (by have := HN.out; omega)
      have c0 := (HB.out.cell (p := ⟨b, off + j, none⟩) (by show b < w.heap.size; omega)).trans (hc j (by have := HN.out; omega))
      have c1 := (HB.out.cell (p := ⟨b, off + (j + 1), none⟩) (by show b < w.heap.size; omega)).trans (hc (j + 1) (by have := HN.out; omega))
      have hxy := HD.out j (by have := HN.out; omega)
      clear hc H
      generalize xs.getD j 0 = x at *
      generalize xs.getD (j + 1) 0 = y at *
      have hle : ¬ y ≤ x := by omega
      have hw1 : IntKind.i64.wrap ((j : Int) + 1 - 1) = (j : Int) := by rw [IntWalk.i64_in _ (by omega)]; omega
      have hw2 : IntKind.i64.wrap ((j : Int)) = (j : Int) := by rw [IntWalk.i64_in _ (by omega)]
      have ht : ((j : Int) + 1).toNat = j + 1 := by omega
      have hb1 : (j : Int) + 1 < n := by omega
      have hb0 : (0 : Int) ≤ (j : Int) + 1 := by omega
      go_wp2
      go_quiet (fail)
      clear hw1 hw2 ht
      go_wp2
      go_roundw
      case rel => exact ⟨j + 1, by go_num, drewN_below0 HB.out⟩
      case measure => simp [intOf]; omega
    · have hlt' : ¬ (j : Int) + 1 < n := by omega
      go_wp2
      go_ret
      exact ⟨rfl, HB.out⟩

set_option maxRecDepth 100000 in
set_option maxHeartbeats 3200000 in
theorem laws_equalFormula (A A' : Option Addr) (n c c' : Nat) (ps : List Pt) (w : World) (hn : n = ps.length) (h : PS w w.heap.size A ps) (h' : PS w w.heap.size A' ps) (hs : n ≤ 2000000) :
    Calls Try.prog 29 #[.agg #[.slice A n c], .agg #[.slice A' n c']] w fun e w' => e = .returned (.bool true) ∧ Below w.heap.size w w' := by
  have hne : ((n : Int) != (n : Int)) = false := by simp
  obtain ⟨W2, hW2⟩ : ∃ W2, W2 = (w.alloc (.cells #[.slice A n c] 25)).alloc (.cells #[.slice A' n c'] 25) := ⟨_, rfl⟩
  have HB0 : Hid (Below w.heap.size w W2) := by rw [hW2]; exact ((Below.refl w.heap.size w).alloc (Nat.le_refl _) _).alloc (by simp) _
  have hs2 : w.heap.size + 2 ≤ W2.heap.size := by rw [hW2]; simp
  have HT : Hid (W2.cell? ⟨w.heap.size, 0, none⟩ = some (.slice A n c) ∧ W2.cell? ⟨w.heap.size + 1, 0, none⟩ = some (.slice A' n c')) := by rw [hW2]; exact ⟨by go_simp, by go_simp⟩
  have H := Lib.hid (h.below HB0.out (Nat.le_refl _))
  have H' := Lib.hid (h'.below HB0.out (Nat.le_refl _))
  have HN := Lib.hid hn
  have HW2 := Lib.hid hW2
  clear hn h h' hW2
  go_enter Try.func29, Try.ntmps29
  go_wp2
  rw [← HW2.out]
  go_loopw [5] (fun i wr => ∃ k : Nat, k ≤ n ∧ i = .int .i64 k ∧ Hid (Below W2.heap.size W2 wr)) (fun i _ => n - (intOf i).toNat)
  case atStart => exact ⟨0, Nat.zero_le _, rfl, Below.refl _ _⟩
  case round =>
    obtain ⟨k, hk, rfl, HB⟩ := hrel
    have q0 := (HB.out.cell (p := ⟨w.heap.size, 0, none⟩) (by show w.heap.size < W2.heap.size; omega)).trans HT.out.1
    have q1 := (HB.out.cell (p := ⟨w.heap.size + 1, 0, none⟩) (by show w.heap.size + 1 < W2.heap.size; omega)).trans HT.out.2
    by_cases hlt : k < n
    · obtain ⟨b, off, rfl, hbB, hc⟩ := (H.out.below HB.out (by omega)) (by have := HN.out; omega)
      obtain ⟨b2, off2, rfl, hbB2, hc2⟩ := (H'.out.below HB.out (by omega)) (by have := HN.out; omega)
      obtain ⟨a0, a1, a2, a3, a4⟩ := hc k (by have := HN.out; omega)
      obtain ⟨e0, e1, e2, e3, e4⟩ := hc2 k (by have := HN.out; omega)
      clear hc hc2
      generalize ps.getD k default = p at *
      go_wp2
      refine wp_region_held_drew (S := fun w' => (w'.cell? ⟨w.heap.size, 0, none⟩ = some (.slice (some ⟨b, off, none⟩) n c) ∧ w'.cell? ⟨w.heap.size + 1, 0, none⟩ = some (.slice (some ⟨b2, off2, none⟩) n c')) ∧ (w'.cell? ⟨b, off + k * 5, none⟩ = some (.int .i64 p.k) ∧ w'.cell? ⟨b, off + k * 5 + 1, none⟩ = some (.int .i64 p.a) ∧ w'.cell? ⟨b, off + k * 5 + 2, none⟩ = some (.int .i64 p.b) ∧ w'.cell? ⟨b, off + k * 5 + 3, none⟩ = some (.int .i64 p.c) ∧ w'.cell? ⟨b, off + k * 5 + 4, none⟩ = some (.int .i64 p.n)) ∧ (w'.cell? ⟨b2, off2 + k * 5, none⟩ = some (.int .i64 p.k) ∧ w'.cell? ⟨b2, off2 + k * 5 + 1, none⟩ = some (.int .i64 p.a) ∧ w'.cell? ⟨b2, off2 + k * 5 + 2, none⟩ = some (.int .i64 p.b) ∧ w'.cell? ⟨b2, off2 + k * 5 + 3, none⟩ = some (.int .i64 p.c) ∧ w'.cell? ⟨b2, off2 + k * 5 + 4, none⟩ = some (.int .i64 p.n))) (by kernel_rfl) ⟨⟨q0, q1⟩, ⟨a0, a1, a2, a3, a4⟩, ⟨e0, e1, e2, e3, e4⟩⟩ (fun hHeld => ?_)
      refine wpAnyH_take (i := 0) (oi := ⟨some 20, _, _, _, _, _⟩) (v := ?_) rfl (by kernel_rfl) (by kernel_rfl) (by kernel_rfl) (fun _ _ _ h => h) (Or.inl ⟨by rfl, ?_⟩) (by assumption) ?_; rotate_left; (focus (intro w hSw; (try dsimp only at hSw); go_simp; (try with_reducible rfl))); (try simp only [Act.put, List.setIfInBounds_toArray, List.set_cons_zero, List.set_cons_succ])
      refine wpAnyH_take (i := 1) (oi := ⟨some 21, _, _, _, _, _⟩) (v := ?_) rfl (by kernel_rfl) (by kernel_rfl) (by kernel_rfl) (fun _ _ _ h => h) (Or.inl ⟨by rfl, ?_⟩) (by assumption) ?_; rotate_left; (focus (intro w hSw; (try dsimp only at hSw); go_simp; (try with_reducible rfl))); (try simp only [Act.put, List.setIfInBounds_toArray, List.set_cons_zero, List.set_cons_succ])
      refine wpAnyH_take (i := 2) (oi := ⟨some 22, _, _, _, _, _⟩) (v := ?_) rfl (by kernel_rfl) (by kernel_rfl) (by kernel_rfl) (fun _ _ _ h => h) (Or.inl ⟨by rfl, ?_⟩) (by assumption) ?_; rotate_left; (focus (intro w hSw; (try dsimp only at hSw); go_simp; (try with_reducible rfl))); (try simp only [Act.put, List.setIfInBounds_toArray, List.set_cons_zero, List.set_cons_succ])
      refine wpAnyH_take (i := 3) (oi := ⟨some 23, _, _, _, _, _⟩) (v := ?_) rfl (by kernel_rfl) (by kernel_rfl) (by kernel_rfl) (fun _ _ _ h => h) (Or.inl ⟨by rfl, ?_⟩) (by assumption) ?_; rotate_left; (focus (intro w hSw; (try dsimp only at hSw); go_simp; (try with_reducible rfl))); (try simp only [Act.put, List.setIfInBounds_toArray, List.set_cons_zero, List.set_cons_succ])
      refine wpAnyH_take (i := 4) (oi := ⟨some 24, _, _, _, _, _⟩) (v := ?_) rfl (by kernel_rfl) (by kernel_rfl) (by kernel_rfl) (fun _ _ _ h => h) (Or.inl ⟨by rfl, ?_⟩) (by assumption) ?_; rotate_left; (focus (intro w hSw; (try dsimp only at hSw); go_simp; (try with_reducible rfl))); (try simp only [Act.put, List.setIfInBounds_toArray, List.set_cons_zero, List.set_cons_succ])
      refine wpAnyH_take (i := 5) (oi := ⟨some 25, _, _, _, _, _⟩) (v := ?_) rfl (by kernel_rfl) (by kernel_rfl) (by kernel_rfl) (fun _ _ _ h => h) (Or.inl ⟨by rfl, ?_⟩) (by assumption) ?_; rotate_left; (focus (intro w hSw; (try dsimp only at hSw); go_simp; (try with_reducible rfl))); (try simp only [Act.put, List.setIfInBounds_toArray, List.set_cons_zero, List.set_cons_succ])
      refine wpAnyH_take (i := 6) (oi := ⟨some 26, _, _, _, _, _⟩) (v := ?_) rfl (by kernel_rfl) (by kernel_rfl) (by kernel_rfl) (fun _ _ _ h => h) (Or.inl ⟨by rfl, ?_⟩) (by assumption) ?_; rotate_left; (focus (intro w hSw; (try dsimp only at hSw); go_simp; (try with_reducible rfl))); (try simp only [Act.put, List.setIfInBounds_toArray, List.set_cons_zero, List.set_cons_succ])
      refine wpAnyH_take (i := 7) (oi := ⟨some 27, _, _, _, _, _⟩) (v := ?_) rfl (by kernel_rfl) (by kernel_rfl) (by kernel_rfl) (fun _ _ _ h => h) (Or.inl ⟨by rfl, ?_⟩) (by assumption) ?_; rotate_left; (focus (intro w hSw; (try dsimp only at hSw); go_simp; (try with_reducible rfl))); (try simp only [Act.put, List.setIfInBounds_toArray, List.set_cons_zero, List.set_cons_succ])
      refine wpAnyH_take (i := 8) (oi := ⟨some 28, _, _, _, _, _⟩) (v := ?_) rfl (by kernel_rfl) (by kernel_rfl) (by kernel_rfl) (fun _ _ _ h => h) (Or.inl ⟨by rfl, ?_⟩) (by assumption) ?_; rotate_left; (focus (intro w hSw; (try dsimp only at hSw); go_simp; (try with_reducible rfl))); (try simp only [Act.put, List.setIfInBounds_toArray, List.set_cons_zero, List.set_cons_succ])
      refine wpAnyH_take (i := 9) (oi := ⟨some 29, _, _, _, _, _⟩) (v := ?_) rfl (by kernel_rfl) (by kernel_rfl) (by kernel_rfl) (fun _ _ _ h => h) (Or.inl ⟨by rfl, ?_⟩) (by assumption) ?_; rotate_left; (focus (intro w hSw; (try dsimp only at hSw); go_simp; (try with_reducible rfl))); (try simp only [Act.put, List.setIfInBounds_toArray, List.set_cons_zero, List.set_cons_succ])
      refine wpAnyH_take (i := 10) (oi := ⟨some 30, _, _, _, _, _⟩) (v := ?_) rfl (by kernel_rfl) (by kernel_rfl) (by kernel_rfl) (fun _ _ _ h => h) (Or.inl ⟨by rfl, ?_⟩) (by assumption) ?_; rotate_left; (focus (intro w hSw; (try dsimp only at hSw); go_simp; (try with_reducible rfl))); (try simp only [Act.put, List.setIfInBounds_toArray, List.set_cons_zero, List.set_cons_succ])
      refine wpAnyH_done (by kernel_rfl) ?_ _
      go_wp2
      go_roundw
      case rel => exact ⟨k + 1, by omega, by go_num, HB.out.drew⟩
      case measure => simp [intOf]; omega
    · obtain rfl : k = n := by omega
      go_wp2
      go_ret
      exact ⟨rfl, HB0.out.trans (HB.out.mono (by omega))⟩

theorem mayR_asc (ps : List Pt) (j : Nat) (h : j + 1 < (mayR ps).length) : (mayR ps).getD j 0 < (mayR ps).getD (j + 1) 0 := by
  have hp : (mayR ps).Pairwise (· < ·) := by
    unfold mayR
    rw [List.pairwise_map]
    refine List.Pairwise.imp ?_ (List.Pairwise.filter _ List.pairwise_lt_range)
    intro a b hab
    omega
  have := List.pairwise_iff_getElem.1 hp j (j + 1) (by omega) h (by omega)
  simpa [List.getD, h, show j < (mayR ps).length by omega] using this
theorem mayF_asc (ps : List Pt) (j : Nat) (h : j + 1 < (mayF ps).length) : (mayF ps).getD j 0 < (mayF ps).getD (j + 1) 0 := by
  unfold mayF at *
  split at h
  · rename_i hv; rw [if_pos hv]; exact mayR_asc ps j h
  · simp at h
/-- The first numbers. -/
def numTo (k : Nat) : List Int := (List.range k).map fun i : Nat => (i : Int)
theorem numTo_succ (k : Nat) : numTo (k + 1) = numTo k ++ [(k : Int)] := by unfold numTo; rw [List.range_succ, List.map_append]; rfl
theorem numTo_len (k : Nat) : (numTo k).length = k := by simp [numTo]
theorem numTo_get (k j : Nat) (h : j < k) : (numTo k).getD j 0 = (j : Int) := by simp [numTo, List.getD, h]
theorem ren_num (ps : List Pt) (h : validF ps = true) : renF ps (numTo 10) = ps := by
  obtain ⟨hg, h1, h12⟩ := validF_good ps h
  have hgm : ∀ p ∈ ps, (p.k == 1) = true → 0 ≤ p.n ∧ p.n < 10 := by
    intro p hp hk
    obtain ⟨j, hj, rfl⟩ := List.mem_iff_getElem.1 hp
    have := hg j hj
    have e : ps.getD j default = ps[j] := by simp [List.getD, hj]
    rw [e] at this
    have := (good_num _ _ this).2 (by simpa using hk)
    omega
  have hc : canRen ps (numTo 10) = true := by
    unfold canRen
    rw [h, numTo_len]
    have ha : allR (numTo 10) 0 9 = true := allR_true _ _ _ fun k hk => by
      rw [numTo_len] at hk
      rw [numTo_get 10 k hk]
      unfold rng
      simp
      omega
    have he : eachOK ps 10 = true := by
      unfold eachOK
      rw [List.all_eq_true]
      intro p hp
      cases h1 : (p.k == 1)
      · simp
      · have := hgm p hp h1
        simp
        omega
    rw [ha, he]; rfl
  unfold renF
  rw [hc]
  simp only [if_true]
  have : ∀ p ∈ ps, ren (numTo 10) p = p := fun p hp => by
    unfold ren
    cases h1 : (p.k == 1)
    · rfl
    · have hb := hgm p hp h1
      simp only [if_true]
      rw [numTo_get 10 _ (by omega), Int.toNat_of_nonneg hb.1]
  rw [List.map_congr_left this, List.map_id']
end Go.Proofs.Ytnbohohoceghnaa

/- Plain facts on formulas as trees: a valid formula has as many parts as its tree; parts in order are a valid formula of the same tree. -/
namespace Go.Proofs.Ytnbohohoceghnaa
set_option linter.unusedSimpArgs false
set_option linter.unusedVariables false

theorem tmAt_fuel (ps : List Pt) (hg : AllGood ps) : ∀ (i f : Nat), i < ps.length → i < f → tmAt ps f i = tmAt ps (i + 1) i := by
  intro i
  induction i using Nat.strongRecOn with
  | _ i ih =>
    intro f hi hf
    obtain ⟨f', rfl⟩ : ∃ f', f = f' + 1 := ⟨f - 1, by omega⟩
    have hb := good_bel_nat _ _ (hg i hi)
    have hk := good_kind _ _ (hg i hi)
    rw [tmAt_eq, tmAt_eq]
    generalize ps.getD i default = p at *
    have key : ∀ a : Nat, a < i → tmAt ps f' a = tmAt ps i a := fun a ha => by
      rw [ih a ha f' (by omega) (by omega), ih a ha i (by omega) ha]
    rcases hk with h | h | h | h
    · simp [h]
    · simp [h]
    · obtain ⟨a, b, ea, eb, la, lb⟩ := hb.1 h
      rw [ea, eb, Int.toNat_natCast, Int.toNat_natCast, key a la, key b lb]
      have k8 : (p.k == 8) = false := by simp only [beq_eq_false_iff_ne, ne_eq]; omega
      rw [k8]; rfl
    · obtain ⟨a, b, c, ea, eb, ec, la, lb, lc⟩ := hb.2 h
      rw [ea, eb, ec, Int.toNat_natCast, Int.toNat_natCast, Int.toNat_natCast, key a la, key b lb, key c lc]

/-- How many parts hang at an index. -/
def szA (ps : List Pt) (j : Nat) : Nat := (tmAt ps (j + 1) j).size
/-- The parts that hang at the indices of a list that are below m. -/
def wS (ps : List Pt) (l : List Int) (m : Nat) : Nat := ((l.filter fun x => decide (x < (m : Int))).map fun x => szA ps x.toNat).sum
theorem wS_append (ps : List Pt) (l l' : List Int) (m : Nat) : wS ps (l ++ l') m = wS ps l m + wS ps l' m := by
  unfold wS; rw [List.filter_append, List.map_append, List.sum_append]
theorem wS_cons (ps : List Pt) (x : Int) (l : List Int) (m : Nat) : wS ps (x :: l) m = (if x < (m : Int) then szA ps x.toNat else 0) + wS ps l m := by
  unfold wS
  rw [List.filter_cons]
  by_cases h : x < (m : Int)
  · simp [h]
  · simp [h]
theorem wS_step (ps : List Pt) (l : List Int) (m : Nat) : wS ps l (m + 1) = wS ps l m + l.count (m : Int) * szA ps m := by
  induction l with
  | nil => simp [wS]
  | cons x l ih =>
    rw [wS_cons, wS_cons, ih, List.count_cons]
    by_cases h : x = (m : Int)
    · subst h
      have h1 : ((m : Int) < ((m + 1 : Nat) : Int)) := by omega
      have h2 : ¬ ((m : Int) < (m : Int)) := by omega
      rw [if_pos h1, if_neg h2]
      simp [Nat.add_mul]
      omega
    · have h1 : (x == (m : Int)) = false := by simpa using h
      rw [h1]
      simp only [Bool.false_eq_true, if_false, Nat.add_zero]
      by_cases h2 : x < (m : Int)
      · rw [if_pos (by omega), if_pos h2]; omega
      · rw [if_neg (by omega), if_neg h2]; omega
theorem wS_zero (ps : List Pt) (l : List Int) (h : ∀ x ∈ l, 0 ≤ x) : wS ps l 0 = 0 := by
  induction l with
  | nil => rfl
  | cons x l ih =>
    rw [wS_cons, ih fun y hy => h y (List.mem_cons_of_mem _ hy), if_neg (by have := h x List.mem_cons_self; omega)]
theorem szA_bel (ps : List Pt) (hg : AllGood ps) (i : Nat) (hi : i < ps.length) : szA ps i = 1 + wS ps (bel (ps.getD i default)) i := by
  unfold szA
  rw [Tm.size_kids, tmAt_kids ps i i (hg i hi)]
  have hb := good_bel _ _ (hg i hi)
  have hf : ∀ x ∈ bel (ps.getD i default), tmAt ps i x.toNat = tmAt ps (x.toNat + 1) x.toNat := fun x hx => by
    have := hb x hx
    exact tmAt_fuel ps hg x.toNat i (by omega) (by omega)
  generalize bel (ps.getD i default) = l at *
  have : ksize (l.map fun b => tmAt ps i b.toNat) = wS ps l i := by
    induction l with
    | nil => rfl
    | cons x l ih =>
      rw [wS_cons, List.map_cons]
      have h1 := hb x List.mem_cons_self
      rw [if_pos (by omega), ← ih (fun y hy => hb y (List.mem_cons_of_mem _ hy)) (fun y hy => hf y (List.mem_cons_of_mem _ hy))]
      unfold ksize szA
      rw [List.map_cons, List.sum_cons, hf x List.mem_cons_self]
  omega

theorem mem_flat_bel (ps : List Pt) (hg : AllGood ps) (x : Int) (h : x ∈ ps.flatMap bel) : 0 ≤ x := by
  obtain ⟨p, hp, hx⟩ := List.mem_flatMap.1 h
  obtain ⟨j, hj, rfl⟩ := List.mem_iff_getElem.1 hp
  have := hg j hj
  have e : ps.getD j default = ps[j] := by simp [List.getD, hj]
  rw [e] at this
  exact (good_bel _ _ this x hx).1
theorem count_take_bel (ps : List Pt) (hg : AllGood ps) (m j : Nat) (hm : m ≤ ps.length) (hj : m ≤ j + 1) : ((ps.take m).flatMap bel).count (j : Int) = 0 := by
  rw [List.count_eq_zero]
  intro h
  obtain ⟨p, hp, hx⟩ := List.mem_flatMap.1 h
  obtain ⟨i, hi, rfl⟩ := List.mem_iff_getElem.1 hp
  rw [List.length_take] at hi
  have := hg i (by omega)
  have e : ps.getD i default = (ps.take m)[i] := by simp [List.getD, show i < ps.length by omega]
  rw [e] at this
  have := (good_bel _ _ this _ hx).2
  omega

/-- A valid formula has as many parts as its tree. -/
theorem size_valid (ps : List Pt) (h : validF ps = true) : (whole ps).size = ps.length := by
  obtain ⟨hg, h1, h12⟩ := validF_good ps h
  have hc : ∀ i, i < ps.length - 1 → (ps.flatMap bel).count (i : Int) = 1 := by
    unfold validF at h
    simp only [Bool.and_eq_true, decide_eq_true_eq] at h
    exact h.1.2
  have key : ∀ d, d ≤ ps.length → d + wS ps (((ps.length - 1 : Nat) : Int) :: (ps.drop (ps.length - d)).flatMap bel) (ps.length - d) = szA ps (ps.length - 1) := by
    intro d
    induction d with
    | zero =>
      intro _
      rw [Nat.sub_zero, List.drop_length, wS_cons, if_pos (by omega), Int.toNat_natCast]
      simp [wS]
    | succ d ih =>
      intro hd
      have ih := ih (by omega)
      obtain ⟨m, hm⟩ : ∃ m, ps.length - d = m + 1 := ⟨ps.length - d - 1, by omega⟩
      have hm2 : ps.length - (d + 1) = m := by omega
      rw [hm] at ih
      rw [hm2]
      have hml : m < ps.length := by omega
      have hdr : ps.drop m = ps.getD m default :: ps.drop (m + 1) := by rw [List.drop_eq_getElem_cons hml]; simp [List.getD, hml]
      rw [wS_step] at ih
      have hcnt : (((ps.length - 1 : Nat) : Int) :: (ps.drop (m + 1)).flatMap bel).count (m : Int) = 1 := by
        rw [List.count_cons]
        by_cases hmn : m = ps.length - 1
        · have : ps.drop (m + 1) = [] := List.drop_eq_nil_of_le (by omega)
          rw [this]
          simp [hmn]
        · have h2 : (((ps.length - 1 : Nat) : Int) == (m : Int)) = false := by simp; omega
          rw [h2]
          have h3 := hc m (by omega)
          have h4 : ps.flatMap bel = (ps.take (m + 1)).flatMap bel ++ (ps.drop (m + 1)).flatMap bel := by rw [← List.flatMap_append, List.take_append_drop]
          rw [h4, List.count_append, count_take_bel ps hg (m + 1) m (by omega) (by omega)] at h3
          simpa using h3
      rw [hcnt, Nat.one_mul, szA_bel ps hg m hml] at ih
      rw [hdr, List.flatMap_cons, wS_cons, wS_append]
      rw [wS_cons] at ih
      omega
  have := key ps.length (Nat.le_refl _)
  rw [Nat.sub_self, List.drop_zero, wS_zero] at this
  · unfold whole
    have e : tmAt ps ps.length (ps.length - 1) = tmAt ps (ps.length - 1 + 1) (ps.length - 1) := by rw [show ps.length - 1 + 1 = ps.length by omega]
    rw [e]
    unfold szA at this
    omega
  · intro x hx
    rcases List.mem_cons.1 hx with rfl | hx
    · omega
    · exact mem_flat_bel ps hg x hx

/-- All parts of a tree are such as formulas have. -/
def Tm.fine : Tm → Prop
  | .num v => 0 ≤ v ∧ v ≤ 99
  | .rd v => 0 ≤ v ∧ v ≤ 9
  | .pr k l r => 2 ≤ k ∧ k ≤ 7 ∧ l.fine ∧ r.fine
  | .ch t a b => t.fine ∧ a.fine ∧ b.fine
theorem tmAt_fine (ps : List Pt) (hg : AllGood ps) (f : Nat) : ∀ i, i < f → i < ps.length → (tmAt ps f i).fine := by
  induction f with
  | zero => intro i hi; omega
  | succ f ih =>
    intro i hi hil
    have hb := good_bel_nat _ _ (hg i hil)
    have hk := good_kind _ _ (hg i hil)
    have hn := good_num _ _ (hg i hil)
    rw [tmAt_eq]
    generalize ps.getD i default = p at *
    rcases hk with h | h | h | h
    · simp only [h]; exact hn.1 h
    · have k0 : (p.k == 0) = false := by simp [h]
      have k1 : (p.k == 1) = true := by simp [h]
      simp only [k0, k1, Bool.false_eq_true, if_false, if_true]; exact hn.2 h
    · obtain ⟨a, b, ea, eb, la, lb⟩ := hb.1 h
      have k0 : (p.k == 0) = false := by simp only [beq_eq_false_iff_ne, ne_eq]; omega
      have k1 : (p.k == 1) = false := by simp only [beq_eq_false_iff_ne, ne_eq]; omega
      have k8 : (p.k == 8) = false := by simp only [beq_eq_false_iff_ne, ne_eq]; omega
      simp only [k0, k1, k8, Bool.false_eq_true, if_false, ea, eb, Int.toNat_natCast]
      exact ⟨h.1, h.2, ih a (by omega) (by omega), ih b (by omega) (by omega)⟩
    · obtain ⟨a, b, c, ea, eb, ec, la, lb, lc⟩ := hb.2 h
      have k0 : (p.k == 0) = false := by simp [h]
      have k1 : (p.k == 1) = false := by simp [h]
      have k8 : (p.k == 8) = true := by simp [h]
      simp only [k0, k1, k8, Bool.false_eq_true, if_false, if_true, ea, eb, ec, Int.toNat_natCast]
      exact ⟨ih a (by omega) (by omega), ih b (by omega) (by omega), ih c (by omega) (by omega)⟩
theorem whole_fine (ps : List Pt) (h : validF ps = true) : (whole ps).fine := by
  obtain ⟨hg, h1, h12⟩ := validF_good ps h
  exact tmAt_fine ps hg ps.length (ps.length - 1) (by omega) (by omega)

theorem getD_mid (pre suf : List Pt) (p : Pt) (k : Nat) (h : pre.length = k) : (pre ++ p :: suf).getD k default = p := by
  subst h
  simp [List.getD]

/-- Parts in order have the tree. -/
theorem tmAt_post (t : Tm) : ∀ (pre suf : List Pt) (k f : Nat), t.fine → pre.length = k → k + t.size ≤ f → tmAt (pre ++ t.post k ++ suf) f (k + t.size - 1) = t := by
  induction t with
  | num v =>
    intro pre suf k f _ hk hf
    obtain ⟨f', rfl⟩ : ∃ f', f = f' + 1 := ⟨f - 1, by simp [Tm.size] at hf; omega⟩
    simp only [Tm.post, Tm.size, Nat.add_sub_cancel, List.append_assoc, List.singleton_append]
    rw [tmAt_eq, getD_mid _ _ _ _ hk]
    rfl
  | rd v =>
    intro pre suf k f _ hk hf
    obtain ⟨f', rfl⟩ : ∃ f', f = f' + 1 := ⟨f - 1, by simp [Tm.size] at hf; omega⟩
    simp only [Tm.post, Tm.size, Nat.add_sub_cancel, List.append_assoc, List.singleton_append]
    rw [tmAt_eq, getD_mid _ _ _ _ hk]
    rfl
  | pr K l r il ir =>
    intro pre suf k f hfi hk hf
    simp only [Tm.size] at hf
    obtain ⟨f', rfl⟩ : ∃ f', f = f' + 1 := ⟨f - 1, by omega⟩
    obtain ⟨h2, h7, hl, hr⟩ := hfi
    have e : pre ++ (Tm.pr K l r).post k ++ suf = (pre ++ l.post k ++ r.post (k + l.size)) ++ (⟨K, ((k + l.size : Nat) : Int) - 1, ((k + l.size + r.size : Nat) : Int) - 1, -1, 0⟩ :: suf) := by simp [Tm.post]
    have ls := l.size_pos
    have rs := r.size_pos
    have hroot : k + (Tm.pr K l r).size - 1 = k + l.size + r.size := by simp only [Tm.size]; omega
    rw [hroot, tmAt_eq]
    have hg : (pre ++ (Tm.pr K l r).post k ++ suf).getD (k + l.size + r.size) default = ⟨K, ((k + l.size : Nat) : Int) - 1, ((k + l.size + r.size : Nat) : Int) - 1, -1, 0⟩ := by
      rw [e, getD_mid _ _ _ _ (by simp [Tm.post_len, hk] <;> omega)]
    rw [hg]
    have k0 : (K == 0) = false := by simp only [beq_eq_false_iff_ne, ne_eq]; omega
    have k1 : (K == 1) = false := by simp only [beq_eq_false_iff_ne, ne_eq]; omega
    have k8 : (K == 8) = false := by simp only [beq_eq_false_iff_ne, ne_eq]; omega
    simp only [k0, k1, k8, Bool.false_eq_true, if_false]
    have ea : (((k + l.size : Nat) : Int) - 1).toNat = k + l.size - 1 := by omega
    have eb : (((k + l.size + r.size : Nat) : Int) - 1).toNat = k + l.size + r.size - 1 := by omega
    rw [ea, eb]
    have e1 : pre ++ (Tm.pr K l r).post k ++ suf = pre ++ l.post k ++ (r.post (k + l.size) ++ (⟨K, ((k + l.size : Nat) : Int) - 1, ((k + l.size + r.size : Nat) : Int) - 1, -1, 0⟩ :: suf)) := by simp [Tm.post]
    have e2 : pre ++ (Tm.pr K l r).post k ++ suf = (pre ++ l.post k) ++ r.post (k + l.size) ++ (⟨K, ((k + l.size : Nat) : Int) - 1, ((k + l.size + r.size : Nat) : Int) - 1, -1, 0⟩ :: suf) := by simp [Tm.post]
    have t1 := il pre (r.post (k + l.size) ++ (⟨K, ((k + l.size : Nat) : Int) - 1, ((k + l.size + r.size : Nat) : Int) - 1, -1, 0⟩ :: suf)) k f' hl hk (by omega)
    have t2 := ir (pre ++ l.post k) (⟨K, ((k + l.size : Nat) : Int) - 1, ((k + l.size + r.size : Nat) : Int) - 1, -1, 0⟩ :: suf) (k + l.size) f' hr (by simp [Tm.post_len, hk] <;> omega) (by omega)
    rw [← e1] at t1
    rw [← e2] at t2
    rw [t1, t2]
  | ch t a b it ia ib =>
    intro pre suf k f hfi hk hf
    simp only [Tm.size] at hf
    obtain ⟨f', rfl⟩ : ∃ f', f = f' + 1 := ⟨f - 1, by omega⟩
    obtain ⟨ht, ha, hb⟩ := hfi
    generalize hp : (⟨8, ((k + t.size : Nat) : Int) - 1, ((k + t.size + a.size : Nat) : Int) - 1, ((k + t.size + a.size + b.size : Nat) : Int) - 1, 0⟩ : Pt) = p
    have hpost : (Tm.ch t a b).post k = t.post k ++ a.post (k + t.size) ++ b.post (k + t.size + a.size) ++ [p] := by rw [← hp]; rfl
    have ts := t.size_pos
    have as_ := a.size_pos
    have bs := b.size_pos
    have hroot : k + (Tm.ch t a b).size - 1 = k + t.size + a.size + b.size := by simp only [Tm.size]; omega
    have hg : (pre ++ (Tm.ch t a b).post k ++ suf).getD (k + t.size + a.size + b.size) default = p := by
      have e : pre ++ (Tm.ch t a b).post k ++ suf = (pre ++ t.post k ++ a.post (k + t.size) ++ b.post (k + t.size + a.size)) ++ p :: suf := by rw [hpost]; simp
      rw [e, getD_mid _ _ _ _ (by simp [Tm.post_len, hk] <;> omega)]
    rw [hroot, tmAt_eq, hg]
    have t1 := it pre (a.post (k + t.size) ++ b.post (k + t.size + a.size) ++ p :: suf) k f' ht hk (by omega)
    have t2 := ia (pre ++ t.post k) (b.post (k + t.size + a.size) ++ p :: suf) (k + t.size) f' ha (by simp [Tm.post_len, hk] <;> omega) (by omega)
    have t3 := ib (pre ++ t.post k ++ a.post (k + t.size)) (p :: suf) (k + t.size + a.size) f' hb (by simp [Tm.post_len, hk] <;> omega) (by omega)
    have e1 : pre ++ (Tm.ch t a b).post k ++ suf = pre ++ t.post k ++ (a.post (k + t.size) ++ b.post (k + t.size + a.size) ++ p :: suf) := by rw [hpost]; simp
    have e2 : pre ++ (Tm.ch t a b).post k ++ suf = (pre ++ t.post k) ++ a.post (k + t.size) ++ (b.post (k + t.size + a.size) ++ p :: suf) := by rw [hpost]; simp
    have e3 : pre ++ (Tm.ch t a b).post k ++ suf = (pre ++ t.post k ++ a.post (k + t.size)) ++ b.post (k + t.size + a.size) ++ (p :: suf) := by rw [hpost]; simp
    rw [← e1] at t1
    rw [← e2] at t2
    rw [← e3] at t3
    rw [← hp]
    have ea : (((k + t.size : Nat) : Int) - 1).toNat = k + t.size - 1 := by omega
    have eb : (((k + t.size + a.size : Nat) : Int) - 1).toNat = k + t.size + a.size - 1 := by omega
    have ec : (((k + t.size + a.size + b.size : Nat) : Int) - 1).toNat = k + t.size + a.size + b.size - 1 := by omega
    simp only [ea, eb, ec]
    rw [t1, t2, t3]
    rfl

theorem whole_post (t : Tm) (h : t.fine) : whole (t.post 0) = t := by
  unfold whole
  rw [Tm.post_len]
  have := tmAt_post t [] [] 0 t.size h rfl (by omega)
  simpa using this

theorem getD_app (l r : List Pt) (j : Nat) : (l ++ r).getD j default = if j < l.length then l.getD j default else r.getD (j - l.length) default := by
  simp only [List.getD]
  split
  · rename_i h; rw [List.getElem?_append_left h]
  · rename_i h; rw [List.getElem?_append_right (by omega)]
/-- The parts in order are good. -/
theorem post_good (t : Tm) : ∀ k j, t.fine → j < t.size → goodPt ((t.post k).getD j default) ((k + j : Nat) : Int) = true := by
  induction t with
  | num v =>
    intro k j hf hj
    obtain rfl : j = 0 := by simp [Tm.size] at hj; omega
    have hf' : 0 ≤ v ∧ v ≤ 99 := hf
    simp [Tm.post, goodPt, ar, rng, hf']
  | rd v =>
    intro k j hf hj
    obtain rfl : j = 0 := by simp [Tm.size] at hj; omega
    have hf' : 0 ≤ v ∧ v ≤ 9 := hf
    simp [Tm.post, goodPt, ar, rng, hf']
  | pr K l r il ir =>
    intro k j hf hj
    obtain ⟨h2, h7, hl, hr⟩ := hf
    simp only [Tm.size] at hj
    have ls := l.size_pos
    have rs := r.size_pos
    simp only [Tm.post]
    rw [getD_app, getD_app, List.length_append, Tm.post_len, Tm.post_len]
    by_cases h : j < l.size + r.size
    · rw [if_pos h]
      by_cases h1 : j < l.size
      · rw [if_pos h1]; exact il k j hl h1
      · rw [if_neg h1]
        have := ir (k + l.size) (j - l.size) hr (by omega)
        rw [show k + l.size + (j - l.size) = k + j by omega] at this
        exact this
    · rw [if_neg h]
      obtain rfl : j = l.size + r.size := by omega
      have ha : ar K = 2 := by unfold ar; rw [if_neg (by omega), if_pos ⟨h2, h7⟩]
      simp only [Nat.sub_self, List.getD_cons_zero, goodPt, ha, rng]
      simp
      omega
  | ch t a b it ia ib =>
    intro k j hf hj
    obtain ⟨ht, ha, hb⟩ := hf
    simp only [Tm.size] at hj
    have ts := t.size_pos
    have as_ := a.size_pos
    have bs := b.size_pos
    simp only [Tm.post]
    rw [getD_app, getD_app, getD_app, List.length_append, List.length_append, Tm.post_len, Tm.post_len, Tm.post_len]
    by_cases h : j < t.size + a.size + b.size
    · rw [if_pos h]
      by_cases h1 : j < t.size + a.size
      · rw [if_pos h1]
        by_cases h2 : j < t.size
        · rw [if_pos h2]; exact it k j ht h2
        · rw [if_neg h2]
          have := ia (k + t.size) (j - t.size) ha (by omega)
          rw [show k + t.size + (j - t.size) = k + j by omega] at this
          exact this
      · rw [if_neg h1]
        have := ib (k + t.size + a.size) (j - (t.size + a.size)) hb (by omega)
        rw [show k + t.size + a.size + (j - (t.size + a.size)) = k + j by omega] at this
        exact this
    · rw [if_neg h]
      obtain rfl : j = t.size + a.size + b.size := by omega
      simp only [Nat.sub_self, List.getD_cons_zero, goodPt, ar, rng]
      simp
      omega

/-- Each part but the last comes once below another one. -/
theorem post_count (t : Tm) : ∀ (k : Nat) (x : Int), t.fine → ((t.post k).flatMap bel).count x = if (k : Int) ≤ x ∧ x < (k : Int) + t.size - 1 then 1 else 0 := by
  induction t with
  | num v =>
    intro k x hf
    rw [if_neg (by simp only [Tm.size]; omega)]
    simp [Tm.post, bel, ar]
  | rd v =>
    intro k x hf
    rw [if_neg (by simp only [Tm.size]; omega)]
    simp [Tm.post, bel, ar]
  | pr K l r il ir =>
    intro k x hf
    obtain ⟨h2, h7, hl, hr⟩ := hf
    have ls := l.size_pos
    have rs := r.size_pos
    have ha : ar K = 2 := by unfold ar; rw [if_neg (by omega), if_pos ⟨h2, h7⟩]
    have hb : bel (⟨K, ((k + l.size : Nat) : Int) - 1, ((k + l.size + r.size : Nat) : Int) - 1, -1, 0⟩ : Pt) = [((k + l.size : Nat) : Int) - 1, ((k + l.size + r.size : Nat) : Int) - 1] := by simp [bel, ha]
    simp only [Tm.post, List.flatMap_append, List.flatMap_cons, List.flatMap_nil, List.append_nil, hb, List.count_append, List.count_cons, List.count_nil, il k x hl, ir (k + l.size) x hr, beq_iff_eq]
    have hsz : (((Tm.pr K l r).size : Nat) : Int) = l.size + r.size + 1 := by simp [Tm.size]
    generalize (Tm.pr K l r).size = sz at *
    by_cases c1 : ((k + l.size : Nat) : Int) - 1 = x
    · rw [if_pos c1]
      by_cases c2 : ((k + l.size + r.size : Nat) : Int) - 1 = x
      · omega
      · rw [if_neg c2, if_neg (by omega), if_neg (by omega), if_pos (by omega)]
    · rw [if_neg c1]
      by_cases c2 : ((k + l.size + r.size : Nat) : Int) - 1 = x
      · rw [if_pos c2, if_neg (by omega), if_neg (by omega), if_pos (by omega)]
      · rw [if_neg c2]
        by_cases c3 : (k : Int) ≤ x ∧ x < (k : Int) + l.size - 1
        · rw [if_pos c3, if_neg (by omega), if_pos (by omega)]
        · rw [if_neg c3]
          by_cases c4 : ((k + l.size : Nat) : Int) ≤ x ∧ x < ((k + l.size : Nat) : Int) + r.size - 1
          · rw [if_pos c4, if_pos (by omega)]
          · rw [if_neg c4, if_neg (by omega)]
  | ch t a b it ia ib =>
    intro k x hf
    obtain ⟨ht, ha, hb⟩ := hf
    have ts := t.size_pos
    have as_ := a.size_pos
    have bs := b.size_pos
    have hbl : bel (⟨8, ((k + t.size : Nat) : Int) - 1, ((k + t.size + a.size : Nat) : Int) - 1, ((k + t.size + a.size + b.size : Nat) : Int) - 1, 0⟩ : Pt) = [((k + t.size : Nat) : Int) - 1, ((k + t.size + a.size : Nat) : Int) - 1, ((k + t.size + a.size + b.size : Nat) : Int) - 1] := by simp [bel, ar]
    simp only [Tm.post, List.flatMap_append, List.flatMap_cons, List.flatMap_nil, List.append_nil, hbl, List.count_append, List.count_cons, List.count_nil, it k x ht, ia (k + t.size) x ha, ib (k + t.size + a.size) x hb, beq_iff_eq]
    have hsz : (((Tm.ch t a b).size : Nat) : Int) = t.size + a.size + b.size + 1 := by simp [Tm.size]
    generalize (Tm.ch t a b).size = sz at *
    by_cases c1 : ((k + t.size : Nat) : Int) - 1 = x
    · rw [if_pos c1, if_neg (by omega : ¬ ((k + t.size + a.size : Nat) : Int) - 1 = x), if_neg (by omega : ¬ ((k + t.size + a.size + b.size : Nat) : Int) - 1 = x), if_neg (by omega), if_neg (by omega), if_neg (by omega), if_pos (by omega)]
    · rw [if_neg c1]
      by_cases c2 : ((k + t.size + a.size : Nat) : Int) - 1 = x
      · rw [if_pos c2, if_neg (by omega : ¬ ((k + t.size + a.size + b.size : Nat) : Int) - 1 = x), if_neg (by omega), if_neg (by omega), if_neg (by omega), if_pos (by omega)]
      · rw [if_neg c2]
        by_cases c5 : ((k + t.size + a.size + b.size : Nat) : Int) - 1 = x
        · rw [if_pos c5, if_neg (by omega), if_neg (by omega), if_neg (by omega), if_pos (by omega)]
        · rw [if_neg c5]
          by_cases c3 : (k : Int) ≤ x ∧ x < (k : Int) + t.size - 1
          · rw [if_pos c3, if_neg (by omega), if_neg (by omega), if_pos (by omega)]
          · rw [if_neg c3]
            by_cases c4 : ((k + t.size : Nat) : Int) ≤ x ∧ x < ((k + t.size : Nat) : Int) + a.size - 1
            · rw [if_pos c4, if_neg (by omega), if_pos (by omega)]
            · rw [if_neg c4]
              by_cases c6 : ((k + t.size + a.size : Nat) : Int) ≤ x ∧ x < ((k + t.size + a.size : Nat) : Int) + b.size - 1
              · rw [if_pos c6, if_pos (by omega)]
              · rw [if_neg c6, if_neg (by omega)]

theorem post_valid (t : Tm) (h : t.fine) (h12 : t.size ≤ 12) : validF (t.post 0) = true := by
  have hs := t.size_pos
  rw [validF_fin]
  · unfold rng; rw [Tm.post_len]; simp; omega
  · intro i hi
    rw [Tm.post_len] at hi
    have := post_good t 0 i h hi
    simpa using this
  · intro i hi
    rw [Tm.post_len] at hi
    rw [post_count t 0 i h, if_pos (by omega)]

/-- A formula in order is valid, of the same tree, and as long. -/
theorem order_facts (ps : List Pt) (h : validF ps = true) : validF (orderF ps) = true ∧ whole (orderF ps) = whole ps ∧ (orderF ps).length = ps.length := by
  have hf := whole_fine ps h
  have hs := size_valid ps h
  have h12 := (validF_good ps h).2.2
  have e : orderF ps = (whole ps).post 0 := by unfold orderF; rw [h]; rfl
  rw [e]
  exact ⟨post_valid _ hf (by omega), whole_post _ hf, by rw [Tm.post_len]; exact hs⟩
theorem deep_facts (ps : List Pt) (h : validF ps = true) : 1 ≤ deepF ps ∧ deepF ps ≤ ps.length ∧ (deepF ps = 1 ↔ ps.length = 1) ∧ deepF (orderF ps) = deepF ps := by
  have hs := size_valid ps h
  obtain ⟨ho, hw, _⟩ := order_facts ps h
  have e : deepF ps = ((whole ps).deep : Int) := by unfold deepF; rw [h]; rfl
  have e2 : deepF (orderF ps) = ((whole (orderF ps)).deep : Int) := by unfold deepF; rw [ho]; rfl
  rw [e2, hw, e]
  have hd := Tm.size_deep (whole ps)
  have key : ∀ t : Tm, 1 ≤ t.deep ∧ (t.deep = 1 ↔ t.size = 1) := by
    intro t
    cases t with
    | num v => simp [Tm.deep, Tm.size]
    | rd v => simp [Tm.deep, Tm.size]
    | pr K l r =>
      have h1 := l.size_pos
      have h2 : 1 ≤ l.deep := by cases l <;> simp [Tm.deep]
      simp only [Tm.deep, Tm.size]
      omega
    | ch t a b =>
      have h1 := t.size_pos
      have h2 : 1 ≤ t.deep := by cases t <;> simp [Tm.deep]
      simp only [Tm.deep, Tm.size]
      omega
  have := key (whole ps)
  refine ⟨by omega, by omega, ?_, rfl⟩
  constructor
  · intro hh; have := this.2.1 (by omega); omega
  · intro hh; have := this.2.2 (by omega); omega
/-- Values of 0 serve a valid formula. -/
theorem zero_canEv (ps : List Pt) (h : validF ps = true) : canEv ps (List.replicate 10 0) = true := by
  obtain ⟨hg, h1, h12⟩ := validF_good ps h
  refine canEv_of ps _ h (by simp) ?_ ?_
  · intro j hj
    have h0 : (List.replicate 10 (0 : Int)).getD j 0 = 0 := by
      simp only [List.getD, List.getElem?_replicate]
      split <;> rfl
    rw [h0]
    omega
  · unfold eachOK
    rw [List.all_eq_true]
    intro p hp
    cases h1 : (p.k == 1)
    · simp
    · obtain ⟨j, hj, rfl⟩ := List.mem_iff_getElem.1 hp
      have := hg j hj
      have e : ps.getD j default = ps[j] := by simp [List.getD, hj]
      rw [e] at this
      have := (good_num _ _ this).2 (by simpa using h1)
      simp
      omega
end Go.Proofs.Ytnbohohoceghnaa

/- laws.FnValidFormula returns true for all bytes, and writes nothing that was there. (Made by genpl.py.) -/
namespace Go.Proofs.Ytnbohohoceghnaa
set_option linter.unusedSimpArgs false
set_option linter.unusedVariables false
open Go.RowKit

set_option maxHeartbeats 400000 in
theorem pspec_ValidFormula (A : Option Addr) (n c : Nat) (ps : List Pt) (w : World) (B : Nat) (hB : B ≤ w.heap.size) (hn : n = ps.length) (h : PS w B A ps) (hs : n ≤ 2000000) :
    Calls Try.prog 32 #[.agg #[.slice A n c]] w fun e w' => e = .returned (.bool (validF ps)) ∧ Below w.heap.size w w' := by
  have H := Lib.hid h
  have HN := Lib.hid hn
  clear h hn
  go_enter Try.func32, Try.ntmps32
  go_wp2_with fail
  refine (spec_validFormula _ _ _ ps _ B (by simp; omega) HN.out (H.out.alloc hB _) hs).mono ?_
  rintro e w1 ⟨rfl, hb⟩
  go_wp2
  go_ret
  exact ⟨by simp, ((Below.refl _ _).alloc (Nat.le_refl _) _).trans (hb.mono (by simp))⟩


set_option maxRecDepth 100000 in
set_option maxHeartbeats 6400000 in
theorem plaw_ValidFormula (A : Option Addr) (n c : Nat) (bs : List Int) (w : World) (hn : n = bs.length) (hnc : n ≤ c) (h : BS w w.heap.size A bs) (hy : BY bs) (hm : n ≤ 9223372036854775807) :
    Calls Try.prog 7 #[.slice A n c] w fun e w' => e = .returned (.bool true) ∧ Below w.heap.size w w' := by
  by_cases hs : 1048576 < n
  · clear hn hnc h hy
    go_enter Try.func7, Try.ntmps7
    go_wp2
    go_ret
    exact ⟨rfl, Below.refl _ _⟩
  have HC := Lib.hid (spec_DrawValidFormula A n c bs w hn hnc h hy (by omega))
  clear hn hnc h hy
  go_enter Try.func7, Try.ntmps7
  go_wp2_with fail
  refine HC.out.mono ?_
  rintro e w1 ⟨A1, n1, c1, ps, rfl, hp1, hp2, hp3, hP, hb⟩
  have HN1 := Lib.hid hp1
  have P_1 := Lib.hid (hP)
  have B_1 := Lib.hid (hb)
  clear hP hp1 hb HC
  go_wp2_with fail
  obtain ⟨w2, hw2⟩ : ∃ W, W = w1.alloc (.cells #[.slice A1 n1 c1] 25) := ⟨_, rfl⟩
  have hb : Below w1.heap.size w1 w2 := by rw [hw2]; exact (Below.refl _ _).alloc (Nat.le_refl _) _
  have P_2 := Lib.hid (P_1.out.step hb)
  clear P_1
  have B_2 := Lib.hid (B_1.out.trans (hb.mono B_1.out.size))
  clear B_1
  have F_2 : Hid (As w1.heap.size (w1.heap.size + 1) (fun w' => w'.cell? ⟨w1.heap.size, 0, none⟩ = some (.slice A1 n1 c1)) w2) := by rw [hw2]; exact box_new _ _ _
  clear hb
  rw [← hw2]
  clear hw2
  obtain ⟨i0, hi, hz0, hz1, hz2⟩ := info_parts info_int
  have HVF := Lib.hid fun (w' : World) (h : PS w' w'.heap.size A1 ps) => impl_ValidFormula A1 n1 c1 ps w' _ (Nat.le_refl _) HN1.out h (by omega)
  have HSP := Lib.hid fun (w' : World) (h : PS w' w'.heap.size A1 ps) => pspec_ValidFormula A1 n1 c1 ps w' _ (Nat.le_refl _) HN1.out h (by omega)
  have HOR := Lib.hid fun (w' : World) (h : PS w' w'.heap.size A1 ps) => impl_OrderParts A1 n1 c1 ps w' _ (Nat.le_refl _) HN1.out h (by omega)
  have HVO := Lib.hid fun (E : Option Addr) (c' : Nat) (w' : World) (h : PS w' w'.heap.size A1 ps) (h' : IS w' w'.heap.size E (List.replicate 10 0)) => impl_ValueOf A1 E n1 c1 10 c' ps (List.replicate 10 0) _ HN1.out (by simp) (by omega) (by omega) w' (Nat.le_refl _) h h'
  have HVF2 := Lib.hid fun (E : Option Addr) (n c' : Nat) (w' : World) (hn : n = (orderF ps).length) (hs : n ≤ 2000000) (h : PS w' w'.heap.size E (orderF ps)) => impl_ValidFormula E n c' (orderF ps) w' _ (Nat.le_refl _) hn h hs
  have HOF := Lib.hid (order_facts ps)
  have HZC := Lib.hid (zero_canEv ps)
  obtain ⟨vf, hvf⟩ : ∃ v, v = validF ps := ⟨_, rfl⟩
  rw [← hvf] at HVF HSP HOF HZC
  clear hvf
  obtain ⟨O, hO⟩ : ∃ O, O = orderF ps := ⟨_, rfl⟩
  rw [← hO] at HOR HVF2 HOF
  clear hO
  have q0 := F_2.out.it
  go_wp2_with fail
  refine (HVF.out w2 P_2.out).mono ?_
  rintro e w3 ⟨rfl, hb⟩
  have P_3 := Lib.hid (P_2.out.step hb)
  clear P_2
  have B_3 := Lib.hid (B_2.out.trans (hb.mono B_2.out.size))
  clear B_2
  have F_3 := Lib.hid (F_2.out.step hb)
  clear F_2
  clear hb
  clear q0
  have hbb : (vf != vf) = false := by simp
  have hbe : (vf == vf) = true := by simp
  have q0 := F_3.out.it
  go_wp2_with fail
  refine (HSP.out w3 P_3.out).mono ?_
  rintro e w4 ⟨rfl, hb⟩
  have P_4 := Lib.hid (P_3.out.step hb)
  clear P_3
  have B_4 := Lib.hid (B_3.out.trans (hb.mono B_3.out.size))
  clear B_3
  have F_4 := Lib.hid (F_3.out.step hb)
  clear F_3
  clear hb
  clear q0
  cases vf
  · skip
    have q0 := F_4.out.it
    go_wp2_with fail
    refine (HSP.out w4 P_4.out).mono ?_
    rintro e w5 ⟨rfl, hb⟩
    have P_5 := Lib.hid (P_4.out.step hb)
    clear P_4
    have B_5 := Lib.hid (B_4.out.trans (hb.mono B_4.out.size))
    clear B_4
    have F_5 := Lib.hid (F_4.out.step hb)
    clear F_4
    clear hb
    clear q0
    go_wp2
    go_ret
    exact ⟨rfl, B_5.out⟩
  · obtain ⟨hv1, _, hv3⟩ := HOF.out (by first | rfl | trivial)
    rw [HZC.out (by first | rfl | trivial)] at HVO
    rw [hv1] at HVF2
    have HOL := Lib.hid hv3
    clear hv1 hv3 HOF HZC HVF HSP
    have q0 := F_4.out.it
    obtain ⟨w5, hmk, hown2, hgr2⟩ := run_make_full (P := Try.prog) w4.drew w4.heap.size 26 3 i0 _ 1 Try.underlying26 hi hz0 hz1 .i64 .i64 10 (by rw [hz2]; omega) (by unfold maxLen; omega) (Nat.le_refl _)
    rw [show ((10 : Nat) : Int) = (10 : Int) from rfl] at hmk
    have hb : Below w4.heap.size w4 w5 := ⟨hgr2.os, hgr2.tape, hgr2.output, hgr2.size, fun k hk => hgr2.block k hk (by simp)⟩
    have P_5 := Lib.hid (P_4.out.step hb)
    clear P_4
    have B_5 := Lib.hid (B_4.out.trans (hb.mono B_4.out.size))
    clear B_4
    have F_5 := Lib.hid (F_4.out.step hb)
    clear F_4
    have HZI : Hid (IS w5 w5.heap.size (some ⟨w4.heap.size, 0, none⟩) (List.replicate 10 0)) := by
      refine IS.of_own (n := 10) (c := 10) (base := w4.heap.size) (e := 3) ?_
      have e : (List.replicate 10 (0 : Int)).map (Value.int .i64) = (madeCells (Value.int .i64 0).cells (10 * 1)).toList := by simp [Value.cells, toList_madeCells_one]
      rw [e]; exact hown2
    have Z_5 := HZI
    clear HZI hown2 hgr2 hb
    have q2 := F_5.out.it
    go_wp2
    refine wp_region_held_drew (S := fun w' => w'.cell? ⟨w1.heap.size, 0, none⟩ = some (.slice A1 n1 c1)) (by kernel_rfl) q0 (fun hHeld => ?_)
    refine wpAnyH_take (i := 0) (oi := ⟨some 27, _, _, _, _, _⟩) (v := ?_) rfl (by kernel_rfl) (by kernel_rfl) (by kernel_rfl) (fun _ _ _ h => h) (Or.inl ⟨by rfl, ?_⟩) (by assumption) ?_; rotate_left; (focus (intro w hSw; (try dsimp only at hSw); go_simp; (try with_reducible rfl))); (try simp only [Act.put, List.setIfInBounds_toArray, List.set_cons_zero, List.set_cons_succ])
    refine wpAnyH_ready (rs := [1]) (by kernel_rfl) (by simp) ?_; refine AllReadyH.cons (o := ⟨some 28, _, _, _, _, _⟩) rfl (fun K hK => ?_) AllReadyH.nil; go_simp
    refine hK.out _ _ q2 (fun hHeld => ?_); clear hK K; (try simp only [Act.put, List.setIfInBounds_toArray, List.set_cons_zero, List.set_cons_succ])
    clear hmk
    refine wpAnyH_ready (rs := [2]) (by kernel_rfl) (by simp) ?_; refine AllReadyH.cons (o := ⟨some 29, _, _, _, _, _⟩) rfl (fun K hK => ?_) AllReadyH.nil; go_simp
    go_at_call 22
    refine (HVO.out _ 10 w5 P_5.out Z_5.out).mono ?_
    rintro e w6 ⟨rfl, hb⟩
    have P_6 := Lib.hid (P_5.out.step hb)
    clear P_5
    have B_6 := Lib.hid (B_5.out.trans (hb.mono B_5.out.size))
    clear B_5
    have F_6 := Lib.hid (F_5.out.step hb)
    clear F_5
    have Z_6 := Lib.hid (Z_5.out.step hb)
    clear Z_5
    have q3 := F_6.out.it
    refine hK.out _ _ q3 (fun hHeld => ?_); clear hK K; (try simp only [Act.put, List.setIfInBounds_toArray, List.set_cons_zero, List.set_cons_succ])
    refine wpAnyH_take (i := 3) (oi := ⟨some 26, _, _, _, _, _⟩) (v := ?_) rfl (by kernel_rfl) (by kernel_rfl) (by kernel_rfl) (fun _ _ _ h => h) (Or.inl ⟨by rfl, ?_⟩) (by assumption) ?_; rotate_left; (focus (intro w hSw; (try dsimp only at hSw); go_simp; (try with_reducible rfl))); (try simp only [Act.put, List.setIfInBounds_toArray, List.set_cons_zero, List.set_cons_succ])
    refine wpAnyH_take (i := 4) (oi := ⟨some 30, _, _, _, _, _⟩) (v := ?_) rfl (by kernel_rfl) (by kernel_rfl) (by kernel_rfl) (fun _ _ _ h => h) (Or.inl ⟨by rfl, ?_⟩) (by assumption) ?_; rotate_left; (focus (intro w hSw; (try dsimp only at hSw); go_simp; (try with_reducible rfl))); (try simp only [Act.put, List.setIfInBounds_toArray, List.set_cons_zero, List.set_cons_succ])
    refine wpAnyH_take (i := 5) (oi := ⟨some 31, _, _, _, _, _⟩) (v := ?_) rfl (by kernel_rfl) (by kernel_rfl) (by kernel_rfl) (fun _ _ _ h => h) (Or.inl ⟨by rfl, ?_⟩) (by assumption) ?_; rotate_left; (focus (intro w hSw; (try dsimp only at hSw); go_simp; (try with_reducible rfl))); (try simp only [Act.put, List.setIfInBounds_toArray, List.set_cons_zero, List.set_cons_succ])
    refine wpAnyH_take (i := 6) (oi := ⟨some 5, _, _, _, _, _⟩) (v := ?_) rfl (by kernel_rfl) (by kernel_rfl) (by kernel_rfl) (fun _ _ _ h => h) (Or.inl ⟨by rfl, ?_⟩) (by assumption) ?_; rotate_left; (focus (intro w hSw; (try dsimp only at hSw); go_simp; (try with_reducible rfl))); (try simp only [Act.put, List.setIfInBounds_toArray, List.set_cons_zero, List.set_cons_succ])
    refine wpAnyH_take (i := 7) (oi := ⟨some 6, _, _, _, _, _⟩) (v := ?_) rfl (by kernel_rfl) (by kernel_rfl) (by kernel_rfl) (fun _ _ _ h => h) (Or.inl ⟨by rfl, ?_⟩) (by assumption) ?_; rotate_left; (focus (intro w hSw; (try dsimp only at hSw); go_simp; (try with_reducible rfl))); (try simp only [Act.put, List.setIfInBounds_toArray, List.set_cons_zero, List.set_cons_succ])
    refine wpAnyH_done (by kernel_rfl) ?_ _
    clear hb q0 q2
    have q0 := F_6.out.it
    go_wp2_with fail
    refine (HOR.out w6 P_6.out).mono ?_
    rintro e w7 ⟨v, rfl, ho, hb⟩
    obtain ⟨A4, c4, rfl⟩ := row_form ho
    have HPO := Lib.hid (show PS w7 w7.heap.size A4 O from PS.of_own ho)
    clear ho
    have P_7 := Lib.hid (P_6.out.step hb)
    clear P_6
    have B_7 := Lib.hid (B_6.out.trans (hb.mono B_6.out.size))
    clear B_6
    have F_7 := Lib.hid (F_6.out.step hb)
    clear F_6
    have Z_7 := Lib.hid (Z_6.out.step hb)
    clear Z_6
    clear hb
    clear q0
    have O_7 := HPO
    clear HPO
    rw [HOL.out]
    rw [← HN1.out]
    have q0 := F_7.out.it
    go_wp2_with fail
    refine (HVF2.out A4 n1 c4 w7 (by rw [HOL.out]; exact HN1.out) (by omega) O_7.out).mono ?_
    rintro e w8 ⟨rfl, hb⟩
    have P_8 := Lib.hid (P_7.out.step hb)
    clear P_7
    have B_8 := Lib.hid (B_7.out.trans (hb.mono B_7.out.size))
    clear B_7
    have F_8 := Lib.hid (F_7.out.step hb)
    clear F_7
    have Z_8 := Lib.hid (Z_7.out.step hb)
    clear Z_7
    have O_8 := Lib.hid (O_7.out.step hb)
    clear O_7
    clear hb
    clear q0
    go_wp2
    go_ret
    exact ⟨rfl, B_8.out⟩
end Go.Proofs.Ytnbohohoceghnaa


namespace Go.Proofs.Ytnbohohoceghnaa
set_option linter.unusedSimpArgs false
set_option linter.unusedVariables false
open Go.ChangeShapes Go.WideShapes Go.ChangeAt Go.RowKit

set_option maxRecDepth 100000 in
theorem plifted_ValidFormula (os : Os) (started : os.Started) (H : Type) (enc : TypeId × Value → H) :
    ReturnsInHanded {} Try.checked os 7 .any (Rows.fnValidFormulaSpec.pre6 enc Try.prog Try.f7 Rows.fnValidFormulaRow.domain false) (Rows.fnValidFormulaSpec.post enc Try.prog Try.f7 false true false false) := by
  refine returnsInHanded_of_change (C := Try.checked) own started (by kernel_rfl) Try.func7
    (ChangeSpec.witness6 (enc := enc) (C := Try.checked) false ⟨#[], #[.slice none 0 0], []⟩ 8 (by kernel_rfl) (by kernel_rfl) (by kernel_rfl) (by kernel_rfl)) ?_
  intro W base args ds gs before hval0 hW hcnd _
  have hval : ∀ (j : Nat) t v, Try.f7.params[j]? = some t → args[j]? = some v → Value.okWide Try.prog W .any base t v := hval0
  have hW' := hW
  obtain ⟨p, q, hA0, hV, rfl, hfz, hnd⟩ := hW
  have hA : DataW.TrodAll enc Try.prog W 0 (fun _ => true) true Try.f7.params.toList args.toList ds p := hA0
  rw [Try.params7] at hA hval
  obtain ⟨v0, vs0, d0, ds0, p0, q0, hargs, rfl, rfl, h0, r0⟩ := trodAll_cons hA
  obtain ⟨rfl, rfl, rfl⟩ := trodAll_nil r0
  obtain rfl : args = #[v0] := by cases args; simp_all
  obtain ⟨rfl, rfl⟩ := trodVars_none hV
  have k0 := h0
  have lt0 : ∀ x ∈ p0, x.block < W.heap.size := by obtain ⟨m, hm⟩ := k0; exact DataW.trod_lt m _ _ _ hm
  obtain ⟨A, n, c, bs, rfl, hn, hnc, hm, hy, hbs⟩ := open_code (hval 0 22 v0 rfl rfl) h0
  clear hA0 hval0
  refine (plaw_ValidFormula A n c bs W hn hnc hbs hy hm).mono fun e W' ⟨he, bel⟩ => ?_
  subst he
  exact ⟨_, rfl, _, _, _, [], _, [], hW', trodAll_mk1 (shut_bool Try.underlying4 _), (trodAll_cons_mk (Below.trod laidOut (by kernel_rfl) (of_decide_eq_true (by kernel_rfl)) k0 bel lt0) trodAll_mk0), rfl, bel.frame _, fun h => by cases h⟩

theorem pproved_ValidFormula : Rows.FnValidFormulaSaid :=
  OpenClaim.holds_of_wide 7 Try.f7 rfl rfl rfl rfl rfl rfl rfl ⟨rfl, rfl, rfl, rfl, rfl⟩ rfl rfl rfl rfl rfl (by kernel_rfl) Try.func7 (by kernel_rfl)
    (of_decide_eq_true (by kernel_rfl)) (by unfold Func.isWrapper; first | (rw [if_pos (by decide +kernel)]; kernel_rfl) | (rw [if_neg (by decide +kernel)]; exact ⟨rfl, rfl⟩))
    (fun os started H enc _ => plifted_ValidFormula os started H enc)
#print axioms pproved_ValidFormula
end Go.Proofs.Ytnbohohoceghnaa
