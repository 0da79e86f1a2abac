/- Words and contracts for memory that the texts behind use. -/
import Derived.Test.YtlcpgbbpjnkihaaGreatL0
import Derived.Test.YtlcpgbbpjnkihaaGreatL1
import Derived.Test.YtlcpgbbpjnkihaaGreatL2
import Derived.Test.YtlcpgbbpjnkihaaGreatL3
import Derived.WalkKit
import Derived.Laws.OwnMore
import Derived.Deep.Draws
import Derived.Test.YtlcpgbbpjnkihaaGreatProg
import Derived.WalkSpells
import Derived.WalkLawsBesides
import Derived.Outline
import Derived.Lib.Hide
import Derived.BigQuiet
import Derived.Deep.QuietTactic
import Derived.StillTailTactics
import Derived.Deep.LoopGhost
import Derived.Laws.MakeOwn
import Derived.WalkSmall
import Derived.RegionTactic
import Derived.BigRegion
import Derived.Deep.RegionWith
import Derived.Deep.RegionHeld3
import Derived.Maps.AppendAt
import Derived.Laws.CopyOwn
import Derived.Deep.Cut
import Derived.Deep.AppendLies
import Derived.Laws.Entries
import Derived.Laws.Bits64
import Derived.IntWalk
import Derived.Deep.RegionLaw
import Derived.Deep.DeepCutAuto
import Derived.Maps.Own
import Derived.Maps.Views
import Derived.ChangeAlike

namespace Go.Proofs.YtlcpgbbpjnkihaaGreat
set_option linter.unusedSimpArgs false
set_option linter.unusedVariables false
open Go.RowKit
set_option maxHeartbeats 400000 in
theorem spec_inRange (n l m : Int) (w : World) :
    Calls Tryz.prog 36 #[.int .i64 n, .int .i64 l, .int .i64 m] w fun e w' => e = .returned (.bool (rng n l m)) ∧ w = w' := by
  go_enter Tryz.func36, Tryz.ntmps36
  go_wp2
  all_goals
    go_ret
    exact ⟨ret_b (by unfold rng; simp; try omega), rfl⟩
set_option maxHeartbeats 800000 in
theorem spec_arity (k : Int) (w : World) :
    Calls Tryz.prog 114 #[.int .i64 k] w fun e w' => e = .returned (.int .i64 (ar k)) ∧ w = w' := by
  go_enter Tryz.func114, Tryz.ntmps114
  go_wp2
  all_goals
    go_ret
    refine ⟨ret_i ?_, rfl⟩
    simp only [beq_iff_eq, beq_eq_false_iff_ne, ne_eq] at *
    unfold ar
    try simp
    omega
end Go.Proofs.YtlcpgbbpjnkihaaGreat

namespace Go.Proofs.YtlcpgbbpjnkihaaGreat
set_option linter.unusedSimpArgs false
set_option linter.unusedVariables false
open Go.RowKit
theorem bcell {W w1 : World} (hb : Below W.heap.size W w1) : (∀ b o, b < W.heap.size → w1.cell? ⟨b, o, none⟩ = W.cell? ⟨b, o, none⟩) ∧ (∀ b o, b < W.heap.size → w1.frozen? ⟨b, o, none⟩ = W.frozen? ⟨b, o, none⟩) :=
  ⟨fun b o h => hb.cell (p := ⟨b, o, none⟩) h, fun b o h => hb.frozen (p := ⟨b, o, none⟩) h⟩
theorem take_succ_getD {α : Type} [Inhabited α] (l : List α) (k : Nat) (h : k < l.length) : l.take (k + 1) = l.take k ++ [l.getD k default] := by
  rw [List.take_succ_eq_append_getElem h]; simp [List.getD, h]
end Go.Proofs.YtlcpgbbpjnkihaaGreat

namespace Go.Proofs.YtlcpgbbpjnkihaaGreat
set_option linter.unusedSimpArgs false
set_option linter.unusedVariables false
open Go.RowKit
/-- Returns a fresh slice of numbers. -/
def RetI (w : World) (xs : List Int) (e : Ending) (w' : World) : Prop := ∃ v, e = .returned v ∧ OwnI w' w.heap.size v xs ∧ Below w.heap.size w w'
theorem retI_lit {w w1 : World} (hb : Below w.heap.size w w1) (xs : List Int) (cs : Array Value) (n : Nat) (hn : n = xs.length) (hm : n ≤ maxLen) (hc : cs.toList = xs.map (Value.int .i64)) (e : Ending)
    (he : e = .returned (.slice (some ⟨w1.heap.size, 0, none⟩) n n)) : RetI w xs e (w1.alloc (.cells cs 3)) := by
  subst hn
  refine ⟨_, he, ?_, hb.alloc hb.size _⟩
  have h := World.ownsRow_lit (e := 3) (size := 1) w1 cs xs.length hb.size hm (by rw [← Array.length_toList, hc]; simp)
  rw [hc] at h
  exact h
set_option maxHeartbeats 800000 in
theorem spec_below (p : Pt) (w : World) :
    Calls Tryz.prog 102 #[.agg #[.int .i64 p.k, .int .i64 p.a, .int .i64 p.b, .int .i64 p.c, .int .i64 p.n]] w fun e w' => RetI w (bel p) e w' := by
  obtain ⟨k, a, b, c, n⟩ := p
  have hm : 3 ≤ maxLen := by unfold maxLen; omega
  have HM := Lib.hid hm
  clear hm
  by_cases h2 : ar k = 2
  · have h2' : (ar k == 2) = true := by simp [h2]
    have H : bel ⟨k, a, b, c, n⟩ = [a, b] := by simp [bel, h2]
    rw [H]
    clear H h2
    go_enter Tryz.func102, Tryz.ntmps102
    go_wp2_with (go_at_call 114; refine (spec_arity _ _).mono ?_; rintro e w' ⟨rfl, rfl⟩)
    go_ret
    exact retI_lit ((Below.refl _ _).alloc (Nat.le_refl _) _) _ _ 2 rfl (by have := HM.out; omega) rfl _ (by simp)
  · have h2' : (ar k == 2) = false := by simp [h2]
    by_cases h3 : ar k = 3
    · have h3' : (ar k == 3) = true := by simp [h3]
      have H : bel ⟨k, a, b, c, n⟩ = [a, b, c] := by simp [bel, h3]
      rw [H]
      clear H h2 h3
      go_enter Tryz.func102, Tryz.ntmps102
      go_wp2_with (go_at_call 114; refine (spec_arity _ _).mono ?_; rintro e w' ⟨rfl, rfl⟩)
      go_ret
      exact retI_lit ((Below.refl _ _).alloc (Nat.le_refl _) _) _ _ 3 rfl (by have := HM.out; omega) rfl _ (by simp)
    · have h3' : (ar k == 3) = false := by simp [h3]
      have H : bel ⟨k, a, b, c, n⟩ = [] := by simp [bel, h3, h2]
      rw [H]
      clear H h2 h3
      go_enter Tryz.func102, Tryz.ntmps102
      go_wp2_with (go_at_call 114; refine (spec_arity _ _).mono ?_; rintro e w' ⟨rfl, rfl⟩)
      go_ret
      exact retI_lit ((Below.refl _ _).alloc (Nat.le_refl _) _) _ _ 0 rfl (by have := HM.out; omega) rfl _ (by simp)
set_option maxHeartbeats 1600000 in
theorem spec_goodPart (p : Pt) (i : Nat) (hi : i ≤ 2000000) (w : World) :
    Calls Tryz.prog 101 #[.agg #[.int .i64 p.k, .int .i64 p.a, .int .i64 p.b, .int .i64 p.c, .int .i64 p.n], .int .i64 i] w fun e w' => e = .returned (.bool (goodPt p i)) ∧ Below w.heap.size w w' := by
  obtain ⟨k, a, b, c, n⟩ := p
  go_enter Tryz.func101, Tryz.ntmps101
  go_wp2_with (first | (go_at_call 114; refine (spec_arity _ _).mono ?_; rintro e w' ⟨rfl, rfl⟩) | (go_at_call 36; refine (spec_inRange _ _ _ _).mono ?_; rintro e w' ⟨rfl, rfl⟩))
  all_goals
    go_ret
    refine ⟨ret_b ?_, (Below.refl _ _).alloc (Nat.le_refl _) _⟩
    simp [goodPt, *]
end Go.Proofs.YtlcpgbbpjnkihaaGreat

namespace Go.Proofs.YtlcpgbbpjnkihaaGreat
set_option linter.unusedSimpArgs false
set_option linter.unusedVariables false
open Go.RowKit
theorem allR_false (l : List Int) (lo hi : Int) (k : Nat) (h : k < l.length) (hr : rng (l.getD k 0) lo hi = false) : allR l lo hi = false := by
  unfold allR
  rw [List.all_eq_false]
  exact ⟨l.getD k 0, by simp [List.getD, h], by rw [hr]; simp⟩
theorem allR_true (l : List Int) (lo hi : Int) (h : ∀ k, k < l.length → rng (l.getD k 0) lo hi = true) : allR l lo hi = true := by
  unfold allR
  rw [List.all_eq_true]
  intro x hx
  obtain ⟨k, hk, rfl⟩ := List.mem_iff_getElem.1 hx
  have := h k hk
  simpa [List.getD, hk] using this
set_option maxHeartbeats 400000 in
theorem spec_allIn (A : Option Addr) (n c : Nat) (xs : List Int) (lo hi : Int) (w : World) (B : Nat) (hB : B ≤ w.heap.size) (hn : n = xs.length) (h : IS w B A xs) (hs : n ≤ 2000000) :
    Calls Tryz.prog 56 #[.slice A n c, .int .i64 lo, .int .i64 hi] w fun e w' => e = .returned (.bool (allR xs lo hi)) ∧ w = w' := by
  have H := Lib.hid h
  have HN := Lib.hid hn
  clear hn h
  go_enter Tryz.func56, Tryz.ntmps56
  go_wp2
  go_loop [7] (fun i => ∃ k : Nat, k ≤ n ∧ i = .int .i64 k ∧ Hid (∀ j, j < k → rng (xs.getD j 0) lo hi = true)) (fun i => n - (intOf i).toNat)
  case atStart => exact ⟨0, Nat.zero_le _, rfl, fun j hj => by omega⟩
  case round =>
    obtain ⟨k, hk, rfl, HA⟩ := hrel
    by_cases hlt : k < n
    · obtain ⟨b, off, rfl, hbB, hc⟩ := H.out (by have := HN.out; omega)
      have c0 := hc k (by have := HN.out; omega)
      clear hc H
      generalize hp : xs.getD k 0 = p at *
      have HP := Lib.hid hp
      clear hp
      cases hr : rng p lo hi
      · go_wp2_with (go_at_call 36; refine (spec_inRange _ _ _ _).mono ?_; rintro e w' ⟨rfl, rfl⟩)
        go_ret
        refine ⟨ret_b ?_, rfl⟩
        rw [allR_false xs lo hi k (by have := HN.out; omega) (by rw [HP.out]; exact hr)]
        try rfl
      · have HR := Lib.hid hr
        go_wp2_with (go_at_call 36; refine (spec_inRange _ _ _ _).mono ?_; rintro e w' ⟨rfl, rfl⟩)
        go_round
        case rel => exact ⟨k + 1, by omega, by go_num, fun j hj => by
          rcases Nat.lt_or_ge j k with h1 | h1
          · exact HA.out j h1
          · obtain rfl : j = k := by omega
            rw [HP.out]; exact HR.out⟩
        case measure => simp [intOf]; omega
    · go_wp2
      go_ret
      refine ⟨ret_b ?_, rfl⟩
      rw [allR_true xs lo hi fun j hj => HA.out j (by have := HN.out; omega)]
      try rfl
end Go.Proofs.YtlcpgbbpjnkihaaGreat

namespace Go.Proofs.YtlcpgbbpjnkihaaGreat
set_option linter.unusedSimpArgs false
set_option linter.unusedVariables false
open Go.RowKit
theorem bel_len (p : Pt) : (bel p).length ≤ 3 := by
  unfold bel
  split
  · simp
  · split <;> simp
theorem take_flat (ps : List Pt) (k : Nat) (h : k < ps.length) : (ps.take (k + 1)).flatMap bel = (ps.take k).flatMap bel ++ bel (ps.getD k default) := by
  rw [show ps.take (k + 1) = ps.take k ++ [ps.getD k default] by rw [List.take_succ_eq_append_getElem h]; simp [List.getD, h]]
  simp
theorem flat_len (ps : List Pt) : (ps.flatMap bel).length ≤ ps.length * 3 := by
  induction ps with
  | nil => simp
  | cons p l ih => have := bel_len p; simp only [List.flatMap_cons, List.length_append, List.length_cons]; omega
theorem validF_bad (ps : List Pt) (k : Nat) (h : k < ps.length) (hg : goodPt (ps.getD k default) k = false) : validF ps = false := by
  unfold validF
  have : decide (∀ i, i < ps.length → goodPt (ps.getD i default) i = true) = false := by
    rw [decide_eq_false_iff_not]; intro H; rw [H k h] at hg; cases hg
  rw [this]; rfl
theorem validF_cnt (ps : List Pt) (k : Nat) (h : k + 1 < ps.length) (hg : (ps.flatMap bel).count (k : Int) ≠ 1) : validF ps = false := by
  unfold validF
  have : decide (∀ i, i < ps.length - 1 → (ps.flatMap bel).count (i : Int) = 1) = false := by
    rw [decide_eq_false_iff_not]; intro H; exact hg (H k (by omega))
  rw [this]; simp
theorem validF_fin (ps : List Pt) (h : ∀ i, i < ps.length → goodPt (ps.getD i default) i = true) (hc : ∀ i, i + 1 < ps.length → (ps.flatMap bel).count (i : Int) = 1) : validF ps = rng ps.length 1 12 := by
  unfold validF
  rw [decide_eq_true h, decide_eq_true fun i hi => hc i (by omega)]; rfl
theorem count_step (L M : List Int) (m t : Nat) (h : m < M.length) (ht : M.getD m 0 = (t : Int)) (j : Nat) : ((L ++ M.take (m + 1)).count (j : Int) : Int) = ((L ++ M.take m).count (j : Int) : Int) + if j = t then 1 else 0 := by
  rw [show M.take (m + 1) = M.take m ++ [M.getD m 0] by rw [List.take_succ_eq_append_getElem h]; simp [List.getD, h]]
  rw [ht, ← List.append_assoc, List.count_append]
  by_cases e : j = t
  · subst e; simp
  · rw [if_neg e, List.count_cons_of_ne (by omega)]; simp
theorem count_le (ps : List Pt) (M : List Int) (m k : Nat) (hk : k ≤ 2000000) (hM : M.length ≤ 3) (x : Int) : ((ps.take k).flatMap bel ++ M.take m).count x ≤ 6000003 := by
  have h1 := List.count_le_length (a := x) (l := (ps.take k).flatMap bel ++ M.take m)
  have h2 := flat_len (ps.take k)
  have h3 : (ps.take k).length ≤ k := List.length_take_le _ _
  have h4 : (M.take m).length ≤ M.length := List.length_take_le' _ _
  rw [List.length_append] at h1
  omega
end Go.Proofs.YtlcpgbbpjnkihaaGreat

namespace Go.Proofs.YtlcpgbbpjnkihaaGreat
set_option linter.unusedSimpArgs false
set_option linter.unusedVariables false
open Go.RowKit
theorem sum_counts_cons (x : Int) (L : List Int) (m : Nat) : ((List.range m).map fun i : Nat => (x :: L).count (i : Int)).sum = ((List.range m).map fun i : Nat => L.count (i : Int)).sum + if 0 ≤ x ∧ x < m then 1 else 0 := by
  induction m with
  | zero =>
    rw [if_neg (by omega)]; rfl
  | succ m ih =>
    rw [List.range_succ, List.map_append, List.sum_append, ih, List.map_append, List.sum_append]
    simp only [List.map_cons, List.map_nil, List.sum_cons, List.sum_nil, List.count_cons]
    by_cases e : x = (m : Int)
    · subst e
      have e1 : ¬ (0 ≤ (m : Int) ∧ (m : Int) < (m : Int)) := by omega
      have e2 : 0 ≤ (m : Int) ∧ (m : Int) < ((m + 1 : Nat) : Int) := by omega
      rw [if_neg e1, if_pos e2]
      simp; omega
    · have : ((x == (m : Int)) = true) = False := by simp [e]
      simp only [this, if_false]
      by_cases h : 0 ≤ x ∧ x < (m : Int)
      · rw [if_pos h, if_pos (by omega)]; omega
      · rw [if_neg h, if_neg (by omega)]; omega
theorem sum_counts (L : List Int) (m : Nat) (h : ∀ x ∈ L, 0 ≤ x ∧ x < (m : Int)) : ((List.range m).map fun i : Nat => L.count (i : Int)).sum = L.length := by
  induction L with
  | nil =>
    clear h
    induction m with
    | zero => rfl
    | succ m ih => rw [List.range_succ, List.map_append, List.sum_append, ih]; simp
  | cons x L ih =>
    rw [sum_counts_cons, ih fun y hy => h y (List.mem_cons_of_mem _ hy), if_pos (h x List.mem_cons_self)]; simp
theorem sum_ones (f : Nat → Nat) (m : Nat) (h : ∀ i, i < m → f i ≤ 1) : ((List.range m).map f).sum ≤ m ∧ (((List.range m).map f).sum = m ↔ ∀ i, i < m → f i = 1) := by
  induction m with
  | zero => simp
  | succ m ih =>
    obtain ⟨h1, h2⟩ := ih fun i hi => h i (by omega)
    have h3 := h m (by omega)
    rw [List.range_succ, List.map_append, List.sum_append]
    simp only [List.map_cons, List.map_nil, List.sum_cons, List.sum_nil]
    refine ⟨by omega, fun e => ?_, fun e => ?_⟩
    · have hm : ((List.range m).map f).sum = m := by omega
      have := h2.1 hm
      intro i hi
      rcases Nat.lt_or_ge i m with hlt | hge
      · exact this i hlt
      · obtain rfl : i = m := by omega
        omega
    · have := h2.2 fun i hi => e i (by omega)
      have := e m (by omega)
      omega
theorem take_succ_int (M : List Int) (m : Nat) (x : Int) (h : m < M.length) (hx : M.getD m 0 = x) : M.take (m + 1) = M.take m ++ [x] := by
  rw [List.take_succ_eq_append_getElem h, ← hx]; simp [List.getD, h]
end Go.Proofs.YtlcpgbbpjnkihaaGreat

namespace Go.Proofs.YtlcpgbbpjnkihaaGreat
set_option linter.unusedSimpArgs false
set_option linter.unusedVariables false
open Go.RowKit
theorem plc_lt (l : List Int) (x : Int) : decide (plc l x < 0) = !decide (x ∈ l) := by
  unfold plc
  by_cases h : x ∈ l
  · simp [h]
  · simp [h]
theorem firsts_step (l : List Int) (k : Nat) (x : Int) (h : k < l.length) (hx : l.getD k 0 = x) : firsts (l.take (k + 1)) = if x ∈ firsts (l.take k) then firsts (l.take k) else firsts (l.take k) ++ [x] := by
  rw [take_succ_int l k x h hx]
  unfold firsts
  rw [List.foldl_append]
  rfl
theorem firsts_len (l : List Int) : (firsts l).length ≤ l.length := by
  have : ∀ (l acc : List Int), (l.foldl (fun acc x => if x ∈ acc then acc else acc ++ [x]) acc).length ≤ acc.length + l.length := by
    intro l
    induction l with
    | nil => intro acc; simp
    | cons y l ih =>
      intro acc
      rw [List.foldl_cons]
      split
      · have := ih acc; simp only [List.length_cons]; omega
      · have := ih (acc ++ [y]); simp only [List.length_cons, List.length_append, List.length_nil] at this ⊢; omega
  have h := this l []
  unfold firsts
  simpa using h
/-- A slice of the call's own that is not nil. -/
def OwnN (w : World) (base : Nat) (v : Value) (xs : List Int) : Prop := w.ownsRow base 3 1 v xs.length (xs.map (Value.int .i64)) ∧ v ≠ .slice none 0 0
theorem OwnN.form {w : World} {base : Nat} {v : Value} {xs : List Int} (h : OwnN w base v xs) : ∃ g c, v = .slice (some ⟨g, 0, none⟩) xs.length c ∧ base ≤ g ∧ g < w.heap.size := by
  rcases h.1.2 with ⟨hv, _⟩ | ⟨g, cap, cur, hv, hb, hh, _⟩
  · exact absurd hv h.2
  · refine ⟨g, cap, hv, hb, ?_⟩
    rcases Nat.lt_or_ge g w.heap.size with hlt | hge
    · exact hlt
    · rw [Array.getElem?_eq_none hge] at hh; cases hh
/-- Returns a fresh slice of numbers that is not nil. -/
def RetN (w : World) (xs : List Int) (e : Ending) (w' : World) : Prop := ∃ v, e = .returned v ∧ OwnN w' w.heap.size v xs ∧ Below w.heap.size w w'
set_option maxRecDepth 100000 in
set_option maxHeartbeats 1600000 in
theorem spec_firstOnly (A : Option Addr) (n c : Nat) (xs : List Int) (w : World) (B : Nat) (hB : B ≤ w.heap.size) (hn : n = xs.length) (h : IS w B A xs) (hs : n ≤ 2000000) :
    Calls Tryz.prog 77 #[.slice A n c] w fun e w' => RetN w (firsts xs) e w' := by
  obtain ⟨i0, hi, hz0, hz1, hz2⟩ := info_parts info_int
  have H := Lib.hid h
  have HN := Lib.hid hn
  clear hn h
  go_enter Tryz.func77, Tryz.ntmps77
  go_wp2
  go_loopw [3, 4] (fun v i wr => ∃ k : Nat, k ≤ n ∧ i = .int .i64 k ∧ Hid (OwnN wr w.heap.size v (firsts (xs.take k))) ∧ Below w.heap.size w wr) (fun _ i _ => n - (intOf i).toNat)
  case atStart =>
    refine ⟨0, Nat.zero_le _, rfl, ⟨?_, by simp⟩, (Below.refl _ _).alloc (Nat.le_refl _) _⟩
    exact World.ownsRow_lit (e := 3) (size := 1) w #[] 0 (Nat.le_refl _) (by unfold maxLen; omega) rfl
  case round =>
    obtain ⟨k, hk, rfl, HO, hb⟩ := hrel
    by_cases hlt : k < n
    · obtain ⟨b, off, rfl, hbB, hc⟩ := H.out (by have := HN.out; omega)
      have c0 := hc k (by have := HN.out; omega)
      clear hc
      have b0 := (hb.cell (p := ⟨b, off + k, none⟩) (by simp; omega)).trans c0
      clear c0
      generalize hp : xs.getD k 0 = p at *
      have HST := Lib.hid (firsts_step xs k p (by have := HN.out; omega) hp)
      have hfl := firsts_len (xs.take k)
      have hfk : (xs.take k).length ≤ k := List.length_take_le _ _
      generalize hF : firsts (xs.take k) = F at *
      clear hp hF
      obtain ⟨g, cc, rfl, hbg, hgs⟩ := HO.out.form
      have HI := Lib.hid (IS.of_own HO.out.1)
      have hwr : w.heap.size ≤ wr.heap.size := hb.size
      generalize hFL : F.length = fl at *
      have HFL := Lib.hid hFL
      clear hFL
      cases hin : decide (p ∈ F)
      · have hd : decide (plc F p < 0) = true := by rw [plc_lt, hin]; rfl
        have HIN := Lib.hid hin
        clear hin
        go_wp2_with (first | (go_at_call 72; refine (spec_placeIn _ _ _ F _ _ wr.heap.size (Nat.le_refl _) HFL.out.symm HI.out (by omega)).mono ?_; rintro e w' ⟨rfl, rfl⟩) | (at_builtin; refine wpList_append_own _ rfl _ _ 25 rfl w.heap.size 3 i0 (.int .i64 0) 1 8 Tryz.underlying25 hi hz0 hz1 hz2 rfl (by decide) _ _ _ rfl (HO.out.1.alloc _) ⟨wr.heap.size, 0, none⟩ 1 1 [.int .i64 p] rfl rfl (cell_one_new _ _ _) ?c2 ?c3 ?c4 ?c5 ?_))
        case c2 => intro u hu; simp at hu; subst hu; rfl
        case c3 => have := HFL.out; unfold maxLen; omega
        case c4 => have := HFL.out; omega
        case c5 => simp; omega
        intro v' w1 hown' hgrow hnil
        have HO' : Hid (OwnN w1 w.heap.size v' (firsts (xs.take (k + 1)))) := by
          have hst := HST.out
          have hnin : ¬ p ∈ F := of_decide_eq_false HIN.out
          rw [if_neg hnin] at hst
          rw [hst]
          refine ⟨?_, by first | exact hnil | (intro e; simp [e] at hnil)⟩
          simpa using hown'
        have hb' : Below w.heap.size w w1 := (hb.alloc hwr _).grown hgrow (by simp; omega) (by intro q hq; simp [Value.ownBlock] at hq; omega)
        clear hown' hgrow hnil
        go_wp2
        go_roundw
        case rel => exact ⟨k + 1, by omega, by go_num, HO'.out, hb'⟩
        case measure => simp [intOf]; omega
      · have hd : decide (plc F p < 0) = false := by rw [plc_lt, hin]; rfl
        have HIN := Lib.hid hin
        clear hin
        go_wp2_with (go_at_call 72; refine (spec_placeIn _ _ _ F _ _ wr.heap.size (Nat.le_refl _) HFL.out.symm HI.out (by omega)).mono ?_; rintro e w' ⟨rfl, rfl⟩)
        go_roundw
        case rel =>
          have hst := HST.out
          rw [if_pos (of_decide_eq_true HIN.out)] at hst
          exact ⟨k + 1, by omega, by go_num, by rw [hst]; exact HO.out, hb⟩
        case measure => simp [intOf]; omega
    · go_wp2
      go_ret
      have hkn : k = n := by omega
      refine ⟨_, rfl, ?_, hb⟩
      rw [hkn, List.take_of_length_le (by have := HN.out; omega)] at HO
      simpa using HO.out
theorem mayR_step (ps : List Pt) (m : Nat) : (((List.range (m + 1)).filter (hasNode ps)).map fun m : Nat => (m : Int)) = (((List.range m).filter (hasNode ps)).map fun m : Nat => (m : Int)) ++ (if hasNode ps m then [(m : Int)] else []) := by
  rw [List.range_succ, List.filter_append, List.map_append]
  congr 1
  cases h : hasNode ps m <;> simp [h]
theorem mayR_len (ps : List Pt) (m : Nat) : (((List.range m).filter (hasNode ps)).map fun m : Nat => (m : Int)).length ≤ m := by
  rw [List.length_map]
  have := List.length_filter_le (hasNode ps) (List.range m)
  simpa using this
set_option maxRecDepth 100000 in
set_option maxHeartbeats 1600000 in
theorem spec_mayRead (A : Option Addr) (n c : Nat) (ps : List Pt) (w : World) (B : Nat) (hB : B ≤ w.heap.size) (hn : n = ps.length) (h : PS w B A ps) (hs : n ≤ 2000000) :
    Calls Tryz.prog 85 #[.agg #[.slice A n c]] w fun e w' => RetN w (mayR ps) e w' := by
  obtain ⟨i0, hi, hz0, hz1, hz2⟩ := info_parts info_int
  have H := Lib.hid h
  have HN := Lib.hid hn
  clear hn h
  go_enter Tryz.func85, Tryz.ntmps85
  go_wp2
  go_loopw [3, 4] (fun v i wr => ∃ m : Nat, m ≤ 10 ∧ i = .int .i64 m ∧ Hid (OwnN wr (w.heap.size + 1) v (((List.range m).filter (hasNode ps)).map fun m : Nat => (m : Int))) ∧ Below (w.heap.size + 1) (w.alloc (.cells #[.slice A n c] 77)) wr) (fun _ i _ => 10 - (intOf i).toNat)
  case atStart =>
    refine ⟨0, by omega, rfl, ⟨?_, by simp⟩, (Below.refl _ _).alloc (by simp) _⟩
    have := World.ownsRow_lit (e := 3) (size := 1) (base := w.heap.size + 1) (w.alloc (.cells #[.slice A n c] 77)) #[] 0 (by simp) (by unfold maxLen; omega) rfl
    simpa using this
  case round =>
    obtain ⟨m, hm, rfl, HO, hb⟩ := hrel
    have hbox : wr.cell? ⟨w.heap.size, 0, none⟩ = some (.slice A n c) := (hb.cell (p := ⟨w.heap.size, 0, none⟩) (by simp)).trans (by go_simp)
    have hwr : w.heap.size + 1 ≤ wr.heap.size := by have := hb.size; simpa using this
    by_cases hlt : m < 10
    · have HST := Lib.hid (mayR_step ps m)
      have hml := mayR_len ps m
      generalize hF : (((List.range m).filter (hasNode ps)).map fun m : Nat => (m : Int)) = F at *
      clear hF
      go_wp2
      obtain ⟨wo, hwo⟩ : ∃ wo : World, wo = wr := ⟨_, rfl⟩
      go_loopw [3, 5] (fun v j wi => ∃ k : Nat, k ≤ n ∧ j = .int .i64 k ∧ Hid (OwnN wi (w.heap.size + 1) v F) ∧ Hid ((ps.take k).any (fun p => p.k == 1 && p.n == (m : Int)) = false) ∧ Below (w.heap.size + 1) (w.alloc (.cells #[.slice A n c] 77)) wi) (fun _ j _ => n - (intOf j).toNat)
      case atStart => exact ⟨0, Nat.zero_le _, rfl, HO.out, by simp [Hid], hb⟩
      case round =>
        clear hb hbox hwr hwo HO
        obtain ⟨k, hk, rfl, HO, HA, hb⟩ := hrel
        have hbox : wr.cell? ⟨w.heap.size, 0, none⟩ = some (.slice A n c) := (hb.cell (p := ⟨w.heap.size, 0, none⟩) (by simp)).trans (by go_simp)
        have hwr : w.heap.size + 1 ≤ wr.heap.size := by have := hb.size; simpa using this
        by_cases hkn : k < n
        · obtain ⟨b, off, rfl, hbB, hc⟩ := H.out (by have := HN.out; omega)
          obtain ⟨c0, c1, c2, c3, c4⟩ := hc k (by have := HN.out; omega)
          clear hc
          have hbw : b < w.heap.size := by omega
          have b0 := ((hb.cell (p := ⟨b, off + k * 5, none⟩) (by simp; omega)).trans (World.cell?_alloc_lt _ _ _ (by simpa using hbw))).trans c0
          have b4 := ((hb.cell (p := ⟨b, off + k * 5 + 4, none⟩) (by simp; omega)).trans (World.cell?_alloc_lt _ _ _ (by simpa using hbw))).trans c4
          clear c0 c1 c2 c3 c4
          generalize hp : ps.getD k default = p at *
          have HP := Lib.hid hp
          clear hp
          cases h1 : (p.k == 1)
          · have H1 := Lib.hid h1
            go_wp2
            go_roundw
            case rel =>
              refine ⟨k + 1, by omega, by go_num, HO.out, ?_, hb⟩
              rw [take_succ_getD ps k (by have := HN.out; omega), HP.out, List.any_append, HA.out]
              simp [Hid, show p.k ≠ 1 by simpa using H1.out]
            case measure => simp [intOf]; omega
          · cases h2 : (p.n == (m : Int))
            · have H2 := Lib.hid h2
              go_wp2
              go_roundw
              case rel =>
                refine ⟨k + 1, by omega, by go_num, HO.out, ?_, hb⟩
                rw [take_succ_getD ps k (by have := HN.out; omega), HP.out, List.any_append, HA.out]
                simp [Hid, show p.n ≠ (m : Int) by simpa using H2.out]
              case measure => simp [intOf]; omega
            · have H2 := Lib.hid (show p.n = (m : Int) by simpa using h2)
              have H1 := Lib.hid (show p.k = 1 by simpa using h1)
              obtain ⟨g, cc, rfl, hbg, hgs⟩ := HO.out.form
              go_wp2_with (at_builtin; refine wpList_append_own _ rfl _ _ 25 rfl (w.heap.size + 1) 3 i0 (.int .i64 0) 1 8 Tryz.underlying25 hi hz0 hz1 hz2 rfl (by decide) _ _ _ rfl (HO.out.1.alloc _) ⟨wr.heap.size, 0, none⟩ 1 1 [.int .i64 m] rfl rfl (cell_one_new _ _ _) ?c2 ?c3 ?c4 ?c5 ?_)
              case c2 => intro u hu; simp at hu; subst hu; rfl
              case c3 => unfold maxLen; omega
              case c4 => omega
              case c5 => simp; omega
              intro v' w1 hown' hgrow hnil
              have HO' : Hid (OwnN w1 (w.heap.size + 1) v' (((List.range (m + 1)).filter (hasNode ps)).map fun m : Nat => (m : Int))) := by
                have hh : hasNode ps m = true := by
                  unfold hasNode
                  rw [List.any_eq_true]
                  have hk' : k < ps.length := by have := HN.out; omega
                  refine ⟨ps.getD k default, by simp [List.getD, hk'], ?_⟩
                  rw [HP.out, H2.out, H1.out]
                  simp
                rw [HST.out, hh]
                refine ⟨?_, by first | exact hnil | (intro e; simp [e] at hnil)⟩
                simpa using hown'
              have hb' := (hb.alloc (by omega) (.cells #[.int .i64 m] 3)).grown hgrow (by simp; omega) (by intro q hq; simp [Value.ownBlock] at hq; omega)
              clear hown' hgrow hnil
              go_wp2
              go_roundw
              case rel => exact ⟨m + 1, by omega, by go_num, HO'.out, hb'⟩
              case measure => simp [intOf]; omega
        · go_wp2
          go_roundw
          case rel =>
            have hh : hasNode ps m = false := by
              have := HA.out
              rwa [List.take_of_length_le (by have := HN.out; omega)] at this
            exact ⟨m + 1, by omega, by go_num, by rw [HST.out, hh]; simpa [Hid] using HO.out, hb⟩
          case measure => simp [intOf]; omega
    · go_wp2
      go_ret
      obtain rfl : m = 10 := by omega
      refine ⟨_, rfl, ?_, ((Below.refl _ _).alloc (Nat.le_refl _) _).trans (hb.mono (by omega))⟩
      exact ⟨own_mono HO.out.1 (by omega), HO.out.2⟩
end Go.Proofs.YtlcpgbbpjnkihaaGreat

namespace Go.Proofs.YtlcpgbbpjnkihaaGreat
set_option linter.unusedSimpArgs false
set_option linter.unusedVariables false
open Go.RowKit
theorem mul_bd (x y : Int) (hx : 0 ≤ x) (hx' : x ≤ 999) (hy : 0 ≤ y) (hy' : y ≤ 999) : 0 ≤ x * y ∧ x * y ≤ 998001 :=
  ⟨Int.mul_nonneg hx hy, by
    have h1 : x * y ≤ 999 * y := Int.mul_le_mul_of_nonneg_right hx' hy
    omega⟩
theorem jn_bd (k x y : Int) (hx : 0 ≤ x) (hx' : x ≤ 999) (hy : 0 ≤ y) (hy' : y ≤ 999) : 0 ≤ jn k x y ∧ jn k x y ≤ 999 := by
  have := mul_bd x y hx hx' hy hy'
  unfold jn
  (repeat' split) <;> omega
set_option maxHeartbeats 800000 in
theorem spec_joined (k x y : Int) (hx : 0 ≤ x) (hx' : x ≤ 999) (hy : 0 ≤ y) (hy' : y ≤ 999) (w : World) :
    Calls Tryz.prog 97 #[.int .i64 k, .int .i64 x, .int .i64 y] w fun e w' => e = .returned (.int .i64 (jn k x y)) ∧ w = w' := by
  obtain ⟨hm0, hm1⟩ := mul_bd x y hx hx' hy hy'
  have hs : 0 ≤ x - y + 1000 := by omega
  go_enter Tryz.func97, Tryz.ntmps97
  go_wp2
  all_goals
    go_ret
    refine ⟨ret_i ?_, rfl⟩
    simp_all [jn]
    try omega
/-- The values serve the formula, as impl reckons it. -/
def canEv (ps : List Pt) (vs : List Int) : Bool := validF ps && ((decide (vs.length ≤ 10) && allR vs 0 999) && eachOK ps vs.length)
end Go.Proofs.YtlcpgbbpjnkihaaGreat

namespace Go.Proofs.YtlcpgbbpjnkihaaGreat
set_option linter.unusedSimpArgs false
set_option linter.unusedVariables false
open Go.RowKit
/-- All values are in range. -/
def VOK (vs : List Int) : Prop := ∀ j, j < vs.length → 0 ≤ vs.getD j 0 ∧ vs.getD j 0 ≤ 999
theorem Tm.ev_bd (vs : List Int) (hv : VOK vs) (t : Tm) (h : t.ok vs.length) : 0 ≤ t.ev vs ∧ t.ev vs ≤ 999 := by
  induction t with
  | num v => simp only [Tm.ok] at h; simp only [Tm.ev]; omega
  | rd v => simp only [Tm.ok] at h; exact hv _ (by omega)
  | pr k l r hl hr =>
    simp only [Tm.ok] at h
    obtain ⟨a1, a2⟩ := hl h.1
    obtain ⟨b1, b2⟩ := hr h.2
    exact jn_bd _ _ _ a1 a2 b1 b2
  | ch t a b ht ha hb =>
    simp only [Tm.ok] at h
    simp only [Tm.ev]
    split
    · exact hb h.2.2
    · exact ha h.2.1
theorem rds_len (ps : List Pt) (vs : List Int) (f i : Nat) : ((tmAt ps f i).rds vs).length ≤ 3 ^ f := by
  induction f generalizing i with
  | zero => simp [tmAt, Tm.rds]
  | succ f ih =>
    have hp : 0 < 3 ^ f := Nat.pow_pos (by omega)
    rw [tmAt_eq, Nat.pow_succ]
    generalize ps.getD i default = p
    have ha := ih p.a.toNat
    have hb := ih p.b.toNat
    have hc := ih p.c.toNat
    split
    · simp [Tm.rds]
    · split
      · simp only [Tm.rds, List.length_cons, List.length_nil]; omega
      · split
        · simp only [Tm.rds, List.length_append]
          split <;> omega
        · simp only [Tm.rds, List.length_append]; omega
/-- Returns a value and a fresh slice of numbers that is not nil. -/
def RetVN (w : World) (x : Int) (xs : List Int) (e : Ending) (w' : World) : Prop := ∃ v, e = .returned (.tuple #[.int .i64 x, v]) ∧ OwnN w' w.heap.size v xs ∧ Below w.heap.size w w'
theorem retVN_lit {w w1 : World} (hb : Below w.heap.size w w1) (x : Int) (xs : List Int) (cs : Array Value) (n : Nat) (hn : n = xs.length) (hm : n ≤ maxLen) (hc : cs.toList = xs.map (Value.int .i64)) (e : Ending)
    (he : e = .returned (.tuple #[.int .i64 x, .slice (some ⟨w1.heap.size, 0, none⟩) n n])) : RetVN w x xs e (w1.alloc (.cells cs 3)) := by
  subst hn
  refine ⟨_, he, ⟨?_, by simp⟩, hb.alloc hb.size _⟩
  have h := World.ownsRow_lit (e := 3) (size := 1) w1 cs xs.length hb.size hm (by rw [← Array.length_toList, hc]; simp)
  rw [hc] at h
  exact h
theorem RetVN.drew {w w' : World} {x : Int} {xs : List Int} {e : Ending} (h : RetVN w x xs e w') : RetVN w x xs e w'.drew := by
  obtain ⟨v, he, ho, hb⟩ := h
  exact ⟨v, he, ho, hb.drew⟩
set_option maxRecDepth 100000 in
set_option maxHeartbeats 3200000 in
theorem spec_reckoned (A A' : Option Addr) (n c m c' : Nat) (ps : List Pt) (vs : List Int) (B : Nat) (hn : n = ps.length) (hm : m = vs.length) (hg : AllGood ps) (he : eachOK ps m = true) (hv : VOK vs) (hs : n ≤ 2000000) (hs' : m ≤ 2000000) (f : Nat) (hf : f ≤ 12) :
    ∀ (i : Nat) (w : World), i < f → i < n → B ≤ w.heap.size → PS w B A ps → IS w B A' vs →
    Calls Tryz.prog 103 #[.agg #[.slice A n c], .slice A' m c', .int .i64 i] w fun e w' => RetVN w ((tmAt ps f i).ev vs) ((tmAt ps f i).rds vs) e w' := by
  obtain ⟨i0, hi, hz0, hz1, hz2⟩ := info_parts info_int
  induction f with
  | zero => intro i w hi; omega
  | succ f ih =>
    intro i w hif hin hB h h'
    obtain ⟨b, off, rfl, hbB, hc⟩ := h (by omega)
    obtain ⟨c0, c1, c2, c3, c4⟩ := hc i (by omega)
    clear hc
    have hgi := hg i (by omega)
    have hok := tmAt_ok ps m hg he (f + 1) i hif (by omega)
    have hbw : b < w.heap.size := by omega
    have hsub : ∀ j, j < i → 0 ≤ (tmAt ps f j).ev vs ∧ (tmAt ps f j).ev vs ≤ 999 := fun j hj => Tm.ev_bd vs hv _ (by rw [← hm]; exact tmAt_ok ps m hg he f j (by omega) (by omega))
    have hlen : ∀ j, ((tmAt ps f j).rds vs).length ≤ 531441 := fun j => Nat.le_trans (rds_len ps vs f j) (Nat.pow_le_pow_right (by omega) (show f ≤ 12 by omega))
    have HE := Lib.hid (tmAt_eq ps f i)
    have H := Lib.hid h
    have H' := Lib.hid h'
    have IH := Lib.hid (ih (by omega))
    have HN := Lib.hid hn
    have HM := Lib.hid hm
    have HV := Lib.hid hv
    have HSUB := Lib.hid hsub
    have HLEN := Lib.hid hlen
    clear h h' ih hn hm hg he hv hsub hlen
    generalize hp : ps.getD i default = p at *
    generalize tmAt ps (f + 1) i = t at *
    clear hp
    rcases good_kind p i hgi with h0 | h1 | h2 | h8
    · have k0 : (p.k == 0) = true := by simp [h0]
      have ht : t = .num p.n := by rw [HE.out, k0]; rfl
      rw [ht]
      clear HE ht h0 hgi hok
      go_enter Tryz.func103, Tryz.ntmps103
      go_wp2
      go_ret2
      exact retVN_lit (((Below.refl _ _).alloc (Nat.le_refl _) _).alloc (by simp) _) _ _ _ 0 rfl (by unfold maxLen; omega) rfl _ (by simp [Tm.ev])
    · have k0 : (p.k == 0) = false := by simp [h1]
      have k1 : (p.k == 1) = true := by simp [h1]
      have ht : t = .rd p.n := by rw [HE.out, k0, k1]; rfl
      rw [ht] at hok ⊢
      simp only [Tm.ok] at hok
      obtain ⟨q, hq⟩ : ∃ q : Nat, p.n = (q : Int) := ⟨p.n.toNat, by omega⟩
      have hqm : q < m := by omega
      rw [hq] at c4
      obtain ⟨b2, off2, rfl, hb2, hc2⟩ := H'.out (by have := HM.out; omega)
      have d0 := hc2 q (by have := HM.out; omega)
      have hb2w : b2 < w.heap.size := by omega
      have hb2w1 : b2 < w.heap.size + 1 := by omega
      have hb2w2 : b2 < w.heap.size + 1 + 1 := by omega
      have hev : (Tm.rd p.n).ev vs = vs.getD q 0 := by rw [hq]; simp [Tm.ev]
      have hrd : (Tm.rd p.n).rds vs = [(q : Int)] := by rw [hq]; rfl
      rw [hev, hrd]
      generalize vs.getD q 0 = x at *
      clear HE ht h1 hgi hok hc2 hq hev hrd
      go_enter Tryz.func103, Tryz.ntmps103
      go_wp2
      go_region
      go_wp2
      go_ret2
      exact (retVN_lit (((Below.refl _ _).alloc (Nat.le_refl _) _).alloc (by simp) _) _ _ _ 1 rfl (by unfold maxLen; omega) rfl _ (by simp)).drew
    · obtain ⟨ta, tb, ea, eb, la, lb⟩ := (good_bel_nat p i hgi).1 h2
      have k0 : (p.k == 0) = false := by simp only [beq_eq_false_iff_ne, ne_eq]; omega
      have k1 : (p.k == 1) = false := by simp only [beq_eq_false_iff_ne, ne_eq]; omega
      have k8 : (p.k == 8) = false := by simp only [beq_eq_false_iff_ne, ne_eq]; omega
      have ht : t = .pr p.k (tmAt ps f ta) (tmAt ps f tb) := by rw [HE.out, k0, k1, k8, ea, eb]; simp
      rw [ht]
      rw [ea] at c1
      rw [eb] at c2
      obtain ⟨va1, va2⟩ := HSUB.out ta la
      obtain ⟨vb1, vb2⟩ := HSUB.out tb lb
      have la1 := HLEN.out ta
      have lb1 := HLEN.out tb
      have hev : (Tm.pr p.k (tmAt ps f ta) (tmAt ps f tb)).ev vs = jn p.k ((tmAt ps f ta).ev vs) ((tmAt ps f tb).ev vs) := rfl
      have hrd : (Tm.pr p.k (tmAt ps f ta) (tmAt ps f tb)).rds vs = (tmAt ps f ta).rds vs ++ (tmAt ps f tb).rds vs := rfl
      rw [hev, hrd]
      have HIA := Lib.hid (IH.out ta)
      have HIB := Lib.hid (IH.out tb)
      generalize (tmAt ps f ta).ev vs = xa at *
      generalize (tmAt ps f tb).ev vs = xb at *
      generalize (tmAt ps f ta).rds vs = ra at *
      generalize (tmAt ps f tb).rds vs = rb at *
      clear HE ht h2 hgi hok hev hrd ea eb HSUB HLEN IH
      go_enter Tryz.func103, Tryz.ntmps103
      go_wp2_with fail
      refine (HIA.out _ (by omega) (by omega) (by simp; omega) ((H.out.alloc hB _).alloc (by simp; omega) _) ((H'.out.alloc hB _).alloc (by simp; omega) _)).mono ?_
      rintro e w1 ⟨v1, rfl, hown1, hb1⟩
      have hw1 : w.heap.size + 1 + 1 ≤ w1.heap.size := by have := hb1.size; simpa using this
      have q0 : w1.cell? ⟨w.heap.size, 0, none⟩ = some (.slice (some ⟨b, off, none⟩) n c) := (hb1.cell (p := ⟨w.heap.size, 0, none⟩) (by simp; try omega)).trans (by go_simp)
      have q1 : w1.cell? ⟨w.heap.size + 1, 0, none⟩ = some (.int .i64 p.k) := (hb1.cell (p := ⟨w.heap.size + 1, 0, none⟩) (by simp; try omega)).trans (by go_simp)
      have q2 : w1.cell? ⟨w.heap.size + 1, 2, none⟩ = some (.int .i64 tb) := (hb1.cell (p := ⟨w.heap.size + 1, 2, none⟩) (by simp; try omega)).trans (by go_simp)
      have HP1 := Lib.hid (((H.out.alloc hB (.cells #[.slice (some ⟨b, off, none⟩) n c] 77)).alloc (by simp; omega) (.cells #[.int .i64 p.k, .int .i64 ta, .int .i64 tb, .int .i64 p.c, .int .i64 p.n] 120)).below hb1 (by simp; omega))
      have HI1 := Lib.hid (((H'.out.alloc hB (.cells #[.slice (some ⟨b, off, none⟩) n c] 77)).alloc (by simp; omega) (.cells #[.int .i64 p.k, .int .i64 ta, .int .i64 tb, .int .i64 p.c, .int .i64 p.n] 120)).below hb1 (by simp; omega))
      have hB1 : Below w.heap.size w w1 := (((Below.refl _ _).alloc (Nat.le_refl _) _).alloc (by simp) _).trans (hb1.mono (by simp; omega))
      obtain ⟨g1, d1, rfl, hg1, hg1'⟩ := hown1.form
      simp only [World.size_alloc] at hg1
      have HO1 := Lib.hid hown1
      clear hb1 hown1 c0 c1 c2 c3 c4
      go_wp2_with fail
      refine (HIB.out _ (by omega) (by omega) (by omega) HP1.out HI1.out).mono ?_
      rintro e w2 ⟨v2, rfl, hown2, hb2⟩
      have hw2 : w1.heap.size ≤ w2.heap.size := hb2.size
      have q1' := (hb2.cell (p := ⟨w.heap.size + 1, 0, none⟩) (by show w.heap.size + 1 < w1.heap.size; omega)).trans q1
      have hB2 : Below w.heap.size w w2 := hB1.trans (hb2.mono (by omega))
      obtain ⟨g2, d2, rfl, hg2, hg2'⟩ := hown2.form
      have HO2 := Lib.hid hown2
      have HO1' : Hid (OwnN w2 w.heap.size (.slice (some ⟨g1, 0, none⟩) ra.length d1) ra) := ⟨own_below (own_mono HO1.out.1 (by simp; omega)) hb2, by simp⟩
      clear hb2 hown2 q0 q1 q2 HO1
      generalize hla : ra.length = na at *
      generalize hlb : rb.length = nb at *
      have HLA := Lib.hid hla
      have HLB := Lib.hid hlb
      clear hla hlb
      have hnews : ∀ j u, (rb.map (Value.int .i64))[j]? = some u → w2.cell? ((⟨g2, 0, none⟩ : Addr).add j) = some u := fun j u hu => HO2.out.1.cells (g := g2) rfl j u hu
      have HNW := Lib.hid hnews
      clear hnews
      go_wp2_with (first
        | (go_at_call 97; refine (spec_joined p.k xa xb (by omega) (by omega) (by omega) (by omega) _).mono ?_; rintro e w3 ⟨rfl, rfl⟩)
        | (at_builtin; refine wpList_append_own _ rfl _ _ 25 rfl w.heap.size 3 i0 (.int .i64 0) 1 8 Tryz.underlying25 hi hz0 hz1 hz2 rfl (by decide) _ _ _ rfl (by have := HO1'.out.1; rw [HLA.out] at this; exact this) ⟨g2, 0, none⟩ nb d2 (rb.map (Value.int .i64)) rfl ?c1 HNW.out (ints_oneCell _ _) ?c3 ?c4 ?c5 ?_))
      case c1 => have := HLB.out; simp; omega
      case c3 => unfold maxLen; omega
      case c4 => omega
      case c5 => exact hB2.size
      intro v' w4 hown' hgrow hnil
      have hB4 : Below w.heap.size w w4 := hB2.grown hgrow hB2.size (by intro q hq; simp [Value.ownBlock] at hq; omega)
      have HF : Hid (OwnN w4 w.heap.size v' (ra ++ rb)) := by
        refine ⟨?_, by first | exact hnil | (intro e; simp [e] at hnil)⟩
        have h1 := HLA.out
        have h2 := HLB.out
        rw [List.length_append, List.map_append, h1, h2]
        exact hown'
      clear hown' hgrow hnil
      go_wp2
      go_ret2
      exact ⟨v', by simp, HF.out, hB4⟩
    · obtain ⟨ta, tb, tc, ea, eb, ec, la, lb, lc⟩ := (good_bel_nat p i hgi).2 h8
      have k0 : (p.k == 0) = false := by simp only [beq_eq_false_iff_ne, ne_eq]; omega
      have k1 : (p.k == 1) = false := by simp only [beq_eq_false_iff_ne, ne_eq]; omega
      have k8 : (p.k == 8) = true := by simp only [beq_iff_eq]; omega
      have ht : t = .ch (tmAt ps f ta) (tmAt ps f tb) (tmAt ps f tc) := by rw [HE.out, k0, k1, k8, ea, eb, ec]; simp
      rw [ht]
      cases hz : ((tmAt ps f ta).ev vs == 0)
      · rw [ea] at c1
        rw [eb] at c2
        rw [ec] at c3
        obtain ⟨va1, va2⟩ := HSUB.out ta la
        have la1 := HLEN.out ta
        have lb1 := HLEN.out tb
        have hev : (Tm.ch (tmAt ps f ta) (tmAt ps f tb) (tmAt ps f tc)).ev vs = (tmAt ps f tb).ev vs := by simp only [Tm.ev, hz]; rfl
        have hrd : (Tm.ch (tmAt ps f ta) (tmAt ps f tb) (tmAt ps f tc)).rds vs = (tmAt ps f ta).rds vs ++ (tmAt ps f tb).rds vs := by simp only [Tm.rds, hz]; rfl
        rw [hev, hrd]
        have HIA := Lib.hid (IH.out ta)
        have HIB := Lib.hid (IH.out tb)
        generalize (tmAt ps f ta).ev vs = xa at *
        generalize (tmAt ps f tb).ev vs = xb at *
        generalize (tmAt ps f ta).rds vs = ra at *
        generalize (tmAt ps f tb).rds vs = rb at *
        clear HE ht h8 hgi hok hev hrd ea eb ec HSUB HLEN IH
        go_enter Tryz.func103, Tryz.ntmps103
        go_wp2_with fail
        refine (HIA.out _ (by omega) (by omega) (by simp; omega) ((H.out.alloc hB _).alloc (by simp; omega) _) ((H'.out.alloc hB _).alloc (by simp; omega) _)).mono ?_
        rintro e w1 ⟨v1, rfl, hown1, hb1⟩
        have hw1 : w.heap.size + 1 + 1 ≤ w1.heap.size := by have := hb1.size; simpa using this
        have q0 : w1.cell? ⟨w.heap.size, 0, none⟩ = some (.slice (some ⟨b, off, none⟩) n c) := (hb1.cell (p := ⟨w.heap.size, 0, none⟩) (by simp; try omega)).trans (by go_simp)
        have q1 : w1.cell? ⟨w.heap.size + 1, 0, none⟩ = some (.int .i64 p.k) := (hb1.cell (p := ⟨w.heap.size + 1, 0, none⟩) (by simp; try omega)).trans (by go_simp)
        have q3 : w1.cell? ⟨w.heap.size + 1, 3, none⟩ = some (.int .i64 tc) := (hb1.cell (p := ⟨w.heap.size + 1, 3, none⟩) (by simp; try omega)).trans (by go_simp)
        have q2 : w1.cell? ⟨w.heap.size + 1, 2, none⟩ = some (.int .i64 tb) := (hb1.cell (p := ⟨w.heap.size + 1, 2, none⟩) (by simp; try omega)).trans (by go_simp)
        have HP1 := Lib.hid (((H.out.alloc hB (.cells #[.slice (some ⟨b, off, none⟩) n c] 77)).alloc (by simp; omega) (.cells #[.int .i64 p.k, .int .i64 ta, .int .i64 tb, .int .i64 tc, .int .i64 p.n] 120)).below hb1 (by simp; omega))
        have HI1 := Lib.hid (((H'.out.alloc hB (.cells #[.slice (some ⟨b, off, none⟩) n c] 77)).alloc (by simp; omega) (.cells #[.int .i64 p.k, .int .i64 ta, .int .i64 tb, .int .i64 tc, .int .i64 p.n] 120)).below hb1 (by simp; omega))
        have hB1 : Below w.heap.size w w1 := (((Below.refl _ _).alloc (Nat.le_refl _) _).alloc (by simp) _).trans (hb1.mono (by simp; omega))
        obtain ⟨g1, d1, rfl, hg1, hg1'⟩ := hown1.form
        simp only [World.size_alloc] at hg1
        have HO1 := Lib.hid hown1
        clear hb1 hown1 c0 c1 c2 c3 c4
        go_wp2_with fail
        refine (HIB.out _ (by omega) (by omega) (by omega) HP1.out HI1.out).mono ?_
        rintro e w2 ⟨v2, rfl, hown2, hb2⟩
        have hw2 : w1.heap.size ≤ w2.heap.size := hb2.size
        have q1' := (hb2.cell (p := ⟨w.heap.size + 1, 0, none⟩) (by show w.heap.size + 1 < w1.heap.size; omega)).trans q1
        have hB2 : Below w.heap.size w w2 := hB1.trans (hb2.mono (by omega))
        obtain ⟨g2, d2, rfl, hg2, hg2'⟩ := hown2.form
        have HO2 := Lib.hid hown2
        have HO1' : Hid (OwnN w2 w.heap.size (.slice (some ⟨g1, 0, none⟩) ra.length d1) ra) := ⟨own_below (own_mono HO1.out.1 (by simp; omega)) hb2, by simp⟩
        clear hb2 hown2 q0 q1 q2 q3 HO1
        generalize hla : ra.length = na at *
        generalize hlb : rb.length = nb at *
        have HLA := Lib.hid hla
        have HLB := Lib.hid hlb
        clear hla hlb
        have hnews : ∀ j u, (rb.map (Value.int .i64))[j]? = some u → w2.cell? ((⟨g2, 0, none⟩ : Addr).add j) = some u := fun j u hu => HO2.out.1.cells (g := g2) rfl j u hu
        have HNW := Lib.hid hnews
        clear hnews
        go_wp2_with ((at_builtin; refine wpList_append_own _ rfl _ _ 25 rfl w.heap.size 3 i0 (.int .i64 0) 1 8 Tryz.underlying25 hi hz0 hz1 hz2 rfl (by decide) _ _ _ rfl (by have := HO1'.out.1; rw [HLA.out] at this; exact this) ⟨g2, 0, none⟩ nb d2 (rb.map (Value.int .i64)) rfl ?c1 HNW.out (ints_oneCell _ _) ?c3 ?c4 ?c5 ?_))
        case c1 => have := HLB.out; simp; omega
        case c3 => unfold maxLen; omega
        case c4 => omega
        case c5 => exact hB2.size
        intro v' w4 hown' hgrow hnil
        have hB4 : Below w.heap.size w w4 := hB2.grown hgrow hB2.size (by intro q hq; simp [Value.ownBlock] at hq; omega)
        have HF : Hid (OwnN w4 w.heap.size v' (ra ++ rb)) := by
          refine ⟨?_, by first | exact hnil | (intro e; simp [e] at hnil)⟩
          have h1 := HLA.out
          have h2 := HLB.out
          rw [List.length_append, List.map_append, h1, h2]
          exact hown'
        clear hown' hgrow hnil
        go_wp2
        go_ret2
        exact ⟨v', by simp, HF.out, hB4⟩
      · rw [ea] at c1
        rw [eb] at c2
        rw [ec] at c3
        obtain ⟨va1, va2⟩ := HSUB.out ta la
        have la1 := HLEN.out ta
        have lb1 := HLEN.out tc
        have hev : (Tm.ch (tmAt ps f ta) (tmAt ps f tb) (tmAt ps f tc)).ev vs = (tmAt ps f tc).ev vs := by simp only [Tm.ev, hz]; rfl
        have hrd : (Tm.ch (tmAt ps f ta) (tmAt ps f tb) (tmAt ps f tc)).rds vs = (tmAt ps f ta).rds vs ++ (tmAt ps f tc).rds vs := by simp only [Tm.rds, hz]; rfl
        rw [hev, hrd]
        have HIA := Lib.hid (IH.out ta)
        have HIB := Lib.hid (IH.out tc)
        generalize (tmAt ps f ta).ev vs = xa at *
        generalize (tmAt ps f tc).ev vs = xb at *
        generalize (tmAt ps f ta).rds vs = ra at *
        generalize (tmAt ps f tc).rds vs = rb at *
        clear HE ht h8 hgi hok hev hrd ea eb ec HSUB HLEN IH
        go_enter Tryz.func103, Tryz.ntmps103
        go_wp2_with fail
        refine (HIA.out _ (by omega) (by omega) (by simp; omega) ((H.out.alloc hB _).alloc (by simp; omega) _) ((H'.out.alloc hB _).alloc (by simp; omega) _)).mono ?_
        rintro e w1 ⟨v1, rfl, hown1, hb1⟩
        have hw1 : w.heap.size + 1 + 1 ≤ w1.heap.size := by have := hb1.size; simpa using this
        have q0 : w1.cell? ⟨w.heap.size, 0, none⟩ = some (.slice (some ⟨b, off, none⟩) n c) := (hb1.cell (p := ⟨w.heap.size, 0, none⟩) (by simp; try omega)).trans (by go_simp)
        have q1 : w1.cell? ⟨w.heap.size + 1, 0, none⟩ = some (.int .i64 p.k) := (hb1.cell (p := ⟨w.heap.size + 1, 0, none⟩) (by simp; try omega)).trans (by go_simp)
        have q3 : w1.cell? ⟨w.heap.size + 1, 3, none⟩ = some (.int .i64 tc) := (hb1.cell (p := ⟨w.heap.size + 1, 3, none⟩) (by simp; try omega)).trans (by go_simp)
        have q2 : w1.cell? ⟨w.heap.size + 1, 2, none⟩ = some (.int .i64 tb) := (hb1.cell (p := ⟨w.heap.size + 1, 2, none⟩) (by simp; try omega)).trans (by go_simp)
        have HP1 := Lib.hid (((H.out.alloc hB (.cells #[.slice (some ⟨b, off, none⟩) n c] 77)).alloc (by simp; omega) (.cells #[.int .i64 p.k, .int .i64 ta, .int .i64 tb, .int .i64 tc, .int .i64 p.n] 120)).below hb1 (by simp; omega))
        have HI1 := Lib.hid (((H'.out.alloc hB (.cells #[.slice (some ⟨b, off, none⟩) n c] 77)).alloc (by simp; omega) (.cells #[.int .i64 p.k, .int .i64 ta, .int .i64 tb, .int .i64 tc, .int .i64 p.n] 120)).below hb1 (by simp; omega))
        have hB1 : Below w.heap.size w w1 := (((Below.refl _ _).alloc (Nat.le_refl _) _).alloc (by simp) _).trans (hb1.mono (by simp; omega))
        obtain ⟨g1, d1, rfl, hg1, hg1'⟩ := hown1.form
        simp only [World.size_alloc] at hg1
        have HO1 := Lib.hid hown1
        clear hb1 hown1 c0 c1 c2 c3 c4
        go_wp2_with fail
        refine (HIB.out _ (by omega) (by omega) (by omega) HP1.out HI1.out).mono ?_
        rintro e w2 ⟨v2, rfl, hown2, hb2⟩
        have hw2 : w1.heap.size ≤ w2.heap.size := hb2.size
        have q1' := (hb2.cell (p := ⟨w.heap.size + 1, 0, none⟩) (by show w.heap.size + 1 < w1.heap.size; omega)).trans q1
        have hB2 : Below w.heap.size w w2 := hB1.trans (hb2.mono (by omega))
        obtain ⟨g2, d2, rfl, hg2, hg2'⟩ := hown2.form
        have HO2 := Lib.hid hown2
        have HO1' : Hid (OwnN w2 w.heap.size (.slice (some ⟨g1, 0, none⟩) ra.length d1) ra) := ⟨own_below (own_mono HO1.out.1 (by simp; omega)) hb2, by simp⟩
        clear hb2 hown2 q0 q1 q2 q3 HO1
        generalize hla : ra.length = na at *
        generalize hlb : rb.length = nb at *
        have HLA := Lib.hid hla
        have HLB := Lib.hid hlb
        clear hla hlb
        have hnews : ∀ j u, (rb.map (Value.int .i64))[j]? = some u → w2.cell? ((⟨g2, 0, none⟩ : Addr).add j) = some u := fun j u hu => HO2.out.1.cells (g := g2) rfl j u hu
        have HNW := Lib.hid hnews
        clear hnews
        go_wp2_with ((at_builtin; refine wpList_append_own _ rfl _ _ 25 rfl w.heap.size 3 i0 (.int .i64 0) 1 8 Tryz.underlying25 hi hz0 hz1 hz2 rfl (by decide) _ _ _ rfl (by have := HO1'.out.1; rw [HLA.out] at this; exact this) ⟨g2, 0, none⟩ nb d2 (rb.map (Value.int .i64)) rfl ?c1 HNW.out (ints_oneCell _ _) ?c3 ?c4 ?c5 ?_))
        case c1 => have := HLB.out; simp; omega
        case c3 => unfold maxLen; omega
        case c4 => omega
        case c5 => exact hB2.size
        intro v' w4 hown' hgrow hnil
        have hB4 : Below w.heap.size w w4 := hB2.grown hgrow hB2.size (by intro q hq; simp [Value.ownBlock] at hq; omega)
        have HF : Hid (OwnN w4 w.heap.size v' (ra ++ rb)) := by
          refine ⟨?_, by first | exact hnil | (intro e; simp [e] at hnil)⟩
          have h1 := HLA.out
          have h2 := HLB.out
          rw [List.length_append, List.map_append, h1, h2]
          exact hown'
        clear hown' hgrow hnil
        go_wp2
        go_ret2
        exact ⟨v', by simp, HF.out, hB4⟩
end Go.Proofs.YtlcpgbbpjnkihaaGreat

namespace Go.Proofs.YtlcpgbbpjnkihaaGreat
set_option linter.unusedSimpArgs false
set_option linter.unusedVariables false
open Go.RowKit
/-- The counts stand in the block. -/
def Cnt (w : World) (base g n : Nat) (L : List Int) : Prop :=
  ∃ us : List Int, w.ownsRow base 3 1 (.slice (some ⟨g, 0, none⟩) n n) n (us.map (Value.int .i64)) ∧ us.length = n ∧ ∀ j, j < n → us.getD j 0 = (L.count (j : Int) : Int)
theorem Cnt.at_ {w : World} {base g n : Nat} {L : List Int} (h : Cnt w base g n L) (t : Nat) (ht : t < n) : w.cell? ⟨g, t, none⟩ = some (.int .i64 (L.count (t : Int) : Int)) ∧ w.frozen? ⟨g, t, none⟩ = false := by
  obtain ⟨us, h1, h2, h3⟩ := h
  refine ⟨?_, h1.frozenAt t⟩
  rw [h1.cellAt t (by omega), ← h3 t ht]
  simp [List.getD, h2, ht]
theorem Cnt.step {w : World} {base g n : Nat} {L L' : List Int} (h : Cnt w base g n L) (t : Nat) (ht : t < n) (x : Int) (hx : x = (L'.count (t : Int) : Int)) (hL : ∀ j : Nat, (L'.count (j : Int) : Int) = (L.count (j : Int) : Int) + if j = t then 1 else 0) : Cnt (w.setCell ⟨g, t, none⟩ (.int .i64 x)) base g n L' := by
  obtain ⟨us, h1, h2, h3⟩ := h
  refine ⟨us.set t x, ?_, by simpa using h2, fun j hj => ?_⟩
  · have := (h1.stored t (.int .i64 x)).1
    rwa [← List.map_set] at this
  · by_cases e : j = t
    · subst e; simp [List.getD, h2, ht, hx]
    · have := h3 j hj
      rw [hL j, if_neg e]
      simp [List.getD, List.getElem?_set, show ¬ t = j by omega] at this ⊢
      exact this
theorem Cnt.drew {w : World} {base g n : Nat} {L : List Int} (h : Cnt w base g n L) : Cnt w.drew base g n L := h
theorem Cnt.lt {w : World} {base g n : Nat} {L : List Int} (h : Cnt w base g n L) : g < w.heap.size := by
  obtain ⟨us, h1, _⟩ := h
  exact (h1.lt g rfl).2
set_option maxRecDepth 100000 in
set_option maxHeartbeats 1600000 in
theorem spec_validFormula (A : Option Addr) (n c : Nat) (ps : List Pt) (w : World) (B : Nat) (hB : B ≤ w.heap.size) (hn : n = ps.length) (h : PS w B A ps) (hs : n ≤ 2000000) :
    Calls Tryz.prog 82 #[.agg #[.slice A n c]] w fun e w' => e = .returned (.bool (validF ps)) ∧ Below w.heap.size w w' := by
  obtain ⟨i0, hi, hz0, hz1, hz2⟩ := info_parts info_int
  obtain ⟨w0, hmk, hown0, hgr0⟩ := run_make_full (P := Tryz.prog) (w.alloc (.cells #[.slice A n c] 77)) (w.heap.size + 1) 25 3 i0 _ 1 Tryz.underlying25 hi hz0 hz1 .i64 .i64 n (by rw [hz2]; omega) (by unfold maxLen; omega) (by simp)
  simp only [World.size_alloc] at hmk hown0
  have hcn : Cnt w0 (w.heap.size + 1) (w.heap.size + 1) n [] := by
    refine ⟨List.replicate n 0, ?_, by simp, fun j hj => by simp [List.getD, hj]⟩
    simpa [Value.cells, toList_madeCells_one] using hown0
  have hb0 : Below (w.heap.size + 1) (w.alloc (.cells #[.slice A n c] 77)) w0 := ⟨hgr0.os, hgr0.tape, hgr0.output, hgr0.size, fun k hk => hgr0.block k (by simpa using hk) (by simp)⟩
  have H := Lib.hid h
  have HN := Lib.hid hn
  have HC := Lib.hid hcn
  clear hn h hown0 hcn hgr0 hi hz0 hz1 hz2
  go_enter Tryz.func82, Tryz.ntmps82
  go_wp2
  go_loopw [4] (fun i wr => ∃ k : Nat, k ≤ n ∧ i = .int .i64 k ∧ Hid (Cnt wr (w.heap.size + 1) (w.heap.size + 1) n ((ps.take k).flatMap bel)) ∧ Hid (∀ j, j < k → goodPt (ps.getD j default) j = true) ∧ Below (w.heap.size + 1) (w.alloc (.cells #[.slice A n c] 77)) wr) (fun i _ => n - (intOf i).toNat)
  case atStart => exact ⟨0, Nat.zero_le _, rfl, HC.out, by intro j hj; omega, hb0⟩
  case round =>
    obtain ⟨k, hk, rfl, HU, HG, hb⟩ := hrel
    clear hmk hb0 HC
    have hbox : wr.cell? ⟨w.heap.size, 0, none⟩ = some (.slice A n c) := (hb.cell (p := ⟨w.heap.size, 0, none⟩) (by simp)).trans (by go_simp)
    have hwr : w.heap.size + 1 ≤ wr.heap.size := by have := hb.size; simpa using this
    by_cases hlt : k < n
    · obtain ⟨b, off, rfl, hbB, hc⟩ := H.out (by have := HN.out; omega)
      obtain ⟨c0, c1, c2, c3, c4⟩ := hc k (by have := HN.out; omega)
      clear hc
      have hbw : b < w.heap.size := by omega
      have b0 := ((hb.cell (p := ⟨b, off + k * 5, none⟩) (by simp; omega)).trans (World.cell?_alloc_lt _ _ _ (by simpa using hbw))).trans c0
      have b1 := ((hb.cell (p := ⟨b, off + k * 5 + 1, none⟩) (by simp; omega)).trans (World.cell?_alloc_lt _ _ _ (by simpa using hbw))).trans c1
      have b2 := ((hb.cell (p := ⟨b, off + k * 5 + 2, none⟩) (by simp; omega)).trans (World.cell?_alloc_lt _ _ _ (by simpa using hbw))).trans c2
      have b3 := ((hb.cell (p := ⟨b, off + k * 5 + 3, none⟩) (by simp; omega)).trans (World.cell?_alloc_lt _ _ _ (by simpa using hbw))).trans c3
      have b4 := ((hb.cell (p := ⟨b, off + k * 5 + 4, none⟩) (by simp; omega)).trans (World.cell?_alloc_lt _ _ _ (by simpa using hbw))).trans c4
      clear c0 c1 c2 c3 c4 H
      generalize hp : ps.getD k default = p at *
      have HP := Lib.hid hp
      clear hp
      have hws : w.heap.size < wr.heap.size := by omega
      have hbr : b < wr.heap.size := by omega
      clear hwr
      cases hg : goodPt p k
      · go_wp2_with (go_at_call 101; refine (spec_goodPart p k (by omega) _).mono ?_; rintro e w1 ⟨rfl, hb1⟩)
        go_ret
        refine ⟨ret_b ?_, ((Below.refl _ _).alloc (Nat.le_refl _) _).trans ((hb.trans (hb1.mono (by omega))).mono (by omega))⟩
        simp [validF_bad ps k (by have := HN.out; omega) (by rw [HP.out]; exact hg)]
      · go_wp2_with (first | (go_at_call 101; refine (spec_goodPart p k (by omega) _).mono ?_; rintro e w1 ⟨rfl, hb1⟩; obtain ⟨hc1, hf1⟩ := bcell hb1) | (go_at_call 102; refine (spec_below p _).mono ?_; rintro e w2 ⟨v, rfl, hown, hb2⟩; obtain ⟨A2, c2, rfl, hI⟩ := hown.form))
        have hG1 := Lib.hid hg
        clear hc1 hf1 hg hbox b0 b1 b2 b3 b4
        have hb12 : Below wr.heap.size wr w2 := hb1.trans (hb2.mono hb1.size)
        have hbw2 := hb.trans (hb12.mono (by omega))
        have HU2 : Hid (Cnt w2 (w.heap.size + 1) (w.heap.size + 1) n ((ps.take k).flatMap bel ++ (bel p).take 0)) := by
          obtain ⟨us, h1, h2, h3⟩ := HU.out
          exact ⟨us, own_below h1 hb12, h2, by simpa using h3⟩
        have hwg : w.heap.size + 1 < w1.heap.size := by have := HU.out.lt; have := hb1.size; omega
        have HO := Lib.hid hown
        clear hI hb1 hb2 hb12 HU hb hws hbr hown
        generalize hL : (bel p).length = L at *
        have HL := Lib.hid hL
        have hL3 : L ≤ 3 := by rw [← hL]; exact bel_len p
        clear hL
        go_wp2
        go_loopw [6] (fun i wi => ∃ m : Nat, m ≤ L ∧ i = .int .i64 m ∧ Hid (Cnt wi (w.heap.size + 1) (w.heap.size + 1) n ((ps.take k).flatMap bel ++ (bel p).take m)) ∧ Hid (wi.ownsRow w1.heap.size 3 1 (.slice A2 L c2) L ((bel p).map (Value.int .i64))) ∧ Hid (Below (w.heap.size + 1) w2 wi)) (fun i _ => L - (intOf i).toNat)
        case atStart => exact ⟨0, Nat.zero_le _, rfl, HU2.out, by have := HO.out; rw [OwnI, HL.out] at this; exact this, Below.refl _ _⟩
        case round =>
          clear HU2 HO
          obtain ⟨m, hm, rfl, HU, HO, HB⟩ := hrel
          by_cases hml : m < L
          · obtain ⟨b2, off2, rfl, hb2, hc2⟩ := (IS.of_own HO.out) (by have := HL.out; omega)
            have hx := hc2 m (by have := HL.out; omega)
            clear hc2
            obtain ⟨t, ht⟩ : ∃ t : Nat, (bel p).getD m 0 = (t : Int) ∧ t < n := by
              have hmem : (bel p).getD m 0 ∈ bel p := by
                have hl : m < (bel p).length := by have := HL.out; omega
                simp [List.getD, hl]
              have := good_bel p k hG1.out _ hmem
              exact ⟨((bel p).getD m 0).toNat, by omega, by omega⟩
            obtain ⟨ht1, ht2⟩ := ht
            rw [ht1] at hx
            have HT := Lib.hid ht1
            clear ht1
            obtain ⟨hu1, hu2⟩ := HU.out.at_ t ht2
            have hcl := count_le ps (bel p) m k (by omega) (by have := HL.out; omega) (t : Int)
            generalize hcn : (((ps.take k).flatMap bel ++ (bel p).take m).count (t : Int)) = cn at *
            have HCN := Lib.hid hcn
            clear hcn
            go_wp2
            go_region
            go_wp2
            go_roundw
            case rel =>
              have hst := count_step ((ps.take k).flatMap bel) (bel p) m t (by have := HL.out; omega) HT.out
              have hn1 := (HU.out.step t ht2 ((cn : Int) + 1) (by rw [hst t, if_pos rfl, HCN.out]) hst).drew
              have hn2 : (wr.setCell ⟨w.heap.size + 1, t, none⟩ (.int .i64 ((cn : Int) + 1))).drew.ownsRow w1.heap.size 3 1 (.slice (some ⟨b2, off2, none⟩) L c2) L ((bel p).map (Value.int .i64)) :=
                ownsRow_setCell_below HO.out (a := ⟨w.heap.size + 1, t, none⟩) (by simpa using hwg) _
              exact ⟨m + 1, by omega, by go_num, hn1, hn2, (HB.out.setCell (p := ⟨w.heap.size + 1, t, none⟩) (by simp) _).drew⟩
            case measure => simp [intOf]; omega
          · go_wp2
            go_roundw
            case rel =>
              have hkl : k < ps.length := by have := HN.out; omega
              have hf := take_flat ps k hkl
              rw [HP.out] at hf
              have hU : Cnt wr (w.heap.size + 1) (w.heap.size + 1) n ((ps.take (k + 1)).flatMap bel) := by
                rw [hf]
                have := HU.out
                rwa [show (bel p).take m = bel p from List.take_of_length_le (by have := HL.out; omega)] at this
              exact ⟨k + 1, by omega, by go_num, hU, fun j hj => by
                rcases Nat.lt_or_ge j k with h1 | h1
                · exact HG.out j h1
                · obtain rfl : j = k := by omega
                  rw [HP.out]; exact hG1.out, hbw2.trans HB.out⟩
            case measure => simp [intOf]; omega
    · obtain rfl : k = n := by omega
      rw [List.take_of_length_le (by have := HN.out; omega)] at HU
      clear hlt hk H
      go_wp2
      go_loopw [7] (fun i wi => ∃ m : Nat, m ≤ k ∧ i = .int .i64 m ∧ Hid (∀ j, j < m → j + 1 < k → (ps.flatMap bel).count (j : Int) = 1) ∧ wi = wr) (fun i _ => k - (intOf i).toNat)
      case atStart => exact ⟨0, Nat.zero_le _, rfl, by intro j hj; omega, rfl⟩
      case round =>
        obtain ⟨m, hm, rfl, HQ, rfl⟩ := hrel
        by_cases hmk : m + 1 < k
        · obtain ⟨hu1, _⟩ := HU.out.at_ m (by omega)
          cases hcn : ((ps.flatMap bel).count (m : Int) == 1)
          · have hne : (((ps.flatMap bel).count (m : Int) : Int) != 1) = true := by simp at hcn ⊢; omega
            have HNE := Lib.hid hcn
            clear hcn
            go_wp2
            go_ret
            refine ⟨ret_b ?_, ((Below.refl _ _).alloc (Nat.le_refl _) _).trans (hb.mono (by omega))⟩
            have := validF_cnt ps m (by have := HN.out; omega) (by have := HNE.out; simpa using this)
            simp [this]
          · have hne : (((ps.flatMap bel).count (m : Int) : Int) != 1) = false := by simp at hcn ⊢; omega
            have HNE := Lib.hid hcn
            clear hcn
            go_wp2
            go_roundw
            case rel =>
              exact ⟨m + 1, by omega, by go_num, fun j hj hjk => by
                rcases Nat.lt_or_ge j m with h1 | h1
                · exact HQ.out j h1 hjk
                · obtain rfl : j = m := by omega
                  have := HNE.out
                  simpa using this, by first | rfl | trivial⟩
            case measure => simp [intOf]; omega
        · go_wp2_with (go_at_call 36; refine (spec_inRange _ _ _ _).mono ?_; rintro e w' ⟨rfl, rfl⟩)
          go_ret
          refine ⟨ret_b ?_, ((Below.refl _ _).alloc (Nat.le_refl _) _).trans (hb.mono (by omega))⟩
          have hkn := HN.out
          have := validF_fin ps (fun i hi => HG.out i (by omega)) (fun i hi => HQ.out i (by omega) (by omega))
          rw [this, ← hkn]
          try simp
end Go.Proofs.YtlcpgbbpjnkihaaGreat

namespace Go.Proofs.YtlcpgbbpjnkihaaGreat
set_option linter.unusedSimpArgs false
set_option linter.unusedVariables false
open Go.RowKit
theorem allR_VOK (vs : List Int) (h : allR vs 0 999 = true) : VOK vs := by
  intro j hj
  unfold allR at h
  rw [List.all_eq_true] at h
  have := h (vs.getD j 0) (by simp [List.getD, hj])
  simpa [rng] using this
theorem canEv_parts (ps : List Pt) (vs : List Int) (h : canEv ps vs = true) : validF ps = true ∧ VOK vs ∧ vs.length ≤ 10 ∧ eachOK ps vs.length = true := by
  unfold canEv at h
  simp only [Bool.and_eq_true, decide_eq_true_eq] at h
  exact ⟨h.1, allR_VOK vs h.2.1.2, h.2.1.1, h.2.2⟩
set_option maxHeartbeats 800000 in
theorem spec_run (A A' : Option Addr) (n c m c' : Nat) (ps : List Pt) (vs : List Int) (B : Nat) (hn : n = ps.length) (hm : m = vs.length) (hg : AllGood ps) (he : eachOK ps m = true) (hv : VOK vs) (h1 : 1 ≤ n) (h12 : n ≤ 12) (hs' : m ≤ 2000000) (w : World) (hB : B ≤ w.heap.size) (h : PS w B A ps) (h' : IS w B A' vs) :
    Calls Tryz.prog 86 #[.agg #[.slice A n c], .slice A' m c'] w fun e w' => RetVN w ((whole ps).ev vs) (firsts ((whole ps).rds vs)) e w' := by
  have hwh : whole ps = tmAt ps n (n - 1) := by rw [hn]; rfl
  have hln := rds_len ps vs n (n - 1)
  have h3n : 3 ^ n ≤ 531441 := Nat.pow_le_pow_right (by omega) (show n ≤ 12 from h12)
  rw [← hwh] at hln
  have HW := Lib.hid hwh
  have H := Lib.hid h
  have H' := Lib.hid h'
  have HR := Lib.hid (fun (k : Nat) (hk : n = k + 1) (w : World) => spec_reckoned A A' n c m c' ps vs B hn hm hg he hv (by omega) hs' n h12 k w (by omega) (by omega))
  obtain ⟨k, rfl⟩ : ∃ k, n = k + 1 := ⟨n - 1, by omega⟩
  have HK := Lib.hid (HR.out k rfl)
  clear h h' hn hm hg he hv hwh HR
  rw [show tmAt ps (k + 1) k = whole ps from by have := HW.out; simpa using this.symm] at HK
  generalize hwe : whole ps = t at *
  clear HW hwe
  go_enter Tryz.func86, Tryz.ntmps86
  go_wp2_with fail
  refine (HK.out _ (by simp; omega) (H.out.alloc hB _) (H'.out.alloc hB _)).mono ?_
  rintro e w1 ⟨v, rfl, hown, hb⟩
  obtain ⟨g, d, rfl, hg1, hg2⟩ := hown.form
  have HI := Lib.hid (IS.of_own hown.1)
  generalize hl : (t.rds vs).length = l at *
  have HL := Lib.hid hl.symm
  clear hown hl
  go_wp2_with fail
  refine (spec_firstOnly _ _ _ _ _ w1.heap.size (Nat.le_refl _) HL.out HI.out (by omega)).mono ?_
  rintro e w2 ⟨v2, rfl, hown2, hb2⟩
  have hw1 : w.heap.size ≤ w1.heap.size := by have := hb.size; simp at this; omega
  go_wp2
  go_ret2
  exact ⟨v2, by simp, ⟨own_mono hown2.1 hw1, hown2.2⟩, ((Below.refl _ _).alloc (Nat.le_refl _) _).trans ((hb.trans (hb2.mono hb.size)).mono (by simp))⟩
end Go.Proofs.YtlcpgbbpjnkihaaGreat

namespace Go.Proofs.YtlcpgbbpjnkihaaGreat
set_option linter.unusedSimpArgs false
set_option linter.unusedVariables false
open Go.RowKit
/-- The two cells at b, off read as a node. -/
def NdS (w : World) (B b off : Nat) (d : Nd) : Prop :=
  w.cell? ⟨b, off, none⟩ = some (.int .i64 d.k) ∧ ∃ A n c, w.cell? ⟨b, off + 1, none⟩ = some (.slice A n c) ∧ n = d.ps.length ∧ PS w B A d.ps
/-- The slice at A reads as the nodes gs; all of it lies below block B. -/
def GS (w : World) (B : Nat) (A : Option Addr) (gs : List Nd) : Prop :=
  0 < gs.length → ∃ b off, A = some ⟨b, off, none⟩ ∧ b < B ∧ ∀ j, j < gs.length → NdS w B b (off + j * 2) (gs.getD j default)
theorem NdS.keep {w w' : World} {B b off : Nat} {d : Nd} (h : NdS w B b off d) (hb : b < B) (hk : ∀ p : Addr, p.block < B → w'.cell? p = w.cell? p) : NdS w' B b off d := by
  obtain ⟨h1, A, n, c, h2, h3, h4⟩ := h
  exact ⟨(hk _ hb).trans h1, A, n, c, (hk _ hb).trans h2, h3, h4.keep hk⟩
theorem NdS.more {w : World} {B B' b off : Nat} {d : Nd} (h : NdS w B b off d) (hB : B ≤ B') : NdS w B' b off d := by
  obtain ⟨h1, A, n, c, h2, h3, h4⟩ := h
  exact ⟨h1, A, n, c, h2, h3, h4.more hB⟩
section
variable {w w' : World} {B B' C : Nat} {A : Option Addr} {gs : List Nd}
theorem GS.keep (h : GS w B A gs) (hk : ∀ p : Addr, p.block < B → w'.cell? p = w.cell? p) : GS w' B A gs := by
  intro hn
  obtain ⟨b, off, e, hb, hc⟩ := h hn
  exact ⟨b, off, e, hb, fun j hj => (hc j hj).keep hb hk⟩
theorem GS.more (h : GS w B A gs) (hB : B ≤ B') : GS w B' A gs := by
  intro hn
  obtain ⟨b, off, e, hb, hc⟩ := h hn
  exact ⟨b, off, e, by omega, fun j hj => (hc j hj).more hB⟩
theorem GS.below (h : GS w B A gs) (hb : Below C w w') (hC : B ≤ C) : GS w' B A gs := h.keep fun _ hp => hb.cell (Nat.lt_of_lt_of_le hp hC)
theorem GS.alloc (h : GS w B A gs) (hB : B ≤ w.heap.size) (o : Obj) : GS (w.alloc o) B A gs := h.keep fun p hp => World.cell?_alloc_lt w o p (by omega)
theorem GS.nil (w : World) (B : Nat) (A : Option Addr) : GS w B A [] := fun h => absurd h (by simp)
theorem GS.step {A : Option Addr} {gs : List Nd} {wk wl : World} (h : GS wk wk.heap.size A gs) (hb : Below wk.heap.size wk wl) : GS wl wl.heap.size A gs := (h.below hb (Nat.le_refl _)).more hb.size
end
theorem GS.loc (B : Nat) (A : Option Addr) (gs : List Nd) : Loc 0 B fun w => GS w B A gs :=
  fun w w' h hk => h.keep fun p hp => World.cell?_of_block (hk p.block (Nat.zero_le _) hp)
/-- No more nodes, and no node with more parts, than a million. -/
def GB (gs : List Nd) : Prop := gs.length ≤ 1048576 ∧ ∀ j, (gs.getD j default).ps.length ≤ 1048576
end Go.Proofs.YtlcpgbbpjnkihaaGreat

namespace Go.Proofs.YtlcpgbbpjnkihaaGreat
set_option linter.unusedSimpArgs false
set_option linter.unusedVariables false
open Go.RowKit
theorem all_bad (l : List Int) (p : Int → Bool) (k : Nat) (h : k < l.length) (hp : p (l.getD k 0) = false) : l.all p = false := by
  rw [List.all_eq_false]
  exact ⟨l.getD k 0, by simp [List.getD, h], by rw [hp]; simp⟩
theorem all_good (l : List Int) (p : Int → Bool) (h : ∀ k, k < l.length → p (l.getD k 0) = true) : l.all p = true := by
  rw [List.all_eq_true]
  intro x hx
  obtain ⟨k, hk, rfl⟩ := List.mem_iff_getElem.1 hx
  have := h k hk
  simpa [List.getD, hk] using this
theorem validG_bad (gs : List Nd) (k : Nat) (h : k < gs.length) (hg : nodeOK gs k = false) : validG gs = false := by
  unfold validG
  rw [decide_eq_false]
  · rfl
  · intro H; rw [H k h] at hg; cases hg
theorem validG_fin (gs : List Nd) (h : ∀ i, i < gs.length → nodeOK gs i = true) : validG gs = decide (gs.length ≤ 10) := by
  unfold validG
  rw [decide_eq_true h, Bool.true_and]
theorem mayR_getD_bd (ps : List Pt) (j : Nat) (h : j < (mayR ps).length) : 0 ≤ (mayR ps).getD j 0 ∧ (mayR ps).getD j 0 < 10 :=
  mem_mayR_bd ps _ (by simp [List.getD, h])
/-- The indices at which two lists differ. -/
def diffTo (a b : List Int) (k : Nat) : List Int := ((List.range k).filter fun i => !(a.getD i 0 == b.getD i 0)).map fun i : Nat => (i : Int)
theorem diffTo_step (a b : List Int) (k : Nat) : diffTo a b (k + 1) = diffTo a b k ++ (if a.getD k 0 == b.getD k 0 then [] else [(k : Int)]) := by
  unfold diffTo
  rw [List.range_succ, List.filter_append, List.map_append]
  congr 1
  cases h : (a.getD k 0 == b.getD k 0) <;> simp [h, -List.getD_eq_getElem?_getD]
theorem diffTo_len (a b : List Int) (k : Nat) : (diffTo a b k).length ≤ k := by
  unfold diffTo
  rw [List.length_map]
  have := List.length_filter_le (fun i => !(a.getD i 0 == b.getD i 0)) (List.range k)
  simpa using this
end Go.Proofs.YtlcpgbbpjnkihaaGreat

namespace Go.Proofs.YtlcpgbbpjnkihaaGreat
set_option linter.unusedSimpArgs false
set_option linter.unusedVariables false
open Go.RowKit
theorem mayR_below (ps : List Pt) : (((List.range 10).filter (hasNode ps)).map fun m : Nat => (m : Int)) = mayR ps := rfl
end Go.Proofs.YtlcpgbbpjnkihaaGreat

namespace Go.Proofs.YtlcpgbbpjnkihaaGreat
set_option linter.unusedSimpArgs false
set_option linter.unusedVariables false
open Go.RowKit
theorem GS.at_ {w : World} {B : Nat} {A : Option Addr} {gs : List Nd} (h : GS w B A gs) (j : Nat) (hj : j < gs.length) : ∃ b off, A = some ⟨b, off, none⟩ ∧ b < B ∧ NdS w B b (off + j * 2) (gs.getD j default) := by
  obtain ⟨b, off, e, hb, hc⟩ := h (by omega)
  exact ⟨b, off, e, hb, hc j hj⟩
theorem drewN_below {B n : Nat} {a w : World} (h : Below B a w) : Below B a (w.drewN n) := ⟨h.os, h.tape, h.output, h.size, h.block⟩
set_option maxRecDepth 100000 in
set_option maxHeartbeats 1600000 in
theorem spec_goodReads (A : Option Addr) (n c : Nat) (gs : List Nd) (i : Nat) (w : World) (B : Nat) (hB : B ≤ w.heap.size) (hn : n = gs.length) (h : GS w B A gs) (hs : GB gs) (hi : i < n) :
    Calls Tryz.prog 83 #[.agg #[.slice A n c], .int .i64 i] w fun e w' => e = .returned (.bool (goodRd gs i)) ∧ Below w.heap.size w w' := by
  have hn1 : n ≤ 1048576 := by rw [hn]; exact hs.1
  have hs1 := hs.2 i
  obtain ⟨b, off, rfl, hbB, hd⟩ := h.at_ i (by omega)
  obtain ⟨c0, A1, n1, c1, c2, hn1', hps⟩ := hd
  have hgr : goodRd gs i = (mayR (gs.getD i default).ps).all (rdOK gs i) := rfl
  rw [hgr]
  have hbd := mayR_getD_bd (gs.getD i default).ps
  generalize hp : gs.getD i default = d at *
  have hy1 : n1 ≤ 1999999 := by omega
  have H := Lib.hid h
  have HN := Lib.hid hn
  have HN1 := Lib.hid hn1'
  have HPS := Lib.hid hps
  have HBD := Lib.hid hbd
  have hbw : b < w.heap.size := by omega
  have HM := Lib.hid fun (w : World) (hB : B ≤ w.heap.size) (h : PS w B A1 d.ps) => spec_mayRead A1 n1 c1 d.ps w B hB hn1' h (by omega)
  have hml := mayR_len d.ps 10
  rw [mayR_below] at hml
  generalize mayR d.ps = L at *
  generalize hl : L.length = l at *
  have HL := Lib.hid hl
  clear h hn hn1' hps hp hgr hs hs1 hbd hl
  go_enter Tryz.func83, Tryz.ntmps83
  go_wp2_with fail
  refine (HM.out _ (by simp; omega) (HPS.out.alloc hB _)).mono ?_
  rintro e w1 ⟨v1, rfl, hown, hb1⟩
  obtain ⟨g, cL, hgv, hbg, hgw⟩ := hown.form
  rw [HL.out] at hgv
  subst hgv
  have hsz1 : w.heap.size < w1.heap.size := by simp at hbg; omega
  have hI : IS w1 w1.heap.size (some ⟨g, 0, none⟩) L := by have := hown.1; rw [HL.out] at this; exact IS.of_own this
  have HI := Lib.hid hI
  have HG := Lib.hid ((H.out.alloc hB (.cells #[.slice (some ⟨b, off, none⟩) n c] 36)).below hb1 (by simp; omega))
  have hbox : w1.cell? ⟨w.heap.size, 0, none⟩ = some (.slice (some ⟨b, off, none⟩) n c) := (hb1.cell (p := ⟨w.heap.size, 0, none⟩) (by simp)).trans (by go_simp)
  have hB1 : Below w.heap.size w w1 := ((Below.refl _ _).alloc (Nat.le_refl _) _).trans (hb1.mono (by simp))
  clear hown hb1 H HPS HM hI
  go_wp2
  go_loopw [6] (fun u wr => ∃ k : Nat, k ≤ l ∧ u = .int .i64 k ∧ Hid (∀ j, j < k → rdOK gs i (L.getD j 0) = true) ∧ Below w1.heap.size w1 wr) (fun u _ => l - (intOf u).toNat)
  case atStart => exact ⟨0, by omega, rfl, by intro j hj; omega, Below.refl _ _⟩
  case round =>
    obtain ⟨k, hk, rfl, HK, hbr⟩ := hrel
    by_cases hlt : k < l
    · obtain ⟨b', off', e', _, hc⟩ := HI.out (by have := HL.out; omega)
      cases e'
      have hx := hc k (by have := HL.out; omega)
      obtain ⟨hx0, hx1⟩ := HBD.out k (by have := HL.out; omega)
      clear hc
      generalize hxx : L.getD k 0 = x at *
      have HX := Lib.hid hxx
      clear hxx
      obtain ⟨t, rfl⟩ : ∃ t : Nat, x = (t : Int) := ⟨x.toNat, by omega⟩
      have e1 : wr.cell? ⟨g, 0 + k, none⟩ = some (.int .i64 t) := (hbr.cell (p := ⟨g, 0 + k, none⟩) hgw).trans hx
      rw [Nat.zero_add] at e1
      have e2 : wr.cell? ⟨w.heap.size, 0, none⟩ = some (.slice (some ⟨b, off, none⟩) n c) := (hbr.cell (p := ⟨w.heap.size, 0, none⟩) hsz1).trans hbox
      by_cases hti : t < i
      · obtain ⟨b', off', e', _, c3, _⟩ := HG.out.at_ t (by have := HN.out; omega)
        cases e'
        have e3 : wr.cell? ⟨b, off + t * 2, none⟩ = some (.int .i64 (gs.getD t default).k) := (hbr.cell (p := ⟨b, off + t * 2, none⟩) (by show b < w1.heap.size; omega)).trans c3
        have hro : rdOK gs i (t : Int) = !((gs.getD t default).k == 2) := by unfold rdOK; rw [decide_eq_true (by omega)]; simp
        clear c3
        generalize gs.getD t default = q at *
        have hd1 : decide ((i : Int) ≤ (t : Int)) = false := by simp; omega
        have htn : t < n := by omega
        cases hq : (q.k == 2)
        all_goals
          have HR := Lib.hid hro
          have HQ := Lib.hid hq
          clear hro
          go_wp2
          go_quiet (fail)
          go_wp2
        · go_roundw
          case rel => exact ⟨k + 1, by omega, by go_num, fun j hj => by
            rcases Nat.lt_or_ge j k with h1 | h1
            · exact HK.out j h1
            · obtain rfl : j = k := by omega
              rw [HX.out, HR.out, HQ.out]; rfl, drewN_below hbr⟩
          case measure => simp [intOf]; omega
        · go_ret
          refine ⟨ret_b ?_, hB1.trans ((drewN_below hbr).mono (by omega))⟩
          exact (all_bad L (rdOK gs i) k (by have := HL.out; omega) (by rw [HX.out, HR.out, HQ.out]; rfl)).symm
      · have hro : rdOK gs i (t : Int) = false := by unfold rdOK; rw [decide_eq_false (by omega)]; rfl
        have HR := Lib.hid hro
        have hd1 : decide ((i : Int) ≤ (t : Int)) = true := by simp; omega
        clear hro
        go_wp2
        go_quiet (fail)
        go_wp2
        go_ret
        refine ⟨ret_b ?_, hB1.trans ((drewN_below hbr).mono (by omega))⟩
        exact (all_bad L (rdOK gs i) k (by have := HL.out; omega) (by rw [HX.out, HR.out])).symm
    · go_wp2
      go_ret
      refine ⟨ret_b ?_, hB1.trans (hbr.mono (by omega))⟩
      exact (all_good L (rdOK gs i) fun j hj => HK.out j (by have := HL.out; omega)).symm
set_option maxRecDepth 100000 in
set_option maxHeartbeats 3200000 in
theorem spec_validGraph (A : Option Addr) (n c : Nat) (gs : List Nd) (w : World) (B : Nat) (hB : B ≤ w.heap.size) (hn : n = gs.length) (h : GS w B A gs) (hs : GB gs) :
    Calls Tryz.prog 60 #[.agg #[.slice A n c]] w fun e w' => e = .returned (.bool (validG gs)) ∧ Below w.heap.size w w' := by
  have hn1 : n ≤ 1048576 := by rw [hn]; exact hs.1
  have H := Lib.hid h
  have HN := Lib.hid hn
  have HS := Lib.hid hs
  clear h hn hs
  go_enter Tryz.func60, Tryz.ntmps60
  go_wp2
  go_loopw [3] (fun u wr => ∃ k : Nat, k ≤ n ∧ u = .int .i64 k ∧ Hid (∀ j, j < k → nodeOK gs j = true) ∧ Below (w.heap.size + 1) (w.alloc (.cells #[.slice A n c] 36)) wr) (fun u _ => n - (intOf u).toNat)
  case atStart => exact ⟨0, by omega, rfl, by intro j hj; omega, Below.refl _ _⟩
  case round =>
    obtain ⟨k, hk, rfl, HK, hbr⟩ := hrel
    have hbox : wr.cell? ⟨w.heap.size, 0, none⟩ = some (.slice A n c) := (hbr.cell (p := ⟨w.heap.size, 0, none⟩) (by simp)).trans (by go_simp)
    have hwr : w.heap.size + 1 ≤ wr.heap.size := by have := hbr.size; simpa using this
    by_cases hlt : k < n
    · obtain ⟨b, off, rfl, hbB, c0, A1, n1, c1, c2, hn1', hps⟩ := H.out.at_ k (by have := HN.out; omega)
      have hx := HS.out.2 k
      have b0 : wr.cell? ⟨b, off + k * 2, none⟩ = _ := ((hbr.cell (p := ⟨b, off + k * 2, none⟩) (by simp; omega)).trans (World.cell?_alloc_lt _ _ _ (by simp; omega))).trans c0
      have b1 : wr.cell? ⟨b, off + k * 2 + 1, none⟩ = _ := ((hbr.cell (p := ⟨b, off + k * 2 + 1, none⟩) (by simp; omega)).trans (World.cell?_alloc_lt _ _ _ (by simp; omega))).trans c2
      have HPS := Lib.hid ((hps.alloc hB (.cells #[.slice (some ⟨b, off, none⟩) n c] 36)).below hbr (by omega))
      have HGS := Lib.hid ((H.out.alloc hB (.cells #[.slice (some ⟨b, off, none⟩) n c] 36)).below hbr (by omega))
      have hok : nodeOK gs k = if (gs.getD k default).k == 0 then decide ((gs.getD k default).ps.length = 0) else if (gs.getD k default).k == 1 then validF (gs.getD k default).ps && goodRd gs k else if (gs.getD k default).k == 2 then validF (gs.getD k default).ps && goodRd gs k else false := rfl
      clear c0 c2 hps
      generalize gs.getD k default = d at *
      have hy1 : n1 ≤ 1999999 := by omega
      have HN1 := Lib.hid hn1'
      have HGR := Lib.hid fun (w : World) (hB : B ≤ w.heap.size) (h : GS w B (some ⟨b, off, none⟩) gs) => spec_goodReads (some ⟨b, off, none⟩) n c gs k w B hB HN.out h HS.out hlt
      have HVF := Lib.hid fun (w : World) (hB : B ≤ w.heap.size) (h : PS w B A1 d.ps) => spec_validFormula A1 n1 c1 d.ps w B hB HN1.out h (by omega)
      generalize goodRd gs k = r at *
      generalize validF d.ps = f at *
      have HOK := Lib.hid hok
      clear hok hx
      cases h0 : (d.k == 0)
      · cases h1 : (d.k == 1)
        · cases h2 : (d.k == 2)
          · clear hn1'
            have H0 := Lib.hid h0
            have H1 := Lib.hid h1
            have H2 := Lib.hid h2
            go_wp2
            go_ret
            refine ⟨ret_b ?_, ((Below.refl _ _).alloc (Nat.le_refl _) _).trans ((hbr.alloc (by omega) _).mono (by omega))⟩
            exact (validG_bad gs k (by have := HN.out; omega) (by rw [HOK.out, H0.out, H1.out, H2.out]; rfl)).symm
          · clear hn1'
            have H0 := Lib.hid h0
            have H1 := Lib.hid h1
            have H2 := Lib.hid h2
            cases f
            · go_wp2_with fail
              refine (HVF.out _ (by simp; omega) (HPS.out.alloc (by omega) _)).mono ?_
              rintro e w1 ⟨rfl, hb1⟩
              have HG1 := Lib.hid ((HGS.out.alloc (by omega) (.cells #[.int .i64 d.k, .slice A1 n1 c1] 79)).below hb1 (by simp; omega))
              have hz1 : w.heap.size + 1 < w1.heap.size := by have := hb1.size; simp at this; omega
              have hB1 := (hbr.alloc (by omega) (.cells #[.int .i64 d.k, .slice A1 n1 c1] 79)).trans (hb1.mono (by simp; omega))
              have hbox1 : w1.cell? ⟨w.heap.size, 0, none⟩ = some (.slice (some ⟨b, off, none⟩) n c) := (hB1.cell (p := ⟨w.heap.size, 0, none⟩) (by simp)).trans (by go_simp)
              go_wp2
              go_ret
              refine ⟨ret_b ?_, ((Below.refl _ _).alloc (Nat.le_refl _) _).trans (hB1.mono (by omega))⟩
              exact (validG_bad gs k (by have := HN.out; omega) (by rw [HOK.out, H0.out, H1.out, H2.out]; rfl)).symm
            · cases r
              · go_wp2_with fail
                refine (HVF.out _ (by simp; omega) (HPS.out.alloc (by omega) _)).mono ?_
                rintro e w1 ⟨rfl, hb1⟩
                have HG1 := Lib.hid ((HGS.out.alloc (by omega) (.cells #[.int .i64 d.k, .slice A1 n1 c1] 79)).below hb1 (by simp; omega))
                have hz1 : w.heap.size + 1 < w1.heap.size := by have := hb1.size; simp at this; omega
                have hB1 := (hbr.alloc (by omega) (.cells #[.int .i64 d.k, .slice A1 n1 c1] 79)).trans (hb1.mono (by simp; omega))
                have hbox1 : w1.cell? ⟨w.heap.size, 0, none⟩ = some (.slice (some ⟨b, off, none⟩) n c) := (hB1.cell (p := ⟨w.heap.size, 0, none⟩) (by simp)).trans (by go_simp)
                go_wp2_with fail
                refine (HGR.out _ (by omega) HG1.out).mono ?_
                rintro e w2 ⟨rfl, hb2⟩
                have hB2 := hB1.trans (hb2.mono (by omega))
                go_wp2
                go_ret
                refine ⟨ret_b ?_, ((Below.refl _ _).alloc (Nat.le_refl _) _).trans (hB2.mono (by omega))⟩
                exact (validG_bad gs k (by have := HN.out; omega) (by rw [HOK.out, H0.out, H1.out, H2.out]; rfl)).symm
              · go_wp2_with fail
                refine (HVF.out _ (by simp; omega) (HPS.out.alloc (by omega) _)).mono ?_
                rintro e w1 ⟨rfl, hb1⟩
                have HG1 := Lib.hid ((HGS.out.alloc (by omega) (.cells #[.int .i64 d.k, .slice A1 n1 c1] 79)).below hb1 (by simp; omega))
                have hz1 : w.heap.size + 1 < w1.heap.size := by have := hb1.size; simp at this; omega
                have hB1 := (hbr.alloc (by omega) (.cells #[.int .i64 d.k, .slice A1 n1 c1] 79)).trans (hb1.mono (by simp; omega))
                have hbox1 : w1.cell? ⟨w.heap.size, 0, none⟩ = some (.slice (some ⟨b, off, none⟩) n c) := (hB1.cell (p := ⟨w.heap.size, 0, none⟩) (by simp)).trans (by go_simp)
                go_wp2_with fail
                refine (HGR.out _ (by omega) HG1.out).mono ?_
                rintro e w2 ⟨rfl, hb2⟩
                have hB2 := hB1.trans (hb2.mono (by omega))
                go_wp2
                go_roundw
                case rel => exact ⟨k + 1, by omega, by go_num, fun j hj => by
                  rcases Nat.lt_or_ge j k with h1 | h1
                  · exact HK.out j h1
                  · obtain rfl : j = k := by omega
                    rw [HOK.out, H0.out, H1.out, H2.out]; rfl, hB2⟩
                case measure => simp [intOf]; omega
        · clear hn1'
          have H0 := Lib.hid h0
          have H1 := Lib.hid h1
          cases f
          · go_wp2_with fail
            refine (HVF.out _ (by simp; omega) (HPS.out.alloc (by omega) _)).mono ?_
            rintro e w1 ⟨rfl, hb1⟩
            have HG1 := Lib.hid ((HGS.out.alloc (by omega) (.cells #[.int .i64 d.k, .slice A1 n1 c1] 79)).below hb1 (by simp; omega))
            have hz1 : w.heap.size + 1 < w1.heap.size := by have := hb1.size; simp at this; omega
            have hB1 := (hbr.alloc (by omega) (.cells #[.int .i64 d.k, .slice A1 n1 c1] 79)).trans (hb1.mono (by simp; omega))
            have hbox1 : w1.cell? ⟨w.heap.size, 0, none⟩ = some (.slice (some ⟨b, off, none⟩) n c) := (hB1.cell (p := ⟨w.heap.size, 0, none⟩) (by simp)).trans (by go_simp)
            go_wp2
            go_ret
            refine ⟨ret_b ?_, ((Below.refl _ _).alloc (Nat.le_refl _) _).trans (hB1.mono (by omega))⟩
            exact (validG_bad gs k (by have := HN.out; omega) (by rw [HOK.out, H0.out, H1.out]; rfl)).symm
          · cases r
            · go_wp2_with fail
              refine (HVF.out _ (by simp; omega) (HPS.out.alloc (by omega) _)).mono ?_
              rintro e w1 ⟨rfl, hb1⟩
              have HG1 := Lib.hid ((HGS.out.alloc (by omega) (.cells #[.int .i64 d.k, .slice A1 n1 c1] 79)).below hb1 (by simp; omega))
              have hz1 : w.heap.size + 1 < w1.heap.size := by have := hb1.size; simp at this; omega
              have hB1 := (hbr.alloc (by omega) (.cells #[.int .i64 d.k, .slice A1 n1 c1] 79)).trans (hb1.mono (by simp; omega))
              have hbox1 : w1.cell? ⟨w.heap.size, 0, none⟩ = some (.slice (some ⟨b, off, none⟩) n c) := (hB1.cell (p := ⟨w.heap.size, 0, none⟩) (by simp)).trans (by go_simp)
              go_wp2_with fail
              refine (HGR.out _ (by omega) HG1.out).mono ?_
              rintro e w2 ⟨rfl, hb2⟩
              have hB2 := hB1.trans (hb2.mono (by omega))
              go_wp2
              go_ret
              refine ⟨ret_b ?_, ((Below.refl _ _).alloc (Nat.le_refl _) _).trans (hB2.mono (by omega))⟩
              exact (validG_bad gs k (by have := HN.out; omega) (by rw [HOK.out, H0.out, H1.out]; rfl)).symm
            · go_wp2_with fail
              refine (HVF.out _ (by simp; omega) (HPS.out.alloc (by omega) _)).mono ?_
              rintro e w1 ⟨rfl, hb1⟩
              have HG1 := Lib.hid ((HGS.out.alloc (by omega) (.cells #[.int .i64 d.k, .slice A1 n1 c1] 79)).below hb1 (by simp; omega))
              have hz1 : w.heap.size + 1 < w1.heap.size := by have := hb1.size; simp at this; omega
              have hB1 := (hbr.alloc (by omega) (.cells #[.int .i64 d.k, .slice A1 n1 c1] 79)).trans (hb1.mono (by simp; omega))
              have hbox1 : w1.cell? ⟨w.heap.size, 0, none⟩ = some (.slice (some ⟨b, off, none⟩) n c) := (hB1.cell (p := ⟨w.heap.size, 0, none⟩) (by simp)).trans (by go_simp)
              go_wp2_with fail
              refine (HGR.out _ (by omega) HG1.out).mono ?_
              rintro e w2 ⟨rfl, hb2⟩
              have hB2 := hB1.trans (hb2.mono (by omega))
              go_wp2
              go_roundw
              case rel => exact ⟨k + 1, by omega, by go_num, fun j hj => by
                rcases Nat.lt_or_ge j k with h1 | h1
                · exact HK.out j h1
                · obtain rfl : j = k := by omega
                  rw [HOK.out, H0.out, H1.out]; rfl, hB2⟩
              case measure => simp [intOf]; omega
      · have H0 := Lib.hid h0
        by_cases hz : 0 < n1
        · clear hn1'
          go_wp2
          go_ret
          refine ⟨ret_b ?_, ((Below.refl _ _).alloc (Nat.le_refl _) _).trans ((hbr.alloc (by omega) _).mono (by omega))⟩
          exact (validG_bad gs k (by have := HN.out; omega) (by rw [HOK.out, H0.out]; exact decide_eq_false (by have := HN1.out; omega))).symm
        · obtain rfl : n1 = 0 := by omega
          clear hn1'
          go_wp2
          go_roundw
          case rel => exact ⟨k + 1, by omega, by go_num, fun j hj => by
            rcases Nat.lt_or_ge j k with h1 | h1
            · exact HK.out j h1
            · obtain rfl : j = k := by omega
              rw [HOK.out, H0.out]; exact decide_eq_true (by have := HN1.out; omega), hbr.alloc (by omega) _⟩
          case measure => simp [intOf]; omega
    · go_wp2
      go_ret
      refine ⟨ret_b ?_, ((Below.refl _ _).alloc (Nat.le_refl _) _).trans (hbr.mono (by omega))⟩
      rw [validG_fin gs fun j hj => HK.out j (by have := HN.out; omega)]
      have := HN.out
      simp
      omega
end Go.Proofs.YtlcpgbbpjnkihaaGreat

namespace Go.Proofs.YtlcpgbbpjnkihaaGreat
set_option linter.unusedSimpArgs false
set_option linter.unusedVariables false
open Go.RowKit
theorem GS.take {w : World} {B : Nat} {A : Option Addr} {gs : List Nd} (h : GS w B A gs) (i : Nat) (hi : i ≤ gs.length) : GS w B A (gs.take i) := by
  intro hn
  rw [List.length_take, Nat.min_eq_left hi] at hn
  obtain ⟨b, off, e, hb, hc⟩ := h (by omega)
  refine ⟨b, off, e, hb, fun j hj => ?_⟩
  rw [List.length_take, Nat.min_eq_left hi] at hj
  have : (gs.take i).getD j default = gs.getD j default := by
    simp only [List.getD, List.getElem?_take, if_pos hj]
  rw [this]
  exact hc j (by omega)
end Go.Proofs.YtlcpgbbpjnkihaaGreat

namespace Go.Proofs.YtlcpgbbpjnkihaaGreat
set_option linter.unusedSimpArgs false
set_option linter.unusedVariables false
open Go.RowKit
theorem RetI.mono {w w0 w' : World} {xs : List Int} {e : Ending} (h : RetI w xs e w') (hb : Below w0.heap.size w0 w) : RetI w0 xs e w' := by
  obtain ⟨v, he, ho, hb'⟩ := h
  exact ⟨v, he, own_mono ho hb.size, hb.trans (hb'.mono hb.size)⟩
theorem RetI.nil {w w' : World} (hb : Below w.heap.size w w') : RetI w [] (.returned (.slice none 0 0)) w' := ⟨_, rfl, World.ownsRow_nil _ _ _ _, hb⟩
end Go.Proofs.YtlcpgbbpjnkihaaGreat

namespace Go.Proofs.YtlcpgbbpjnkihaaGreat
set_option linter.unusedSimpArgs false
set_option linter.unusedVariables false
open Go.RowKit
theorem firsts_inv (P : List Int → Prop) (l : List Int) : ∀ acc : List Int, P acc → (∀ acc x, x ∈ l → P acc → P (if x ∈ acc then acc else acc ++ [x])) → P (l.foldl (fun acc x => if x ∈ acc then acc else acc ++ [x]) acc) := by
  induction l with
  | nil => intro acc h _; exact h
  | cons y l ih => intro acc h hs; exact ih _ (hs acc y List.mem_cons_self h) fun a x hx => hs a x (List.mem_cons_of_mem _ hx)
theorem firsts_bd (l : List Int) (m : Nat) (h : ∀ x ∈ l, ∃ q : Nat, q < m ∧ x = (q : Int)) : (firsts l).length ≤ m := by
  have h1 : (firsts l).Nodup ∧ ∀ x ∈ firsts l, ∃ q : Nat, q < m ∧ x = (q : Int) := by
    refine firsts_inv (fun a => a.Nodup ∧ ∀ x ∈ a, ∃ q : Nat, q < m ∧ x = (q : Int)) l [] ⟨List.nodup_nil, fun x hx => by cases hx⟩ ?_
    intro acc x hx ⟨h2, h3⟩
    split
    · exact ⟨h2, h3⟩
    · rename_i hn
      refine ⟨?_, ?_⟩
      · rw [List.nodup_append]
        refine ⟨h2, by simp, ?_⟩
        intro a ha b hb e
        simp at hb
        subst hb; subst e
        exact hn ha
      · intro y hy
        rcases List.mem_append.mp hy with h4 | h4
        · exact h3 y h4
        · simp at h4; subst h4; exact h y hx
  have h2 := sum_counts (firsts l) m fun x hx => by
    obtain ⟨q, hq, rfl⟩ := h1.2 x hx; omega
  rw [← h2]
  exact (sum_ones (fun i : Nat => (firsts l).count (i : Int)) m fun i _ => List.nodup_iff_count.mp h1.1 _).1
end Go.Proofs.YtlcpgbbpjnkihaaGreat

namespace Go.Proofs.YtlcpgbbpjnkihaaGreat
set_option linter.unusedSimpArgs false
set_option linter.unusedVariables false
open Go.RowKit
theorem SSk.two {lo mid top : Nat} {w : World} {A A' : Option Addr} {m c m' c' : Nat} {lens : Nat → Nat} {cont : Nat → List Value} (h1 : OwR lo mid 3 1 (.slice A m c) m (cont 0) w) (h2 : OwR mid top 3 1 (.slice A' m' c') m' (cont 1) w) (hm : m = lens 0) (hm' : m' = lens 1) (hlo : lo ≤ mid) (htop : mid ≤ top) :
    SSk lo top [.slice A m c, .slice A' m' c'] lens cont w := by
  refine ⟨fun j hj => ?_, fun i j v u k hij hi hj hv hu => ?_⟩
  · match j, hj with
    | 0, _ => exact ⟨A, m, c, rfl, hm, h1.mono (Nat.le_refl _) htop⟩
    | 1, _ => exact ⟨A', m', c', rfl, hm', h2.mono hlo (Nat.le_refl _)⟩
  · have b1 : ∀ q, (Value.slice A m c).ownBlock = some q → lo ≤ q ∧ q < mid := fun q hq => ⟨(h1.1.lt q hq).1, h1.2 q hq⟩
    have b2 : ∀ q, (Value.slice A' m' c').ownBlock = some q → mid ≤ q ∧ q < top := fun q hq => ⟨(h2.1.lt q hq).1, h2.2 q hq⟩
    match i, j with
    | 0, 0 => exact absurd rfl hij
    | 1, 1 => exact absurd rfl hij
    | 0, 1 => cases hi; cases hj; have := b1 k hv; have := b2 k hu; omega
    | 1, 0 => cases hi; cases hj; have := b2 k hv; have := b1 k hu; omega
    | i + 2, _ => simp at hi
    | 0, j + 2 => simp at hj
    | 1, j + 2 => simp at hj
end Go.Proofs.YtlcpgbbpjnkihaaGreat

namespace Go.Proofs.YtlcpgbbpjnkihaaGreat
set_option linter.unusedSimpArgs false
set_option linter.unusedVariables false
theorem eager_canEv (gs : List Nd) (vs : List Int) (i : Nat) (hg : validG gs = true) (hl : vs.length = gs.length) (hr : allR vs 0 999 = true) (hi : i < gs.length) (hk : ((gs.getD i default).k == 0) = false) : canEv (gs.getD i default).ps vs = true := by
  obtain ⟨h10, hn⟩ := validG_parts gs hg
  have hv := (nodeOK_formula gs i (hn i hi) hk).1
  have he := each_ahead gs i vs.length hg hi hk (by omega)
  unfold canEv
  rw [hv, he, hr]
  simp
  omega
theorem eager_depF_bd (gs : List Nd) (vs : List Int) (hg : validG gs = true) (hl : vs.length = gs.length) (i : Nat) (hi : i < gs.length) : (depF gs vs i).length ≤ 10 := by
  unfold depF
  cases hk : ((gs.getD i default).k == 0)
  · simp only [Bool.false_eq_true, if_false]
    have hv := (nodeOK_formula gs i ((validG_parts gs hg).2 i hi) hk).1
    have hok := whole_ok _ vs.length hv (by rw [hl]; exact each_ahead gs i gs.length hg hi hk (by omega))
    have h10 := (validG_parts gs hg).1
    refine Nat.le_trans (firsts_bd _ vs.length ?_) (by rw [hl]; exact h10)
    intro x hx
    exact rds_lt _ _ _ hok x hx
  · simp
theorem diffTo_same (a b : List Int) (n : Nat) (hn : n = a.length) (hm : n = b.length) : ((diffTo a b n).length == 0) = decide (a = b) := by
  by_cases h : a = b
  · subst h
    have : diffTo a a n = [] := by unfold diffTo; simp
    rw [this]; simp
  · have : ∃ k, k < n ∧ a.getD k 0 ≠ b.getD k 0 := by
      apply Classical.byContradiction
      intro hc
      apply h
      apply List.ext_getElem (by omega)
      intro k h1 h2
      apply Classical.byContradiction
      intro hne
      exact hc ⟨k, by omega, by simpa [List.getD, h1, h2] using hne⟩
    obtain ⟨k, hk, hne⟩ := this
    have hmem : (k : Int) ∈ diffTo a b n := by
      unfold diffTo
      exact List.mem_map.2 ⟨k, List.mem_filter.2 ⟨List.mem_range.2 hk, by simpa using hne⟩, rfl⟩
    have : (diffTo a b n).length ≠ 0 := by
      intro h0
      rw [List.eq_nil_of_length_eq_zero h0] at hmem
      simp at hmem
    simp [h, this]
end Go.Proofs.YtlcpgbbpjnkihaaGreat

namespace Go.Proofs.YtlcpgbbpjnkihaaGreat
set_option linter.unusedSimpArgs false
set_option linter.unusedVariables false
open Go.RowKit
set_option maxRecDepth 100000 in
set_option maxHeartbeats 1600000 in
theorem spec_differing (A A' : Option Addr) (n c c' : Nat) (a b : List Int) (w : World) (B : Nat) (hB : B ≤ w.heap.size) (hn : n = a.length) (hm : n = b.length) (h : IS w B A a) (h' : IS w B A' b) (hs : n ≤ 2000000) :
    Calls Tryz.prog 104 #[.slice A n c, .slice A' n c'] w fun e w' => RetI w (diffTo a b n) e w' := by
  obtain ⟨i0, hi, hz0, hz1, hz2⟩ := info_parts info_int
  have H := Lib.hid h
  have H' := Lib.hid h'
  have HN := Lib.hid hn
  have HM := Lib.hid hm
  clear hn h hm h'
  go_enter Tryz.func104, Tryz.ntmps104
  go_wp2
  go_loopw [5, 6] (fun v i wr => ∃ k : Nat, k ≤ n ∧ i = .int .i64 k ∧ Hid (OwnI wr w.heap.size v (diffTo a b k)) ∧ Below w.heap.size w wr) (fun _ i _ => n - (intOf i).toNat)
  case atStart =>
    refine ⟨0, Nat.zero_le _, rfl, ?_, (Below.refl _ _).alloc (Nat.le_refl _) _⟩
    have := World.ownsRow_lit (e := 3) (size := 1) (base := w.heap.size) w #[] 0 (Nat.le_refl _) (by unfold maxLen; omega) rfl
    simpa [OwnI, Hid, diffTo] using this
  case round =>
    obtain ⟨k, hk, rfl, HO, hb⟩ := hrel
    by_cases hlt : k < n
    · obtain ⟨b1, off1, rfl, hb1, hc1⟩ := H.out (by have := HN.out; omega)
      obtain ⟨b2, off2, rfl, hb2, hc2⟩ := H'.out (by have := HM.out; omega)
      have c1 := (hb.cell (p := ⟨b1, off1 + k, none⟩) (by simp; omega)).trans (hc1 k (by have := HN.out; omega))
      have c2 := (hb.cell (p := ⟨b2, off2 + k, none⟩) (by simp; omega)).trans (hc2 k (by have := HM.out; omega))
      clear hc1 hc2
      have HST := Lib.hid (diffTo_step a b k)
      have hdl := diffTo_len a b k
      generalize a.getD k 0 = x at *
      generalize b.getD k 0 = y at *
      generalize diffTo a b k = D at *
      have hwr : w.heap.size ≤ wr.heap.size := hb.size
      cases hxy : (x == y)
      · have hne : (x != y) = true := by simp [bne, hxy]
        rw [hxy] at HST
        clear hxy
        go_wp2
        go_region
        go_wp2_with (at_builtin; refine wpList_append_own _ rfl _ _ 25 rfl w.heap.size 3 i0 (.int .i64 0) 1 8 Tryz.underlying25 hi hz0 hz1 hz2 rfl (by decide) _ _ _ rfl (HO.out.drew.alloc _) ⟨_, 0, none⟩ 1 1 [.int .i64 k] rfl rfl (cell_one_new _ _ _) ?c2 ?c3 ?c4 ?c5 ?_)
        case c2 => first | rfl | (intro u hu; simp at hu; subst hu; rfl)
        case c3 => unfold maxLen; omega
        case c4 => omega
        case c5 => first | omega | (simp; omega)
        intro v' w3 hown' hgrow _
        have hpos := (HO.out.drew.alloc (.cells #[.int .i64 k] 3)).lt
        have HO' : Hid (OwnI w3 w.heap.size v' (diffTo a b (k + 1))) := by
          rw [HST.out]
          simpa [OwnI, Hid] using hown'
        have HB' := Lib.hid ((hb.drew.alloc hwr (.cells #[.int .i64 k] 3)).grown hgrow (by first | (simp; omega) | omega) (fun q hq => (hpos q hq).1))
        clear hown' hgrow hpos
        go_wp2
        go_roundw
        case rel => exact ⟨k + 1, by omega, by go_num, HO'.out, HB'.out⟩
        case measure => simp [intOf]; omega
      · have hne : (x != y) = false := by simp [bne, hxy]
        rw [hxy] at HST
        clear hxy
        go_wp2
        go_region
        go_wp2
        go_roundw
        case rel => exact ⟨k + 1, by omega, by go_num, by rw [HST.out]; have := HO.out.drew; simpa [OwnI, Hid] using this, hb.drew⟩
        case measure => simp [intOf]; omega
    · obtain rfl : k = n := by omega
      go_wp2
      go_ret
      exact ⟨_, rfl, HO.out, hb⟩
end Go.Proofs.YtlcpgbbpjnkihaaGreat

namespace Go.Proofs.YtlcpgbbpjnkihaaGreat
set_option linter.unusedSimpArgs false
set_option linter.unusedVariables false
open Go.RowKit
set_option maxHeartbeats 800000 in
theorem spec_sameInts (A A' : Option Addr) (n n' c c' : Nat) (a b : List Int) (w : World) (B : Nat) (hB : B ≤ w.heap.size) (hn : n = a.length) (hn' : n' = b.length) (h : IS w B A a) (h' : IS w B A' b) (hs : n ≤ 2000000) (hs' : n' ≤ 2000000) :
    Calls Tryz.prog 87 #[.slice A n c, .slice A' n' c'] w fun e w' => e = .returned (.bool (decide (a = b))) ∧ Below w.heap.size w w' := by
  by_cases hl : n = n'
  · have hne : ((n : Int) != (n' : Int)) = false := by simp [hl]
    subst hl
    have HC := Lib.hid (spec_differing A A' n c c' a b w B hB hn hn' h h' hs)
    have HD := Lib.hid (diffTo_same a b n hn hn')
    have hd0 := diffTo_len a b n
    generalize diffTo a b n = D at *
    generalize decide (a = b) = r at *
    clear hn hn' h h'
    go_enter Tryz.func87, Tryz.ntmps87
    go_wp2_with fail
    refine HC.out.mono ?_
    rintro e w1 ⟨v, rfl, ho, hb⟩
    obtain ⟨A1, c1, rfl, _⟩ := OwnI.form ho
    have hd := HD.out
    cases r
    · have h0 : ((D.length : Int) == 0) = false := by simp at hd ⊢; omega
      clear ho hd
      go_wp2
      go_ret
      exact ⟨rfl, hb⟩
    · have h0 : ((D.length : Int) == 0) = true := by simp at hd ⊢; omega
      clear ho hd
      go_wp2
      go_ret
      exact ⟨rfl, hb⟩
  · have hne : ((n : Int) != (n' : Int)) = true := by simp; omega
    have hf : decide (a = b) = false := by rw [decide_eq_false_iff_not]; rintro rfl; omega
    rw [hf]
    clear hl hn hn' h h' hf
    go_enter Tryz.func87, Tryz.ntmps87
    go_wp2
    go_ret
    exact ⟨rfl, Below.refl _ _⟩
end Go.Proofs.YtlcpgbbpjnkihaaGreat

namespace Go.Proofs.YtlcpgbbpjnkihaaGreat
set_option linter.unusedSimpArgs false
set_option linter.unusedVariables false
open Go.RowKit
theorem hasN_nat (gs : List Nd) (x : Int) (h : hasN gs x = true) : ∃ t : Nat, x = (t : Int) ∧ t < gs.length := by
  unfold hasN rng at h
  simp only [decide_eq_true_eq] at h
  exact ⟨x.toNat, by omega, by omega⟩
set_option maxHeartbeats 800000 in
theorem spec_isCell (A : Option Addr) (n c : Nat) (gs : List Nd) (x : Int) (w : World) (B : Nat) (hB : B ≤ w.heap.size) (hn : n = gs.length) (h : GS w B A gs) (hs : n ≤ 2000000) :
    Calls Tryz.prog 35 #[.agg #[.slice A n c], .int .i64 x] w fun e w' => e = .returned (.bool (isC gs x)) ∧ Below w.heap.size w w' := by
  have hr : hasN gs x = rng x 0 ((n : Int) - 1) := by rw [hn]; rfl
  have hi : isC gs x = (hasN gs x && ((gs.getD x.toNat default).k == 0)) := rfl
  cases hh : hasN gs x
  · have hf : isC gs x = false := by rw [hi, hh]; rfl
    rw [hf]
    have hr' : rng x 0 ((n : Int) - 1) = false := by rw [← hr, hh]
    clear h hn hr hi hf hh
    go_enter Tryz.func35, Tryz.ntmps35
    go_wp2_with (go_at_call 36; refine (spec_inRange _ _ _ _).mono ?_; rintro e w' ⟨rfl, rfl⟩)
    go_ret
    exact ⟨rfl, (Below.refl _ _).alloc (Nat.le_refl _) _⟩
  · obtain ⟨t, rfl, ht⟩ := hasN_nat gs x hh
    have hr' : rng (t : Int) 0 ((n : Int) - 1) = true := by rw [← hr, hh]
    have hf : isC gs t = ((gs.getD t default).k == 0) := by rw [hi, hh]; simp
    rw [hf]
    obtain ⟨b, off, rfl, hbB, c0, _⟩ := h.at_ t ht
    have htn : t < n := by omega
    have hbw : b < w.heap.size := by omega
    clear h hn hr hi hf hh ht
    generalize gs.getD t default = d at *
    cases hd : (d.k == 0)
    all_goals
      go_enter Tryz.func35, Tryz.ntmps35
      go_wp2_with (go_at_call 36; refine (spec_inRange _ _ _ _).mono ?_; rintro e w' ⟨rfl, rfl⟩)
      go_ret
      exact ⟨rfl, (Below.refl _ _).alloc (Nat.le_refl _) _⟩
end Go.Proofs.YtlcpgbbpjnkihaaGreat

namespace Go.Proofs.YtlcpgbbpjnkihaaGreat
set_option linter.unusedSimpArgs false
set_option linter.unusedVariables false
/-- The numbers of a list that are not in another one. -/
def missTo (a b : List Int) (k : Nat) : List Int := (a.take k).filter fun x => !decide (x ∈ b)
def missL (a b : List Int) : List Int := a.filter fun x => !decide (x ∈ b)
theorem missTo_step (a b : List Int) (k : Nat) (h : k < a.length) : missTo a b (k + 1) = missTo a b k ++ (if decide (a.getD k 0 ∈ b) then [] else [a.getD k 0]) := by
  unfold missTo
  rw [take_succ_int a k _ h rfl, List.filter_append]
  congr 1
  cases h1 : decide (a.getD k 0 ∈ b) <;> simp [List.filter_cons, h1, -List.getD_eq_getElem?_getD]
theorem missTo_len (a b : List Int) (k : Nat) : (missTo a b k).length ≤ k := by
  unfold missTo
  refine Nat.le_trans (List.length_filter_le _ _) (by rw [List.length_take]; omega)
theorem missTo_all (a b : List Int) : missTo a b a.length = missL a b := by unfold missTo missL; rw [List.take_length]
theorem missTo_zero (a b : List Int) : missTo a b 0 = [] := rfl
theorem firsts_take_len (l : List Int) (k : Nat) (hk : k ≤ l.length) : (firsts (l.take k)).length = k ↔ ∀ i, i < k → ¬ l.getD i 0 ∈ l.take i := by
  induction k with
  | zero => simp [firsts]
  | succ k ih =>
    have ih := ih (by omega)
    have hle : (firsts (l.take k)).length ≤ k := Nat.le_trans (firsts_len _) (by rw [List.length_take]; omega)
    rw [firsts_step l k _ (by omega) rfl]
    by_cases hm : l.getD k 0 ∈ firsts (l.take k)
    · rw [if_pos hm]
      have hm' := (firsts_mem _ _).1 hm
      constructor
      · intro h; omega
      · intro h; exact absurd hm' (h k (by omega))
    · rw [if_neg hm, List.length_append]
      have hm' : ¬ l.getD k 0 ∈ l.take k := fun e => hm ((firsts_mem _ _).2 e)
      constructor
      · intro h i hi
        rcases Nat.lt_or_ge i k with h1 | h1
        · exact ih.1 (by simpa using h) i h1
        · obtain rfl : i = k := by omega
          exact hm'
      · intro h
        have := ih.2 fun i hi => h i (by omega)
        simp [this]
theorem apartL_firsts (l : List Int) : ((l.length : Int) == ((firsts l).length : Int)) = apartL l := by
  have h := firsts_take_len l l.length (Nat.le_refl _)
  rw [List.take_length] at h
  unfold apartL
  rw [Bool.eq_iff_iff, beq_iff_eq, decide_eq_true_iff]
  constructor
  · intro e; exact h.1 (by omega)
  · intro e; have := h.2 e; omega
theorem inL_miss (l b : List Int) : (((missL l b).length : Int) == 0) = inL l b := by
  unfold missL inL
  rw [Bool.eq_iff_iff, beq_iff_eq, List.all_eq_true]
  constructor
  · intro e x hx
    have h0 : l.filter (fun x => !decide (x ∈ b)) = [] := List.eq_nil_of_length_eq_zero (by omega)
    rw [List.filter_eq_nil_iff] at h0
    have := h0 x hx
    simpa using this
  · intro h
    have h0 : l.filter (fun x => !decide (x ∈ b)) = [] := by
      rw [List.filter_eq_nil_iff]
      intro x hx
      have := h x hx
      simp only [decide_eq_true_eq] at this
      simp [this]
    rw [h0]; rfl
theorem cleanR_bad (cs l : List Int) (k : Nat) (hk : k < l.length) (h : (cs.getD (l.getD k 0).toNat 0 == 0) = false) : cleanR cs l = false := all_bad l _ k hk h
theorem cleanR_fin (cs l : List Int) (h : ∀ k, k < l.length → (cs.getD (l.getD k 0).toNat 0 == 0) = true) : cleanR cs l = true := all_good l _ h
theorem allL_bad (gs : List Nd) (st : Lz) (i : Nat) (hi : i < gs.length) (h : colOK gs st i = false) : allL gs st = false := by
  unfold allL
  rw [decide_eq_false_iff_not]
  intro hh
  rw [hh i hi] at h
  cases h
theorem allL_fin (gs : List Nd) (st : Lz) (h : ∀ i, i < gs.length → colOK gs st i = true) : allL gs st = true := by
  unfold allL
  exact decide_eq_true h
/-- What a run reads are nodes ahead. -/
theorem depF_range (gs : List Nd) (vs : List Int) (hg : validG gs = true) (hl : vs.length = gs.length) (i : Nat) (hi : i < gs.length) (j : Nat) (hj : j < (depF gs vs i).length) : ∃ q : Nat, q < gs.length ∧ (depF gs vs i).getD j 0 = (q : Int) := by
  have hmem : (depF gs vs i).getD j 0 ∈ depF gs vs i := by simp [List.getD, hj]
  unfold depF at hmem ⊢
  cases hk : ((gs.getD i default).k == 0)
  · rw [hk] at hmem
    simp only [Bool.false_eq_true, if_false] at hmem ⊢
    have hv := (nodeOK_formula gs i ((validG_parts gs hg).2 i hi) hk).1
    have hok := whole_ok _ vs.length hv (by rw [hl]; exact each_ahead gs i gs.length hg hi hk (by omega))
    obtain ⟨q, hq, e⟩ := rds_lt _ _ _ hok _ ((firsts_mem _ _).1 hmem)
    exact ⟨q, by omega, e⟩
  · rw [hk] at hmem
    simp at hmem
end Go.Proofs.YtlcpgbbpjnkihaaGreat

namespace Go.Proofs.YtlcpgbbpjnkihaaGreat
set_option linter.unusedSimpArgs false
set_option linter.unusedVariables false
open Go.RowKit
/-- The first lists at E have room for what they hold. -/
def SC (w : World) (E : Option Addr) (en : Nat) : Prop := ∀ b off, E = some ⟨b, off, none⟩ → ∀ j, j < en → ∀ A' n c, w.cell? ⟨b, off + j, none⟩ = some (.slice A' n c) → n ≤ c
/-- A state that is read, the lists of which have room. -/
def LS4 (w : World) (B : Nat) (A E C : Option Addr) (e : Lz) : Prop := LS3 w B A E C e ∧ SC w E e.rs.length
section
variable {w w' : World} {B B' D lo hi n c en ec m d : Nat} {A E C : Option Addr} {e : Lz} {st : Lz}
theorem LS4.keep (h : LS4 w B A E C e) (hk : ∀ p : Addr, p.block < B → w'.cell? p = w.cell? p) : LS4 w' B A E C e := by
  refine ⟨h.1.keep hk, fun b off hE j hj A' n c hc => h.2 b off hE j hj A' n c ?_⟩
  obtain ⟨b', off', e', hb', _⟩ := h.1.2.1 (by omega)
  rw [hE] at e'
  cases e'
  rw [← hk _ hb']
  exact hc
theorem LS4.more (h : LS4 w B A E C e) (hB : B ≤ B') : LS4 w B' A E C e := ⟨h.1.more hB, h.2⟩
theorem LS4.below (h : LS4 w B A E C e) (hb : Below D w w') (hC : B ≤ D) : LS4 w' B A E C e := h.keep fun _ hp => hb.cell (Nat.lt_of_lt_of_le hp hC)
theorem LS4.alloc (h : LS4 w B A E C e) (hB : B ≤ w.heap.size) (o : Obj) : LS4 (w.alloc o) B A E C e := h.keep fun p hp => World.cell?_alloc_lt w o p (by omega)
end
end Go.Proofs.YtlcpgbbpjnkihaaGreat

namespace Go.Proofs.YtlcpgbbpjnkihaaGreat
set_option linter.unusedSimpArgs false
set_option linter.unusedVariables false
open Go.RowKit
set_option maxRecDepth 100000 in
set_option maxHeartbeats 1600000 in
theorem spec_missing (A A' : Option Addr) (n c m c' : Nat) (a b : List Int) (w : World) (B : Nat) (hB : B ≤ w.heap.size) (hn : n = a.length) (hm : m = b.length) (h : IS w B A a) (h' : IS w B A' b) (hs : n ≤ 2000000) (hs' : m ≤ 2000000) :
    Calls Tryz.prog 84 #[.slice A n c, .slice A' m c'] w fun e w' => RetI w (missL a b) e w' := by
  obtain ⟨i0, hi, hz0, hz1, hz2⟩ := info_parts info_int
  have H := Lib.hid h
  have H' := Lib.hid h'
  have HN := Lib.hid hn
  have HM := Lib.hid hm
  have HALL := Lib.hid (missTo_all a b)
  clear hn h hm h'
  go_enter Tryz.func84, Tryz.ntmps84
  go_wp2
  go_loopw [5, 6] (fun v i wr => ∃ k : Nat, k ≤ n ∧ i = .int .i64 k ∧ Hid (OwnI wr w.heap.size v (missTo a b k)) ∧ Below w.heap.size w wr) (fun _ i _ => n - (intOf i).toNat)
  case atStart =>
    refine ⟨0, Nat.zero_le _, rfl, ?_, (Below.refl _ _).alloc (Nat.le_refl _) _⟩
    have := World.ownsRow_lit (e := 3) (size := 1) (base := w.heap.size) w #[] 0 (Nat.le_refl _) (by unfold maxLen; omega) rfl
    simpa [OwnI, Hid, missTo_zero] using this
  case round =>
    obtain ⟨k, hk, rfl, HO, hb⟩ := hrel
    by_cases hlt : k < n
    · obtain ⟨b1, off1, rfl, hb1, hc1⟩ := H.out (by have := HN.out; omega)
      have c1 := (hb.cell (p := ⟨b1, off1 + k, none⟩) (by simp; omega)).trans (hc1 k (by have := HN.out; omega))
      clear hc1
      have HST := Lib.hid (missTo_step a b k (by have := HN.out; omega))
      have hdl := missTo_len a b k
      have hwr : w.heap.size ≤ wr.heap.size := hb.size
      have HP := Lib.hid (spec_placeIn A' m c' b (a.getD k 0) wr B (by omega) HM.out (H'.out.below hb hB) hs')
      have HPL := Lib.hid (plc_lt b (a.getD k 0))
      generalize a.getD k 0 = x at *
      generalize missTo a b k = D at *
      cases hin : decide (x ∈ b)
      · have hd : decide (plc b x < 0) = true := by rw [HPL.out, hin]; rfl
        rw [hin] at HST
        clear hin HPL
        generalize plc b x = px at *
        go_wp2_with fail
        refine HP.out.mono ?_
        rintro e w' ⟨rfl, rfl⟩
        clear HP
        go_wp2_with (at_builtin; refine wpList_append_own _ rfl _ _ 25 rfl w.heap.size 3 i0 (.int .i64 0) 1 8 Tryz.underlying25 hi hz0 hz1 hz2 rfl (by decide) _ _ _ rfl (HO.out.alloc _) ⟨_, 0, none⟩ 1 1 [.int .i64 x] rfl rfl (cell_one_new _ _ _) ?c2 ?c3 ?c4 ?c5 ?_)
        case c2 => first | rfl | (intro u hu; simp at hu; subst hu; rfl)
        case c3 => unfold maxLen; omega
        case c4 => omega
        case c5 => first | omega | (simp; omega)
        intro v' w3 hown' hgrow _
        have hpos := (HO.out.alloc (.cells #[.int .i64 x] 3)).lt
        have HO' : Hid (OwnI w3 w.heap.size v' (missTo a b (k + 1))) := by
          rw [HST.out]
          simpa [OwnI, Hid] using hown'
        have HB' := Lib.hid ((hb.alloc hwr (.cells #[.int .i64 x] 3)).grown hgrow (by first | (simp; omega) | omega) (fun q hq => (hpos q hq).1))
        clear hown' hgrow hpos
        go_wp2
        go_roundw
        case rel => exact ⟨k + 1, by omega, by go_num, HO'.out, HB'.out⟩
        case measure => simp [intOf]; omega
      · have hd : decide (plc b x < 0) = false := by rw [HPL.out, hin]; rfl
        rw [hin] at HST
        clear hin HPL
        generalize plc b x = px at *
        go_wp2_with fail
        refine HP.out.mono ?_
        rintro e w' ⟨rfl, rfl⟩
        clear HP
        go_wp2
        go_roundw
        case rel => exact ⟨k + 1, by omega, by go_num, by show OwnI _ _ _ _; rw [HST.out]; simpa using HO.out, hb⟩
        case measure => simp [intOf]; omega
    · obtain rfl : k = n := by omega
      go_wp2
      go_ret
      refine ⟨_, rfl, ?_, hb⟩
      rw [← HALL.out, ← HN.out]
      exact HO.out
end Go.Proofs.YtlcpgbbpjnkihaaGreat

namespace Go.Proofs.YtlcpgbbpjnkihaaGreat
set_option linter.unusedSimpArgs false
set_option linter.unusedVariables false
open Go.RowKit
/-- If the colour is that of clean nodes, so are those of the first ones that are read. -/
def ClT (cc : Int) (cs F : List Int) (k : Nat) : Prop := (cc == 0) = true → ∀ j, j < k → (cs.getD (F.getD j 0).toNat 0 == 0) = true
set_option maxRecDepth 100000 in
set_option maxHeartbeats 6400000 in
theorem spec_goodColour (A A' E C : Option Addr) (n c m c' p ec q qc : Nat) (gs : List Nd) (st : Lz) (i : Nat) (w : World) (B : Nat) (hB : B ≤ w.heap.size) (hn : n = gs.length) (hm : m = st.vs.length) (hp : p = st.rs.length) (hq : q = st.cs.length) (h : GS w B A gs) (h' : LS3 w B A' E C st) (hs : GB gs) (hb0 : LB st) (hvg : validG gs = true) (hl1 : st.vs.length = gs.length) (hl2 : st.rs.length = gs.length) (hl3 : st.cs.length = gs.length) (hr : allR st.vs 0 999 = true) (hi : i < n) :
    Calls Tryz.prog 61 #[.agg #[.slice A n c], .agg #[.slice A' m c', .slice E p ec, .slice C q qc], .int .i64 i] w fun e w' => e = .returned (.bool (colOK gs st i)) ∧ Below w.heap.size w w' := by
  have hn10 : n ≤ 10 := by rw [hn]; exact (validG_parts gs hvg).1
  have hvo : VOK st.vs := allR_VOK st.vs hr
  obtain ⟨W2, hW2⟩ : ∃ W2, W2 = (w.alloc (.cells #[.slice A n c] 36)).alloc (.cells #[.slice A' m c', .slice E p ec, .slice C q qc] 31) := ⟨_, rfl⟩
  have HB0 : Hid (Below w.heap.size w W2) := by rw [hW2]; exact ((Below.refl w.heap.size w).alloc (Nat.le_refl _) _).alloc (by simp) _
  have hB2 : w.heap.size + 2 ≤ W2.heap.size := by rw [hW2]; simp
  obtain ⟨b, off, rfl, hbB, c0, A1, n1, c1, c2, hn1', hps⟩ := h.at_ i (by omega)
  obtain ⟨b2, off2, rfl, hbB2, hcx⟩ := h'.1 (by omega)
  have d0 := hcx i (by omega)
  obtain ⟨b3, off3, rfl, hbB3, A3, n3, c3, d1, hn3, hls⟩ := h'.2.1.at_ i (by omega)
  obtain ⟨b4, off4, rfl, hbB4, hcy⟩ := h'.2.2 (by omega)
  have d2 := hcy i (by omega)
  have HW2 := Lib.hid hW2
  have HPS := Lib.hid (hps.below HB0.out hB)
  have HIS := Lib.hid (h'.1.below HB0.out hB)
  have HLS := Lib.hid (hls.below HB0.out hB)
  have HCS := Lib.hid (h'.2.2.below HB0.out hB)
  have z0 : b < w.heap.size := by omega
  have z2 : b2 < w.heap.size := by omega
  have z3 : b3 < w.heap.size := by omega
  have z4 : b4 < w.heap.size := by omega
  have HT : Hid (W2.cell? ⟨w.heap.size, 0, none⟩ = some (.slice (some ⟨b, off, none⟩) n c) ∧ W2.cell? ⟨w.heap.size + 1, 0, none⟩ = some (.slice (some ⟨b2, off2, none⟩) m c') ∧ W2.cell? ⟨w.heap.size + 1, 1, none⟩ = some (.slice (some ⟨b3, off3, none⟩) p ec) ∧ W2.cell? ⟨w.heap.size + 1, 2, none⟩ = some (.slice (some ⟨b4, off4, none⟩) q qc)) := by
    rw [hW2]; exact ⟨by go_simp, by go_simp, by go_simp, by go_simp⟩
  have HT2 := Lib.hid (And.intro ((HB0.out.cell (p := ⟨b, off + i * 2 + 1, none⟩) z0).trans c2) (And.intro ((HB0.out.cell (p := ⟨b2, off2 + i, none⟩) z2).trans d0) (And.intro ((HB0.out.cell (p := ⟨b3, off3 + i, none⟩) z3).trans d1) ((HB0.out.cell (p := ⟨b4, off4 + i, none⟩) z4).trans d2))))
  have HCY := Lib.hid fun (j : Nat) (hj : j < q) => (HB0.out.cell (p := ⟨b4, off4 + j, none⟩) z4).trans (hcy j (by omega))
  have hn3b : n3 ≤ 1048576 := by rw [hn3]; exact hb0.2.1.2 i
  have hn1b : n1 ≤ 1048576 := by rw [hn1']; exact hs.2 i
  have HN1 := Lib.hid hn1'
  have HMM := Lib.hid hm
  have HN3 := Lib.hid hn3
  have HQ := Lib.hid hq
  have hqn : q = n := by omega
  have HQN := Lib.hid hqn
  have hiq : i < q := by omega
  have him : i < m := by omega
  have hip : i < p := by omega
  have hqb : q ≤ 10 := by omega
  have hv0 := fun hk => (show canEv (gs.getD i default).ps st.vs = true from eager_canEv gs st.vs i hvg hl1 hr (by omega) hk)
  have hfb := eager_depF_bd gs st.vs hvg hl1 i (by omega)
  have hfr := depF_range gs st.vs hvg hl1 i (by omega)
  have hco : colOK gs st i = if (gs.getD i default).k == 0 then (st.cs.getD i 0 == 0) && decide ((st.rs.getD i []).length = 0) else if st.cs.getD i 0 == 2 then apartL (st.rs.getD i []) && inL (st.rs.getD i []) (mayR (gs.getD i default).ps) else if st.cs.getD i 0 == 0 then asRun gs st i && cleanR st.cs (st.rs.getD i []) else asRun gs st i := rfl
  have har : asRun gs st i = ((valE gs st.vs i == st.vs.getD i 0) && decide (depF gs st.vs i = st.rs.getD i [])) := rfl
  have hvl : valE gs st.vs i = if (gs.getD i default).k == 0 then st.vs.getD i 0 else (whole (gs.getD i default).ps).ev st.vs := rfl
  have hdl : depF gs st.vs i = if (gs.getD i default).k == 0 then [] else firsts ((whole (gs.getD i default).ps).rds st.vs) := rfl
  have hmb : (mayR (gs.getD i default).ps).length ≤ 10 := mayR_len _ 10
  rw [← hn] at hfr
  clear h h' hcx hcy hps hls hn hm hp hq hs hb0 hvg hl1 hl2 hl3 hr hW2 hn1' hn3 hqn
  generalize colOK gs st i = r at *
  generalize asRun gs st i = ra at *
  generalize valE gs st.vs i = X at *
  generalize depF gs st.vs i = F at *
  generalize gs.getD i default = d at *
  generalize st.vs.getD i 0 = x at *
  generalize st.rs.getD i [] = L at *
  generalize hcs : st.cs = cs at *
  clear hcs
  generalize hcc : cs.getD i 0 = cc at *
  have HCC := Lib.hid hcc
  clear hcc
  cases hd : (d.k == 0)
  case true =>
    rw [hd] at hco
    simp only [if_true] at hco
    cases hc0 : (cc == 0)
    · have HF := Lib.hid (show r = false by rw [hco, hc0]; rfl)
      clear hco har hvl hdl hv0 hfb hfr
      go_enter Tryz.func61, Tryz.ntmps61
      go_wp2
      go_ret
      exact ⟨ret_b HF.out.symm, by rw [← HW2.out]; exact HB0.out⟩
    · rw [hc0, Bool.true_and] at hco
      have HF := Lib.hid (show r = ((n3 : Int) == 0) by rw [hco, HN3.out, Bool.eq_iff_iff, decide_eq_true_iff, beq_iff_eq]; omega)
      clear hco har hvl hdl hv0 hfb hfr
      go_enter Tryz.func61, Tryz.ntmps61
      go_wp2
      go_ret
      exact ⟨ret_b HF.out.symm, by rw [← HW2.out]; exact HB0.out⟩
  case false =>
    have hce := hv0 hd
    rw [hd] at hco hvl hdl
    simp only [Bool.false_eq_true, if_false] at hco hvl hdl
    cases hc2 : (cc == 2)
    case true =>
      rw [hc2] at hco
      simp only [if_true] at hco
      have HFO := Lib.hid fun (w' : World) (hB' : B ≤ w'.heap.size) (h : IS w' B A3 L) => spec_firstOnly A3 n3 c3 L w' B hB' HN3.out h (by omega)
      have HMR := Lib.hid fun (w' : World) (hB' : B ≤ w'.heap.size) (h : PS w' B A1 d.ps) => spec_mayRead A1 n1 c1 d.ps w' B hB' HN1.out h (by omega)
      have hap := apartL_firsts L
      rw [← HN3.out] at hap
      have him := inL_miss L (mayR d.ps)
      generalize hM : mayR d.ps = M at *
      clear hM
      generalize hFF : firsts L = FF at *
      clear hFF
      clear hvl hdl har hv0 hce hfb hfr
      cases ha : apartL L
      · have HF := Lib.hid (show r = false by rw [hco, ha]; rfl)
        rw [ha] at hap
        clear hco ha him
        go_enter Tryz.func61, Tryz.ntmps61
        go_wp2
        rw [← HW2.out]
        clear c0 c2 d0 d1 d2
        obtain ⟨s0, s1, s2, s3⟩ := HT.out
        obtain ⟨t1, t2, t3, t4⟩ := HT2.out
        refine wp_region_held_drew (S := fun w' => w'.cell? ⟨w.heap.size + 1, 1, none⟩ = some (.slice (some ⟨b3, off3, none⟩) p ec) ∧ w'.cell? ⟨b3, off3 + i, none⟩ = some (.slice A3 n3 c3)) (by kernel_rfl) ⟨s2, t3⟩ (fun hHeld => ?_)
        refine wpAnyH_take (i := 0) (oi := ⟨some 38, _, _, _, _, _⟩) (v := ?_) rfl (by kernel_rfl) (by kernel_rfl) (by kernel_rfl) (fun _ _ _ h => h) (Or.inl ⟨by rfl, ?_⟩) (by assumption) ?_; rotate_left; (focus (intro w hSw; (try dsimp only at hSw); go_simp; (try with_reducible rfl))); (try simp only [Act.put, List.setIfInBounds_toArray]); (try dsimp only [List.set_cons_zero, List.set_cons_succ])
        refine wpAnyH_take (i := 1) (oi := ⟨some 39, _, _, _, _, _⟩) (v := ?_) rfl (by kernel_rfl) (by kernel_rfl) (by kernel_rfl) (fun _ _ _ h => h) (Or.inl ⟨by rfl, ?_⟩) (by assumption) ?_; rotate_left; (focus (intro w hSw; (try dsimp only at hSw); go_simp; (try with_reducible rfl))); (try simp only [Act.put, List.setIfInBounds_toArray]); (try dsimp only [List.set_cons_zero, List.set_cons_succ])
        refine wpAnyH_take (i := 2) (oi := ⟨some 40, _, _, _, _, _⟩) (v := ?_) rfl (by kernel_rfl) (by kernel_rfl) (by kernel_rfl) (fun _ _ _ h => h) (Or.inl ⟨by rfl, ?_⟩) (by assumption) ?_; rotate_left; (focus (intro w hSw; (try dsimp only at hSw); go_simp; (try with_reducible rfl))); (try simp only [Act.put, List.setIfInBounds_toArray]); (try dsimp only [List.set_cons_zero, List.set_cons_succ])
        refine wpAnyH_take (i := 3) (oi := ⟨some 41, _, _, _, _, _⟩) (v := ?_) rfl (by kernel_rfl) (by kernel_rfl) (by kernel_rfl) (fun _ _ _ h => h) (Or.inl ⟨by rfl, ?_⟩) (by assumption) ?_; rotate_left; (focus (intro w hSw; (try dsimp only at hSw); go_simp; (try with_reducible rfl))); (try simp only [Act.put, List.setIfInBounds_toArray]); (try dsimp only [List.set_cons_zero, List.set_cons_succ])
        refine wpAnyH_take (i := 4) (oi := ⟨some 42, _, _, _, _, _⟩) (v := ?_) rfl (by kernel_rfl) (by kernel_rfl) (by kernel_rfl) (fun _ _ _ h => h) (Or.inl ⟨by rfl, ?_⟩) (by assumption) ?_; rotate_left; (focus (intro w hSw; (try dsimp only at hSw); go_simp; (try with_reducible rfl))); (try simp only [Act.put, List.setIfInBounds_toArray]); (try dsimp only [List.set_cons_zero, List.set_cons_succ])
        refine wpAnyH_take (i := 5) (oi := ⟨some 43, _, _, _, _, _⟩) (v := ?_) rfl (by kernel_rfl) (by kernel_rfl) (by kernel_rfl) (fun _ _ _ h => h) (Or.inl ⟨by rfl, ?_⟩) (by assumption) ?_; rotate_left; (focus (intro w hSw; (try dsimp only at hSw); go_simp; (try with_reducible rfl))); (try simp only [Act.put, List.setIfInBounds_toArray]); (try dsimp only [List.set_cons_zero, List.set_cons_succ])
        refine wpAnyH_take (i := 6) (oi := ⟨some 44, _, _, _, _, _⟩) (v := ?_) rfl (by kernel_rfl) (by kernel_rfl) (by kernel_rfl) (fun _ _ _ h => h) (Or.inl ⟨by rfl, ?_⟩) (by assumption) ?_; rotate_left; (focus (intro w hSw; (try dsimp only at hSw); go_simp; (try with_reducible rfl))); (try simp only [Act.put, List.setIfInBounds_toArray]); (try dsimp only [List.set_cons_zero, List.set_cons_succ])
        refine wpAnyH_take (i := 7) (oi := ⟨some 45, _, _, _, _, _⟩) (v := ?_) rfl (by kernel_rfl) (by kernel_rfl) (by kernel_rfl) (fun _ _ _ h => h) (Or.inl ⟨by rfl, ?_⟩) (by assumption) ?_; rotate_left; (focus (intro w hSw; (try dsimp only at hSw); go_simp; (try with_reducible rfl))); (try simp only [Act.put, List.setIfInBounds_toArray]); (try dsimp only [List.set_cons_zero, List.set_cons_succ])
        refine wpAnyH_take (i := 8) (oi := ⟨some 46, _, _, _, _, _⟩) (v := ?_) rfl (by kernel_rfl) (by kernel_rfl) (by kernel_rfl) (fun _ _ _ h => h) (Or.inl ⟨by rfl, ?_⟩) (by assumption) ?_; rotate_left; (focus (intro w hSw; (try dsimp only at hSw); go_simp; (try with_reducible rfl))); (try simp only [Act.put, List.setIfInBounds_toArray]); (try dsimp only [List.set_cons_zero, List.set_cons_succ])
        refine wpAnyH_take (i := 9) (oi := ⟨some 47, _, _, _, _, _⟩) (v := ?_) rfl (by kernel_rfl) (by kernel_rfl) (by kernel_rfl) (fun _ _ _ h => h) (Or.inl ⟨by rfl, ?_⟩) (by assumption) ?_; rotate_left; (focus (intro w hSw; (try dsimp only at hSw); go_simp; (try with_reducible rfl))); (try simp only [Act.put, List.setIfInBounds_toArray]); (try dsimp only [List.set_cons_zero, List.set_cons_succ])
        refine wpAnyH_take (i := 10) (oi := ⟨some 48, _, _, _, _, _⟩) (v := ?_) rfl (by kernel_rfl) (by kernel_rfl) (by kernel_rfl) (fun _ _ _ h => h) (Or.inl ⟨by rfl, ?_⟩) (by assumption) ?_; rotate_left; (focus (intro w hSw; (try dsimp only at hSw); go_simp; (try with_reducible rfl))); (try simp only [Act.put, List.setIfInBounds_toArray]); (try dsimp only [List.set_cons_zero, List.set_cons_succ])
        refine wpAnyH_ready (rs := [11]) (by kernel_rfl) (by simp) ?_; refine AllReadyH.cons (o := ⟨some 49, _, _, _, _, _⟩) rfl (fun K hK => ?_) AllReadyH.nil; go_simp
        go_at_call 77
        refine (HFO.out W2.drew (show B ≤ W2.heap.size by omega) HLS.out).mono ?_
        rintro e w5 ⟨v5, rfl, ho, hb5'⟩
        obtain ⟨g5, c5, rfl, hg5, hg5'⟩ := ho.form
        have hb5 : Below W2.heap.size W2 w5 := below_of_drew hb5'
        have u2 := (hb5.cell (p := ⟨w.heap.size + 1, 1, none⟩) (by show w.heap.size + 1 < W2.heap.size; omega)).trans s2
        have u3 := (hb5.cell (p := ⟨b3, off3 + i, none⟩) (by show b3 < W2.heap.size; omega)).trans t3
        refine hK.out _ _ ⟨u2, u3⟩ (fun hHeld => ?_)
        clear hK K
        (try simp only [Act.put, List.setIfInBounds_toArray, List.set_cons_zero, List.set_cons_succ])
        refine wpAnyH_take (i := 12) (oi := ⟨some 50, _, _, _, _, _⟩) (v := ?_) rfl (by kernel_rfl) (by kernel_rfl) (by kernel_rfl) (fun _ _ _ h => h) (Or.inl ⟨by rfl, ?_⟩) (by assumption) ?_; rotate_left; (focus (intro w hSw; (try dsimp only at hSw); go_simp; (try with_reducible rfl))); (try simp only [Act.put, List.setIfInBounds_toArray]); (try dsimp only [List.set_cons_zero, List.set_cons_succ])
        refine wpAnyH_take (i := 13) (oi := ⟨some 51, _, _, _, _, _⟩) (v := ?_) rfl (by kernel_rfl) (by kernel_rfl) (by kernel_rfl) (fun _ _ _ h => h) (Or.inl ⟨by rfl, ?_⟩) (by assumption) ?_; rotate_left; (focus (intro w hSw; (try dsimp only at hSw); go_simp; (try with_reducible rfl))); (try simp only [Act.put, List.setIfInBounds_toArray]); (try dsimp only [List.set_cons_zero, List.set_cons_succ])
        refine wpAnyH_take (i := 14) (oi := ⟨some 52, _, _, _, _, _⟩) (v := ?_) rfl (by kernel_rfl) (by kernel_rfl) (by kernel_rfl) (fun _ _ _ h => h) (Or.inl ⟨by rfl, ?_⟩) (by assumption) ?_; rotate_left; (focus (intro w hSw; (try dsimp only at hSw); go_simp; (try with_reducible rfl))); (try simp only [Act.put, List.setIfInBounds_toArray]); (try dsimp only [List.set_cons_zero, List.set_cons_succ])
        refine wpAnyH_take (i := 15) (oi := ⟨some 53, _, _, _, _, _⟩) (v := undef) rfl (by kernel_rfl) (by kernel_rfl) (by kernel_rfl) (fun _ _ _ h => h) (Or.inr ⟨by rfl, rfl⟩) (by assumption) ?_; (try simp only [Act.put, List.setIfInBounds_toArray]); (try dsimp only [List.set_cons_zero, List.set_cons_succ])
        refine wpAnyH_take (i := 16) (oi := ⟨some 54, _, _, _, _, _⟩) (v := undef) rfl (by kernel_rfl) (by kernel_rfl) (by kernel_rfl) (fun _ _ _ h => h) (Or.inr ⟨by rfl, rfl⟩) (by assumption) ?_; (try simp only [Act.put, List.setIfInBounds_toArray]); (try dsimp only [List.set_cons_zero, List.set_cons_succ])
        refine wpAnyH_take (i := 17) (oi := ⟨some 55, _, _, _, _, _⟩) (v := undef) rfl (by kernel_rfl) (by kernel_rfl) (by kernel_rfl) (fun _ _ _ h => h) (Or.inr ⟨by rfl, rfl⟩) (by assumption) ?_; (try simp only [Act.put, List.setIfInBounds_toArray]); (try dsimp only [List.set_cons_zero, List.set_cons_succ])
        refine wpAnyH_take (i := 18) (oi := ⟨some 56, _, _, _, _, _⟩) (v := undef) rfl (by kernel_rfl) (by kernel_rfl) (by kernel_rfl) (fun _ _ _ h => h) (Or.inr ⟨by rfl, rfl⟩) (by assumption) ?_; (try simp only [Act.put, List.setIfInBounds_toArray]); (try dsimp only [List.set_cons_zero, List.set_cons_succ])
        refine wpAnyH_take (i := 19) (oi := ⟨some 57, _, _, _, _, _⟩) (v := undef) rfl (by kernel_rfl) (by kernel_rfl) (by kernel_rfl) (fun _ _ _ h => h) (Or.inr ⟨by rfl, rfl⟩) (by assumption) ?_; (try simp only [Act.put, List.setIfInBounds_toArray]); (try dsimp only [List.set_cons_zero, List.set_cons_succ])
        refine wpAnyH_take (i := 20) (oi := ⟨some 58, _, _, _, _, _⟩) (v := undef) rfl (by kernel_rfl) (by kernel_rfl) (by kernel_rfl) (fun _ _ _ h => h) (Or.inr ⟨by rfl, rfl⟩) (by assumption) ?_; (try simp only [Act.put, List.setIfInBounds_toArray]); (try dsimp only [List.set_cons_zero, List.set_cons_succ])
        refine wpAnyH_take (i := 21) (oi := ⟨some 59, _, _, _, _, _⟩) (v := undef) rfl (by kernel_rfl) (by kernel_rfl) (by kernel_rfl) (fun _ _ _ h => h) (Or.inr ⟨by rfl, rfl⟩) (by assumption) ?_; (try simp only [Act.put, List.setIfInBounds_toArray]); (try dsimp only [List.set_cons_zero, List.set_cons_succ])
        refine wpAnyH_take (i := 22) (oi := ⟨some 60, _, _, _, _, _⟩) (v := undef) rfl (by kernel_rfl) (by kernel_rfl) (by kernel_rfl) (fun _ _ _ h => h) (Or.inr ⟨by rfl, rfl⟩) (by assumption) ?_; (try simp only [Act.put, List.setIfInBounds_toArray]); (try dsimp only [List.set_cons_zero, List.set_cons_succ])
        refine wpAnyH_take (i := 23) (oi := ⟨some 61, _, _, _, _, _⟩) (v := undef) rfl (by kernel_rfl) (by kernel_rfl) (by kernel_rfl) (fun _ _ _ h => h) (Or.inr ⟨by rfl, rfl⟩) (by assumption) ?_; (try simp only [Act.put, List.setIfInBounds_toArray]); (try dsimp only [List.set_cons_zero, List.set_cons_succ])
        refine wpAnyH_take (i := 24) (oi := ⟨some 62, _, _, _, _, _⟩) (v := undef) rfl (by kernel_rfl) (by kernel_rfl) (by kernel_rfl) (fun _ _ _ h => h) (Or.inr ⟨by rfl, rfl⟩) (by assumption) ?_; (try simp only [Act.put, List.setIfInBounds_toArray]); (try dsimp only [List.set_cons_zero, List.set_cons_succ])
        refine wpAnyH_take (i := 25) (oi := ⟨some 63, _, _, _, _, _⟩) (v := undef) rfl (by kernel_rfl) (by kernel_rfl) (by kernel_rfl) (fun _ _ _ h => h) (Or.inr ⟨by rfl, rfl⟩) (by assumption) ?_; (try simp only [Act.put, List.setIfInBounds_toArray]); (try dsimp only [List.set_cons_zero, List.set_cons_succ])
        refine wpAnyH_take (i := 26) (oi := ⟨some 64, _, _, _, _, _⟩) (v := undef) rfl (by kernel_rfl) (by kernel_rfl) (by kernel_rfl) (fun _ _ _ h => h) (Or.inr ⟨by rfl, rfl⟩) (by assumption) ?_; (try simp only [Act.put, List.setIfInBounds_toArray]); (try dsimp only [List.set_cons_zero, List.set_cons_succ])
        refine wpAnyH_take (i := 27) (oi := ⟨some 65, _, _, _, _, _⟩) (v := undef) rfl (by kernel_rfl) (by kernel_rfl) (by kernel_rfl) (fun _ _ _ h => h) (Or.inr ⟨by rfl, rfl⟩) (by assumption) ?_; (try simp only [Act.put, List.setIfInBounds_toArray]); (try dsimp only [List.set_cons_zero, List.set_cons_succ])
        refine wpAnyH_take (i := 28) (oi := ⟨some 66, _, _, _, _, _⟩) (v := undef) rfl (by kernel_rfl) (by kernel_rfl) (by kernel_rfl) (fun _ _ _ h => h) (Or.inr ⟨by rfl, rfl⟩) (by assumption) ?_; (try simp only [Act.put, List.setIfInBounds_toArray]); (try dsimp only [List.set_cons_zero, List.set_cons_succ])
        refine wpAnyH_take (i := 29) (oi := ⟨some 67, _, _, _, _, _⟩) (v := undef) rfl (by kernel_rfl) (by kernel_rfl) (by kernel_rfl) (fun _ _ _ h => h) (Or.inr ⟨by rfl, rfl⟩) (by assumption) ?_; (try simp only [Act.put, List.setIfInBounds_toArray]); (try dsimp only [List.set_cons_zero, List.set_cons_succ])
        refine wpAnyH_take (i := 30) (oi := ⟨some 68, _, _, _, _, _⟩) (v := ?_) rfl (by kernel_rfl) (by kernel_rfl) (by kernel_rfl) (fun _ _ _ h => h) (Or.inl ⟨by rfl, ?_⟩) (by assumption) ?_; rotate_left; (focus (intro w hSw; (try dsimp only at hSw); go_simp; (try with_reducible rfl))); (try simp only [Act.put, List.setIfInBounds_toArray]); (try dsimp only [List.set_cons_zero, List.set_cons_succ])
        refine wpAnyH_take (i := 31) (oi := ⟨some 6, _, _, _, _, _⟩) (v := ?_) rfl (by kernel_rfl) (by kernel_rfl) (by kernel_rfl) (fun _ _ _ h => h) (Or.inl ⟨by rfl, ?_⟩) (by assumption) ?_; rotate_left; (focus (intro w hSw; (try dsimp only at hSw); go_simp; (try with_reducible rfl))); (try simp only [Act.put, List.setIfInBounds_toArray]); (try dsimp only [List.set_cons_zero, List.set_cons_succ])
        refine wpAnyH_done (by kernel_rfl) ?_ _
        go_wp2
        go_ret
        exact ⟨ret_b HF.out.symm, HB0.out.trans (hb5.mono (by omega))⟩
      · have HF := Lib.hid (show r = inL L M by rw [hco, ha]; rfl)
        rw [ha] at hap
        clear hco ha
        generalize inL L M = ri at *
        have HIM := Lib.hid him
        clear him
        go_enter Tryz.func61, Tryz.ntmps61
        go_wp2
        rw [← HW2.out]
        clear c0 c2 d0 d1 d2
        obtain ⟨s0, s1, s2, s3⟩ := HT.out
        obtain ⟨t1, t2, t3, t4⟩ := HT2.out
        obtain ⟨fl, hfl⟩ : ∃ fl, fl = FF.length := ⟨_, rfl⟩
        rw [← hfl] at hap
        have HFL := Lib.hid hfl
        clear hfl
        refine wp_region_held_drew (S := fun w' => w'.cell? ⟨w.heap.size + 1, 1, none⟩ = some (.slice (some ⟨b3, off3, none⟩) p ec) ∧ w'.cell? ⟨b3, off3 + i, none⟩ = some (.slice A3 n3 c3) ∧ w'.cell? ⟨w.heap.size, 0, none⟩ = some (.slice (some ⟨b, off, none⟩) n c) ∧ w'.cell? ⟨b, off + i * 2 + 1, none⟩ = some (.slice A1 n1 c1)) (by kernel_rfl) ⟨s2, t3, s0, t1⟩ (fun hHeld => ?_)
        refine wpAnyH_take (i := 0) (oi := ⟨some 38, _, _, _, _, _⟩) (v := ?_) rfl (by kernel_rfl) (by kernel_rfl) (by kernel_rfl) (fun _ _ _ h => h) (Or.inl ⟨by rfl, ?_⟩) (by assumption) ?_; rotate_left; (focus (intro w hSw; (try dsimp only at hSw); go_simp; (try with_reducible rfl))); (try simp only [Act.put, List.setIfInBounds_toArray]); (try dsimp only [List.set_cons_zero, List.set_cons_succ])
        refine wpAnyH_take (i := 1) (oi := ⟨some 39, _, _, _, _, _⟩) (v := ?_) rfl (by kernel_rfl) (by kernel_rfl) (by kernel_rfl) (fun _ _ _ h => h) (Or.inl ⟨by rfl, ?_⟩) (by assumption) ?_; rotate_left; (focus (intro w hSw; (try dsimp only at hSw); go_simp; (try with_reducible rfl))); (try simp only [Act.put, List.setIfInBounds_toArray]); (try dsimp only [List.set_cons_zero, List.set_cons_succ])
        refine wpAnyH_take (i := 2) (oi := ⟨some 40, _, _, _, _, _⟩) (v := ?_) rfl (by kernel_rfl) (by kernel_rfl) (by kernel_rfl) (fun _ _ _ h => h) (Or.inl ⟨by rfl, ?_⟩) (by assumption) ?_; rotate_left; (focus (intro w hSw; (try dsimp only at hSw); go_simp; (try with_reducible rfl))); (try simp only [Act.put, List.setIfInBounds_toArray]); (try dsimp only [List.set_cons_zero, List.set_cons_succ])
        refine wpAnyH_take (i := 3) (oi := ⟨some 41, _, _, _, _, _⟩) (v := ?_) rfl (by kernel_rfl) (by kernel_rfl) (by kernel_rfl) (fun _ _ _ h => h) (Or.inl ⟨by rfl, ?_⟩) (by assumption) ?_; rotate_left; (focus (intro w hSw; (try dsimp only at hSw); go_simp; (try with_reducible rfl))); (try simp only [Act.put, List.setIfInBounds_toArray]); (try dsimp only [List.set_cons_zero, List.set_cons_succ])
        refine wpAnyH_take (i := 4) (oi := ⟨some 42, _, _, _, _, _⟩) (v := ?_) rfl (by kernel_rfl) (by kernel_rfl) (by kernel_rfl) (fun _ _ _ h => h) (Or.inl ⟨by rfl, ?_⟩) (by assumption) ?_; rotate_left; (focus (intro w hSw; (try dsimp only at hSw); go_simp; (try with_reducible rfl))); (try simp only [Act.put, List.setIfInBounds_toArray]); (try dsimp only [List.set_cons_zero, List.set_cons_succ])
        refine wpAnyH_take (i := 5) (oi := ⟨some 43, _, _, _, _, _⟩) (v := ?_) rfl (by kernel_rfl) (by kernel_rfl) (by kernel_rfl) (fun _ _ _ h => h) (Or.inl ⟨by rfl, ?_⟩) (by assumption) ?_; rotate_left; (focus (intro w hSw; (try dsimp only at hSw); go_simp; (try with_reducible rfl))); (try simp only [Act.put, List.setIfInBounds_toArray]); (try dsimp only [List.set_cons_zero, List.set_cons_succ])
        refine wpAnyH_take (i := 6) (oi := ⟨some 44, _, _, _, _, _⟩) (v := ?_) rfl (by kernel_rfl) (by kernel_rfl) (by kernel_rfl) (fun _ _ _ h => h) (Or.inl ⟨by rfl, ?_⟩) (by assumption) ?_; rotate_left; (focus (intro w hSw; (try dsimp only at hSw); go_simp; (try with_reducible rfl))); (try simp only [Act.put, List.setIfInBounds_toArray]); (try dsimp only [List.set_cons_zero, List.set_cons_succ])
        refine wpAnyH_take (i := 7) (oi := ⟨some 45, _, _, _, _, _⟩) (v := ?_) rfl (by kernel_rfl) (by kernel_rfl) (by kernel_rfl) (fun _ _ _ h => h) (Or.inl ⟨by rfl, ?_⟩) (by assumption) ?_; rotate_left; (focus (intro w hSw; (try dsimp only at hSw); go_simp; (try with_reducible rfl))); (try simp only [Act.put, List.setIfInBounds_toArray]); (try dsimp only [List.set_cons_zero, List.set_cons_succ])
        refine wpAnyH_take (i := 8) (oi := ⟨some 46, _, _, _, _, _⟩) (v := ?_) rfl (by kernel_rfl) (by kernel_rfl) (by kernel_rfl) (fun _ _ _ h => h) (Or.inl ⟨by rfl, ?_⟩) (by assumption) ?_; rotate_left; (focus (intro w hSw; (try dsimp only at hSw); go_simp; (try with_reducible rfl))); (try simp only [Act.put, List.setIfInBounds_toArray]); (try dsimp only [List.set_cons_zero, List.set_cons_succ])
        refine wpAnyH_take (i := 9) (oi := ⟨some 47, _, _, _, _, _⟩) (v := ?_) rfl (by kernel_rfl) (by kernel_rfl) (by kernel_rfl) (fun _ _ _ h => h) (Or.inl ⟨by rfl, ?_⟩) (by assumption) ?_; rotate_left; (focus (intro w hSw; (try dsimp only at hSw); go_simp; (try with_reducible rfl))); (try simp only [Act.put, List.setIfInBounds_toArray]); (try dsimp only [List.set_cons_zero, List.set_cons_succ])
        refine wpAnyH_take (i := 10) (oi := ⟨some 48, _, _, _, _, _⟩) (v := ?_) rfl (by kernel_rfl) (by kernel_rfl) (by kernel_rfl) (fun _ _ _ h => h) (Or.inl ⟨by rfl, ?_⟩) (by assumption) ?_; rotate_left; (focus (intro w hSw; (try dsimp only at hSw); go_simp; (try with_reducible rfl))); (try simp only [Act.put, List.setIfInBounds_toArray]); (try dsimp only [List.set_cons_zero, List.set_cons_succ])
        refine wpAnyH_ready (rs := [11]) (by kernel_rfl) (by simp) ?_; refine AllReadyH.cons (o := ⟨some 49, _, _, _, _, _⟩) rfl (fun K hK => ?_) AllReadyH.nil; go_simp
        go_at_call 77
        refine (HFO.out W2.drew (show B ≤ W2.heap.size by omega) HLS.out).mono ?_
        rintro e w5 ⟨v5, rfl, ho, hb5'⟩
        obtain ⟨g5, c5, rfl, hg5, hg5'⟩ := ho.form
        rw [← HFL.out]
        have hb5 : Below W2.heap.size W2 w5 := below_of_drew hb5'
        have u0 := (hb5.cell (p := ⟨w.heap.size, 0, none⟩) (by show w.heap.size < W2.heap.size; omega)).trans s0
        have u1 := (hb5.cell (p := ⟨b, off + i * 2 + 1, none⟩) (by show b < W2.heap.size; omega)).trans t1
        have u2 := (hb5.cell (p := ⟨w.heap.size + 1, 1, none⟩) (by show w.heap.size + 1 < W2.heap.size; omega)).trans s2
        have u3 := (hb5.cell (p := ⟨b3, off3 + i, none⟩) (by show b3 < W2.heap.size; omega)).trans t3
        have hs5 : W2.heap.size ≤ w5.heap.size := hb5.size
        refine hK.out _ _ ⟨u2, u3, u0, u1⟩ (fun hHeld => ?_)
        clear hK K
        (try simp only [Act.put, List.setIfInBounds_toArray, List.set_cons_zero, List.set_cons_succ])
        refine wpAnyH_take (i := 12) (oi := ⟨some 50, _, _, _, _, _⟩) (v := ?_) rfl (by kernel_rfl) (by kernel_rfl) (by kernel_rfl) (fun _ _ _ h => h) (Or.inl ⟨by rfl, ?_⟩) (by assumption) ?_; rotate_left; (focus (intro w hSw; (try dsimp only at hSw); go_simp; (try with_reducible rfl))); (try simp only [Act.put, List.setIfInBounds_toArray]); (try dsimp only [List.set_cons_zero, List.set_cons_succ])
        refine wpAnyH_take (i := 13) (oi := ⟨some 51, _, _, _, _, _⟩) (v := ?_) rfl (by kernel_rfl) (by kernel_rfl) (by kernel_rfl) (fun _ _ _ h => h) (Or.inl ⟨by rfl, ?_⟩) (by assumption) ?_; rotate_left; (focus (intro w hSw; (try dsimp only at hSw); go_simp; (try with_reducible rfl))); (try simp only [Act.put, List.setIfInBounds_toArray]); (try dsimp only [List.set_cons_zero, List.set_cons_succ])
        refine wpAnyH_take (i := 14) (oi := ⟨some 52, _, _, _, _, _⟩) (v := ?_) rfl (by kernel_rfl) (by kernel_rfl) (by kernel_rfl) (fun _ _ _ h => h) (Or.inl ⟨by rfl, ?_⟩) (by assumption) ?_; rotate_left; (focus (intro w hSw; (try dsimp only at hSw); go_simp; (try with_reducible rfl))); (try simp only [Act.put, List.setIfInBounds_toArray]); (try dsimp only [List.set_cons_zero, List.set_cons_succ])
        refine wpAnyH_take (i := 15) (oi := ⟨some 53, _, _, _, _, _⟩) (v := ?_) rfl (by kernel_rfl) (by kernel_rfl) (by kernel_rfl) (fun _ _ _ h => h) (Or.inl ⟨by rfl, ?_⟩) (by assumption) ?_; rotate_left; (focus (intro w hSw; (try dsimp only at hSw); go_simp; (try with_reducible rfl))); (try simp only [Act.put, List.setIfInBounds_toArray]); (try dsimp only [List.set_cons_zero, List.set_cons_succ])
        refine wpAnyH_take (i := 16) (oi := ⟨some 54, _, _, _, _, _⟩) (v := ?_) rfl (by kernel_rfl) (by kernel_rfl) (by kernel_rfl) (fun _ _ _ h => h) (Or.inl ⟨by rfl, ?_⟩) (by assumption) ?_; rotate_left; (focus (intro w hSw; (try dsimp only at hSw); go_simp; (try with_reducible rfl))); (try simp only [Act.put, List.setIfInBounds_toArray]); (try dsimp only [List.set_cons_zero, List.set_cons_succ])
        refine wpAnyH_take (i := 17) (oi := ⟨some 55, _, _, _, _, _⟩) (v := ?_) rfl (by kernel_rfl) (by kernel_rfl) (by kernel_rfl) (fun _ _ _ h => h) (Or.inl ⟨by rfl, ?_⟩) (by assumption) ?_; rotate_left; (focus (intro w hSw; (try dsimp only at hSw); go_simp; (try with_reducible rfl))); (try simp only [Act.put, List.setIfInBounds_toArray]); (try dsimp only [List.set_cons_zero, List.set_cons_succ])
        refine wpAnyH_take (i := 18) (oi := ⟨some 56, _, _, _, _, _⟩) (v := ?_) rfl (by kernel_rfl) (by kernel_rfl) (by kernel_rfl) (fun _ _ _ h => h) (Or.inl ⟨by rfl, ?_⟩) (by assumption) ?_; rotate_left; (focus (intro w hSw; (try dsimp only at hSw); go_simp; (try with_reducible rfl))); (try simp only [Act.put, List.setIfInBounds_toArray]); (try dsimp only [List.set_cons_zero, List.set_cons_succ])
        refine wpAnyH_take (i := 19) (oi := ⟨some 57, _, _, _, _, _⟩) (v := ?_) rfl (by kernel_rfl) (by kernel_rfl) (by kernel_rfl) (fun _ _ _ h => h) (Or.inl ⟨by rfl, ?_⟩) (by assumption) ?_; rotate_left; (focus (intro w hSw; (try dsimp only at hSw); go_simp; (try with_reducible rfl))); (try simp only [Act.put, List.setIfInBounds_toArray]); (try dsimp only [List.set_cons_zero, List.set_cons_succ])
        refine wpAnyH_take (i := 20) (oi := ⟨some 58, _, _, _, _, _⟩) (v := ?_) rfl (by kernel_rfl) (by kernel_rfl) (by kernel_rfl) (fun _ _ _ h => h) (Or.inl ⟨by rfl, ?_⟩) (by assumption) ?_; rotate_left; (focus (intro w hSw; (try dsimp only at hSw); go_simp; (try with_reducible rfl))); (try simp only [Act.put, List.setIfInBounds_toArray]); (try dsimp only [List.set_cons_zero, List.set_cons_succ])
        refine wpAnyH_take (i := 21) (oi := ⟨some 59, _, _, _, _, _⟩) (v := ?_) rfl (by kernel_rfl) (by kernel_rfl) (by kernel_rfl) (fun _ _ _ h => h) (Or.inl ⟨by rfl, ?_⟩) (by assumption) ?_; rotate_left; (focus (intro w hSw; (try dsimp only at hSw); go_simp; (try with_reducible rfl))); (try simp only [Act.put, List.setIfInBounds_toArray]); (try dsimp only [List.set_cons_zero, List.set_cons_succ])
        refine wpAnyH_take (i := 22) (oi := ⟨some 60, _, _, _, _, _⟩) (v := ?_) rfl (by kernel_rfl) (by kernel_rfl) (by kernel_rfl) (fun _ _ _ h => h) (Or.inl ⟨by rfl, ?_⟩) (by assumption) ?_; rotate_left; (focus (intro w hSw; (try dsimp only at hSw); go_simp; (try with_reducible rfl))); (try simp only [Act.put, List.setIfInBounds_toArray]); (try dsimp only [List.set_cons_zero, List.set_cons_succ])
        refine wpAnyH_take (i := 23) (oi := ⟨some 61, _, _, _, _, _⟩) (v := ?_) rfl (by kernel_rfl) (by kernel_rfl) (by kernel_rfl) (fun _ _ _ h => h) (Or.inl ⟨by rfl, ?_⟩) (by assumption) ?_; rotate_left; (focus (intro w hSw; (try dsimp only at hSw); go_simp; (try with_reducible rfl))); (try simp only [Act.put, List.setIfInBounds_toArray]); (try dsimp only [List.set_cons_zero, List.set_cons_succ])
        refine wpAnyH_take (i := 24) (oi := ⟨some 62, _, _, _, _, _⟩) (v := ?_) rfl (by kernel_rfl) (by kernel_rfl) (by kernel_rfl) (fun _ _ _ h => h) (Or.inl ⟨by rfl, ?_⟩) (by assumption) ?_; rotate_left; (focus (intro w hSw; (try dsimp only at hSw); go_simp; (try with_reducible rfl))); (try simp only [Act.put, List.setIfInBounds_toArray]); (try dsimp only [List.set_cons_zero, List.set_cons_succ])
        refine wpAnyH_take (i := 25) (oi := ⟨some 63, _, _, _, _, _⟩) (v := ?_) rfl (by kernel_rfl) (by kernel_rfl) (by kernel_rfl) (fun _ _ _ h => h) (Or.inl ⟨by rfl, ?_⟩) (by assumption) ?_; rotate_left; (focus (intro w hSw; (try dsimp only at hSw); go_simp; (try with_reducible rfl))); (try simp only [Act.put, List.setIfInBounds_toArray]); (try dsimp only [List.set_cons_zero, List.set_cons_succ])
        refine wpAnyH_ready (rs := [26]) (by kernel_rfl) (by simp) ?_; refine AllReadyH.cons (o := ⟨some 64, _, _, _, _, _⟩) rfl (fun K hK => ?_) AllReadyH.nil; go_simp
        go_at_call 85
        refine (HMR.out w5 (by omega) (HPS.out.below hb5 (by omega))).mono ?_
        rintro e w6 ⟨v6, rfl, ho6, hb6⟩
        obtain ⟨g6, c6, rfl, hg6, hg6'⟩ := ho6.form
        have v0 := (hb6.cell (p := ⟨w.heap.size, 0, none⟩) (by show w.heap.size < w5.heap.size; omega)).trans u0
        have v1 := (hb6.cell (p := ⟨b, off + i * 2 + 1, none⟩) (by show b < w5.heap.size; omega)).trans u1
        have v2 := (hb6.cell (p := ⟨w.heap.size + 1, 1, none⟩) (by show w.heap.size + 1 < w5.heap.size; omega)).trans u2
        have v3 := (hb6.cell (p := ⟨b3, off3 + i, none⟩) (by show b3 < w5.heap.size; omega)).trans u3
        have hs6 : w5.heap.size ≤ w6.heap.size := hb6.size
        have HLS6 := Lib.hid (((HLS.out.below hb5 (by omega)).below hb6 (by omega)).more (B' := w6.heap.size) (by omega))
        refine hK.out _ _ ⟨v2, v3, v0, v1⟩ (fun hHeld => ?_)
        clear hK K
        (try simp only [Act.put, List.setIfInBounds_toArray, List.set_cons_zero, List.set_cons_succ])
        refine wpAnyH_ready (rs := [27]) (by kernel_rfl) (by simp) ?_; refine AllReadyH.cons (o := ⟨some 65, _, _, _, _, _⟩) rfl (fun K hK => ?_) AllReadyH.nil; go_simp
        go_at_call 84
        refine (spec_missing A3 (some ⟨g6, 0, none⟩) n3 c3 M.length c6 L M w6 w6.heap.size (Nat.le_refl _) HN3.out rfl HLS6.out (IS.of_own ho6.1) (by omega) (by omega)).mono ?_
        rintro e w7 ⟨v7, rfl, ho7, hb7⟩
        obtain ⟨A7, c7, rfl, _⟩ := OwnI.form ho7
        have x0 := (hb7.cell (p := ⟨w.heap.size, 0, none⟩) (by show w.heap.size < w6.heap.size; omega)).trans v0
        have x1 := (hb7.cell (p := ⟨b, off + i * 2 + 1, none⟩) (by show b < w6.heap.size; omega)).trans v1
        have x2 := (hb7.cell (p := ⟨w.heap.size + 1, 1, none⟩) (by show w.heap.size + 1 < w6.heap.size; omega)).trans v2
        have x3 := (hb7.cell (p := ⟨b3, off3 + i, none⟩) (by show b3 < w6.heap.size; omega)).trans v3
        obtain ⟨ml, hml⟩ : ∃ ml, ml = (missL L M).length := ⟨_, rfl⟩
        have HIM2 : Hid (((ml : Int) == 0) = ri) := by rw [hml]; exact HIM.out
        rw [← hml]
        clear hml
        refine hK.out _ _ ⟨x2, x3, x0, x1⟩ (fun hHeld => ?_)
        clear hK K
        (try simp only [Act.put, List.setIfInBounds_toArray, List.set_cons_zero, List.set_cons_succ])
        refine wpAnyH_take (i := 28) (oi := ⟨some 66, _, _, _, _, _⟩) (v := ?_) rfl (by kernel_rfl) (by kernel_rfl) (by kernel_rfl) (fun _ _ _ h => h) (Or.inl ⟨by rfl, ?_⟩) (by assumption) ?_; rotate_left; (focus (intro w hSw; (try dsimp only at hSw); go_simp; (try with_reducible rfl))); (try simp only [Act.put, List.setIfInBounds_toArray]); (try dsimp only [List.set_cons_zero, List.set_cons_succ])
        refine wpAnyH_take (i := 29) (oi := ⟨some 67, _, _, _, _, _⟩) (v := ?_) rfl (by kernel_rfl) (by kernel_rfl) (by kernel_rfl) (fun _ _ _ h => h) (Or.inl ⟨by rfl, ?_⟩) (by assumption) ?_; rotate_left; (focus (intro w hSw; (try dsimp only at hSw); go_simp; (try with_reducible rfl))); (try simp only [Act.put, List.setIfInBounds_toArray]); (try dsimp only [List.set_cons_zero, List.set_cons_succ])
        refine wpAnyH_take (i := 30) (oi := ⟨some 68, _, _, _, _, _⟩) (v := ?_) rfl (by kernel_rfl) (by kernel_rfl) (by kernel_rfl) (fun _ _ _ h => h) (Or.inl ⟨by rfl, ?_⟩) (by assumption) ?_; rotate_left; (focus (intro w hSw; (try dsimp only at hSw); go_simp; (try with_reducible rfl))); (try simp only [Act.put, List.setIfInBounds_toArray]); (try dsimp only [List.set_cons_zero, List.set_cons_succ])
        refine wpAnyH_take (i := 31) (oi := ⟨some 6, _, _, _, _, _⟩) (v := ?_) rfl (by kernel_rfl) (by kernel_rfl) (by kernel_rfl) (fun _ _ _ h => h) (Or.inl ⟨by rfl, ?_⟩) (by assumption) ?_; rotate_left; (focus (intro w hSw; (try dsimp only at hSw); go_simp; (try with_reducible rfl))); (try simp only [Act.put, List.setIfInBounds_toArray]); (try dsimp only [List.set_cons_zero, List.set_cons_succ])
        refine wpAnyH_done (by kernel_rfl) ?_ _
        clear ho ho6 ho7
        go_wp2
        go_ret
        exact ⟨ret_b (HF.out.trans HIM2.out.symm).symm, ((HB0.out.trans (hb5.mono (by omega))).trans (hb6.mono (by omega))).trans (hb7.mono (by omega))⟩
    case false =>
      rw [hc2] at hco
      simp only [Bool.false_eq_true, if_false] at hco
      obtain ⟨hv1, hvv, hl10, hea⟩ := canEv_parts d.ps st.vs hce
      obtain ⟨hg, h1, h12⟩ := validF_good d.ps hv1
      rw [← HMM.out] at hea
      have HR := Lib.hid fun (w' : World) (hB' : B ≤ w'.heap.size) (h : PS w' B A1 d.ps) (h' : IS w' B (some ⟨b2, off2, none⟩) st.vs) =>
        spec_run A1 (some ⟨b2, off2, none⟩) n1 c1 m c' d.ps st.vs B HN1.out HMM.out hg hea hvo (by have := HN1.out; omega) (by have := HN1.out; omega) (by have := HMM.out; omega) w' hB' h h'
      clear hv1 hvv hl10 hea hg h1 h12 hvo hv0 hce
      rw [← hvl, ← hdl] at HR
      clear hvl hdl
      have HBAD : Hid ((cc == 0) = true → (∃ k, k < F.length ∧ (cs.getD (F.getD k 0).toNat 0 == 0) = false) → r = false) := fun h0 ⟨k, hk, hkk⟩ => by
        rw [hco, h0, har]
        simp only [if_true]
        by_cases hFL : F = L
        · rw [← hFL, cleanR_bad cs F k hk hkk, Bool.and_false]
        · rw [decide_eq_false hFL]; simp
      have HGOOD : Hid (((cc == 0) = true → ∀ k, k < F.length → (cs.getD (F.getD k 0).toNat 0 == 0) = true) → r = ((X == x) && decide (F = L))) := fun hh => by
        rw [hco, har]
        cases h0 : (cc == 0)
        · rfl
        · simp only [if_true]
          by_cases hFL : F = L
          · rw [← hFL, cleanR_fin cs F (hh h0)]; simp
          · rw [decide_eq_false hFL]; simp
      have HFR := Lib.hid hfr
      clear hco har hfr
      go_enter Tryz.func61, Tryz.ntmps61
      go_wp2
      rw [← HW2.out]
      clear c0 c2 d0 d1 d2
      obtain ⟨s0, s1, s2, s3⟩ := HT.out
      obtain ⟨t1, t2, t3, t4⟩ := HT2.out
      refine wp_region_held_drew (S := fun w' => w'.cell? ⟨w.heap.size, 0, none⟩ = some (.slice (some ⟨b, off, none⟩) n c) ∧ w'.cell? ⟨b, off + i * 2 + 1, none⟩ = some (.slice A1 n1 c1) ∧ w'.cell? ⟨w.heap.size + 1, 0, none⟩ = some (.slice (some ⟨b2, off2, none⟩) m c')) (by kernel_rfl) ⟨s0, t1, s1⟩ (fun hHeld => ?_)
      refine wpAnyH_take (i := 0) (oi := ⟨some 70, _, _, _, _, _⟩) (v := ?_) rfl (by kernel_rfl) (by kernel_rfl) (by kernel_rfl) (fun _ _ _ h => h) (Or.inl ⟨by rfl, ?_⟩) (by assumption) ?_; rotate_left; (focus (intro w hSw; (try dsimp only at hSw); go_simp; (try with_reducible rfl))); (try simp only [Act.put, List.setIfInBounds_toArray]); (try dsimp only [List.set_cons_zero, List.set_cons_succ])
      refine wpAnyH_take (i := 1) (oi := ⟨some 71, _, _, _, _, _⟩) (v := ?_) rfl (by kernel_rfl) (by kernel_rfl) (by kernel_rfl) (fun _ _ _ h => h) (Or.inl ⟨by rfl, ?_⟩) (by assumption) ?_; rotate_left; (focus (intro w hSw; (try dsimp only at hSw); go_simp; (try with_reducible rfl))); (try simp only [Act.put, List.setIfInBounds_toArray]); (try dsimp only [List.set_cons_zero, List.set_cons_succ])
      refine wpAnyH_take (i := 2) (oi := ⟨some 72, _, _, _, _, _⟩) (v := ?_) rfl (by kernel_rfl) (by kernel_rfl) (by kernel_rfl) (fun _ _ _ h => h) (Or.inl ⟨by rfl, ?_⟩) (by assumption) ?_; rotate_left; (focus (intro w hSw; (try dsimp only at hSw); go_simp; (try with_reducible rfl))); (try simp only [Act.put, List.setIfInBounds_toArray]); (try dsimp only [List.set_cons_zero, List.set_cons_succ])
      refine wpAnyH_take (i := 3) (oi := ⟨some 73, _, _, _, _, _⟩) (v := ?_) rfl (by kernel_rfl) (by kernel_rfl) (by kernel_rfl) (fun _ _ _ h => h) (Or.inl ⟨by rfl, ?_⟩) (by assumption) ?_; rotate_left; (focus (intro w hSw; (try dsimp only at hSw); go_simp; (try with_reducible rfl))); (try simp only [Act.put, List.setIfInBounds_toArray]); (try dsimp only [List.set_cons_zero, List.set_cons_succ])
      refine wpAnyH_take (i := 4) (oi := ⟨some 74, _, _, _, _, _⟩) (v := ?_) rfl (by kernel_rfl) (by kernel_rfl) (by kernel_rfl) (fun _ _ _ h => h) (Or.inl ⟨by rfl, ?_⟩) (by assumption) ?_; rotate_left; (focus (intro w hSw; (try dsimp only at hSw); go_simp; (try with_reducible rfl))); (try simp only [Act.put, List.setIfInBounds_toArray]); (try dsimp only [List.set_cons_zero, List.set_cons_succ])
      refine wpAnyH_take (i := 5) (oi := ⟨some 75, _, _, _, _, _⟩) (v := ?_) rfl (by kernel_rfl) (by kernel_rfl) (by kernel_rfl) (fun _ _ _ h => h) (Or.inl ⟨by rfl, ?_⟩) (by assumption) ?_; rotate_left; (focus (intro w hSw; (try dsimp only at hSw); go_simp; (try with_reducible rfl))); (try simp only [Act.put, List.setIfInBounds_toArray]); (try dsimp only [List.set_cons_zero, List.set_cons_succ])
      refine wpAnyH_take (i := 6) (oi := ⟨some 76, _, _, _, _, _⟩) (v := ?_) rfl (by kernel_rfl) (by kernel_rfl) (by kernel_rfl) (fun _ _ _ h => h) (Or.inl ⟨by rfl, ?_⟩) (by assumption) ?_; rotate_left; (focus (intro w hSw; (try dsimp only at hSw); go_simp; (try with_reducible rfl))); (try simp only [Act.put, List.setIfInBounds_toArray]); (try dsimp only [List.set_cons_zero, List.set_cons_succ])
      refine wpAnyH_take (i := 7) (oi := ⟨some 77, _, _, _, _, _⟩) (v := ?_) rfl (by kernel_rfl) (by kernel_rfl) (by kernel_rfl) (fun _ _ _ h => h) (Or.inl ⟨by rfl, ?_⟩) (by assumption) ?_; rotate_left; (focus (intro w hSw; (try dsimp only at hSw); go_simp; (try with_reducible rfl))); (try simp only [Act.put, List.setIfInBounds_toArray]); (try dsimp only [List.set_cons_zero, List.set_cons_succ])
      refine wpAnyH_ready (rs := [8]) (by kernel_rfl) (by simp) ?_; refine AllReadyH.cons (o := ⟨some 78, _, _, _, _, _⟩) rfl (fun K hK => ?_) AllReadyH.nil; go_simp
      go_at_call 86
      refine (HR.out W2.drew (show B ≤ W2.heap.size by omega) HPS.out HIS.out).mono ?_
      rintro e w5 ⟨v5, rfl, ho, hb5'⟩
      obtain ⟨g5, c5, rfl, hg5, hg5'⟩ := ho.form
      have hb5 : Below W2.heap.size W2 w5 := below_of_drew hb5'
      have kk0 := (hb5.cell (p := ⟨w.heap.size, 0, none⟩) (by show w.heap.size < W2.heap.size; omega)).trans s0
      have kk1 := (hb5.cell (p := ⟨b, off + i * 2 + 1, none⟩) (by show b < W2.heap.size; omega)).trans t1
      have kk2 := (hb5.cell (p := ⟨w.heap.size + 1, 0, none⟩) (by show w.heap.size + 1 < W2.heap.size; omega)).trans s1
      have kk3 := (hb5.cell (p := ⟨w.heap.size + 1, 1, none⟩) (by show w.heap.size + 1 < W2.heap.size; omega)).trans s2
      have kk4 := (hb5.cell (p := ⟨w.heap.size + 1, 2, none⟩) (by show w.heap.size + 1 < W2.heap.size; omega)).trans s3
      have kk5 := (hb5.cell (p := ⟨b2, off2 + i, none⟩) (by show b2 < W2.heap.size; omega)).trans t2
      have kk6 := (hb5.cell (p := ⟨b3, off3 + i, none⟩) (by show b3 < W2.heap.size; omega)).trans t3
      have kk7 := (hb5.cell (p := ⟨b4, off4 + i, none⟩) (by show b4 < W2.heap.size; omega)).trans t4
      have hs5 : W2.heap.size ≤ w5.heap.size := hb5.size
      refine hK.out _ _ ⟨kk0, kk1, kk2⟩ (fun hHeld => ?_)
      clear hK K
      (try simp only [Act.put, List.setIfInBounds_toArray, List.set_cons_zero, List.set_cons_succ])
      refine wpAnyH_take (i := 9) (oi := ⟨some 69, _, _, _, _, _⟩) (v := ?_) rfl (by kernel_rfl) (by kernel_rfl) (by kernel_rfl) (fun _ _ _ h => h) (Or.inl ⟨by rfl, ?_⟩) (by assumption) ?_; rotate_left; (focus (intro w hSw; (try dsimp only at hSw); go_simp; (try with_reducible rfl))); (try simp only [Act.put, List.setIfInBounds_toArray]); (try dsimp only [List.set_cons_zero, List.set_cons_succ])
      refine wpAnyH_take (i := 10) (oi := ⟨some 79, _, _, _, _, _⟩) (v := ?_) rfl (by kernel_rfl) (by kernel_rfl) (by kernel_rfl) (fun _ _ _ h => h) (Or.inl ⟨by rfl, ?_⟩) (by assumption) ?_; rotate_left; (focus (intro w hSw; (try dsimp only at hSw); go_simp; (try with_reducible rfl))); (try simp only [Act.put, List.setIfInBounds_toArray]); (try dsimp only [List.set_cons_zero, List.set_cons_succ])
      refine wpAnyH_take (i := 11) (oi := ⟨some 80, _, _, _, _, _⟩) (v := ?_) rfl (by kernel_rfl) (by kernel_rfl) (by kernel_rfl) (fun _ _ _ h => h) (Or.inl ⟨by rfl, ?_⟩) (by assumption) ?_; rotate_left; (focus (intro w hSw; (try dsimp only at hSw); go_simp; (try with_reducible rfl))); (try simp only [Act.put, List.setIfInBounds_toArray]); (try dsimp only [List.set_cons_zero, List.set_cons_succ])
      refine wpAnyH_take (i := 12) (oi := ⟨some 7, _, _, _, _, _⟩) (v := ?_) rfl (by kernel_rfl) (by kernel_rfl) (by kernel_rfl) (fun _ _ _ h => h) (Or.inl ⟨by rfl, ?_⟩) (by assumption) ?_; rotate_left; (focus (intro w hSw; (try dsimp only at hSw); go_simp; (try with_reducible rfl))); (try simp only [Act.put, List.setIfInBounds_toArray]); (try dsimp only [List.set_cons_zero, List.set_cons_succ])
      refine wpAnyH_take (i := 13) (oi := ⟨some 8, _, _, _, _, _⟩) (v := ?_) rfl (by kernel_rfl) (by kernel_rfl) (by kernel_rfl) (fun _ _ _ h => h) (Or.inl ⟨by rfl, ?_⟩) (by assumption) ?_; rotate_left; (focus (intro w hSw; (try dsimp only at hSw); go_simp; (try with_reducible rfl))); (try simp only [Act.put, List.setIfInBounds_toArray]); (try dsimp only [List.set_cons_zero, List.set_cons_succ])
      refine wpAnyH_done (by kernel_rfl) ?_ _
      have HF5 : Hid (IS w5 w5.heap.size (some ⟨g5, 0, none⟩) F) := IS.of_own ho.1
      have HB5 := Lib.hid (HB0.out.trans (hb5.mono (by omega)))
      have HLS5 := Lib.hid ((HLS.out.below hb5 (by omega)).more (B' := w5.heap.size) (by omega))
      have HCY5 := Lib.hid fun (j : Nat) (hj : j < q) => (hb5.cell (p := ⟨b4, off4 + j, none⟩) (by show b4 < W2.heap.size; omega)).trans (HCY.out j hj)
      obtain ⟨fl, hfl⟩ : ∃ fl, fl = F.length := ⟨_, rfl⟩
      rw [← hfl] at hfb HBAD HGOOD HFR
      rw [← hfl]
      have HFL := Lib.hid hfl
      clear hfl ho hb5 hb5' s0 s1 s2 s3 t1 t2 t3 t4 hHeld HR HT HT2
      go_wp2
      go_loopw [9] (fun u wr => ∃ k : Nat, k ≤ fl ∧ u = .int .i64 k ∧ Hid (ClT cc cs F k) ∧ Hid (Below w5.heap.size w5 wr) ∧ w5.heap.size ≤ wr.heap.size) (fun u _ => fl - (intOf u).toNat)
      case atStart => exact ⟨0, Nat.zero_le _, rfl, fun _ i hi => by omega, Below.refl _ _, Nat.le_refl _⟩
      case round =>
        obtain ⟨k, hk, rfl, HT, HB, hwr⟩ := hrel
        have r0 := (HB.out.cell (p := ⟨w.heap.size + 1, 0, none⟩) (by show w.heap.size + 1 < w5.heap.size; omega)).trans kk2
        have r1 := (HB.out.cell (p := ⟨w.heap.size + 1, 1, none⟩) (by show w.heap.size + 1 < w5.heap.size; omega)).trans kk3
        have r2 := (HB.out.cell (p := ⟨w.heap.size + 1, 2, none⟩) (by show w.heap.size + 1 < w5.heap.size; omega)).trans kk4
        have r5 := (HB.out.cell (p := ⟨b2, off2 + i, none⟩) (by show b2 < w5.heap.size; omega)).trans kk5
        have r6 := (HB.out.cell (p := ⟨b3, off3 + i, none⟩) (by show b3 < w5.heap.size; omega)).trans kk6
        have r7 := (HB.out.cell (p := ⟨b4, off4 + i, none⟩) (by show b4 < w5.heap.size; omega)).trans kk7
        by_cases hlt : k < fl
        · have hg5r : g5 < wr.heap.size := by omega
          obtain ⟨b9, off9, hE9, hb9, hc9⟩ := HF5.out (by have := HFL.out; omega)
          cases hE9
          have f0 := (HB.out.cell (p := ⟨g5, 0 + k, none⟩) (by show g5 < w5.heap.size; omega)).trans (hc9 k (by have := HFL.out; omega))
          rw [Nat.zero_add] at f0
          obtain ⟨y, hy, hye⟩ := HFR.out k (by omega)
          have hyq : y < q := by have := HQN.out; omega
          have e0 := (HB.out.cell (p := ⟨b4, off4 + y, none⟩) (by show b4 < w5.heap.size; omega)).trans (HCY5.out y hyq)
          have HNB : Hid ((cc == 0) = true → (cs.getD y 0 == 0) = false → r = false) := fun h0 h1 => HBAD.out h0 ⟨k, hlt, by rw [hye, Int.toNat_natCast]; exact h1⟩
          have HNT : Hid (((cc == 0) = true → (cs.getD y 0 == 0) = true) → ClT cc cs F (k + 1)) := fun hh h0 j hj => by
            rcases Nat.lt_or_ge j k with h1 | h1
            · exact HT.out h0 j h1
            · obtain rfl : j = k := by omega
              rw [hye, Int.toNat_natCast]
              exact hh h0
          rw [hye] at f0
          clear hc9 hye
          generalize cs.getD y 0 = z at *
          cases hc0 : (cc == 0)
          · have HF := Lib.hid (HNT.out (fun h => absurd h (by rw [hc0]; decide)))
            clear HNB HNT
            go_wp2
            go_quiet (fail)
            go_wp2
            go_roundw
            case rel => exact ⟨k + 1, by omega, by go_num, HF.out, drewN_below HB.out, by simp [World.drewN]; omega⟩
            case measure => simp [intOf]; omega
          · cases hz0 : (z == 0)
            · have hz0' : (z != 0) = true := by simp [bne, hz0]
              have HF := Lib.hid (HNB.out hc0 hz0)
              clear HNB HNT
              go_wp2
              go_quiet (fail)
              go_wp2
              go_ret
              exact ⟨ret_b HF.out.symm, HB5.out.trans (drewN_below HB.out |>.mono (by omega))⟩
            · have hz0' : (z != 0) = false := by simp [bne, hz0]
              have HF := Lib.hid (HNT.out (fun _ => hz0))
              clear HNB HNT
              go_wp2
              go_quiet (fail)
              go_wp2
              go_roundw
              case rel => exact ⟨k + 1, by omega, by go_num, HF.out, drewN_below HB.out, by simp [World.drewN]; omega⟩
              case measure => simp [intOf]; omega
        · obtain rfl : k = fl := by omega
          have HRR := Lib.hid (HGOOD.out HT.out)
          have HSI := Lib.hid (spec_sameInts (some ⟨g5, 0, none⟩) A3 k n3 c5 c3 F L wr w5.heap.size hwr HFL.out HN3.out (HF5.out.below HB.out (Nat.le_refl _)) (HLS5.out.below HB.out (Nat.le_refl _)) (by omega) (by omega))
          generalize decide (F = L) = dl at *
          cases hx : (X == x)
          · have HN := Lib.hid (show r = false by rw [HRR.out, hx]; rfl)
            clear HRR
            go_wp2
            go_ret
            exact ⟨ret_b HN.out.symm, HB5.out.trans (HB.out.mono (by omega))⟩
          · have HN := Lib.hid (show r = dl by rw [HRR.out, hx]; rfl)
            clear HRR
            go_wp2_with fail
            refine HSI.out.mono ?_
            rintro e w6 ⟨rfl, hb6⟩
            go_wp2
            go_ret
            exact ⟨ret_b HN.out.symm, (HB5.out.trans (HB.out.mono (by omega))).trans (hb6.mono (by omega))⟩
end Go.Proofs.YtlcpgbbpjnkihaaGreat

namespace Go.Proofs.YtlcpgbbpjnkihaaGreat
set_option linter.unusedSimpArgs false
set_option linter.unusedVariables false
open Go.RowKit
theorem ne_cases (n m p q : Nat) (h : ¬ (m = n ∧ p = n ∧ q = n)) : (((m : Int) != (n : Int)) = true) ∨ (((m : Int) != (n : Int)) = false ∧ ((p : Int) != (n : Int)) = true) ∨ (((m : Int) != (n : Int)) = false ∧ ((p : Int) != (n : Int)) = false ∧ ((q : Int) != (n : Int)) = true) := by
  by_cases h1 : m = n
  · by_cases h2 : p = n
    · exact .inr (.inr ⟨by simp [h1], by simp [h2], by simp; omega⟩)
    · exact .inr (.inl ⟨by simp [h1], by simp; omega⟩)
  · exact .inl (by simp; omega)
set_option maxRecDepth 100000 in
set_option maxHeartbeats 3200000 in
theorem spec_validLazy (A A' E C : Option Addr) (n c m c' p ec q qc : Nat) (gs : List Nd) (st : Lz) (w : World) (B : Nat) (hB : B ≤ w.heap.size) (hn : n = gs.length) (hm : m = st.vs.length) (hp : p = st.rs.length) (hq : q = st.cs.length) (h : GS w B A gs) (h' : LS3 w B A' E C st) (hs : GB gs) (hb0 : LB st) :
    Calls Tryz.prog 34 #[.agg #[.slice A n c], .agg #[.slice A' m c', .slice E p ec, .slice C q qc]] w fun e w' => e = .returned (.bool (validL gs st)) ∧ Below w.heap.size w w' := by
  have HC := Lib.hid fun (w' : World) (hB : B ≤ w'.heap.size) (h : GS w' B A gs) => spec_validGraph A n c gs w' B hB hn h hs
  have hm1 : m ≤ 1048576 := by rw [hm]; exact hb0.1
  have hp1 : p ≤ 1048576 := by rw [hp]; exact hb0.2.1.1
  have hq1 : q ≤ 1048576 := by rw [hq]; exact hb0.2.2.2.2.2
  have hn1 : n ≤ 1048576 := by rw [hn]; exact hs.1
  have hve : validL gs st = (validG gs && (decide (st.vs.length = gs.length) && (decide (st.rs.length = gs.length) && (decide (st.cs.length = gs.length) && (allR st.vs 0 999 && (allR st.cs 0 2 && allL gs st)))))) := rfl
  rw [← hn, ← hm, ← hp, ← hq] at hve
  have H := Lib.hid h
  have H' := Lib.hid h'
  have HN := Lib.hid hn
  have HM := Lib.hid hm
  have HP := Lib.hid hp
  have HQ := Lib.hid hq
  cases hvg : validG gs
  · have hf : validL gs st = false := by rw [hve, hvg]; rfl
    rw [hf]
    rw [hvg] at HC
    clear hf hve hvg h h' hn hm hp hq hs hb0
    go_enter Tryz.func34, Tryz.ntmps34
    go_wp2_with fail
    refine (HC.out _ (by simp; omega) ((H.out.alloc hB _).alloc (by simp; omega) _)).mono ?_
    rintro e w1 ⟨rfl, hb⟩
    go_wp2
    go_ret
    exact ⟨rfl, (((Below.refl _ _).alloc (Nat.le_refl _) _).alloc (by simp) _).trans (hb.mono (by simp; omega))⟩
  rw [hvg] at HC
  by_cases hl : m = n ∧ p = n ∧ q = n
  case neg =>
    have hf : validL gs st = false := by
      rw [hve]
      by_cases h1 : m = n
      · by_cases h2 : p = n
        · rw [decide_eq_false (p := q = n) (fun e => hl ⟨h1, h2, e⟩)]; simp
        · rw [decide_eq_false (p := p = n) h2]; simp
      · rw [decide_eq_false (p := m = n) h1]; simp
    rw [hf]
    have hcs := ne_cases n m p q hl
    clear hf hve hvg h h' hn hm hp hq hs hb0 hl
    rcases hcs with h1 | ⟨h1, h2⟩ | ⟨h1, h2, h3⟩
    all_goals
      go_enter Tryz.func34, Tryz.ntmps34
      go_wp2_with fail
      refine (HC.out _ (by simp; omega) ((H.out.alloc hB _).alloc (by simp; omega) _)).mono ?_
      rintro e w1 ⟨rfl, hb⟩
      have q0 : w1.cell? ⟨w.heap.size, 0, none⟩ = some (.slice A n c) := (hb.cell (p := ⟨w.heap.size, 0, none⟩) (by simp; omega)).trans (by go_simp)
      have q1 : w1.cell? ⟨w.heap.size + 1, 0, none⟩ = some (.slice A' m c') := (hb.cell (p := ⟨w.heap.size + 1, 0, none⟩) (by simp)).trans (by go_simp)
      have q2 : w1.cell? ⟨w.heap.size + 1, 1, none⟩ = some (.slice E p ec) := (hb.cell (p := ⟨w.heap.size + 1, 1, none⟩) (by simp)).trans (by go_simp)
      have q3 : w1.cell? ⟨w.heap.size + 1, 2, none⟩ = some (.slice C q qc) := (hb.cell (p := ⟨w.heap.size + 1, 2, none⟩) (by simp)).trans (by go_simp)
      have hB1 : Below w.heap.size w w1 := (((Below.refl _ _).alloc (Nat.le_refl _) _).alloc (by simp) _).trans (hb.mono (by simp; omega))
      have hl1 : w.heap.size + 2 ≤ w1.heap.size := by have := hb.size; simp at this; omega
      go_wp2
      go_ret
      exact ⟨rfl, hB1⟩
  obtain ⟨hl1, hl2, hl3⟩ := hl
  have hne1 : ((m : Int) != (n : Int)) = false := by simp [hl1]
  have hne2 : ((p : Int) != (n : Int)) = false := by simp [hl2]
  have hne3 : ((q : Int) != (n : Int)) = false := by simp [hl3]
  have HAR := Lib.hid fun (w' : World) (hB : B ≤ w'.heap.size) (h : IS w' B A' st.vs) => spec_allIn A' m c' st.vs 0 999 w' B hB hm h (by omega)
  have HAC := Lib.hid fun (w' : World) (hB : B ≤ w'.heap.size) (h : IS w' B C st.cs) => spec_allIn C q qc st.cs 0 2 w' B hB hq h (by omega)
  cases hr : allR st.vs 0 999
  · have hf : validL gs st = false := by rw [hve, hr]; simp
    rw [hf]
    rw [hr] at HAR
    clear hf hve hvg h h' hn hm hp hq hs hb0 hl1 hl2 hl3 hr HAC
    go_enter Tryz.func34, Tryz.ntmps34
    go_wp2_with fail
    refine (HC.out _ (by simp; omega) ((H.out.alloc hB _).alloc (by simp; omega) _)).mono ?_
    rintro e w1 ⟨rfl, hb⟩
    have q0 : w1.cell? ⟨w.heap.size, 0, none⟩ = some (.slice A n c) := (hb.cell (p := ⟨w.heap.size, 0, none⟩) (by simp; omega)).trans (by go_simp)
    have q1 : w1.cell? ⟨w.heap.size + 1, 0, none⟩ = some (.slice A' m c') := (hb.cell (p := ⟨w.heap.size + 1, 0, none⟩) (by simp)).trans (by go_simp)
    have q2 : w1.cell? ⟨w.heap.size + 1, 1, none⟩ = some (.slice E p ec) := (hb.cell (p := ⟨w.heap.size + 1, 1, none⟩) (by simp)).trans (by go_simp)
    have q3 : w1.cell? ⟨w.heap.size + 1, 2, none⟩ = some (.slice C q qc) := (hb.cell (p := ⟨w.heap.size + 1, 2, none⟩) (by simp)).trans (by go_simp)
    have hB1 : Below w.heap.size w w1 := (((Below.refl _ _).alloc (Nat.le_refl _) _).alloc (by simp) _).trans (hb.mono (by simp; omega))
    have hl1 : w.heap.size + 2 ≤ w1.heap.size := by have := hb.size; simp at this; omega
    go_wp2_with fail
    refine (HAR.out _ (by omega) (((H'.out.1.alloc hB _).alloc (by simp; omega) _).below hb (by simp; omega))).mono ?_
    rintro e w' ⟨rfl, rfl⟩
    go_wp2
    go_ret
    exact ⟨rfl, hB1⟩
  rw [hr] at HAR
  cases hrc : allR st.cs 0 2
  · have hf : validL gs st = false := by rw [hve, hrc]; simp
    rw [hf]
    rw [hrc] at HAC
    clear hf hve hvg h h' hn hm hp hq hs hb0 hl1 hl2 hl3 hr hrc
    go_enter Tryz.func34, Tryz.ntmps34
    go_wp2_with fail
    refine (HC.out _ (by simp; omega) ((H.out.alloc hB _).alloc (by simp; omega) _)).mono ?_
    rintro e w1 ⟨rfl, hb⟩
    have q0 : w1.cell? ⟨w.heap.size, 0, none⟩ = some (.slice A n c) := (hb.cell (p := ⟨w.heap.size, 0, none⟩) (by simp; omega)).trans (by go_simp)
    have q1 : w1.cell? ⟨w.heap.size + 1, 0, none⟩ = some (.slice A' m c') := (hb.cell (p := ⟨w.heap.size + 1, 0, none⟩) (by simp)).trans (by go_simp)
    have q2 : w1.cell? ⟨w.heap.size + 1, 1, none⟩ = some (.slice E p ec) := (hb.cell (p := ⟨w.heap.size + 1, 1, none⟩) (by simp)).trans (by go_simp)
    have q3 : w1.cell? ⟨w.heap.size + 1, 2, none⟩ = some (.slice C q qc) := (hb.cell (p := ⟨w.heap.size + 1, 2, none⟩) (by simp)).trans (by go_simp)
    have hB1 : Below w.heap.size w w1 := (((Below.refl _ _).alloc (Nat.le_refl _) _).alloc (by simp) _).trans (hb.mono (by simp; omega))
    have hl1 : w.heap.size + 2 ≤ w1.heap.size := by have := hb.size; simp at this; omega
    go_wp2_with fail
    refine (HAR.out _ (by omega) (((H'.out.1.alloc hB _).alloc (by simp; omega) _).below hb (by simp; omega))).mono ?_
    rintro e w' ⟨rfl, rfl⟩
    go_wp2_with fail
    refine (HAC.out _ (by omega) (((H'.out.2.2.alloc hB _).alloc (by simp; omega) _).below hb (by simp; omega))).mono ?_
    rintro e w' ⟨rfl, rfl⟩
    go_wp2
    go_ret
    exact ⟨rfl, hB1⟩
  rw [hrc] at HAC
  have hf : validL gs st = allL gs st := by rw [hve, hvg, decide_eq_true hl1, decide_eq_true hl2, decide_eq_true hl3, hr, hrc]; simp
  rw [hf]
  have HGC := Lib.hid fun (i : Nat) (hi : i < n) (w' : World) (B1 : Nat) (hB : B1 ≤ w'.heap.size) (h : GS w' B1 A gs) (h' : LS3 w' B1 A' E C st) =>
    spec_goodColour A A' E C n c m c' p ec q qc gs st i w' B1 hB hn hm hp hq h h' hs hb0 hvg (by omega) (by omega) (by omega) hr hi
  have HBAD := Lib.hid fun (i : Nat) (hi : i < gs.length) => allL_bad gs st i hi
  have HFIN := Lib.hid (allL_fin gs st)
  clear hf hve hvg h h' hn hm hp hq hs hb0 hl1 hl2 hl3 hr hrc
  go_enter Tryz.func34, Tryz.ntmps34
  go_wp2_with fail
  refine (HC.out _ (by simp; omega) ((H.out.alloc hB _).alloc (by simp; omega) _)).mono ?_
  rintro e w1 ⟨rfl, hb⟩
  have q0 : w1.cell? ⟨w.heap.size, 0, none⟩ = some (.slice A n c) := (hb.cell (p := ⟨w.heap.size, 0, none⟩) (by simp; omega)).trans (by go_simp)
  have q1 : w1.cell? ⟨w.heap.size + 1, 0, none⟩ = some (.slice A' m c') := (hb.cell (p := ⟨w.heap.size + 1, 0, none⟩) (by simp)).trans (by go_simp)
  have q2 : w1.cell? ⟨w.heap.size + 1, 1, none⟩ = some (.slice E p ec) := (hb.cell (p := ⟨w.heap.size + 1, 1, none⟩) (by simp)).trans (by go_simp)
  have q3 : w1.cell? ⟨w.heap.size + 1, 2, none⟩ = some (.slice C q qc) := (hb.cell (p := ⟨w.heap.size + 1, 2, none⟩) (by simp)).trans (by go_simp)
  have hB1 : Below w.heap.size w w1 := (((Below.refl _ _).alloc (Nat.le_refl _) _).alloc (by simp) _).trans (hb.mono (by simp; omega))
  have hl1 : w.heap.size + 2 ≤ w1.heap.size := by have := hb.size; simp at this; omega
  have HG1 := Lib.hid (((H.out.alloc hB (.cells #[.slice A n c] 36)).alloc (by simp; omega) (.cells #[.slice A' m c', .slice E p ec, .slice C q qc] 31)).below hb (by simp; omega))
  have HE1 := Lib.hid (((H'.out.alloc hB (.cells #[.slice A n c] 36)).alloc (by simp; omega) (.cells #[.slice A' m c', .slice E p ec, .slice C q qc] 31)).below hb (by simp; omega))
  clear hb H H' HC
  go_wp2_with fail
  refine (HAR.out _ (by omega) HE1.out.1).mono ?_
  rintro e w' ⟨rfl, rfl⟩
  clear HAR
  go_wp2_with fail
  refine (HAC.out _ (by omega) HE1.out.2.2).mono ?_
  rintro e w' ⟨rfl, rfl⟩
  clear HAC
  go_wp2
  go_loopw [5] (fun u wr => ∃ k : Nat, k ≤ n ∧ u = .int .i64 k ∧ Hid (∀ i, i < k → colOK gs st i = true) ∧ Hid (Below w1.heap.size w1 wr) ∧ w1.heap.size ≤ wr.heap.size) (fun u _ => n - (intOf u).toNat)
  case atStart => exact ⟨0, Nat.zero_le _, rfl, fun i hi => by omega, Below.refl _ _, Nat.le_refl _⟩
  case round =>
    obtain ⟨k, hk, rfl, HK, HB, hwr⟩ := hrel
    have r0 := (HB.out.cell (p := ⟨w.heap.size, 0, none⟩) (by show w.heap.size < w1.heap.size; omega)).trans q0
    have r1 := (HB.out.cell (p := ⟨w.heap.size + 1, 0, none⟩) (by show w.heap.size + 1 < w1.heap.size; omega)).trans q1
    have r2 := (HB.out.cell (p := ⟨w.heap.size + 1, 1, none⟩) (by show w.heap.size + 1 < w1.heap.size; omega)).trans q2
    have r3 := (HB.out.cell (p := ⟨w.heap.size + 1, 2, none⟩) (by show w.heap.size + 1 < w1.heap.size; omega)).trans q3
    by_cases hlt : k < n
    · have hkg : k < gs.length := by have := HN.out; omega
      have HCALL := Lib.hid (HGC.out k hlt wr w1.heap.size hwr ((HG1.out.below HB.out (by omega)).more (by omega)) ((HE1.out.below HB.out (by omega)).more (by omega)))
      have HNK := Lib.hid (HBAD.out k hkg)
      have HNT : Hid (colOK gs st k = true → ∀ i, i < k + 1 → colOK gs st i = true) := fun h j hj => by
        rcases Nat.lt_or_ge j k with h1 | h1
        · exact HK.out j h1
        · obtain rfl : j = k := by omega
          exact h
      generalize colOK gs st k = r at *
      go_wp2_with fail
      refine HCALL.out.mono ?_
      rintro e w6 ⟨rfl, hb6⟩
      have HB6 := Lib.hid (HB.out.trans (hb6.mono HB.out.size))
      cases r
      · go_wp2
        go_ret
        exact ⟨ret_b (HNK.out (by first | rfl | trivial)).symm, hB1.trans (HB6.out.mono (by omega))⟩
      · go_wp2
        go_roundw
        case rel => exact ⟨k + 1, by omega, by go_num, HNT.out (by first | rfl | trivial), HB6.out, HB6.out.size⟩
        case measure => simp [intOf]; omega
    · obtain rfl : k = n := by omega
      go_wp2
      go_ret
      exact ⟨ret_b (HFIN.out fun i hi => HK.out i (by have := HN.out; omega)).symm, hB1.trans (HB.out.mono (by omega))⟩
end Go.Proofs.YtlcpgbbpjnkihaaGreat

namespace Go.Proofs.YtlcpgbbpjnkihaaGreat
set_option linter.unusedSimpArgs false
set_option linter.unusedVariables false
open Go.RowKit
theorem SSk.one {lo hi g m c : Nat} {D : List Int} {w : World} (hd : w.ownsRow lo 3 1 (.slice (some ⟨g, 0, none⟩) m c) m (D.map (Value.int .i64))) (hm : m = D.length) (hg : g < hi) : SSk lo hi [.slice (some ⟨g, 0, none⟩) m c] (lenOf [D]) (rowOf [D]) w := by
  refine ⟨fun j hj => ?_, fun i j v u k hij h1 h2 _ => ?_⟩
  · obtain rfl : j = 0 := by simp at hj; omega
    exact ⟨_, m, c, rfl, by simp [lenOf, List.getD]; exact hm, by simpa [rowOf, List.getD] using hd, fun k hk => by cases hk; exact hg⟩
  · have a1 : i = 0 := by
      rcases i with _ | i
      · rfl
      · simp at h1
    have a2 : j = 0 := by
      rcases j with _ | j
      · rfl
      · simp at h2
    omega
/-- A row of one list that the call has just made. -/
theorem OwSS.one {lo g m c : Nat} {D : List Int} {w : World} (hd : w.ownsRow lo 3 1 (.slice (some ⟨g, 0, none⟩) m c) m (D.map (Value.int .i64))) (hm : m = D.length) (hlo : lo ≤ w.heap.size) : OwSS lo (w.heap.size + 1) (.slice (some ⟨w.heap.size, 0, none⟩) 1 1) 1 [D] (w.alloc (.cells #[.slice (some ⟨g, 0, none⟩) m c] 25)) := by
  have hl := (hd.lt g rfl).2
  refine ⟨by simp, [.slice (some ⟨g, 0, none⟩) m c], ?_, SSk.one (World.ownsRow.alloc hd _) hm (by omega)⟩
  have := OwR.start (World.ownsRow_lit (e := 25) (size := 1) (base := lo) w #[.slice (some ⟨g, 0, none⟩) m c] 1 hlo (by unfold maxLen; omega) rfl)
  simpa using this
/-- A row of one list that was there before. -/
theorem SS.one {w : World} {B m c : Nat} {A : Option Addr} {xs : List Int} (h : IS w B A xs) (hB : B ≤ w.heap.size) (hm : m = xs.length) (t : TypeId) : SS (w.alloc (.cells #[.slice A m c] t)) (w.heap.size + 1) (some ⟨w.heap.size, 0, none⟩) [xs] := by
  intro _
  refine ⟨_, 0, rfl, Nat.lt_succ_self _, fun j hj => ?_⟩
  obtain rfl : j = 0 := by simp at hj; omega
  exact ⟨A, m, c, by go_simp, by simpa [List.getD] using hm, by simpa [List.getD] using (h.alloc hB (.cells #[.slice A m c] t)).more (B' := w.heap.size + 1) (by omega)⟩
end Go.Proofs.YtlcpgbbpjnkihaaGreat

namespace Go.Proofs.YtlcpgbbpjnkihaaGreat
set_option linter.unusedSimpArgs false
set_option linter.unusedVariables false
open Go.RowKit
theorem row_form2 {w : World} {base n size : Nat} {e : TypeId} {v : Value} {xs : List Value} (h : w.ownsRow base e size v n xs) (hn : 0 < n) : ∃ g cap, v = .slice (some ⟨g, 0, none⟩) n cap := by
  rcases h.2 with ⟨hv, h0⟩ | ⟨g, cap, cur, hv, _⟩
  · omega
  · exact ⟨g, cap, hv⟩
end Go.Proofs.YtlcpgbbpjnkihaaGreat

namespace Go.Proofs.YtlcpgbbpjnkihaaGreat
set_option linter.unusedSimpArgs false
set_option linter.unusedVariables false
open Go.RowKit
theorem wr_rng {y lo hi : Int} (h : rng y lo hi = true) : lo ≤ y ∧ y ≤ hi := by unfold rng at h; simpa using h
theorem isC_at {gs : List Nd} {x : Int} (h : isC gs x = true) : ∃ q : Nat, x = q ∧ q < gs.length ∧ ((gs.getD q default).k == 0) = true := by
  unfold isC at h
  rw [Bool.and_eq_true] at h
  obtain ⟨h1, h2⟩ := h
  have h3 := wr_rng h1
  exact ⟨x.toNat, by omega, by omega, h2⟩
end Go.Proofs.YtlcpgbbpjnkihaaGreat
