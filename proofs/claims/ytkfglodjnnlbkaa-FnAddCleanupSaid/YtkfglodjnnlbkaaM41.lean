/- Clearing by the kids of the start: clI; it is what clearing by the open kids is. -/
import Derived.Test.YtkfglodjnnlbkaaT13a
import Derived.Test.YtkfglodjnnlbkaaM40
import Derived.Test.YtkfglodjnnlbkaaV22

namespace Go.Proofs.Ytkfglodjnnlbkaa
set_option linter.unusedSimpArgs false
set_option linter.unusedVariables false
open Go.RowKit

/-- The labels that are met, and the owners behind it; the kids are those that ds has. -/
def clI (ds : List On) : Nat → List On → Nat → List Int × List On
  | 0, es, _ => ([], es)
  | f + 1, es, o =>
    let r := ((kdN ds ds.length o).reverse).foldl (fun (s : List Int × List On) (b : Nat) => (s.1 ++ (clI ds f s.2 b).1, shut (clI ds f s.2 b).2 b)) ([], es)
    (r.1 ++ ((r.2.getD o default).cl).reverse, wipe r.2 o)
/-- One kid is cleared and closed. -/
def clIS (ds : List On) (f : Nat) (s : List Int × List On) (b : Nat) : List Int × List On := (s.1 ++ (clI ds f s.2 b).1, shut (clI ds f s.2 b).2 b)
theorem clI_step (ds : List On) (f : Nat) (es : List On) (o : Nat) : clI ds (f + 1) es o = ((((kdN ds ds.length o).reverse).foldl (clIS ds f) ([], es)).1 ++ (((((kdN ds ds.length o).reverse).foldl (clIS ds f) ([], es)).2.getD o default).cl).reverse, wipe (((kdN ds ds.length o).reverse).foldl (clIS ds f) ([], es)).2 o) := rfl
theorem clI_same (ds : List On) : ∀ (f : Nat) (es : List On) (o : Nat), SameP es (clI ds f es o).2 := by
  intro f
  induction f with
  | zero => intro es o; exact SameP.refl _
  | succ f ih =>
    intro es o
    rw [clI_step]
    have h : ∀ (L : List Nat) (s : List Int × List On), SameP s.2 (L.foldl (clIS ds f) s).2 := by
      intro L
      induction L with
      | nil => intro s; exact SameP.refl _
      | cons b L ihL => intro s; exact ((ih s.2 b).trans (SameP.shut _ _)).trans (ihL (clIS ds f s b))
    exact (h _ ([], es)).trans (SameP.wipe _ _)
theorem clI_tot (ds : List On) : ∀ (f : Nat) (es : List On) (o : Nat), (clI ds f es o).1.length + tot (clI ds f es o).2 = tot es := by
  intro f
  induction f with
  | zero => intro es o; simp [clI]
  | succ f ih =>
    intro es o
    rw [clI_step]
    have h : ∀ (L : List Nat) (s : List Int × List On), (L.foldl (clIS ds f) s).1.length + tot (L.foldl (clIS ds f) s).2 = s.1.length + tot s.2 := by
      intro L
      induction L with
      | nil => intro s; rfl
      | cons b L ihL =>
        intro s
        rw [List.foldl_cons, ihL]
        unfold clIS
        dsimp only
        rw [tot_shut, List.length_append]
        have := ih s.2 b
        omega
    have h1 := h ((kdN ds ds.length o).reverse) ([], es)
    generalize ((kdN ds ds.length o).reverse).foldl (clIS ds f) ([], es) = r at *
    dsimp only at *
    have h2 := tot_wipe r.2 o
    rw [List.length_append, List.length_reverse]
    simp only [List.length_nil] at h1
    omega
theorem clI_eq {ds : List On} (hp : PO ds) : ∀ (f : Nat) (es : List On) (o : Nat), es.length - o ≤ f → o < es.length → SameP ds es → VO es → isO es o = true → (∀ i, i < ds.length → Und ds o i → isO es i = isO ds i) → clI ds f es o = clr f es o := by
  intro f
  induction f with
  | zero => intro es o h1 h2; omega
  | succ f ih =>
    intro es o hf ho hS hV hoo hu
    have hlen := hS.len
    have hpe := hp.same hS
    have hod : o < ds.length := by omega
    -- the kids are the same
    have hk : nwTo (kidB es o) es.length = (kdN ds ds.length o).map (fun i : Nat => (i : Int)) := by
      rw [← kdN_nw, hlen]
      unfold nwTo
      congr 1
      refine List.filter_congr fun i hi => ?_
      rw [List.mem_range] at hi
      unfold kidB
      rw [hS.par i]
      by_cases e : (ds.getD i default).p = (o : Int)
      · have h0 : 0 < i := by
          rcases Nat.eq_zero_or_pos i with rfl | h
          · have := (hp 0 hi).1 rfl; omega
          · exact h
        have hpn : parN ds i = o := by unfold parN; omega
        have := hu i hi ((Und_iff hp o i hi).2 (.inr ⟨h0, by rw [hpn]; exact Und_self hp o hod⟩))
        unfold isO at this
        rw [this]
      · have : ((ds.getD i default).p == (o : Int)) = false := by simpa using e
        rw [this]; simp
    have hkl : (nwTo (kidB es o) es.length).length = (kdN ds ds.length o).length := by rw [hk, List.length_map]
    have fold : ∀ m, m ≤ (kdN ds ds.length o).length → (((kdN ds ds.length o).reverse).take m).foldl (clIS ds f) ([], es) = clrK f es o m := by
      intro m
      induction m with
      | zero => intro _; simp [clrK]
      | succ m ihm =>
        intro hm
        obtain ⟨k, hkm⟩ : ∃ k, m + k + 1 = (kdN ds ds.length o).length := ⟨(kdN ds ds.length o).length - m - 1, by omega⟩
        rw [clrK_succ f es o m k (by rw [hkl]; exact hkm), ← ihm (by omega)]
        have hr : m < ((kdN ds ds.length o).reverse).length := by rw [List.length_reverse]; omega
        rw [List.take_succ_eq_append_getElem hr, List.foldl_append]
        have hkk : k < (kdN ds ds.length o).length := by omega
        have e : ((kdN ds ds.length o).reverse)[m] = (kdN ds ds.length o)[k] := by
          rw [List.getElem_reverse]
          congr 1
          omega
        have e2 : (nwTo (kidB es o) es.length).getD k 0 = (((kdN ds ds.length o)[k] : Nat) : Int) := by rw [hk]; simp [List.getD, hkk]
        rw [e, e2, ihm (by omega)]
        have hmem : (((kdN ds ds.length o)[k] : Nat) : Int) ∈ nwTo (kidB es o) es.length := by rw [hk]; exact List.mem_map.2 ⟨_, List.getElem_mem hkk, rfl⟩
        obtain ⟨b1, b2, b3, b4⟩ := (kid_mem hpe o _ ho).1 hmem
        obtain ⟨c1, c2⟩ := clrK_facts f es o m hf ho hpe hV
        have hsm := clrK_same f es o m
        have hnd : (kdN ds ds.length o).Nodup := List.nodup_range.sublist List.filter_sublist
        have hlast : ∀ q : Nat, (q : Int) ∈ ((nwTo (kidB es o) es.length).reverse).take m → q ≠ (kdN ds ds.length o)[k] := by
          intro q hq e9
          rw [hk, ← List.map_reverse, ← List.map_take, List.mem_map] at hq
          obtain ⟨q2, hq2, e8⟩ := hq
          obtain rfl : q2 = q := by omega
          subst e9
          obtain ⟨j, hj, hje⟩ := List.getElem_of_mem hq2
          rw [List.length_take, List.length_reverse] at hj
          rw [List.getElem_take, List.getElem_reverse] at hje
          have := (List.getElem_inj hnd).1 hje
          omega
        have hfree : ∀ i, i < es.length → Und es (kdN ds ds.length o)[k] i → isO (clrK f es o m).2 i = isO es i := by
          intro i hi hui
          refine (c2 i hi fun q hq hqi => ?_).1
          have hq2 := (kid_mem hpe o q ho).1 (List.mem_reverse.1 (List.mem_of_mem_take hq))
          exact kids_apart hpe o q _ b1 hq2.1 hq2.2.1 b2 hq2.2.2.1 b3 (hlast q hq) i hi hqi hui
        have hob : o < (kdN ds ds.length o)[k] := by have := par_lt hpe _ b1 b2; omega
        have hih := ih (clrK f es o m).2 (kdN ds ds.length o)[k] (by rw [hsm.len]; omega) (by rw [hsm.len]; exact b1) (hS.trans hsm) c1 (by rw [hfree _ b1 (Und_self hpe _ b1)]; exact b4) (fun i hi hui => by
          rw [hfree i (by omega) ((hS.bl hp _ i hi).2 hui)]
          refine hu i hi (Und_trans hp o _ ((Und_iff hp o _ (by omega)).2 (.inr ⟨b2, ?_⟩)) i hi hui)
          rw [← hS.parE, b3]
          exact Und_self hp o hod)
        show clIS ds f (clrK f es o m) _ = clrS f (clrK f es o m) _
        unfold clIS clrS
        simp only [Int.toNat_natCast]
        rw [hih]
    have h9 := fold _ (Nat.le_refl _)
    rw [List.take_of_length_le (by rw [List.length_reverse]; exact Nat.le_refl _)] at h9
    rw [clI_step, clr_step, h9, hkl]
end Go.Proofs.Ytkfglodjnnlbkaa
