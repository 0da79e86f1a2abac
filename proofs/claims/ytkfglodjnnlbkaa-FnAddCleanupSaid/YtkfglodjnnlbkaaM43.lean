/- Facts for the laws on clearing and disposing. -/
import Derived.Test.YtkfglodjnnlbkaaM42
import Derived.Test.YtkfglodjnnlbkaaT21a

namespace Go.Proofs.Ytkfglodjnnlbkaa
set_option linter.unusedSimpArgs false
set_option linter.unusedVariables false
open Go.RowKit

theorem hasOpO_nat {ds : List On} (hv : validO ds = true) (k : Nat) (hk : k < ds.length) (ho : isO ds k = true) : hasOpO ds (k : Int) = true := by
  unfold hasOpO
  rw [hasO_nat hv k hk, Bool.true_and]
  show (ds.getD ((k : Int).toNat) default).o = true
  rw [Int.toNat_natCast]
  exact ho
theorem rerL_nat {ds : List On} (hv : validO ds = true) (k : Nat) (hk : k < ds.length) (ho : isO ds k = true) : rerL ds (k : Int) = (clr ds.length ds k).1 := by
  unfold rerL; rw [hasOpO_nat hv k hk ho]; simp
theorem On_ext {a b : On} (h1 : a.p = b.p) (h2 : a.o = b.o) (h3 : a.cl = b.cl) (h4 : a.cx = b.cx) : a = b := by
  cases a; cases b; simp_all
theorem wipe_self {ds : List On} (k : Nat) (hk : k < ds.length) (hc : clO ds k = []) : wipe ds k = ds := by
  have hl : (wipe ds k).length = ds.length := (SameP.wipe ds k).len
  refine List.ext_getElem hl fun i h1 h2 => ?_
  have e1 : (wipe ds k).getD i default = (wipe ds k)[i] := by simp [List.getD, h1]
  have e2 : ds.getD i default = ds[i] := by simp [List.getD, h2]
  have a1 := (SameP.wipe ds k).par i
  have a2 := isO_wipe ds k i
  have a3 := clO_wipe ds k i hk
  have a4 := (SameP.wipe ds k).cxs i
  unfold isO at a2
  unfold clO at a3
  rw [e1, e2] at a1 a2 a4
  rw [e1] at a3
  refine On_ext a1 a2 ?_ a4
  by_cases e : i = k
  · subst e
    rw [if_pos rfl] at a3
    unfold clO at hc
    rw [e2] at hc
    rw [a3, hc]
  · rw [if_neg e, e2] at a3
    exact a3
theorem rerun_facts {ds : List On} {o : Int} (h : hasOpO ds o = true) : ∃ k : Nat, o = k ∧ k < ds.length ∧ (rerF ds o).length = ds.length ∧ validO (rerF ds o) = true ∧ isO (rerF ds o) k = true ∧ kidsF (rerF ds o) o = [] ∧ rerF (rerF ds o) o = rerF ds o ∧ rerL (rerF ds o) o = [] ∧ ((rerF ds o).getD k default).cx = (ds.getD k default).cx := by
  obtain ⟨k, rfl, hk, hv, ho, hF, hL, hC, hS, hV⟩ := valid_rer h
  rw [hF]
  generalize (clr ds.length ds k).2 = es at *
  have hke : k < es.length := by rw [hS.len]; exact hk
  have hoe : isO es k = true := by rw [hC.own.1]; exact ho
  obtain ⟨_, _, hp, _, _⟩ := (validO_iff ds).1 hv
  have hpe := hp.same hS
  have hkn : nwTo (kidB es k) es.length = [] := by
    rw [List.eq_nil_iff_forall_not_mem]
    intro b hb
    obtain ⟨j, hj, e⟩ := List.getElem_of_mem hb
    obtain ⟨c, e1, _, _⟩ := nwTo_get _ _ _ hj
    have : b = (c : Int) := by rw [← e, ← e1]; simp [List.getD, hj]
    subst this
    obtain ⟨b1, b2, b3, b4⟩ := (kid_mem hpe k c hke).1 hb
    have hck : c ≠ k := by have := par_lt hpe c b1 b2; omega
    have hu : Und ds k c := (hS.bl hp k c (by rw [← hS.len]; exact b1)).1 ((Und_iff hpe k c b1).2 (.inr ⟨b2, by rw [b3]; exact Und_self hpe k hke⟩))
    rw [(hC.low c (by rw [← hS.len]; exact b1) hck hu).1] at b4
    cases b4
  have hclr : clr es.length es k = ([], es) := by
    obtain ⟨n, hn⟩ : ∃ n, es.length = n + 1 := ⟨es.length - 1, by omega⟩
    have : clr es.length es k = clr (n + 1) es k := by rw [hn]
    rw [this, clr_step, hkn]
    have e0 : clrK n es k ([] : List Int).length = ([], es) := by simp [clrK]
    rw [e0]
    dsimp only
    have e9 : (es.getD k default).cl = [] := hC.own.2
    rw [wipe_self k hke hC.own.2, e9]
    rfl
  refine ⟨k, rfl, hk, hS.len, hV, hoe, ?_, ?_, ?_, hS.cxs k⟩
  · unfold kidsF; rw [hasO_nat hV k hke]; exact hkn
  · unfold rerF; rw [hasOpO_nat hV k hke hoe]; simp [hclr]
  · rw [rerL_nat hV k hke hoe, hclr]
theorem tot_zero {ds : List On} (h : ∀ i, i < ds.length → clO ds i = []) : tot ds = 0 := by
  unfold tot
  have : ∀ (L : List On), (∀ d ∈ L, d.cl = []) → (L.map fun d => d.cl.length).sum = 0 := by
    intro L
    induction L with
    | nil => intro _; rfl
    | cons d L ih => intro h; simp only [List.map_cons, List.sum_cons]; rw [h d (by simp), ih fun x hx => h x (by simp [hx])]; rfl
  refine this ds fun d hd => ?_
  obtain ⟨i, hi, e⟩ := List.getElem_of_mem hd
  have := h i hi
  unfold clO at this
  rw [show ds.getD i default = ds[i] by simp [List.getD, hi], e] at this
  exact this
/-- The first owner is above all. -/
theorem Und_root {ds : List On} (hp : PO ds) : ∀ i, i < ds.length → Und ds 0 i := by
  intro i
  induction i using Nat.strongRecOn with
  | ind i ih =>
    intro hi
    rcases Nat.eq_zero_or_pos i with rfl | h0
    · exact Und_self hp 0 hi
    · have := par_lt hp i hi h0
      exact (Und_iff hp 0 i hi).2 (.inr ⟨h0, ih _ this (by omega)⟩)
theorem all_facts {ds : List On} {o : Int} (h : hasOpO ds o = true) : (rerL ds 0).length = tot ds ∧ tot (rerF ds o) + (rerL ds o).length = tot ds ∧ (rerF ds o).length = ds.length ∧ 1 ≤ ds.length := by
  obtain ⟨k, rfl, hk, hv, ho, hF, hL, hC, hS, hV⟩ := valid_rer h
  obtain ⟨h1, _, hp, hVO, _⟩ := (validO_iff ds).1 hv
  have h0 : isO ds 0 = true := by
    cases e : isO ds 0 with
    | true => rfl
    | false =>
      have := hVO.closed hp 0 e k hk (Und_root hp k hk)
      rw [this] at ho; cases ho
  rw [hF, hL]
  have hb := clr_tot ds.length ds k
  have hb0 := clr_tot ds.length ds 0
  have hc0 := (clr_facts ds.length ds 0 (by omega) (by omega) hp hVO h0).1
  have hz : tot (clr ds.length ds 0).2 = 0 := tot_zero fun i hi => by
    have hi' : i < ds.length := by rw [(clr_same ds.length ds 0).len] at hi; exact hi
    by_cases e : i = 0
    · rw [e]; exact hc0.own.2
    · exact (hc0.low i hi' e (Und_root hp i hi')).2
  refine ⟨?_, by omega, hS.len, h1⟩
  have e0 : rerL ds 0 = (clr ds.length ds 0).1 := rerL_nat hv 0 (by omega) h0
  rw [e0]
  omega
theorem disp_facts {ds : List On} {o : Int} (h : dispB ds o = true) : ∃ k : Nat, o = k ∧ k < ds.length ∧ validO ds = true ∧ (dispF ds o).length = ds.length ∧ validO (dispF ds o) = true ∧ dispL ds o = rerL ds o ∧
    ∀ i, i < ds.length → (o ∈ aboveF ds (i : Int) → isO (dispF ds o) i = false) ∧ (o ∉ aboveF ds (i : Int) → isO (dispF ds o) i = isO ds i ∧ clO (dispF ds o) i = clO ds i) := by
  obtain ⟨k, rfl, h0, hk, hv, ho, hF, hL, hC, hS, hV⟩ := valid_disp h
  rw [hF, hL]
  refine ⟨k, rfl, hk, hv, by rw [shut_len]; exact hS.len, hV, by rw [rerL_nat hv k hk ho], fun i hi => ?_⟩
  rw [aboveF_nat hv i hi]
  rw [isO_shut _ _ _ (by rw [hS.len]; exact hk), clO_shut]
  constructor
  · intro hu
    by_cases e : i = k
    · rw [if_pos e]
    · rw [if_neg e]; exact (hC.low i hi e hu).1
  · intro hu
    obtain ⟨_, _, hp, _, _⟩ := (validO_iff ds).1 hv
    have hne : i ≠ k := by rintro rfl; exact hu (Und_self hp i hi)
    rw [if_neg hne]
    exact hC.out i hi hu
theorem disp_valid {ds : List On} (hv : validO ds = true) (k : Nat) (h0 : 0 < k) (hk : k < ds.length) (ho : isO ds k = true) : validO (dispF ds (k : Int)) = true := by
  have hb : dispB ds (k : Int) = true := by
    unfold dispB
    rw [hasOpO_nat hv k hk ho, decide_eq_false (by omega)]
    rfl
  obtain ⟨_, _, _, _, _, _, _, _, _, _, hV⟩ := valid_disp hb
  rename_i k' e _ _ _ _ hF _ _ _
  rw [hF]
  exact hV
end Go.Proofs.Ytkfglodjnnlbkaa
