/- Facts on what an opened owner and a set context look up. -/
import Derived.Test.YtjhpknnhgbdkiaaM38
import Derived.Test.YtjhpknnhgbdkiaaP11a

namespace Go.Proofs.Ytjhpknnhgbdkiaa
set_option linter.unusedSimpArgs false
set_option linter.unusedVariables false
open Go.RowKit

theorem valid_bounds {ds : List On} (hv : validO ds = true) : PO ds ∧ ∀ j, (ds.getD j default).cl.length ≤ 5 ∧ (ds.getD j default).cx.length ≤ 3 :=
  ⟨((validO_iff ds).1 hv).2.2.1, okO_len hv⟩
theorem up_same {ds es : List On} (h : PO ds) (hs : ∀ i, i < ds.length → (es.getD i default).p = (ds.getD i default).p) : ∀ (f k : Nat), k < ds.length → upF es f k = upF ds f k := by
  intro f
  induction f with
  | zero => intro k _; rfl
  | succ f ih =>
    intro k hk
    rw [upF_step, upF_step, hs k hk]
    by_cases h0 : k = 0
    · subst h0
      rw [(h 0 hk).1 rfl, upF_neg _ _ _ (by omega), upF_neg _ _ _ (by omega)]
    · have hp := (h k hk).2 (by omega)
      obtain ⟨q, hq⟩ : ∃ q : Nat, (ds.getD k default).p = (q : Int) := ⟨(ds.getD k default).p.toNat, by omega⟩
      rw [hq, ih q (by omega)]
theorem up_more {ds : List On} (h : PO ds) (f k : Nat) (hk : k < ds.length) (hf : k < f) : upF ds f k = upF ds ds.length k := by
  rw [upF_fuel h k f hf hk, upF_fuel h k ds.length hk hk]
theorem lookG_same {ds es : List On} (q : Nat) : ∀ (R : List Int), (∀ x ∈ R, ctxV es q x = ctxV ds q x) → lookG es q R = lookG ds q R
  | [], _ => rfl
  | x :: R, h => by
    rw [lookG, lookG, h x (by simp), lookG_same q R fun y hy => h y (by simp [hy])]
theorem open_facts {ds : List On} {o : Int} (h : openB ds o = true) : openF ds o = ds ++ [newD o] ∧ validO (ds ++ [newD o]) = true ∧ ds.length ≤ 11 ∧
    1 ≤ (kidsF (ds ++ [newD o]) o).length ∧ (kidsF (ds ++ [newD o]) o).getD ((kidsF (ds ++ [newD o]) o).length - 1) 0 = (ds.length : Int) ∧
    (∀ q : Nat, q < 3 → lookO (ds ++ [newD o]) (ds.length : Int) q = lookO ds o q) ∧ aboveF (ds ++ [newD o]) (ds.length : Int) = (ds.length : Int) :: aboveF ds o ∧ 1 ≤ (aboveF ds o).length := by
  obtain ⟨e1, hv2⟩ := valid_open h
  have h1 := h
  unfold openB at h1
  rw [Bool.and_eq_true] at h1
  obtain ⟨t, rfl, ht, hv, ho⟩ := hasOpO_is h1.1
  have hl12 : ds.length ≠ 12 := by simpa using h1.2
  have hl := ((validO_iff ds).1 hv).2.1
  have hp := ((validO_iff ds).1 hv).2.2.1
  have hp2 := ((validO_iff _).1 hv2).2.2.1
  have hg (i : Nat) := getD_snoc ds (newD (t : Int)) i
  have hpar : ∀ i, i < ds.length → ((ds ++ [newD (t : Int)]).getD i default).p = (ds.getD i default).p := fun i hi => by rw [hg, if_neg (by omega)]
  have ha : aboveF (ds ++ [newD (t : Int)]) (ds.length : Int) = (ds.length : Int) :: aboveF ds t := by
    rw [aboveF_nat hv2 ds.length (by simp), aboveF_nat hv t ht]
    rw [show (ds ++ [newD (t : Int)]).length = ds.length + 1 by simp, upF_step, hg, if_pos rfl]
    rw [show (newD (t : Int)).p = (t : Int) from rfl, up_same hp hpar ds.length t ht]
  have hk : kidsF (ds ++ [newD (t : Int)]) t = nwTo (kidB (ds ++ [newD (t : Int)]) t) (ds.length + 1) := by
    unfold kidsF; rw [hasO_nat hv2 t (by simp; omega)]; simp
  have hkl : nwTo (kidB (ds ++ [newD (t : Int)]) t) (ds.length + 1) = nwTo (kidB (ds ++ [newD (t : Int)]) t) ds.length ++ [(ds.length : Int)] := by
    have hb : kidB (ds ++ [newD (t : Int)]) t ds.length = true := by
      unfold kidB
      rw [hg, if_pos rfl]
      simp [newD]
    unfold nwTo
    rw [List.range_succ, List.filter_append, List.map_append]
    simp [hb]
  refine ⟨e1, hv2, by omega, ?_, ?_, fun q hq => ?_, ha, (above_facts hv t ht).1⟩
  · rw [hk, hkl]; simp
  · rw [hk, hkl, List.length_append]
    simp
  · rw [look_facts hv t q ht hq, look_facts hv2 ds.length q (by simp) hq, ha]
    rw [lookG, if_neg ?_]
    · refine lookG_same q _ fun x hx => ?_
      obtain ⟨r, rfl, hr, _⟩ := aboveF_mem ds t x hx
      unfold ctxV
      rw [show ((r : Int)).toNat = r by omega, hg, if_neg (by omega)]
    · unfold ctxV
      rw [show ((ds.length : Int)).toNat = ds.length by omega, hg, if_pos rfl]
      unfold newD noCtx
      have : q = 0 ∨ q = 1 ∨ q = 2 := by omega
      rcases this with rfl | rfl | rfl <;> simp
theorem ctx_facts {ds : List On} {o key x : Int} (h : ctxB ds o key x = true) : ∃ k q : Nat, o = k ∧ k < ds.length ∧ key = q ∧ q < 3 ∧ ctxF ds o key x = ds.set k (withCx ds k q x) ∧ validO (ds.set k (withCx ds k q x)) = true ∧ validO ds = true ∧
    lookO (ds.set k (withCx ds k q x)) (k : Int) (q : Int) = some x ∧
    ∀ j, j < (kidsF (ds.set k (withCx ds k q x)) (k : Int)).length → ∃ b : Nat, (kidsF (ds.set k (withCx ds k q x)) (k : Int)).getD j 0 = (b : Int) ∧ b < ds.length ∧ (ds.getD b default).cx.length = 3 ∧
      lookO (ds.set k (withCx ds k q x)) (b : Int) (q : Int) = some (if 0 ≤ (ds.getD b default).cx.getD q 0 then (ds.getD b default).cx.getD q 0 else x) := by
  obtain ⟨k, q, rfl, hk, rfl, hq, hx0, hx1, ho, hv, e1, hv2⟩ := valid_ctx h
  refine ⟨k, q, rfl, hk, rfl, hq, e1, hv2, hv, ?_⟩
  have hkl : k < (ds.set k (withCx ds k q x)).length := by rw [List.length_set]; exact hk
  have hp2 := ((validO_iff _).1 hv2).2.2.1
  have hg (i : Nat) : (ds.set k (withCx ds k q x)).getD i default = if i = k then withCx ds k q x else ds.getD i default := getD_set ds k i _ hk
  have hcx := (okO_ctx hv k hk).1
  have hself : ctxV (ds.set k (withCx ds k q x)) q (k : Int) = x := by
    unfold ctxV
    rw [show ((k : Int)).toNat = k by omega, hg, if_pos rfl]
    unfold withCx
    show ((ds.getD k default).cx.set q x).getD q 0 = x
    have h9 : q < (ds.getD k default).cx.length := by omega
    generalize (ds.getD k default).cx = l at *
    simp [List.getD, h9]
  have hup (f : Nat) (hf : 0 < f) : lookG (ds.set k (withCx ds k q x)) q (upF (ds.set k (withCx ds k q x)) f (k : Int)) = some x := by
    obtain ⟨f', rfl⟩ : ∃ f', f = f' + 1 := ⟨f - 1, by omega⟩
    rw [upF_step, lookG, hself, if_pos hx0]
  refine ⟨?_, fun j hj => ?_⟩
  · rw [look_facts hv2 k q hkl hq, aboveF_nat hv2 k hkl]
    exact hup _ (by omega)
  · have hm : (kidsF (ds.set k (withCx ds k q x)) (k : Int)).getD j 0 ∈ kidsF (ds.set k (withCx ds k q x)) (k : Int) := by
      rw [List.getD_eq_getElem?_getD, List.getElem?_eq_getElem hj]
      exact List.getElem_mem hj
    have ek : kidsF (ds.set k (withCx ds k q x)) (k : Int) = nwTo (kidB (ds.set k (withCx ds k q x)) k) (ds.set k (withCx ds k q x)).length := by
      unfold kidsF; rw [hasO_nat hv2 k hkl]; simp
    obtain ⟨b, hb⟩ : ∃ b : Nat, (kidsF (ds.set k (withCx ds k q x)) (k : Int)).getD j 0 = (b : Int) := by
      rw [ek] at hm ⊢
      unfold nwTo at hm
      rw [List.mem_map] at hm
      obtain ⟨i, _, e⟩ := hm
      exact ⟨i, e.symm⟩
    rw [hb, ek] at hm
    obtain ⟨h1, h2, h3, h4⟩ := (kid_mem hp2 k b hkl).1 hm
    have hbl : b < ds.length := by rw [List.length_set] at h1; exact h1
    have hpb := (hp2 b h1).2 h2
    have hbp : ((ds.set k (withCx ds k q x)).getD b default).p = (k : Int) := by unfold parN at h3; omega
    have hbk : b ≠ k := by rintro rfl; omega
    refine ⟨b, hb, hbl, (okO_ctx hv b hbl).1, ?_⟩
    rw [look_facts hv2 b q h1 hq, aboveF_nat hv2 b h1]
    obtain ⟨f', hf'⟩ : ∃ f', (ds.set k (withCx ds k q x)).length = f' + 1 := ⟨(ds.set k (withCx ds k q x)).length - 1, by omega⟩
    rw [hf', upF_step, hbp]
    have hcb : ctxV (ds.set k (withCx ds k q x)) q (b : Int) = (ds.getD b default).cx.getD q 0 := by
      unfold ctxV
      rw [show ((b : Int)).toNat = b by omega, hg, if_neg hbk]
    rw [lookG, hcb]
    by_cases h0 : 0 ≤ (ds.getD b default).cx.getD q 0
    · rw [if_pos h0, if_pos h0]
    · rw [if_neg h0, if_neg h0]
      exact hup f' (by omega)
end Go.Proofs.Ytjhpknnhgbdkiaa
