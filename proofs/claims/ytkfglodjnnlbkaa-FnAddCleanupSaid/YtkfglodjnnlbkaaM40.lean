/- What clearing the last kids of an owner leaves as it was. (Made by m40.py.) -/
import Derived.Test.YtkfglodjnnlbkaaT7a

namespace Go.Proofs.Ytkfglodjnnlbkaa
set_option linter.unusedSimpArgs false
set_option linter.unusedVariables false
open Go.RowKit

theorem clrL_facts (f : Nat) (ds : List On) (o : Nat) (hf : ds.length - o ≤ f + 1) (ho : o < ds.length) (hp : PO ds) : ∀ (L : List Int) (s : List Int × List On) (dn : List Nat), SameP ds s.2 → VO s.2 → (∀ b ∈ L, ∃ k : Nat, b = k ∧ k < ds.length ∧ 0 < k ∧ parN ds k = o ∧ isO ds k = true ∧ k ∉ dn) → L.Nodup → (∀ k ∈ dn, k < ds.length ∧ 0 < k ∧ parN ds k = o) →
    (∀ i, i < ds.length → (∃ k ∈ dn, Und ds k i) → isO s.2 i = false ∧ clO s.2 i = []) → (∀ i, i < ds.length → (¬ ∃ k ∈ dn, Und ds k i) → isO s.2 i = isO ds i ∧ clO s.2 i = clO ds i) →
    VO (L.foldl (clrS f) s).2 ∧ (∀ i, i < ds.length → ((∃ k ∈ dn, Und ds k i) ∨ ∃ k : Nat, (k : Int) ∈ L ∧ Und ds k i) → isO (L.foldl (clrS f) s).2 i = false ∧ clO (L.foldl (clrS f) s).2 i = []) ∧
      (∀ i, i < ds.length → (¬ ((∃ k ∈ dn, Und ds k i) ∨ ∃ k : Nat, (k : Int) ∈ L ∧ Und ds k i)) → isO (L.foldl (clrS f) s).2 i = isO ds i ∧ clO (L.foldl (clrS f) s).2 i = clO ds i) := by
  have ih := clr_facts f
  intro L
  induction L with
  | nil =>
    intro s dn hs hvs hL hnd hdn h1 h2
    refine ⟨hvs, fun i hi h => h1 i hi (h.elim id fun ⟨k, hk, _⟩ => by simp at hk), fun i hi h => h2 i hi fun e => h (.inl e)⟩
  | cons b0 L ihL =>
    intro s dn hs hvs hL hnd hdn h1 h2
    obtain ⟨b, rfl, hb, hb0, hbp, hbo, hbd⟩ := hL b0 (by simp)
    have hob : o < b := by have := par_lt hp b hb hb0; omega
    have hlen := hs.len
    have hps := hp.same hs
    -- two kids do not lie one above the other
    have apart : ∀ k, k < ds.length → 0 < k → parN ds k = o → Und ds k b → k = b := by
      intro k hk hk0 hkp hkb
      rcases (Und_iff hp k b hb).1 hkb with e | ⟨_, e⟩
      · exact e.symm
      · rw [hbp] at e
        have h5 := Und_le hp k o (by omega) e
        have h6 := par_lt hp k hk hk0
        omega
    have hbs : isO s.2 b = true := by
      rw [(h2 b hb (fun ⟨k, hk, hkb⟩ => by
        obtain ⟨k1, k2, k3⟩ := hdn k hk
        exact hbd (apart k k1 k2 k3 hkb ▸ hk))).1]
      exact hbo
    obtain ⟨c1, c2⟩ := ih s.2 b (by rw [hlen]; omega) (by rw [hlen]; exact hb) hps hvs hbs
    have hsm := clr_same f s.2 b
    have hE : SameP ds (clr f s.2 b).2 := hs.trans hsm
    have hbE : b < (clr f s.2 b).2.length := by rw [hE.len]; exact hb
    have hsS : SameP ds (clrS f s (b : Int)).2 := by
      unfold clrS
      simp only [Int.toNat_natCast]
      exact hE.trans (SameP.shut _ _)
    have e2 : (clrS f s (b : Int)).2 = shut (clr f s.2 b).2 b := by unfold clrS; simp only [Int.toNat_natCast]
    have st1 : ∀ i, i < ds.length → (∃ k ∈ b :: dn, Und ds k i) → isO (clrS f s (b : Int)).2 i = false ∧ clO (clrS f s (b : Int)).2 i = [] := by
      intro i hi hk
      rw [e2, isO_shut _ _ _ hbE, clO_shut]
      by_cases hbi : Und ds b i
      · by_cases e : i = b
        · subst e; rw [if_pos rfl]; exact ⟨rfl, c1.own.2⟩
        · rw [if_neg e]
          exact c1.low i (by rw [hlen]; exact hi) e ((hs.bl hp b i hi).2 hbi)
      · obtain ⟨k, hk1, hk2⟩ := hk
        rcases List.mem_cons.1 hk1 with rfl | hk1
        · exact absurd hk2 hbi
        · have hne : i ≠ b := fun e => hbi (e ▸ Und_self hp b hb)
          rw [if_neg hne]
          have h3 := c1.out i (by rw [hlen]; exact hi) (fun e => hbi ((hs.bl hp b i hi).1 e))
          rw [h3.1, h3.2]
          exact h1 i hi ⟨k, hk1, hk2⟩
    have st2 : ∀ i, i < ds.length → (¬ ∃ k ∈ b :: dn, Und ds k i) → isO (clrS f s (b : Int)).2 i = isO ds i ∧ clO (clrS f s (b : Int)).2 i = clO ds i := by
      intro i hi hk
      rw [e2, isO_shut _ _ _ hbE, clO_shut]
      have hbi : ¬ Und ds b i := fun e => hk ⟨b, by simp, e⟩
      have hne : i ≠ b := fun e => hbi (e ▸ Und_self hp b hb)
      rw [if_neg hne]
      have h3 := c1.out i (by rw [hlen]; exact hi) (fun e => hbi ((hs.bl hp b i hi).1 e))
      rw [h3.1, h3.2]
      exact h2 i hi fun ⟨k, hk1, hk2⟩ => hk ⟨k, by simp [hk1], hk2⟩
    have hvS : VO (clrS f s (b : Int)).2 := by
      rw [e2]
      refine ⟨fun i hi h0 hio => ?_, fun i hi hio => ?_⟩
      · rw [shut_len] at hi
        have hid : i < ds.length := by rw [hE.len] at hi; exact hi
        rw [isO_shut _ _ _ hbE] at hio ⊢
        have hpn : parN (shut (clr f s.2 b).2 b) i = parN ds i := by rw [(SameP.shut _ _).parE, hE.parE]
        rw [hpn]
        have hib : i ≠ b := fun e => by rw [if_pos e] at hio; cases hio
        rw [if_neg hib] at hio
        have hnb : ¬ Und ds b i := fun e => by
          have := (c1.low i (by rw [hlen]; exact hid) hib ((hs.bl hp b i hid).2 e)).1
          rw [this] at hio; cases hio
        have hpb : parN ds i ≠ b := fun e => hnb ((Und_iff hp b i hid).2 (.inr ⟨h0, by rw [e]; exact Und_self hp b hb⟩))
        rw [if_neg hpb]
        have := c2.up i hi h0 hio
        rwa [hE.parE] at this
      · rw [shut_len] at hi
        rw [isO_shut _ _ _ hbE] at hio
        rw [clO_shut]
        by_cases e : i = b
        · rw [e]; exact c1.own.2
        · rw [if_neg e] at hio
          exact c2.no i hi hio
    rw [List.nodup_cons] at hnd
    obtain ⟨r1, r2, r3⟩ := ihL (clrS f s (b : Int)) (b :: dn) hsS hvS (fun c hc => by
      obtain ⟨k, rfl, k1, k2, k3, k4, k5⟩ := hL c (by simp [hc])
      refine ⟨k, rfl, k1, k2, k3, k4, fun e => ?_⟩
      rcases List.mem_cons.1 e with rfl | e
      · exact hnd.1 hc
      · exact k5 e) hnd.2 (fun k hk => by
      rcases List.mem_cons.1 hk with rfl | hk
      · exact ⟨hb, hb0, hbp⟩
      · exact hdn k hk) st1 st2
    have heq : ∀ i, ((∃ k ∈ dn, Und ds k i) ∨ ∃ k : Nat, (k : Int) ∈ (b : Int) :: L ∧ Und ds k i) ↔ ((∃ k ∈ b :: dn, Und ds k i) ∨ ∃ k : Nat, (k : Int) ∈ L ∧ Und ds k i) := by
      intro i
      constructor
      · rintro (⟨k, hk, hki⟩ | ⟨k, hk, hki⟩)
        · exact .inl ⟨k, by simp [hk], hki⟩
        · rcases List.mem_cons.1 hk with e | hk
          · obtain rfl : k = b := by omega
            exact .inl ⟨k, by simp, hki⟩
          · exact .inr ⟨k, hk, hki⟩
      · rintro (⟨k, hk, hki⟩ | ⟨k, hk, hki⟩)
        · rcases List.mem_cons.1 hk with rfl | hk
          · exact .inr ⟨k, by simp, hki⟩
          · exact .inl ⟨k, hk, hki⟩
        · exact .inr ⟨k, by simp [hk], hki⟩
    exact ⟨r1, fun i hi h => r2 i hi ((heq i).1 h), fun i hi h => r3 i hi fun e => h ((heq i).2 e)⟩
/-- Behind the last m kids: all is as it was, but below those kids; the owners still agree with their parents. -/
theorem clrK_facts (f : Nat) (ds : List On) (o m : Nat) (hf : ds.length - o ≤ f + 1) (ho : o < ds.length) (hp : PO ds) (hv : VO ds) :
    VO (clrK f ds o m).2 ∧ ∀ i, i < ds.length → (∀ k : Nat, (k : Int) ∈ ((nwTo (kidB ds o) ds.length).reverse).take m → ¬ Und ds k i) → isO (clrK f ds o m).2 i = isO ds i ∧ clO (clrK f ds o m).2 i = clO ds i := by
  have hsub : ∀ b ∈ ((nwTo (kidB ds o) ds.length).reverse).take m, b ∈ nwTo (kidB ds o) ds.length := fun b hb => List.mem_reverse.1 (List.mem_of_mem_take hb)
  obtain ⟨r1, r2, r3⟩ := clrL_facts f ds o hf ho hp (((nwTo (kidB ds o) ds.length).reverse).take m) ([], ds) [] (SameP.refl _) hv (fun b hb => by
      have hb2 := hsub b hb
      obtain ⟨k, hk, hkk⟩ := List.getElem_of_mem hb2
      obtain ⟨q, e, hq, _⟩ := nwTo_get _ _ _ hk
      have hbq : b = (q : Int) := by rw [← hkk, ← e]; simp [List.getD, hk]
      subst hbq
      obtain ⟨m1, m2, m3, m4⟩ := (kid_mem hp o q ho).1 hb2
      exact ⟨q, rfl, m1, m2, m3, m4, by simp⟩) (((List.reverse_perm _).nodup_iff.2 (nwTo_nodup _ _)).sublist (List.take_sublist _ _)) (fun k hk => by simp at hk) (fun i _ h => by obtain ⟨k, hk, _⟩ := h; simp at hk) (fun i _ _ => ⟨rfl, rfl⟩)
  exact ⟨r1, fun i hi h => r3 i hi fun e => by
    rcases e with ⟨k, hk, _⟩ | ⟨k, hk, hu⟩
    · simp at hk
    · exact h k hk hu⟩
/-- Two kids of one owner: nothing lies below both. -/
theorem kids_apart {ds : List On} (h : PO ds) (o a b : Nat) (hb : b < ds.length) (ha : a < ds.length) (ha0 : 0 < a) (hb0 : 0 < b) (hpa : parN ds a = o) (hpb : parN ds b = o) (hab : a ≠ b) : ∀ i, i < ds.length → Und ds a i → ¬ Und ds b i := by
  have two : ∀ (a b : Nat), a < ds.length → b < ds.length → 0 < a → 0 < b → parN ds a = o → parN ds b = o → a < b → ∀ i, i < ds.length → Und ds a i → ¬ Und ds b i := by
    intro a b ha hb ha0 hb0 hpa hpb hlt i
    induction i using Nat.strongRecOn with
    | ind i ih =>
      intro hi h1 h2
      rcases (Und_iff h b i hi).1 h2 with e | ⟨h0, e⟩
      · subst e
        rcases (Und_iff h a i hi).1 h1 with e | ⟨_, e⟩
        · omega
        · rw [hpb] at e
          have := Und_le h a o (by have := par_lt h a ha ha0; omega) e
          have := par_lt h a ha ha0
          omega
      · have hpi := par_lt h i hi h0
        rcases (Und_iff h a i hi).1 h1 with e1 | ⟨_, e1⟩
        · have := Und_le h b i hi h2
          omega
        · exact ih (parN ds i) hpi (by omega) e1 e
  intro i hi h1 h2
  rcases Nat.lt_or_ge a b with h | h
  · exact two a b ha hb ha0 hb0 hpa hpb h i hi h1 h2
  · exact two b a hb ha hb0 ha0 hpb hpa (by omega) i hi h2 h1
end Go.Proofs.Ytkfglodjnnlbkaa
