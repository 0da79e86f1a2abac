/- Plain facts on owners: what is made of valid owners is valid. -/
import Derived.Test.YtjhpknnhgbdkiaaM36
import Derived.Test.YtjhpknnhgbdkiaaP4a

namespace Go.Proofs.Ytjhpknnhgbdkiaa
set_option linter.unusedSimpArgs false
set_option linter.unusedVariables false

theorem validO_iff (ds : List On) : validO ds = true ↔ 1 ≤ ds.length ∧ ds.length ≤ 12 ∧ PO ds ∧ VO ds ∧ ∀ i, i < ds.length → clOK (clO ds i) = true ∧ ctxOK (ds.getD i default).cx = true := by
  constructor
  · intro h
    obtain ⟨h1, h2, h3⟩ := validO_ok h
    have hp := PO.of_valid h
    refine ⟨h1, h2, hp, ⟨fun i hi h0 ho => ?_, fun i hi ho => ?_⟩, fun i hi => ?_⟩
    · have h4 := h3 i hi
      unfold okO okD at h4
      unfold isO at ho
      simp only [Bool.and_eq_true, ho, Bool.true_and, Bool.not_true, Bool.false_and, Bool.or_false, Bool.or_eq_true, decide_eq_true_eq] at h4
      rcases h4.2.2 with e | e
      · omega
      · exact e
    · have h4 := h3 i hi
      unfold okO okD at h4
      unfold isO at ho
      simp only [Bool.and_eq_true, ho, Bool.false_and, Bool.not_false, Bool.true_and, Bool.false_or, decide_eq_true_eq] at h4
      exact List.eq_nil_of_length_eq_zero h4.2.2
    · have h4 := h3 i hi
      unfold okO okD at h4
      simp only [Bool.and_eq_true] at h4
      exact ⟨h4.2.1.1, h4.2.1.2⟩
  · rintro ⟨h1, h2, hp, hv, hc⟩
    rw [okO_all ds fun i hi => ?_]
    · rw [rng_iff]; omega
    · unfold okO okD
      simp only [Bool.and_eq_true]
      refine ⟨?_, hc i hi, ?_⟩
      · unfold parOK
        by_cases h0 : i = 0
        · rw [if_pos h0, beq_iff_eq]; exact (hp i hi).1 h0
        · rw [if_neg h0, rng_iff]
          have := (hp i hi).2 (by omega)
          omega
      · cases ho : (ds.getD i default).o
        · have := hv.no i hi ho
          unfold clO at this
          rw [this]; rfl
        · simp only [Bool.true_and, Bool.not_true, Bool.false_and, Bool.or_false, Bool.or_eq_true, decide_eq_true_eq]
          rcases Nat.eq_zero_or_pos i with h0 | h0
          · exact .inl h0
          · exact .inr (hv.up i hi h0 ho)

theorem valid_new {xs : List Int} (h : ctxOK xs = true) : validO (newF xs) = true := by
  have e : newF xs = [⟨-1, true, [], xs⟩] := by unfold newF; rw [if_pos h]
  rw [e, validO_iff]
  refine ⟨by simp, by simp, fun i hi => ?_, ⟨fun i hi h0 _ => ?_, fun i hi ho => ?_⟩, fun i hi => ?_⟩
  all_goals obtain rfl : i = 0 := by simpa using hi
  · exact ⟨fun _ => rfl, fun h => by omega⟩
  · omega
  · cases ho
  · exact ⟨rfl, h⟩
theorem hasOpO_is {ds : List On} {o : Int} (h : hasOpO ds o = true) : ∃ k : Nat, o = k ∧ k < ds.length ∧ validO ds = true ∧ isO ds k = true := by
  have h2 := h
  unfold hasOpO at h2
  rw [Bool.and_eq_true] at h2
  obtain ⟨k, rfl, hk, hv⟩ := hasOpO_at h
  refine ⟨k, rfl, hk, hv, ?_⟩
  have := h2.2
  unfold opn at this
  simpa [isO] using this
theorem valid_open {ds : List On} {o : Int} (h : openB ds o = true) : openF ds o = ds ++ [newD o] ∧ validO (ds ++ [newD o]) = true := by
  have h1 := h
  unfold openB at h1
  rw [Bool.and_eq_true] at h1
  obtain ⟨k, rfl, hk, hv, ho⟩ := hasOpO_is h1.1
  have hl : ds.length ≠ 12 := by simpa using h1.2
  refine ⟨by unfold openF; rw [if_pos h], ?_⟩
  rw [validO_iff] at hv ⊢
  obtain ⟨v1, v2, v3, v4, v5⟩ := hv
  have hg (i : Nat) := getD_snoc ds (newD (k : Int)) i
  refine ⟨by simp, by simp; omega, fun i hi => ?_, ⟨fun i hi h0 hio => ?_, fun i hi hio => ?_⟩, fun i hi => ?_⟩
  all_goals (rw [List.length_append] at hi; simp only [List.length_singleton] at hi)
  · rw [hg]
    by_cases e : i = ds.length
    · rw [if_pos e]
      exact ⟨fun h => by omega, fun _ => ⟨by show (0 : Int) ≤ (k : Int); omega, by show (k : Int) < (i : Int); omega⟩⟩
    · rw [if_neg e]; exact v3 i (by omega)
  · have hp : parN (ds ++ [newD (k : Int)]) i = if i = ds.length then k else parN ds i := by
      unfold parN; rw [hg]
      by_cases e : i = ds.length
      · rw [if_pos e, if_pos e]; show ((k : Int)).toNat = k; omega
      · rw [if_neg e, if_neg e]
    have hlt : ∀ j, j < ds.length → isO (ds ++ [newD (k : Int)]) j = isO ds j := fun j hj => by unfold isO; rw [hg, if_neg (by omega)]
    rw [hp]
    by_cases e : i = ds.length
    · rw [if_pos e, hlt k hk]; exact ho
    · rw [if_neg e, hlt _ (by have := par_lt v3 i (by omega) h0; omega)]
      rw [hlt i (by omega)] at hio
      exact v4.up i (by omega) h0 hio
  · unfold isO at hio
    unfold clO
    rw [hg] at hio ⊢
    by_cases e : i = ds.length
    · rw [if_pos e]; rfl
    · rw [if_neg e] at hio ⊢
      exact v4.no i (by omega) hio
  · unfold clO
    rw [hg]
    by_cases e : i = ds.length
    · rw [if_pos e]; exact ⟨rfl, by unfold newD; rfl⟩
    · rw [if_neg e]; exact v5 i (by omega)
/-- One owner has other lists. -/
theorem valid_set {ds : List On} (hv : validO ds = true) (k : Nat) (hk : k < ds.length) (d : On) (hp : d.p = (ds.getD k default).p) (ho : d.o = (ds.getD k default).o) (hc : clOK d.cl = true) (hx : ctxOK d.cx = true) (hn : d.o = false → d.cl = []) : validO (ds.set k d) = true := by
  rw [validO_iff] at hv ⊢
  obtain ⟨v1, v2, v3, v4, v5⟩ := hv
  have hg (i : Nat) := getD_set ds k i d hk
  have hpar : ∀ i, ((ds.set k d).getD i default).p = (ds.getD i default).p := fun i => by
    rw [hg]
    by_cases e : i = k
    · rw [if_pos e, e]; exact hp
    · rw [if_neg e]
  have hop : ∀ i, isO (ds.set k d) i = isO ds i := fun i => by
    unfold isO; rw [hg]
    by_cases e : i = k
    · rw [if_pos e, e]; exact ho
    · rw [if_neg e]
  have hpn : ∀ i, parN (ds.set k d) i = parN ds i := fun i => by unfold parN; rw [hpar]
  refine ⟨by simpa using v1, by simpa using v2, fun i hi => ?_, ⟨fun i hi h0 hio => ?_, fun i hi hio => ?_⟩, fun i hi => ?_⟩
  all_goals rw [List.length_set] at hi
  · rw [hpar]; exact v3 i hi
  · rw [hop, hpn]; rw [hop] at hio; exact v4.up i hi h0 hio
  · rw [hop] at hio
    unfold clO; rw [hg]
    by_cases e : i = k
    · rw [if_pos e]; exact hn (by rw [ho, ← e]; exact hio)
    · rw [if_neg e]; exact v4.no i hi hio
  · unfold clO; rw [hg]
    by_cases e : i = k
    · rw [if_pos e]; exact ⟨hc, hx⟩
    · rw [if_neg e]; exact v5 i hi
theorem valid_add {ds : List On} {o l : Int} (h : addB ds o l = true) : ∃ k : Nat, o = k ∧ k < ds.length ∧ addF ds o l = ds.set k (withCl ds k l) ∧ validO (ds.set k (withCl ds k l)) = true := by
  have h1 := h
  unfold addB at h1
  simp only [Bool.and_eq_true] at h1
  obtain ⟨k, rfl, hk, hv, ho⟩ := hasOpO_is h1.1
  refine ⟨k, rfl, hk, by unfold addF; rw [if_pos h]; simp, ?_⟩
  have v5 := ((validO_iff ds).1 hv).2.2.2.2 k hk
  refine valid_set hv k hk _ rfl rfl ?_ v5.2 (fun e => by
    unfold isO at ho
    rw [show (withCl ds k l).o = (ds.getD k default).o from rfl, ho] at e; cases e)
  have h2 := h1.2.1
  have h3 : (ds.getD k default).cl.length ≠ 5 := by simpa using h1.2.2
  have h4 := v5.1
  unfold clOK clO at *
  simp only [Bool.and_eq_true, decide_eq_true_eq] at h4 ⊢
  refine ⟨by show ((ds.getD k default).cl ++ [l]).length ≤ 5; rw [List.length_append, List.length_singleton]; omega, ?_⟩
  show allR ((ds.getD k default).cl ++ [l]) 0 50 = true
  unfold allR at *
  rw [List.all_append, h4.2]
  simpa using h2
theorem valid_ctx {ds : List On} {o key x : Int} (h : ctxB ds o key x = true) : ∃ k q : Nat, o = k ∧ k < ds.length ∧ key = q ∧ q < 3 ∧ 0 ≤ x ∧ x ≤ 50 ∧ isO ds k = true ∧ validO ds = true ∧ ctxF ds o key x = ds.set k (withCx ds k q x) ∧ validO (ds.set k (withCx ds k q x)) = true := by
  have h1 := h
  unfold ctxB at h1
  simp only [Bool.and_eq_true] at h1
  obtain ⟨k, rfl, hk, hv, ho⟩ := hasOpO_is h1.1
  have hkey := (rng_iff _ _ _).1 h1.2.1
  have hx := (rng_iff _ _ _).1 h1.2.2
  obtain ⟨q, rfl⟩ : ∃ q : Nat, key = q := ⟨key.toNat, by omega⟩
  have v5 := ((validO_iff ds).1 hv).2.2.2.2 k hk
  refine ⟨k, q, rfl, hk, rfl, by omega, hx.1, hx.2, ho, hv, by unfold ctxF; rw [if_pos h]; simp, ?_⟩
  refine valid_set hv k hk _ rfl rfl v5.1 ?_ (fun e => by
    unfold isO at ho
    rw [show (withCx ds k q x).o = (ds.getD k default).o from rfl, ho] at e; cases e)
  have h4 := v5.2
  unfold ctxOK at *
  simp only [Bool.and_eq_true, decide_eq_true_eq] at h4 ⊢
  refine ⟨by show ((ds.getD k default).cx.set q x).length = 3; rw [List.length_set]; exact h4.1, ?_⟩
  show allR ((ds.getD k default).cx.set q x) (-1) 50 = true
  have h5 := h4.2
  unfold allR at *
  rw [List.all_eq_true] at *
  intro y hy
  rcases List.mem_or_eq_of_mem_set hy with h6 | rfl
  · exact h5 y h6
  · rw [rng_iff]; omega
theorem valid_rer {ds : List On} {o : Int} (h : hasOpO ds o = true) : ∃ k : Nat, o = k ∧ k < ds.length ∧ validO ds = true ∧ isO ds k = true ∧ rerF ds o = (clr ds.length ds k).2 ∧ rerL ds o = (clr ds.length ds k).1 ∧ ClrP ds (clr ds.length ds k).2 k ∧ SameP ds (clr ds.length ds k).2 ∧ validO (clr ds.length ds k).2 = true := by
  obtain ⟨k, rfl, hk, hv, ho⟩ := hasOpO_is h
  have hv2 := (validO_iff ds).1 hv
  obtain ⟨c1, c2⟩ := clr_facts ds.length ds k (by omega) hk hv2.2.2.1 hv2.2.2.2.1 ho
  have hs := clr_same ds.length ds k
  refine ⟨k, rfl, hk, hv, ho, by unfold rerF; rw [if_pos h]; simp, by unfold rerL; rw [if_pos h]; simp, c1, hs, ?_⟩
  rw [validO_iff]
  refine ⟨by rw [hs.len]; exact hv2.1, by rw [hs.len]; exact hv2.2.1, hv2.2.2.1.same hs, c2, fun i hi => ?_⟩
  rw [hs.len] at hi
  rw [hs.cxs]
  refine ⟨?_, (hv2.2.2.2.2 i hi).2⟩
  by_cases hb : Und ds k i
  · by_cases e : i = k
    · rw [e, c1.own.2]; rfl
    · rw [(c1.low i hi e hb).2]; rfl
  · rw [(c1.out i hi hb).2]; exact (hv2.2.2.2.2 i hi).1
theorem valid_disp {ds : List On} {o : Int} (h : dispB ds o = true) : ∃ k : Nat, o = k ∧ 0 < k ∧ k < ds.length ∧ validO ds = true ∧ isO ds k = true ∧ dispF ds o = shut (clr ds.length ds k).2 k ∧ dispL ds o = (clr ds.length ds k).1 ∧ ClrP ds (clr ds.length ds k).2 k ∧ SameP ds (clr ds.length ds k).2 ∧ validO (shut (clr ds.length ds k).2 k) = true := by
  obtain ⟨k, rfl, hk, hv, ho, -, -, c1, hs, hvr⟩ := valid_rer (dispB_has h)
  have h0 : 0 < k := by
    unfold dispB at h
    simp at h
    have := h.2
    omega
  refine ⟨k, rfl, h0, hk, hv, ho, by unfold dispF; rw [if_pos h]; simp, by unfold dispL; rw [if_pos h]; simp, c1, hs, ?_⟩
  have hp := ((validO_iff ds).1 hv).2.2.1
  have hv2 := (validO_iff _).1 hvr
  have hke : k < (clr ds.length ds k).2.length := by rw [hs.len]; exact hk
  rw [validO_iff]
  refine ⟨by rw [shut_len]; exact hv2.1, by rw [shut_len]; exact hv2.2.1, hv2.2.2.1.same (SameP.shut _ _), ⟨fun i hi hi0 hio => ?_, fun i hi hio => ?_⟩, fun i hi => ?_⟩
  all_goals rw [shut_len] at hi
  · rw [isO_shut _ _ _ hke] at hio ⊢
    have hik : i ≠ k := fun e => by rw [if_pos e] at hio; cases hio
    rw [if_neg hik] at hio
    rw [(SameP.shut _ _).parE]
    have hid : i < ds.length := by rw [hs.len] at hi; exact hi
    have hpk : parN (clr ds.length ds k).2 i ≠ k := fun e => by
      rw [hs.parE] at e
      have hb : Und ds k i := (Und_iff hp k i hid).2 (.inr ⟨hi0, by rw [e]; exact Und_self hp k hk⟩)
      rw [(c1.low i hid hik hb).1] at hio; cases hio
    rw [if_neg hpk]
    exact hv2.2.2.2.1.up i hi hi0 hio
  · rw [isO_shut _ _ _ hke] at hio
    rw [clO_shut]
    by_cases e : i = k
    · rw [e]; exact c1.own.2
    · rw [if_neg e] at hio
      exact hv2.2.2.2.1.no i hi hio
  · rw [clO_shut, (SameP.shut _ _).cxs]
    exact hv2.2.2.2.2 i hi
end Go.Proofs.Ytjhpknnhgbdkiaa
