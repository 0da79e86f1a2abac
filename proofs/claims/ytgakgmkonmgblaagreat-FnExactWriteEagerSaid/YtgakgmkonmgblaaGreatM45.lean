/- Writing keeps the meaning: the eager machine behind it is the one that begins with the cells that were written; what ran must run. -/
import Derived.Test.YtgakgmkonmgblaaGreatM44
import Derived.Test.YtgakgmkonmgblaaGreatA1

namespace Go.Proofs.YtgakgmkonmgblaaGreat
set_option linter.unusedSimpArgs false
set_option linter.unusedVariables false
open Go.RowKit

/-- The cells behind the first k writes. -/
def wrC (a xs ys : List Int) : Nat → List Int
  | 0 => a
  | k + 1 => (wrC a xs ys k).set (xs.getD k 0).toNat (ys.getD k 0)
theorem wrC_len (a xs ys : List Int) : ∀ k, (wrC a xs ys k).length = a.length := by
  intro k
  induction k with
  | zero => rfl
  | succ k ih => rw [wrC, List.length_set]; exact ih
theorem validC_iff (gs : List Nd) (cs : List Int) : validC gs cs = true ↔ cs.length = gs.length ∧ allR cs 0 999 = true ∧ ∀ i, i < gs.length → ((gs.getD i default).k == 0) = false → cs.getD i 0 = 0 := by
  constructor
  · intro h
    obtain ⟨h1, h2⟩ := validC_parts gs cs h
    refine ⟨h1, validC_allR gs cs h, fun i hi hk => ?_⟩
    have := h2 i hi
    unfold cellOK at this
    rw [hk] at this
    simp at this
    simpa [List.getD] using this.2
  · rintro ⟨h1, h2, h3⟩
    refine validC_fin gs cs h1 fun i hi => ?_
    have hx : rng (cs.getD i 0) 0 999 = true := by
      unfold allR at h2
      rw [List.all_eq_true] at h2
      refine h2 _ ?_
      rw [List.getD_eq_getElem?_getD, List.getElem?_eq_getElem (by omega)]
      exact List.getElem_mem _
    unfold cellOK
    rw [hx]
    cases hk : ((gs.getD i default).k == 0)
    · rw [h3 i hi hk]; rfl
    · rfl
theorem wrC_ok {gs : List Nd} {a xs ys : List Int} (ha : okC gs a = true) (hw : gwB gs xs ys = true) : ∀ k, k ≤ xs.length → okC gs (wrC a xs ys k) = true := by
  obtain ⟨g1, g2, g3, g4, g5⟩ := gw_parts hw
  intro k
  induction k with
  | zero => intro _; exact ha
  | succ k ih =>
    intro hk
    have h1 := ih (by omega)
    obtain ⟨hg, hc⟩ := okC_parts _ _ h1
    obtain ⟨c1, c2, c3⟩ := (validC_iff _ _).1 hc
    obtain ⟨q, e, hq, hqk⟩ := isC_at (g5 k (by omega))
    have hm : ys.getD k 0 ∈ ys := by rw [List.getD_eq_getElem?_getD, List.getElem?_eq_getElem (by omega)]; exact List.getElem_mem _
    unfold allR at g3
    rw [List.all_eq_true] at g3
    have hy := wr_rng (g3 _ hm)
    unfold okC
    rw [hg, Bool.true_and]
    refine (validC_iff _ _).2 ⟨by rw [wrC, List.length_set]; exact c1, by rw [wrC]; exact allR_set _ _ _ _ _ c2 hy.1 hy.2, fun i hi hik => ?_⟩
    rw [wrC, e, Int.toNat_natCast, ws_getD _ _ _ _ (by omega)]
    by_cases eq : i = q
    · subst eq; rw [hqk] at hik; cases hik
    · rw [if_neg eq]; exact c3 i hi hik
/-- Where the values that are read are the same, the value and the reads are. -/
theorem val_agree {gs : List Nd} (hg : validG gs = true) (i : Nat) (hi : i < gs.length) (hk : ((gs.getD i default).k == 0) = false) (vs vs' : List Int) (h : ∀ q : Nat, q < i → (q : Int) ∈ depF gs vs i → vs'.getD q 0 = vs.getD q 0) : valE gs vs' i = valE gs vs i ∧ depF gs vs' i = depF gs vs i := by
  have hv := (nodeOK_formula gs i ((validG_parts gs hg).2 i hi) hk).1
  have hok := whole_ok _ i hv (each_ahead gs i i hg hi hk (Nat.le_refl _))
  have hall := rds_lt (whole (gs.getD i default).ps) vs i hok
  obtain ⟨e1, e2⟩ := ev_agree (whole (gs.getD i default).ps) vs vs' i hok fun x hx => by
    obtain ⟨q, hq, rfl⟩ := hall x hx
    rw [Int.toNat_natCast]
    refine h q hq ?_
    unfold depF
    rw [hk]
    simp only [Bool.false_eq_true, if_false]
    rw [firsts_mem]
    exact hx
  unfold valE depF
  rw [hk]
  simp only [Bool.false_eq_true, if_false]
  rw [e1, e2]
  exact ⟨rfl, rfl⟩
theorem dep_lt {gs : List Nd} (hg : validG gs = true) (i : Nat) (hi : i < gs.length) (vs : List Int) : ∀ x ∈ depF gs vs i, ∃ q : Nat, x = q ∧ q < i := by
  intro x hx
  unfold depF at hx
  split at hx
  · cases hx
  · rename_i hk
    have hk' : ((gs.getD i default).k == 0) = false := by simpa using hk
    have hv := (nodeOK_formula gs i ((validG_parts gs hg).2 i hi) hk').1
    have hok := whole_ok _ i hv (each_ahead gs i i hg hi hk' (Nat.le_refl _))
    rw [firsts_mem] at hx
    obtain ⟨q, hq, e⟩ := rds_lt (whole (gs.getD i default).ps) vs i hok x hx
    exact ⟨q, e, hq⟩
theorem mean_val {gs : List Nd} {b : List Int} (hb : okC gs b = true) (i : Nat) (hi : i < gs.length) (hk : ((gs.getD i default).k == 0) = false) : (mean gs b).getD i 0 = valE gs (mean gs b) i := by
  have hg := (okC_parts gs b hb).1
  rw [mean_at gs b i hi, hk]
  simp only [Bool.false_eq_true, if_false]
  have := (val_agree hg i hi hk (mean gs b) (meanTo gs b i) fun q hq _ => (meanTo_getD gs b i gs.length q (by omega) hq).symm).1
  unfold valE at this
  rw [hk] at this
  simp only [Bool.false_eq_true, if_false] at this
  rw [this]
  unfold valE
  rw [hk]
  rfl
section
variable {gs : List Nd} {st : Eg} {xs ys : List Int}
/-- Behind the writes, before a node ran. -/
theorem wA_facts (hv : validE gs st = true) (hw : gwB gs xs ys = true) : ∀ k, k ≤ xs.length → ∀ q, q < gs.length → (((gs.getD q default).k == 0) = true → (wA st.vs xs ys k).1.getD q 0 = (wrC (cellsF gs st) xs ys k).getD q 0) ∧ (((gs.getD q default).k == 0) = false → (wA st.vs xs ys k).1.getD q 0 = st.vs.getD q 0) ∧ ((q : Int) ∈ (wA st.vs xs ys k).2 ↔ (wA st.vs xs ys k).1.getD q 0 ≠ st.vs.getD q 0) := by
  obtain ⟨h1, h2, h3, h4, h5⟩ := validE_parts gs st hv
  obtain ⟨g1, g2, g3, g4, g5⟩ := gw_parts hw
  have hcl := (cells_ok gs st hv).2
  intro k
  induction k with
  | zero =>
    intro _ q hq
    refine ⟨fun hk => ?_, fun _ => rfl, by simp [wA]⟩
    show st.vs.getD q 0 = (cellsF gs st).getD q 0
    have e : cellsF gs st = celTo gs st.vs gs.length := by unfold cellsF; rw [hv]; rfl
    rw [e, celTo_get gs st.vs gs.length q (by omega), if_neg]
    rintro ⟨_, h⟩
    rw [hk] at h; cases h
  | succ k ih =>
    intro hk q hq
    obtain ⟨i1, i2, i3⟩ := ih (by omega) q hq
    obtain ⟨p, e, hp, hpk⟩ := isC_at (g5 k (by omega))
    have hpl : p < (wA st.vs xs ys k).1.length := by rw [wA_len]; omega
    have hval : (wA st.vs xs ys (k + 1)).1.getD q 0 = if q = p then ys.getD k 0 else (wA st.vs xs ys k).1.getD q 0 := by
      rw [wA_step, e, Int.toNat_natCast, ws_getD _ _ _ _ hpl]
    have hch := wA_ch (vs := st.vs) (ys := ys) g4 k (by omega) (q : Int)
    refine ⟨fun hqk => ?_, fun hqk => ?_, ?_⟩
    · rw [hval, wrC, e, Int.toNat_natCast, ws_getD _ _ _ _ (by rw [wrC_len]; omega)]
      by_cases eq : q = p
      · rw [if_pos eq, if_pos eq]
      · rw [if_neg eq, if_neg eq]; exact i1 hqk
    · have hne : q ≠ p := by rintro rfl; rw [hpk] at hqk; cases hqk
      rw [hval, if_neg hne]; exact i2 hqk
    · have hold : (wA st.vs xs ys k).1.getD p 0 = st.vs.getD p 0 := by
        apply Classical.byContradiction
        intro hc
        have := ((ih (by omega) p hp).2.2).2 hc
        have hnew := wA_new (vs := st.vs) (ys := ys) g4 k (by omega)
        rw [e] at hnew
        exact hnew this
      rw [hval]
      by_cases eq : q = p
      · subst eq
        rw [if_pos e.symm, e, Int.toNat_natCast, hold] at hch
        rw [if_pos rfl]
        constructor
        · intro hm
          rw [decide_eq_true hm] at hch
          intro hc
          rw [← hc] at hch
          simp at hch
        · intro hne
          have : (st.vs.getD q 0 == ys.getD k 0) = false := by rw [beq_eq_false_iff_ne]; exact fun h => hne h.symm
          rw [this] at hch
          exact of_decide_eq_true hch
      · have hne : ¬ (q : Int) = xs.getD k 0 := by rw [e]; omega
        rw [if_neg hne] at hch
        rw [if_neg eq, ← i3]
        exact ⟨fun h => of_decide_eq_true (by rw [← hch]; exact decide_eq_true h), fun h => of_decide_eq_true (by rw [hch]; exact decide_eq_true h)⟩
/-- Behind the first i nodes. -/
structure WAt (gs : List Nd) (M0 M1 : List Int) (s : Ew) (i : Nat) : Prop where
  vs : ∀ q, q < gs.length → s.vs.getD q 0 = if ((gs.getD q default).k == 0) = true ∨ q < i then M1.getD q 0 else M0.getD q 0
  rs : ∀ q, q < gs.length → s.rs.getD q [] = if q < i then depF gs M1 q else depF gs M0 q
  ch : ∀ q : Nat, q < gs.length → ((q : Int) ∈ s.ch ↔ (((gs.getD q default).k == 0) = true ∨ q < i) ∧ M0.getD q 0 ≠ M1.getD q 0)
  rn : s.rn = nwTo (mustP gs M0 (diffTo M0 M1 gs.length)) i
theorem diffTo_in (a b : List Int) (n q : Nat) (hq : q < n) : (q : Int) ∈ diffTo a b n ↔ a.getD q 0 ≠ b.getD q 0 :=
  ⟨diffTo_iff a b n q, fun h => by
    apply Classical.byContradiction
    intro hc
    exact h (diffTo_mem a b n q hq hc)⟩
theorem wB_at (hv : validE gs st = true) (hw : gwB gs xs ys = true) : ∀ i, i ≤ gs.length → WAt gs st.vs (mean gs (wrC (cellsF gs st) xs ys xs.length)) (wB gs (wS gs st xs ys) i) i := by
  obtain ⟨h1, h2, h3, h4, h5⟩ := validE_parts gs st hv
  have hb := wrC_ok (cells_ok gs st hv).1 hw xs.length (Nat.le_refl _)
  generalize hbe : wrC (cellsF gs st) xs ys xs.length = b at *
  have hok := wB_ok h1 (wS_ok hv hw)
  intro i
  induction i with
  | zero =>
    intro _
    have hcell : ∀ q, q < gs.length → ((gs.getD q default).k == 0) = true → (mean gs b).getD q 0 = b.getD q 0 := fun q hq hk => by rw [mean_at gs b q hq, hk]; simp
    refine ⟨fun q hq => ?_, fun q hq => ?_, fun q hq => ?_, rfl⟩
    · obtain ⟨i1, i2, _⟩ := wA_facts hv hw xs.length (Nat.le_refl _) q hq
      show (wA st.vs xs ys xs.length).1.getD q 0 = _
      cases hk : ((gs.getD q default).k == 0)
      · rw [if_neg (by simp), i2 hk]
      · rw [if_pos (by simp), hcell q hq hk, i1 hk, hbe]
    · rw [if_neg (by omega)]
      show st.rs.getD q [] = _
      have := h5 q hq
      unfold okE at this
      rw [Bool.and_eq_true, decide_eq_true_eq] at this
      exact this.2.symm
    · obtain ⟨i1, i2, i3⟩ := wA_facts hv hw xs.length (Nat.le_refl _) q hq
      show (q : Int) ∈ (wA st.vs xs ys xs.length).2 ↔ _
      rw [i3]
      cases hk : ((gs.getD q default).k == 0)
      · rw [i2 hk]; simp
      · rw [i1 hk, hbe, hcell q hq hk]
        simp
        exact ⟨fun h e => h e.symm, fun h e => h e.symm⟩
  | succ i ih =>
    intro hi
    have hI := ih (by omega)
    have hO := hok i (by omega)
    have hil : i < gs.length := by omega
    rw [wB_succ]
    generalize wB gs (wS gs st xs ys) i = s at *
    generalize hM1 : mean gs b = M1 at *
    have hM1l : M1.length = gs.length := by rw [← hM1]; exact mean_len gs _
    cases hk : ((gs.getD i default).k == 0)
    case true =>
      have hgo : wGo gs s i = false := by unfold wGo; rw [hk]; rfl
      rw [hgo]
      simp only [Bool.false_eq_true, if_false]
      have hd : ∀ M, depF gs M i = [] := fun M => by unfold depF; rw [hk]; rfl
      refine ⟨fun q hq => ?_, fun q hq => ?_, fun q hq => ?_, ?_⟩
      · rw [hI.vs q hq]
        by_cases e : q = i
        · subst e; rw [if_pos (.inl hk), if_pos (.inl hk)]
        · have : (((gs.getD q default).k == 0) = true ∨ q < i) ↔ (((gs.getD q default).k == 0) = true ∨ q < i + 1) := ⟨fun h => h.imp id (by omega), fun h => h.imp id (by omega)⟩
          simp only [this]
      · rw [hI.rs q hq]
        by_cases e : q = i
        · subst e; rw [hd, hd]; simp
        · by_cases e2 : q < i
          · rw [if_pos e2, if_pos (by omega)]
          · rw [if_neg e2, if_neg (by omega)]
      · rw [hI.ch q hq]
        by_cases e : q = i
        · subst e; rw [hk]; simp
        · have : (((gs.getD q default).k == 0) = true ∨ q < i) ↔ (((gs.getD q default).k == 0) = true ∨ q < i + 1) := ⟨fun h => h.imp id (by omega), fun h => h.imp id (by omega)⟩
          rw [this]
      · rw [hI.rn, nwTo_step]
        have : mustP gs st.vs (diffTo st.vs M1 gs.length) i = false := by unfold mustP; rw [hk]; rfl
        rw [this]; simp
    case false =>
      have hrs : s.rs.getD i [] = depF gs st.vs i := by rw [hI.rs i hil, if_neg (by omega)]
      have hin : ∀ q ∈ depF gs st.vs i, (q ∈ s.ch ↔ q ∈ diffTo st.vs M1 gs.length) := fun q hq => by
        obtain ⟨p, rfl, hp⟩ := dep_lt h1 i hil st.vs q hq
        rw [hI.ch p (by omega), diffTo_in _ _ _ _ (by omega)]
        exact ⟨fun h => h.2, fun h => ⟨.inr hp, h⟩⟩
      have hgo : wGo gs s i = mustP gs st.vs (diffTo st.vs M1 gs.length) i := by
        unfold wGo mustP
        rw [hrs]
        congr 1
        unfold meetB
        rw [Bool.eq_iff_iff, List.any_eq_true, List.any_eq_true]
        exact ⟨fun ⟨x, hx, h⟩ => ⟨x, hx, decide_eq_true ((hin x hx).1 (of_decide_eq_true h))⟩, fun ⟨x, hx, h⟩ => ⟨x, hx, decide_eq_true ((hin x hx).2 (of_decide_eq_true h))⟩⟩
      have hMv := mean_val hb i hil hk
      rw [hM1] at hMv
      cases hm : mustP gs st.vs (diffTo st.vs M1 gs.length) i
      · rw [hgo, hm]
        simp only [Bool.false_eq_true, if_false]
        have hag : ∀ q : Nat, q < i → (q : Int) ∈ depF gs st.vs i → M1.getD q 0 = st.vs.getD q 0 := fun q hq hqd => by
          apply Classical.byContradiction
          intro hc
          have : mustP gs st.vs (diffTo st.vs M1 gs.length) i = true := by
            unfold mustP
            rw [hk]
            exact List.any_eq_true.2 ⟨_, hqd, decide_eq_true ((diffTo_in _ _ _ _ (by omega)).2 fun h => hc h.symm)⟩
          rw [this] at hm; cases hm
        obtain ⟨e1, e2⟩ := val_agree h1 i hil hk st.vs M1 hag
        have hsv : valE gs st.vs i = st.vs.getD i 0 := by
          have := h5 i hil
          unfold okE at this
          rw [Bool.and_eq_true, beq_iff_eq] at this
          exact this.1
        have hsame : M1.getD i 0 = st.vs.getD i 0 := by rw [hMv, e1, hsv]
        refine ⟨fun q hq => ?_, fun q hq => ?_, fun q hq => ?_, ?_⟩
        · rw [hI.vs q hq]
          by_cases e : q = i
          · subst e; rw [if_neg (by rw [hk]; simp), if_pos (.inr (by omega)), hsame]
          · have : (((gs.getD q default).k == 0) = true ∨ q < i) ↔ (((gs.getD q default).k == 0) = true ∨ q < i + 1) := ⟨fun h => h.imp id (by omega), fun h => h.imp id (by omega)⟩
            simp only [this]
        · rw [hI.rs q hq]
          by_cases e : q = i
          · subst e; rw [if_neg (by omega), if_pos (by omega), e2]
          · by_cases e3 : q < i
            · rw [if_pos e3, if_pos (by omega)]
            · rw [if_neg e3, if_neg (by omega)]
        · rw [hI.ch q hq]
          by_cases e : q = i
          · subst e; rw [hk, hsame]; simp
          · have : (((gs.getD q default).k == 0) = true ∨ q < i) ↔ (((gs.getD q default).k == 0) = true ∨ q < i + 1) := ⟨fun h => h.imp id (by omega), fun h => h.imp id (by omega)⟩
            rw [this]
        · rw [hI.rn, nwTo_step, hm]; simp
      · rw [hgo, hm]
        simp only [if_true]
        have hag : ∀ q : Nat, q < i → s.vs.getD q 0 = M1.getD q 0 := fun q hq => by rw [hI.vs q (by omega), if_pos (.inr hq)]
        obtain ⟨e1, e2⟩ := val_agree h1 i hil hk M1 s.vs fun q hq _ => hag q hq
        have hx : valE gs s.vs i = M1.getD i 0 := by rw [e1, hMv]
        have hsi : s.vs.getD i 0 = st.vs.getD i 0 := by rw [hI.vs i hil, if_neg (by rw [hk]; simp)]
        refine ⟨fun q hq => ?_, fun q hq => ?_, fun q hq => ?_, ?_⟩
        · show (s.vs.set i (valE gs s.vs i)).getD q 0 = _
          rw [ws_getD _ _ _ _ (by rw [hO.vl]; exact hil), hx]
          by_cases e : q = i
          · subst e; rw [if_pos rfl, if_pos (.inr (by omega))]
          · rw [if_neg e, hI.vs q hq]
            have : (((gs.getD q default).k == 0) = true ∨ q < i) ↔ (((gs.getD q default).k == 0) = true ∨ q < i + 1) := ⟨fun h => h.imp id (by omega), fun h => h.imp id (by omega)⟩
            simp only [this]
        · show (s.rs.set i (depF gs s.vs i)).getD q [] = _
          rw [wr_getD _ _ _ _ (by rw [hO.rl]; exact hil), e2]
          by_cases e : q = i
          · subst e; rw [if_pos rfl, if_pos (by omega)]
          · rw [if_neg e, hI.rs q hq]
            by_cases e3 : q < i
            · rw [if_pos e3, if_pos (by omega)]
            · rw [if_neg e3, if_neg (by omega)]
        · have hch := wRun_ch hO hk (q : Int)
          by_cases e : q = i
          · subst e
            rw [if_pos rfl, hsi, hx] at hch
            constructor
            · intro hmm
              rw [decide_eq_true hmm] at hch
              refine ⟨.inr (by omega), fun hc => ?_⟩
              rw [hc] at hch; simp at hch
            · rintro ⟨_, hne⟩
              have : (st.vs.getD q 0 == M1.getD q 0) = false := by rw [beq_eq_false_iff_ne]; exact hne
              rw [this] at hch
              exact of_decide_eq_true hch
          · rw [if_neg (by omega)] at hch
            have h9 : (q : Int) ∈ (wRun gs s i).ch ↔ (q : Int) ∈ s.ch := ⟨fun h => of_decide_eq_true (by rw [← hch]; exact decide_eq_true h), fun h => of_decide_eq_true (by rw [hch]; exact decide_eq_true h)⟩
            rw [h9, hI.ch q hq]
            have : (((gs.getD q default).k == 0) = true ∨ q < i) ↔ (((gs.getD q default).k == 0) = true ∨ q < i + 1) := ⟨fun h => h.imp id (by omega), fun h => h.imp id (by omega)⟩
            rw [this]
        · show s.rn ++ [(i : Int)] = _
          rw [hI.rn, nwTo_step, hm]; simp
/-- Writing is beginning with the cells that were written; what ran is what must run. -/
theorem write_facts (h : wrtB gs st xs ys = true) : validE gs st = true ∧ okC gs (cellsF gs st) = true ∧ okC gs (wrC (cellsF gs st) xs ys xs.length) = true ∧ writeF gs st xs ys = startF gs (wrC (cellsF gs st) xs ys xs.length) ∧ writeR gs st xs ys = mustF gs (cellsF gs st) (wrC (cellsF gs st) xs ys xs.length) := by
  unfold writeF writeR
  rw [h]
  simp only [if_true]
  unfold wrtB at h
  rw [Bool.and_eq_true] at h
  obtain ⟨hv, hw⟩ := h
  obtain ⟨h1, h2, h3, h4, h5⟩ := validE_parts gs st hv
  have ha := (cells_ok gs st hv).1
  have hb := wrC_ok ha hw xs.length (Nat.le_refl _)
  have hat := wB_at hv hw gs.length (Nat.le_refl _)
  have hok := wB_ok h1 (wS_ok hv hw) gs.length (Nat.le_refl _)
  have hmc := mean_cells gs st hv
  refine ⟨hv, ha, hb, ?_, ?_⟩
  · unfold wrtE startF
    rw [hb]
    simp only [if_true]
    generalize wB gs (wS gs st xs ys) gs.length = s at *
    have e1 : s.vs = mean gs (wrC (cellsF gs st) xs ys xs.length) := ext_getD0 _ _ (by rw [hok.vl, mean_len gs _]) fun q hq => by
      rw [hok.vl] at hq
      rw [hat.vs q hq, if_pos (.inr hq)]
    have e2 : s.rs = depTo gs (mean gs (wrC (cellsF gs st) xs ys xs.length)) gs.length := ext_getDn _ _ (by rw [hok.rl, depTo_len]) fun q hq => by
      rw [hok.rl] at hq
      rw [hat.rs q hq, if_pos hq, depTo_get _ _ _ _ hq]
    rw [e1, e2]
  · unfold wrtR mustF
    have hcb : chgB gs (cellsF gs st) (wrC (cellsF gs st) xs ys xs.length) = true := by
      obtain ⟨a1, a2⟩ := okC_parts _ _ ha
      obtain ⟨_, b2⟩ := okC_parts _ _ hb
      unfold chgB
      rw [a1, a2, b2]
      rfl
    rw [hcb, hat.rn, hmc]
    rfl
end
end Go.Proofs.YtgakgmkonmgblaaGreat
