/- Plain facts for the laws on ways in graphs. -/
import Derived.Test.YtdhjflhpenkchaaH3

namespace Go.Proofs.Ytdhjflhpenkchaa
set_option linter.unusedSimpArgs false
set_option linter.unusedVariables false
open Go.RowKit

/-- i is reached from x; i is needed for x. -/
def rchd (gs : List Nd) (x i : Nat) : Bool := decide ((i : Int) ∈ reachTo gs [(x : Int)] gs.length)
def ndd (gs : List Nd) (x i : Nat) : Bool := (metF gs [(x : Int)]).getD i false

theorem rchd_lt (gs : List Nd) (x i : Nat) (h : rchd gs x i = true) : i < gs.length := by
  obtain ⟨q, hq, e⟩ := reachTo_mem _ _ _ _ (of_decide_eq_true h)
  omega
theorem ndd_lt (gs : List Nd) (x i : Nat) (h : ndd gs x i = true) : i < gs.length := by
  rcases Nat.lt_or_ge i gs.length with h1 | h1
  · exact h1
  · unfold ndd at h; rw [met_out gs _ i h1] at h; cases h
theorem rchd_cl (gs : List Nd) (hv : validG gs = true) (x : Nat) : ClS (usN gs gs.length) (rchd gs x) := reach_cl gs hv _
theorem rchd_self (gs : List Nd) (x : Nat) (hx : x < gs.length) : rchd gs x x = true := decide_eq_true ((reachTo_iff gs _ _ x hx).2 (.inl (by simp)))
theorem rchd_min (gs : List Nd) (hv : validG gs = true) (x : Nat) (S : Nat → Bool) (hS : ClS (usN gs gs.length) S) (hx : S x = true) (y : Nat) (hy : rchd gs x y = true) : S y = true :=
  reach_min gs hv [(x : Int)] S hS (fun z hz _ => by simp at hz; have : z = x := (by omega); subst this; exact hx) y (of_decide_eq_true hy)
theorem ndd_cl (gs : List Nd) (hv : validG gs = true) (x : Nat) : ClS (rdsN gs) (ndd gs x) := need_cl gs hv _
theorem ndd_self (gs : List Nd) (hv : validG gs = true) (x : Nat) (hx : x < gs.length) : ndd gs x x = true := need_has gs hv _ x hx (by simp)
theorem ndd_min (gs : List Nd) (hv : validG gs = true) (x : Nat) (S : Nat → Bool) (hS : ClS (rdsN gs) S) (hx : S x = true) (y : Nat) (hy : ndd gs x y = true) : S y = true :=
  need_min gs hv [(x : Int)] S hS (fun z hz _ => by simp at hz; have : z = x := (by omega); subst this; exact hx) y hy
theorem user_read (gs : List Nd) (hv : validG gs = true) (x u : Nat) : u ∈ usN gs gs.length x ↔ (u < gs.length ∧ x ∈ rdsN gs u) := by
  rw [mem_usN]
  constructor
  · rintro ⟨h1, h2⟩; exact ⟨h1, (mem_rdsN gs hv u x h1).2 h2⟩
  · rintro ⟨h1, h2⟩; exact ⟨h1, (mem_rdsN gs hv u x h1).1 h2⟩

theorem ndd_sub (gs : List Nd) (hv : validG gs = true) (x y z : Nat) (hy : ndd gs x y = true) (hz : ndd gs y z = true) : ndd gs x z = true :=
  ndd_min gs hv y (ndd gs x) (ndd_cl gs hv x) hy z hz
theorem rchd_sub (gs : List Nd) (hv : validG gs = true) (x y z : Nat) (hy : rchd gs x y = true) (hz : rchd gs y z = true) : rchd gs x z = true :=
  rchd_min gs hv y (rchd gs x) (rchd_cl gs hv x) hy z hz

/-- What is reached from x needs x, and the other way round. -/
theorem dual (gs : List Nd) (hv : validG gs = true) (x i : Nat) (hx : x < gs.length) (hi : i < gs.length) : rchd gs x i = ndd gs i x := by
  rw [Bool.eq_iff_iff]
  constructor
  · intro h
    refine rchd_min gs hv x (fun j => decide (j < gs.length) && ndd gs j x) (fun j hj u hu => ?_) (by simp [hx, ndd_self gs hv x hx]) i h |> fun h => by
      simp only [Bool.and_eq_true] at h; exact h.2
    simp only [Bool.and_eq_true, decide_eq_true_eq] at hj ⊢
    obtain ⟨h1, h2⟩ := (user_read gs hv j u).1 hu
    exact ⟨h1, ndd_sub gs hv u j x (ndd_cl gs hv u u (ndd_self gs hv u h1) j h2) hj.2⟩
  · intro h
    refine ndd_min gs hv i (fun j => decide (j < gs.length) && rchd gs j i) (fun j hj y hy => ?_) (by simp [hi, rchd_self gs i hi]) x h |> fun h => by
      simp only [Bool.and_eq_true] at h; exact h.2
    simp only [Bool.and_eq_true, decide_eq_true_eq] at hj ⊢
    have hyl := rdsN_lt gs hv j y hj.1 hy
    exact ⟨by omega, rchd_sub gs hv y j i (rchd_cl gs hv y y (rchd_self gs y (by omega)) j ((user_read gs hv y j).2 ⟨hj.1, hy⟩)) hj.2⟩

theorem reach_le (gs : List Nd) (hv : validG gs = true) (x i : Nat) (h : rchd gs x i = true) : x ≤ i := by
  have := rchd_min gs hv x (fun j => decide (x ≤ j)) (fun j hj u hu => by
    have := usN_gt gs hv _ _ _ (Nat.le_refl _) hu
    simp only [decide_eq_true_eq] at hj ⊢; omega) (by simp) i h
  simpa using this
theorem ndd_le (gs : List Nd) (hv : validG gs = true) (x i : Nat) (hx : x < gs.length) (h : ndd gs x i = true) : i ≤ x := by
  have := ndd_min gs hv x (fun j => decide (j ≤ x)) (fun j hj y hy => by
    simp only [decide_eq_true_eq] at hj ⊢
    have := rdsN_lt gs hv j y (by omega) hy
    omega) (by simp) i h
  simpa using this

/-- What a node needs: itself, and what its reads need. -/
theorem need_step (gs : List Nd) (hv : validG gs = true) (x i : Nat) (hx : x < gs.length) : ndd gs x i = true ↔ (i = x ∨ ∃ r ∈ rdsN gs x, ndd gs r i = true) := by
  constructor
  · intro h
    have := ndd_min gs hv x (fun j => decide (j = x) || (rdsN gs x).any fun r => ndd gs r j) (fun j hj y hy => by
      simp only [Bool.or_eq_true, decide_eq_true_eq, List.any_eq_true] at hj ⊢
      rcases hj with rfl | ⟨r, hr, hj⟩
      · exact .inr ⟨y, hy, ndd_self gs hv y (by have := rdsN_lt gs hv _ y hx hy; omega)⟩
      · exact .inr ⟨r, hr, ndd_cl gs hv r j hj y hy⟩) (by simp) i h
    simpa only [Bool.or_eq_true, decide_eq_true_eq, List.any_eq_true] using this
  · rintro (rfl | ⟨r, hr, h⟩)
    · exact ndd_self gs hv _ hx
    · exact ndd_sub gs hv x r i (ndd_cl gs hv x x (ndd_self gs hv x hx) r hr) h

/-- The lists that the functions answer. -/
theorem reachF_at (gs : List Nd) (t : Nat) (h : hasB gs t = true) : reachF gs t = nwTo (rchd gs t) gs.length := by
  unfold reachF
  rw [h, if_pos rfl]
  exact reachTo_nwTo gs _ gs.length gs.length (Nat.le_refl _)
theorem needF_at (gs : List Nd) (t : Nat) (h : hasB gs t = true) : needF gs t = nwTo (ndd gs t) gs.length := by
  unfold needF
  rw [h, if_pos rfl]; rfl
theorem usersF_at (gs : List Nd) (t : Nat) (h : hasB gs t = true) : usersF gs t = nwTo (fun u => decide ((t : Int) ∈ mayR (gs.getD u default).ps)) gs.length := by
  unfold usersF
  rw [h, if_pos rfl]; rfl
theorem reachF_mem (gs : List Nd) (t i : Nat) (h : hasB gs t = true) (hi : i < gs.length) : decide ((i : Int) ∈ reachF gs t) = rchd gs t i := by
  rw [reachF_at gs t h, Bool.eq_iff_iff, decide_eq_true_iff, nwTo_mem]
  exact ⟨fun h => h.2, fun h => ⟨hi, h⟩⟩
theorem needF_mem (gs : List Nd) (t i : Nat) (h : hasB gs t = true) (hi : i < gs.length) : decide ((i : Int) ∈ needF gs t) = ndd gs t i := by
  rw [needF_at gs t h, Bool.eq_iff_iff, decide_eq_true_iff, nwTo_mem]
  exact ⟨fun h => h.2, fun h => ⟨hi, h⟩⟩
theorem usersF_mem (gs : List Nd) (t i : Nat) (h : hasB gs t = true) (hi : i < gs.length) : decide ((i : Int) ∈ usersF gs t) = decide ((t : Int) ∈ mayR (gs.getD i default).ps) := by
  rw [usersF_at gs t h, Bool.eq_iff_iff, decide_eq_true_iff, nwTo_mem]
  exact ⟨fun h => h.2, fun h => ⟨hi, h⟩⟩
theorem hasB_nat (gs : List Nd) (hv : validG gs = true) (t : Nat) (ht : t < gs.length) : hasB gs t = true := by
  unfold hasB hasN rng
  rw [hv]
  simp
  omega

/-- Nodes of effects have no users. -/
theorem effect_users (gs : List Nd) (hv : validG gs = true) (t : Nat) (ht : t < gs.length) (hk : ((gs.getD t default).k == 2) = true) : usersF gs t = [] := by
  rw [usersF_at gs t (hasB_nat gs hv t ht)]
  have : ∀ u, u < gs.length → decide ((t : Int) ∈ mayR (gs.getD u default).ps) = false := fun u hu => by
    rw [decide_eq_false_iff_not]
    intro hm
    cases h0 : ((gs.getD u default).k == 0)
    · obtain ⟨_, hg⟩ := nodeOK_formula gs u ((validG_parts gs hv).2 u hu) h0
      unfold goodRd at hg
      rw [List.all_eq_true] at hg
      have := hg _ hm
      unfold rdOK at this
      simp only [Int.toNat_natCast, hk, Bool.not_true, Bool.and_false] at this
      cases this
    · rw [nodeOK_cell gs u ((validG_parts gs hv).2 u hu) h0, mayR_nil] at hm
      cases hm
  unfold nwTo
  rw [List.map_eq_nil_iff, List.filter_eq_nil_iff]
  intro u hu
  rw [this u (List.mem_range.1 hu)]; simp

/-- Heights: a node without reads has 0, and a user is higher. -/
theorem ht_at (gs : List Nd) (n i : Nat) (hi : i < n) : (htTo gs n).getD i 0 = (mayR (gs.getD i default).ps).foldl (fun h x => max h ((htTo gs i).getD x.toNat 0 + 1)) 0 := by
  induction n with
  | zero => omega
  | succ n ih =>
    have hl := htTo_len gs n
    rcases Nat.lt_or_ge i n with h1 | h1
    · rw [← ih h1]
      simp only [htTo]
      simp [List.getD, List.getElem?_append, hl, h1]
    · have : i = n := by omega
      subst this
      simp only [htTo]
      simp [List.getD, List.getElem?_append, hl]
theorem ht_more (gs : List Nd) (n i j : Nat) (hi : j < i) (hn : i ≤ n) : (htTo gs i).getD j 0 = (htTo gs n).getD j 0 := by
  rw [ht_at gs i j hi, ht_at gs n j (by omega)]
theorem foldl_max_ge (L : List Int) (f : Int → Int) (a : Int) : a ≤ L.foldl (fun h x => max h (f x)) a ∧ ∀ x ∈ L, f x ≤ L.foldl (fun h x => max h (f x)) a := by
  induction L generalizing a with
  | nil => exact ⟨Int.le_refl _, fun x hx => by simp at hx⟩
  | cons y L ih =>
    rw [List.foldl_cons]
    obtain ⟨h1, h2⟩ := ih (max a (f y))
    refine ⟨by omega, fun x hx => ?_⟩
    rcases List.mem_cons.1 hx with rfl | hx
    · omega
    · exact h2 x hx
theorem ht_user (gs : List Nd) (hv : validG gs = true) (x u : Nat) (hu : u ∈ usN gs gs.length x) : (htTo gs gs.length).getD x 0 < (htTo gs gs.length).getD u 0 := by
  obtain ⟨h1, h2⟩ := (mem_usN _ _ _ _).1 hu
  have hx := usN_gt gs hv _ _ _ (Nat.le_refl _) hu
  rw [ht_at gs gs.length u h1]
  have := (foldl_max_ge (mayR (gs.getD u default).ps) (fun y => (htTo gs u).getD y.toNat 0 + 1) 0).2 _ h2
  rw [Int.toNat_natCast, ht_more gs gs.length u x hx (by omega)] at this
  omega
theorem ht_le (gs : List Nd) (hv : validG gs = true) : ∀ (i : Nat), i < gs.length → 0 ≤ (htTo gs gs.length).getD i 0 ∧ (htTo gs gs.length).getD i 0 ≤ i := by
  intro i
  induction i using Nat.strongRecOn with
  | ind i ih =>
    intro hi
    rw [ht_at gs gs.length i hi]
    refine ⟨(foldl_max_ge _ _ 0).1, (foldl_max_bd _ (fun x => (htTo gs i).getD x.toNat 0 + 1) 0 i (by omega) (by omega) fun x hx => ?_).2⟩
    have hah := mayR_ahead gs i hv hi x hx
    have h1 := ih x.toNat (by omega) (by omega)
    rw [ht_more gs gs.length i x.toNat (by omega) (by omega)]
    omega
theorem ht_zero (gs : List Nd) (hv : validG gs = true) (i : Nat) (hi : i < gs.length) : ((htTo gs gs.length).getD i 0 = 0) ↔ mayR (gs.getD i default).ps = [] := by
  constructor
  · intro h
    cases hl : mayR (gs.getD i default).ps with
    | nil => rfl
    | cons x l =>
      rw [ht_at gs gs.length i hi] at h
      have hx : x ∈ mayR (gs.getD i default).ps := by rw [hl]; exact List.mem_cons_self
      have hah := mayR_ahead gs i hv hi x hx
      have h2 := (foldl_max_ge (mayR (gs.getD i default).ps) (fun y => (htTo gs i).getD y.toNat 0 + 1) 0).2 x hx
      have h1 := (ht_le gs hv x.toNat (by omega)).1
      rw [ht_more gs gs.length i x.toNat (by omega) (by omega)] at h2
      omega
  · intro h
    rw [ht_at gs gs.length i hi, h]; rfl
/-- Who needs only itself has no reads. -/
theorem need_one (gs : List Nd) (hv : validG gs = true) (i : Nat) (hi : i < gs.length) : (needF gs i).length = 1 ↔ mayR (gs.getD i default).ps = [] := by
  have hb := hasB_nat gs hv i hi
  have hin : (i : Int) ∈ needF gs i := by
    have := needF_mem gs i i hb hi
    rw [ndd_self gs hv i hi] at this
    exact of_decide_eq_true this
  constructor
  · intro h
    cases hl : mayR (gs.getD i default).ps with
    | nil => rfl
    | cons x l =>
      exfalso
      have hx : x ∈ mayR (gs.getD i default).ps := by rw [hl]; exact List.mem_cons_self
      obtain ⟨h0, h1⟩ := mayR_ahead gs i hv hi x hx
      obtain ⟨q, rfl⟩ : ∃ q : Nat, x = (q : Int) := ⟨x.toNat, by omega⟩
      have hq : (q : Int) ∈ needF gs i := by
        have := needF_mem gs i q hb (by omega)
        rw [ndd_cl gs hv i i (ndd_self gs hv i hi) q ((mem_rdsN gs hv i q hi).2 hx)] at this
        exact of_decide_eq_true this
      obtain ⟨y, hy⟩ := List.length_eq_one_iff.1 h
      rw [hy] at hin hq
      simp at hin hq
      omega
  · intro h
    have hr : rdsN gs i = [] := by unfold rdsN; rw [h]; rfl
    have : ∀ j, j < gs.length → ndd gs i j = decide (j = i) := fun j hj => by
      rw [Bool.eq_iff_iff, need_step gs hv i j hi, hr]
      simp
    rw [needF_at gs i hb]
    have e : nwTo (ndd gs i) gs.length = nwTo (fun j => decide (j = i)) gs.length := by
      unfold nwTo
      congr 1
      exact List.filter_congr fun j hj => this j (List.mem_range.1 hj)
    rw [e]
    have : ∀ n, (nwTo (fun j => decide (j = i)) n).length = if i < n then 1 else 0 := by
      intro n
      induction n with
      | zero => rfl
      | succ n ih =>
        rw [nwTo_step, List.length_append, ih]
        by_cases h1 : n = i
        · subst h1; simp
        · by_cases h2 : i < n
          · simp [h1, h2, show i < n + 1 by omega]
          · simp [h1, h2, show ¬ i < n + 1 by omega]
    rw [this, if_pos hi]

/-- What is needed by one of some nodes. -/
theorem met_any (gs : List Nd) (hv : validG gs = true) (st : List Int) (hst : stOK gs st) (i : Nat) (hi : i < gs.length) : (metF gs st).getD i false = st.any fun x => ndd gs x.toNat i := by
  rw [Bool.eq_iff_iff, List.any_eq_true]
  constructor
  · intro h
    have := need_min gs hv st (fun j => st.any fun x => ndd gs x.toNat j) (fun j hj y hy => by
      simp only [List.any_eq_true] at hj ⊢
      obtain ⟨x, hx, h1⟩ := hj
      exact ⟨x, hx, ndd_cl gs hv _ j h1 y hy⟩) (fun x hx hxl => by
      simp only [List.any_eq_true]
      exact ⟨_, hx, by rw [Int.toNat_natCast]; exact ndd_self gs hv x hxl⟩) i h
    simpa only [List.any_eq_true] using this
  · rintro ⟨x, hx, h⟩
    obtain ⟨h0, h1⟩ := hst x hx
    exact ndd_min gs hv x.toNat (fun j => (metF gs st).getD j false) (need_cl gs hv st) (need_has gs hv st _ (by omega) (by rw [Int.toNat_of_nonneg h0]; exact hx)) i h
/-- A node is watched if it leads to an effect. -/
theorem watch_iff (gs : List Nd) (hv : validG gs = true) (i : Nat) (hi : i < gs.length) : decide ((i : Int) ∈ watchF gs) = (reachF gs i).any fun x => (gs.getD x.toNat default).k == 2 := by
  have hb := hasB_nat gs hv i hi
  have e : watchF gs = nwTo (fun i => (metF gs (effs gs)).getD i false) gs.length := by unfold watchF; rw [hv]; rfl
  rw [Bool.eq_iff_iff, decide_eq_true_iff, e, nwTo_mem, met_any gs hv (effs gs) (nwTo_ok _ _) i hi, List.any_eq_true, List.any_eq_true]
  constructor
  · rintro ⟨_, x, hx, h⟩
    unfold effs at hx
    obtain ⟨h1, h2⟩ := nwTo_ok _ _ x hx
    obtain ⟨q, rfl⟩ : ∃ q : Nat, x = (q : Int) := ⟨x.toNat, by omega⟩
    rw [nwTo_mem] at hx
    rw [Int.toNat_natCast] at h
    refine ⟨q, ?_, by rw [Int.toNat_natCast]; exact hx.2⟩
    have := reachF_mem gs i q hb hx.1
    rw [dual gs hv i q hi hx.1, h] at this
    exact of_decide_eq_true this
  · rintro ⟨x, hx, h⟩
    rw [reachF_at gs i hb] at hx
    obtain ⟨h1, h2⟩ := nwTo_ok _ _ x hx
    obtain ⟨q, rfl⟩ : ∃ q : Nat, x = (q : Int) := ⟨x.toNat, by omega⟩
    rw [nwTo_mem] at hx
    rw [Int.toNat_natCast] at h
    refine ⟨hi, q, ?_, ?_⟩
    · unfold effs; rw [nwTo_mem]; exact ⟨hx.1, h⟩
    · rw [Int.toNat_natCast, ← dual gs hv i q hi hx.1]; exact hx.2
end Go.Proofs.Ytdhjflhpenkchaa
