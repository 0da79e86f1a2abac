/- Plain facts on ways in graphs: gathering, reach, need. -/
import Derived.Test.YtcfiondggnbnoaaS0

namespace Go.Proofs.Ytcfiondggnbnoaa
set_option linter.unusedSimpArgs false
set_option linter.unusedVariables false
open Go.RowKit

/-- What gather adds to a set. -/
def gth (steps : Nat → List Nat) : Nat → (Nat → Bool) → Nat → (Nat → Bool)
  | 0, S, x => S
  | f + 1, S, x => if S x then S else (steps x).foldl (gth steps f) (fun y => if y = x then true else S y)

/-- The set T has all steps. -/
def ClS (steps : Nat → List Nat) (T : Nat → Bool) : Prop := ∀ x, T x = true → ∀ y ∈ steps x, T y = true
/-- What gathering is good for, from a set S and starts l to a set S'. -/
structure GtS (steps : Nat → List Nat) (S S' : Nat → Bool) (l : List Nat) : Prop where
  sub : ∀ y, S y = true → S' y = true
  has : ∀ x ∈ l, S' x = true
  least : ∀ T, ClS steps T → (∀ y, S y = true → T y = true) → (∀ x ∈ l, T x = true) → ∀ y, S' y = true → T y = true
  cl : ∀ y, S' y = true → S y = true ∨ ∀ z ∈ steps y, S' z = true

theorem GtS.nil (steps : Nat → List Nat) (S : Nat → Bool) : GtS steps S S [] := ⟨fun _ h => h, fun x h => by simp at h, fun T _ h _ y hy => h y hy, fun y h => .inl h⟩
theorem GtS.cons {steps : Nat → List Nat} {S S1 S2 : Nat → Bool} {x : Nat} {l : List Nat} (h1 : GtS steps S S1 [x]) (h2 : GtS steps S1 S2 l) : GtS steps S S2 (x :: l) := by
  refine ⟨fun y h => h2.sub y (h1.sub y h), fun y hy => ?_, fun T hT hS hl y hy => ?_, fun y hy => ?_⟩
  · rcases List.mem_cons.1 hy with rfl | hy
    · exact h2.sub _ (h1.has _ (by simp))
    · exact h2.has y hy
  · exact h2.least T hT (fun z hz => h1.least T hT hS (fun w hw => by simp at hw; subst hw; exact hl w (by simp)) z hz) (fun z hz => hl z (by simp [hz])) y hy
  · rcases h2.cl y hy with h | h
    · rcases h1.cl y h with h | h
      · exact .inl h
      · exact .inr fun z hz => h2.sub z (h z hz)
    · exact .inr h

theorem gth_good (steps : Nat → List Nat) (rank : Nat → Nat) : ∀ (f : Nat), (∀ x, rank x < f → ∀ y ∈ steps x, rank y < rank x) → ∀ (S : Nat → Bool) (x : Nat), rank x < f → GtS steps S (gth steps f S x) [x] := by
  intro f
  induction f with
  | zero => intro _ S x h; omega
  | succ f ih =>
    intro hst S x hx
    unfold gth
    by_cases hS : S x = true
    · rw [if_pos hS]
      exact ⟨fun _ h => h, fun y hy => by simp at hy; subst hy; exact hS, fun T _ h _ y hy => h y hy, fun y h => .inl h⟩
    · rw [if_neg hS]
      have hfold : ∀ (l : List Nat) (S : Nat → Bool), (∀ y ∈ l, rank y < f) → GtS steps S (l.foldl (gth steps f) S) l := by
        intro l
        induction l with
        | nil => intro S _; exact GtS.nil _ _
        | cons y l ihl =>
          intro S hl
          rw [List.foldl_cons]
          exact GtS.cons (ih (fun z hz => hst z (by omega)) S y (hl y (by simp))) (ihl _ fun z hz => hl z (by simp [hz]))
      have h := hfold (steps x) (fun y => if y = x then true else S y) (fun y hy => by have := hst x hx y hy; omega)
      refine ⟨fun y hy => h.sub y (by by_cases e : y = x <;> simp [e, hy]), fun y hy => ?_, fun T hT hS2 hl y hy => ?_, fun y hy => ?_⟩
      · simp at hy; subst hy; exact h.sub _ (by simp)
      · have hTx := hl x (by simp)
        refine h.least T hT (fun z hz => ?_) (fun z hz => hT x hTx z hz) y hy
        by_cases e : z = x
        · subst e; exact hTx
        · simp [e] at hz; exact hS2 z hz
      · rcases h.cl y hy with h3 | h3
        · by_cases e : y = x
          · subst e; exact .inr fun z hz => h.has z hz
          · simp [e] at h3; exact .inl h3
        · exact .inr h3

theorem fold_good (steps : Nat → List Nat) (rank : Nat → Nat) (f : Nat) (hst : ∀ x, rank x < f → ∀ y ∈ steps x, rank y < rank x) : ∀ (l : List Nat) (S : Nat → Bool), (∀ y ∈ l, rank y < f) → GtS steps S (l.foldl (gth steps f) S) l := by
  intro l
  induction l with
  | nil => intro S _; exact GtS.nil _ _
  | cons y l ihl =>
    intro S hl
    rw [List.foldl_cons]
    exact GtS.cons (gth_good steps rank f hst S y (hl y (by simp))) (ihl _ fun z hz => hl z (by simp [hz]))

/-- What is gathered from nothing: the least closed set with the starts. -/
theorem fold_is (steps : Nat → List Nat) (rank : Nat → Nat) (f : Nat) (hst : ∀ x, rank x < f → ∀ y ∈ steps x, rank y < rank x) (l : List Nat) (hl : ∀ y ∈ l, rank y < f) (T : Nat → Bool) (hT : ClS steps T) (hlT : ∀ x ∈ l, T x = true)
    (hmin : ∀ S, ClS steps S → (∀ x ∈ l, S x = true) → ∀ y, T y = true → S y = true) : ∀ y, (l.foldl (gth steps f) (fun _ => false)) y = T y := by
  have h := fold_good steps rank f hst l (fun _ => false) hl
  intro y
  have h1 : (l.foldl (gth steps f) (fun _ => false)) y = true → T y = true := h.least T hT (fun y hy => by simp at hy) hlT y
  have h2 : T y = true → (l.foldl (gth steps f) (fun _ => false)) y = true := hmin _ (fun x hx z hz => by
    rcases h.cl x hx with h3 | h3
    · simp at h3
    · exact h3 z hz) h.has y
  cases hA : (l.foldl (gth steps f) (fun _ => false)) y
  · cases hB : T y
    · rfl
    · rw [h2 hB] at hA; cases hA
  · exact (h1 hA).symm

/-- The nodes that a node's formula has, and those whose formula has a node. -/
def rdsN (gs : List Nd) (j : Nat) : List Nat := (mayR (gs.getD j default).ps).map Int.toNat
def usN (gs : List Nd) (n j : Nat) : List Nat := (List.range n).filter fun u => decide ((j : Int) ∈ mayR (gs.getD u default).ps)
/-- The rows of the links, needs and users by turns. -/
def linkR (gs : List Nd) (n k : Nat) : List Nat := if k % 2 = 0 then (if k / 2 < n then rdsN gs (k / 2) else []) else usN gs n (k / 2)

theorem mem_rdsN (gs : List Nd) (h : validG gs = true) (j q : Nat) (hj : j < gs.length) : q ∈ rdsN gs j ↔ (q : Int) ∈ mayR (gs.getD j default).ps := by
  unfold rdsN
  rw [List.mem_map]
  constructor
  · rintro ⟨x, hx, rfl⟩
    have := mayR_ahead gs j h hj x hx
    rw [Int.toNat_of_nonneg this.1]; exact hx
  · intro hq; exact ⟨_, hq, by simp⟩
theorem rdsN_lt (gs : List Nd) (h : validG gs = true) (j q : Nat) (hj : j < gs.length) (hq : q ∈ rdsN gs j) : q < j := by
  have := mayR_ahead gs j h hj _ ((mem_rdsN gs h j q hj).1 hq)
  omega
theorem mem_usN (gs : List Nd) (n j u : Nat) : u ∈ usN gs n j ↔ u < n ∧ (j : Int) ∈ mayR (gs.getD u default).ps := by
  unfold usN
  rw [List.mem_filter, List.mem_range, decide_eq_true_iff]
theorem usN_gt (gs : List Nd) (h : validG gs = true) (n j u : Nat) (hn : n ≤ gs.length) (hu : u ∈ usN gs n j) : j < u := by
  obtain ⟨h1, h2⟩ := (mem_usN gs n j u).1 hu
  have := mayR_ahead gs u h (by omega) _ h2
  omega

/-- Whether nodes are met on ways from starts. -/
def reachTo (gs : List Nd) (st : List Int) : Nat → List Int
  | 0 => []
  | k + 1 => reachTo gs st k ++ if (decide ((k : Int) ∈ st) || (mayR (gs.getD k default).ps).any fun r => decide (r ∈ reachTo gs st k)) then [(k : Int)] else []
theorem reachTo_len (gs : List Nd) (st : List Int) (k : Nat) : (reachTo gs st k).length ≤ k := by
  induction k with
  | zero => simp [reachTo]
  | succ k ih => simp only [reachTo, List.length_append]; split <;> simp <;> omega
theorem reachTo_mem (gs : List Nd) (st : List Int) (k : Nat) (x : Int) (h : x ∈ reachTo gs st k) : ∃ q : Nat, q < k ∧ x = (q : Int) := by
  induction k with
  | zero => simp [reachTo] at h
  | succ k ih =>
    simp only [reachTo, List.mem_append] at h
    rcases h with h | h
    · obtain ⟨q, h1, h2⟩ := ih h; exact ⟨q, by omega, h2⟩
    · split at h
      · simp at h; exact ⟨k, by omega, h⟩
      · simp at h
theorem reachTo_more (gs : List Nd) (st : List Int) (k n q : Nat) (hq : q < k) (hk : k ≤ n) : ((q : Int) ∈ reachTo gs st n) ↔ ((q : Int) ∈ reachTo gs st k) := by
  induction n with
  | zero => omega
  | succ n ih =>
    rcases Nat.lt_or_ge n k with h1 | h1
    · have : k = n + 1 := by omega
      subst this; rfl
    · rw [← ih h1]
      simp only [reachTo, List.mem_append]
      constructor
      · rintro (h | h)
        · exact h
        · split at h
          · simp at h; omega
          · simp at h
      · exact .inl
theorem reachTo_iff (gs : List Nd) (st : List Int) (n q : Nat) (hq : q < n) : ((q : Int) ∈ reachTo gs st n) ↔ ((q : Int) ∈ st ∨ ∃ r ∈ mayR (gs.getD q default).ps, r ∈ reachTo gs st q) := by
  rw [reachTo_more gs st (q + 1) n q (by omega) (by omega)]
  simp only [reachTo, List.mem_append]
  constructor
  · rintro (h | h)
    · obtain ⟨p, h1, h2⟩ := reachTo_mem gs st q _ h; omega
    · split at h
      · rename_i hc
        simp only [Bool.or_eq_true, decide_eq_true_eq, List.any_eq_true] at hc
        exact hc
      · simp at h
  · intro h
    right
    rw [if_pos (by simp only [Bool.or_eq_true, decide_eq_true_eq, List.any_eq_true]; exact h)]
    simp
theorem reachTo_nwTo (gs : List Nd) (st : List Int) (n k : Nat) (hk : k ≤ n) : reachTo gs st k = nwTo (fun i => decide ((i : Int) ∈ reachTo gs st n)) k := by
  induction k with
  | zero => rfl
  | succ k ih =>
    rw [nwTo_step, ← ih (by omega)]
    simp only [reachTo]
    congr 1
    have := reachTo_iff gs st n k (by omega)
    have e : (decide ((k : Int) ∈ st) || (mayR (gs.getD k default).ps).any fun r => decide (r ∈ reachTo gs st k)) = decide ((k : Int) ∈ reachTo gs st n) := by
      rw [Bool.eq_iff_iff]
      simp only [Bool.or_eq_true, decide_eq_true_eq, List.any_eq_true]
      exact this.symm
    rw [e]

/-- The set of nodes that are reached: closed, and the least one. -/
theorem reach_cl (gs : List Nd) (h : validG gs = true) (st : List Int) : ClS (usN gs gs.length) fun i => decide ((i : Int) ∈ reachTo gs st gs.length) := by
  intro x hx y hy
  obtain ⟨h1, h2⟩ := (mem_usN _ _ _ _).1 hy
  have hgt := usN_gt gs h _ _ _ (Nat.le_refl _) hy
  simp only [decide_eq_true_eq] at *
  rw [reachTo_iff gs st _ y h1]
  exact .inr ⟨_, h2, (reachTo_more gs st y gs.length x hgt (by omega)).1 hx⟩
theorem reach_min (gs : List Nd) (h : validG gs = true) (st : List Int) (S : Nat → Bool) (hS : ClS (usN gs gs.length) S) (hst : ∀ x : Nat, (x : Int) ∈ st → x < gs.length → S x = true) : ∀ y : Nat, (y : Int) ∈ reachTo gs st gs.length → S y = true := by
  intro y
  induction y using Nat.strongRecOn with
  | ind y ih =>
    intro hy
    obtain ⟨q, hq, e⟩ := reachTo_mem _ _ _ _ hy
    have : q = y := by omega
    subst this
    rcases (reachTo_iff gs st _ q hq).1 hy with h1 | ⟨r, hr, h1⟩
    · exact hst q h1 hq
    · obtain ⟨p, hp, rfl⟩ := reachTo_mem _ _ _ _ h1
      have h2 := ih p hp ((reachTo_more gs st q gs.length p hp (by omega)).2 h1)
      exact hS p h2 q ((mem_usN _ _ _ _).2 ⟨hq, hr⟩)

/-- What need marks, from the last node down. -/
def metSt (gs : List Nd) (st : List Int) (m : List Bool) (i : Nat) : List Bool :=
  if m.getD i false || decide ((i : Int) ∈ st) then (mayR (gs.getD i default).ps).foldl (fun m r => m.set r.toNat true) (m.set i true) else m
def metGo (gs : List Nd) (st : List Int) : Nat → List Bool
  | 0 => List.replicate gs.length false
  | k + 1 => metSt gs st (metGo gs st k) (gs.length - 1 - k)
def metF (gs : List Nd) (st : List Int) : List Bool := metGo gs st gs.length
def needTo (gs : List Nd) (st : List Int) : List Int := nwTo (fun i => (metF gs st).getD i false) gs.length

theorem foldset_len (l : List Int) (m : List Bool) : (l.foldl (fun m r => m.set r.toNat true) m).length = m.length := by
  induction l generalizing m with
  | nil => rfl
  | cons x l ih => rw [List.foldl_cons, ih]; simp
theorem metSt_len (gs : List Nd) (st : List Int) (m : List Bool) (i : Nat) : (metSt gs st m i).length = m.length := by
  unfold metSt; split
  · rw [foldset_len]; simp
  · rfl
theorem metGo_len (gs : List Nd) (st : List Int) (k : Nat) : (metGo gs st k).length = gs.length := by
  induction k with
  | zero => simp [metGo]
  | succ k ih => rw [metGo, metSt_len, ih]
theorem foldset_at (l : List Int) (m : List Bool) (j : Nat) (hj : j < m.length) (hl : ∀ r ∈ l, 0 ≤ r) : (l.foldl (fun m r => m.set r.toNat true) m).getD j false = (m.getD j false || decide ((j : Int) ∈ l)) := by
  induction l generalizing m with
  | nil => simp
  | cons x l ih =>
    rw [List.foldl_cons, ih (m.set x.toNat true) (by simpa using hj) (fun r hr => hl r (by simp [hr]))]
    have hx := hl x (by simp)
    by_cases e : x.toNat = j
    · have : x = (j : Int) := by omega
      subst this
      simp [List.getD, hj]
    · have h1 : (m.set x.toNat true).getD j false = m.getD j false := by simp [List.getD, List.getElem?_set, e]
      have h2 : ¬ (j : Int) = x := by omega
      rw [h1]; simp [h2]
theorem metSt_at (gs : List Nd) (h : validG gs = true) (st : List Int) (m : List Bool) (i j : Nat) (hi : i < gs.length) (hm : m.length = gs.length) (hj : j < gs.length) :
    (metSt gs st m i).getD j false = (m.getD j false || ((m.getD i false || decide ((i : Int) ∈ st)) && (decide (j = i) || decide ((j : Int) ∈ mayR (gs.getD i default).ps)))) := by
  unfold metSt
  by_cases hc : (m.getD i false || decide ((i : Int) ∈ st)) = true
  · rw [if_pos hc, foldset_at _ _ _ (by simpa [hm] using hj) (fun r hr => (mayR_ahead gs i h hi r hr).1), hc]
    by_cases e : i = j
    · subst e
      have : (m.set i true).getD i false = true := by simp [List.getD, hm, hj]
      rw [this]; simp
    · have h1 : (m.set i true).getD j false = m.getD j false := by simp [List.getD, List.getElem?_set, e]
      have h2 : ¬ j = i := fun e' => e e'.symm
      rw [h1]; simp [h2]
  · rw [if_neg hc]
    have : (m.getD i false || decide ((i : Int) ∈ st)) = false := by simpa using hc
    rw [this]; simp

/-- What holds of the marks when the last k nodes are done. -/
theorem metGo_inv (gs : List Nd) (h : validG gs = true) (st : List Int) (S : Nat → Bool) (hS : ClS (rdsN gs) S) (hst : ∀ x : Nat, (x : Int) ∈ st → x < gs.length → S x = true) : ∀ k, k ≤ gs.length →
    (∀ i, i < gs.length → gs.length - k ≤ i → (i : Int) ∈ st → (metGo gs st k).getD i false = true) ∧
    (∀ i, i < gs.length → gs.length - k ≤ i → (metGo gs st k).getD i false = true → ∀ r : Nat, (r : Int) ∈ mayR (gs.getD i default).ps → (metGo gs st k).getD r false = true) ∧
    (∀ i, i < gs.length → (metGo gs st k).getD i false = true → S i = true) := by
  intro k
  induction k with
  | zero =>
    intro _
    refine ⟨fun i h1 h2 => by omega, fun i h1 h2 => by omega, fun i hi hm => ?_⟩
    simp [metGo, List.getD, hi] at hm
  | succ k ih =>
    intro hk
    obtain ⟨i1, i2, i3⟩ := ih (by omega)
    have hl := metGo_len gs st k
    have hat := fun j hj => metSt_at gs h st (metGo gs st k) (gs.length - 1 - k) j (by omega) hl hj
    simp only [metGo]
    generalize metGo gs st k = m at *
    obtain ⟨p, hp⟩ : ∃ p, p = gs.length - 1 - k := ⟨_, rfl⟩
    have hpl : p < gs.length := by omega
    rw [← hp] at hat ⊢
    have hah := fun r hr => mayR_ahead gs p h hpl r hr
    refine ⟨fun i h1 h2 h3 => ?_, fun i h1 h2 h3 r hr => ?_, fun i h1 h2 => ?_⟩
    · rw [hat i h1]
      by_cases e : i = p
      · subst e; simp [h3]
      · have := i1 i h1 (by omega) h3
        simp only [this, Bool.true_or]
    · have hri := mayR_ahead gs i h h1 r hr
      rw [hat i h1] at h3
      rw [hat r (by omega)]
      by_cases e : i = p
      · subst e
        simp only [decide_true, Bool.true_or, Bool.and_true] at h3
        have hb : (m.getD i false || decide ((i : Int) ∈ st)) = true := by
          simp only [Bool.or_eq_true] at h3 ⊢
          rcases h3 with h4 | h4
          · exact .inl h4
          · exact h4
        rw [hb]; simp only [Bool.true_and, Bool.or_eq_true, decide_eq_true_eq]; exact .inr (.inr hr)
      · have hnr : ¬ ((i : Int) ∈ mayR (gs.getD p default).ps) := fun hc => by have := hah _ hc; omega
        have h4 : m.getD i false = true := by
          simp only [e, decide_false, hnr, Bool.or_self, Bool.and_false, Bool.or_false] at h3
          exact h3
        have := i2 i h1 (by omega) h4 r hr
        simp only [this, Bool.true_or]
    · rw [hat i h1] at h2
      simp only [Bool.or_eq_true, Bool.and_eq_true, decide_eq_true_eq] at h2
      rcases h2 with h2 | ⟨h2, h4⟩
      · exact i3 i h1 h2
      · have hSp : S p = true := by
          rcases h2 with h2 | h2
          · exact i3 p hpl h2
          · exact hst p h2 hpl
        rcases h4 with h4 | h4
        · subst h4; exact hSp
        · exact hS p hSp i ((mem_rdsN gs h p i hpl).2 h4)

theorem rdsN_out (gs : List Nd) (j : Nat) (hj : gs.length ≤ j) : rdsN gs j = [] := by
  unfold rdsN
  have : gs.getD j default = default := by simp [List.getD, List.getElem?_eq_none hj]
  rw [this]
  show (mayR []).map _ = []
  rw [mayR_nil]; rfl

theorem met_out (gs : List Nd) (st : List Int) (i : Nat) (h : gs.length ≤ i) : (metF gs st).getD i false = false := by
  have : (metF gs st).length ≤ i := by unfold metF; rw [metGo_len]; exact h
  simp [List.getD, List.getElem?_eq_none this]

/-- The set of nodes that are needed: closed, and the least one. -/
theorem need_cl (gs : List Nd) (h : validG gs = true) (st : List Int) : ClS (rdsN gs) fun i => (metF gs st).getD i false := by
  intro x hx y hy
  have hi := metGo_inv gs h st (fun _ => true) (fun _ _ _ _ => rfl) (fun _ _ _ => rfl) gs.length (Nat.le_refl _)
  rcases Nat.lt_or_ge x gs.length with hl | hl
  · exact hi.2.1 x hl (by omega) hx y ((mem_rdsN gs h x y hl).1 hy)
  · rw [rdsN_out gs x hl] at hy; cases hy
theorem need_has (gs : List Nd) (h : validG gs = true) (st : List Int) (x : Nat) (hx : x < gs.length) (hs : (x : Int) ∈ st) : (metF gs st).getD x false = true :=
  (metGo_inv gs h st (fun _ => true) (fun _ _ _ _ => rfl) (fun _ _ _ => rfl) gs.length (Nat.le_refl _)).1 x hx (by omega) hs
theorem need_min (gs : List Nd) (h : validG gs = true) (st : List Int) (S : Nat → Bool) (hS : ClS (rdsN gs) S) (hst : ∀ x : Nat, (x : Int) ∈ st → x < gs.length → S x = true) : ∀ y : Nat, (metF gs st).getD y false = true → S y = true := by
  intro y hy
  rcases Nat.lt_or_ge y gs.length with hl | hl
  · exact (metGo_inv gs h st S hS hst gs.length (Nat.le_refl _)).2.2 y hl hy
  · rw [met_out gs st y hl] at hy; cases hy
end Go.Proofs.Ytcfiondggnbnoaa
