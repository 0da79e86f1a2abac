/- Plain facts for the laws of promises: values that are not read, graphs' first nodes, cells of 0. -/
import Derived.Test.YthephbppeiealaaM4
import Derived.Test.YthephbppeiealaaA18
namespace Go.Proofs.Ythephbppeiealaa
set_option linter.unusedSimpArgs false
set_option linter.unusedVariables false
open Go.RowKit

theorem rds_lt (t : Tm) (vs : List Int) (m : Nat) (h : t.ok m) : ∀ x ∈ t.rds vs, ∃ q : Nat, q < m ∧ x = (q : Int) := by
  induction t with
  | num v => intro x hx; simp [Tm.rds] at hx
  | rd v =>
    intro x hx
    simp [Tm.rds] at hx
    simp only [Tm.ok] at h
    exact ⟨v.toNat, by omega, by omega⟩
  | pr k l r ihl ihr =>
    intro x hx
    simp only [Tm.ok] at h
    simp only [Tm.rds, List.mem_append] at hx
    rcases hx with hx | hx
    · exact ihl h.1 x hx
    · exact ihr h.2 x hx
  | ch a b c iha ihb ihc =>
    intro x hx
    simp only [Tm.ok] at h
    simp only [Tm.rds, List.mem_append] at hx
    rcases hx with hx | hx
    · exact iha h.1 x hx
    · split at hx
      · exact ihc h.2.2 x hx
      · exact ihb h.2.1 x hx

/-- What is not read does not matter. -/
theorem ev_agree (t : Tm) (vs vs' : List Int) (m : Nat) (hok : t.ok m) (h : ∀ x ∈ t.rds vs, vs'.getD x.toNat 0 = vs.getD x.toNat 0) : t.ev vs' = t.ev vs ∧ t.rds vs' = t.rds vs := by
  induction t with
  | num v => exact ⟨rfl, rfl⟩
  | rd v =>
    simp only [Tm.ev, Tm.rds] at *
    exact ⟨h v (by simp), trivial⟩
  | pr k l r ihl ihr =>
    simp only [Tm.ok] at hok
    simp only [Tm.ev, Tm.rds] at *
    obtain ⟨l1, l2⟩ := ihl hok.1 fun x hx => h x (List.mem_append_left _ hx)
    obtain ⟨r1, r2⟩ := ihr hok.2 fun x hx => h x (List.mem_append_right _ hx)
    rw [l1, l2, r1, r2]
    exact ⟨rfl, rfl⟩
  | ch a b c iha ihb ihc =>
    simp only [Tm.ok] at hok
    simp only [Tm.ev, Tm.rds] at *
    obtain ⟨a1, a2⟩ := iha hok.1 fun x hx => h x (List.mem_append_left _ hx)
    rw [a1, a2]
    split
    · rename_i h0
      obtain ⟨b1, b2⟩ := ihc hok.2.2 fun x hx => h x (List.mem_append_right _ (by rw [if_pos h0]; exact hx))
      rw [b1, b2]
      exact ⟨rfl, rfl⟩
    · rename_i h0
      obtain ⟨c1, c2⟩ := ihb hok.2.1 fun x hx => h x (List.mem_append_right _ (by rw [if_neg h0]; exact hx))
      rw [c1, c2]
      exact ⟨rfl, rfl⟩

theorem firsts_mem (l : List Int) (x : Int) : x ∈ firsts l ↔ x ∈ l := by
  have : ∀ (l acc : List Int), x ∈ l.foldl (fun acc x => if x ∈ acc then acc else acc ++ [x]) acc ↔ x ∈ acc ∨ x ∈ l := by
    intro l
    induction l with
    | nil => intro acc; simp
    | cons y l ih =>
      intro acc
      rw [List.foldl_cons, ih]
      by_cases hy : y ∈ acc
      · rw [if_pos hy, List.mem_cons]
        constructor
        · rintro (h | h)
          · exact .inl h
          · exact .inr (.inr h)
        · rintro (h | h | h)
          · exact .inl h
          · subst h; exact .inl hy
          · exact .inr h
      · rw [if_neg hy, List.mem_append, List.mem_cons, List.mem_cons]
        simp only [List.not_mem_nil, or_false]
        constructor
        · rintro ((h | h) | h)
          · exact .inl h
          · exact .inr (.inl h)
          · exact .inr (.inr h)
        · rintro (h | h | h)
          · exact .inl (.inl h)
          · exact .inl (.inr h)
          · exact .inr h
  simpa [firsts] using this l []

theorem firsts_nodup (l : List Int) : (firsts l).Nodup :=
  firsts_inv (fun a => a.Nodup) l [] List.nodup_nil fun acc x _ h => by
    by_cases hx : x ∈ acc
    · rw [if_pos hx]; exact h
    · rw [if_neg hx]
      refine List.nodup_append.2 ⟨h, by simp, ?_⟩
      intro a ha b hb e
      simp at hb
      subst hb; subst e
      exact hx ha

theorem canEv_set (ps : List Pt) (vs : List Int) (n : Nat) (y : Int) (h : canEv ps vs = true) (hy : 0 ≤ y) (hy' : y ≤ 999) : canEv ps (vs.set n y) = true := by
  obtain ⟨hv, hvo, hl, he⟩ := canEv_parts ps vs h
  refine canEv_of ps _ hv (by simpa using hl) ?_ (by simpa using he)
  intro j hj
  have hj' : j < vs.length := by simpa using hj
  by_cases e : n = j
  · subst e
    simp [List.getD, hj', hy, hy']
  · have := hvo j hj'
    simpa [List.getD, List.getElem?_set, e] using this

/-- Another value for a node that is not read: the same value, the same reads. -/
theorem unread (ps : List Pt) (vs : List Int) (n : Nat) (y : Int) (h : canEv ps vs = true) (hy : 0 ≤ y) (hy' : y ≤ 999) (hn : (n : Int) ∉ readF ps vs) : canEv ps (vs.set n y) = true ∧ valF ps (vs.set n y) = valF ps vs ∧ readF ps (vs.set n y) = readF ps vs := by
  have hc := canEv_set ps vs n y h hy hy'
  obtain ⟨hv, hvo, hl, he⟩ := canEv_parts ps vs h
  have hok := whole_ok ps vs.length hv he
  have hr : readF ps vs = firsts ((whole ps).rds vs) := by unfold readF; rw [h]; rfl
  have := ev_agree (whole ps) vs (vs.set n y) vs.length hok fun x hx => by
    have hne : x ≠ (n : Int) := by
      rintro rfl
      exact hn (by rw [hr, firsts_mem]; exact hx)
    obtain ⟨q, _, rfl⟩ := rds_lt (whole ps) vs vs.length hok x hx
    have : ¬ n = q := by intro e; exact hne (by rw [e])
    simp [List.getD, List.getElem?_set, this]
  refine ⟨hc, ?_, ?_⟩
  · unfold valF; rw [h, hc]; simpa using this.1
  · unfold readF; rw [h, hc]; simp [this.2]

theorem valF_bd (ps : List Pt) (vs : List Int) (h : canEv ps vs = true) : 0 ≤ valF ps vs ∧ valF ps vs < 1000 := by
  obtain ⟨hv, hvo, hl, he⟩ := canEv_parts ps vs h
  have := Tm.ev_bd vs hvo (whole ps) (whole_ok ps vs.length hv he)
  unfold valF
  rw [h]
  simp only [if_true]
  omega

/-- What is read may be read. -/
theorem rds_node (ps : List Pt) (hg : AllGood ps) (vs : List Int) (f : Nat) : ∀ i, i < f → i < ps.length → ∀ x ∈ (tmAt ps f i).rds vs, ∃ q : Nat, q < 10 ∧ x = (q : Int) ∧ hasNode ps q = true := by
  induction f with
  | zero => intro i hi; omega
  | succ f ih =>
    intro i hi hin x hx
    have hgi := hg i hin
    have hmem : ps.getD i default ∈ ps := by simp [List.getD, hin]
    rw [tmAt_eq] at hx
    have hbn := good_bel_nat _ _ hgi
    have hnum := good_num _ _ hgi
    generalize ps.getD i default = p at *
    rcases good_kind _ _ hgi with h0 | h0 | h0 | h0
    · simp only [h0] at hx
      simp [Tm.rds] at hx
    · have h1 : (p.k == 1) = true := by simp [h0]
      have h00 : (p.k == 0) = false := by simp [h0]
      simp only [h00, h1, if_true, Bool.false_eq_true, if_false, Tm.rds, List.mem_singleton] at hx
      have := hnum.2 h0
      refine ⟨p.n.toNat, by omega, by omega, ?_⟩
      unfold hasNode
      rw [List.any_eq_true]
      exact ⟨_, hmem, by rw [h1, Bool.true_and]; simp only [beq_iff_eq]; omega⟩
    · obtain ⟨a, b, ea, eb, la, lb⟩ := hbn.1 h0
      have k0 : (p.k == 0) = false := by simp; omega
      have k1 : (p.k == 1) = false := by simp; omega
      have k8 : (p.k == 8) = false := by simp; omega
      simp only [k0, k1, k8, Bool.false_eq_true, if_false, ea, eb, Int.toNat_natCast, Tm.rds, List.mem_append] at hx
      rcases hx with hx | hx
      · exact ih a (by omega) (by omega) x hx
      · exact ih b (by omega) (by omega) x hx
    · obtain ⟨a, b, c, ea, eb, ec, la, lb, lc⟩ := hbn.2 h0
      have k0 : (p.k == 0) = false := by simp [h0]
      have k1 : (p.k == 1) = false := by simp [h0]
      have k8 : (p.k == 8) = true := by simp [h0]
      simp only [k0, k1, k8, Bool.false_eq_true, if_false, if_true, ea, eb, ec, Int.toNat_natCast, Tm.rds, List.mem_append] at hx
      rcases hx with hx | hx
      · exact ih a (by omega) (by omega) x hx
      · split at hx
        · exact ih c (by omega) (by omega) x hx
        · exact ih b (by omega) (by omega) x hx

theorem readF_may (ps : List Pt) (vs : List Int) : (readF ps vs).Nodup ∧ ∀ x ∈ readF ps vs, x ∈ mayF ps := by
  unfold readF mayF
  cases h : canEv ps vs
  · simp
  · simp only [if_true]
    obtain ⟨hv, hvo, hl, he⟩ := canEv_parts ps vs h
    obtain ⟨hg, h1, h12⟩ := validF_good ps hv
    rw [hv]
    refine ⟨firsts_nodup _, fun x hx => ?_⟩
    rw [firsts_mem] at hx
    obtain ⟨q, hq, rfl, hq2⟩ := rds_node ps hg vs ps.length (ps.length - 1) (by omega) (by omega) x hx
    simp only [if_true]
    rw [mem_mayR]
    exact ⟨q, hq, hq2, rfl⟩

/-! Graphs. -/
theorem take_getD (gs : List Nd) (k i : Nat) (h : i < k) : (gs.take k).getD i default = gs.getD i default := by
  simp only [List.getD, List.getElem?_take, if_pos h]

theorem nodeOK_take (gs : List Nd) (k i : Nat) (h : i < k) (hk : k ≤ gs.length) : nodeOK (gs.take k) i = nodeOK gs i := by
  unfold nodeOK goodRd
  rw [take_getD gs k i h]
  have e : (mayR (gs.getD i default).ps).all (rdOK (gs.take k) i) = (mayR (gs.getD i default).ps).all (rdOK gs i) := by
    rw [Bool.eq_iff_iff, List.all_eq_true, List.all_eq_true]
    have key : ∀ x ∈ mayR (gs.getD i default).ps, rdOK (gs.take k) i x = rdOK gs i x := fun x hx => by
      unfold rdOK
      by_cases hxi : x < (i : Int)
      · have := (mem_mayR_bd _ _ hx).1
        rw [take_getD gs k x.toNat (by omega)]
      · rw [decide_eq_false hxi]; rfl
    constructor
    · intro h x hx; rw [← key x hx]; exact h x hx
    · intro h x hx; rw [key x hx]; exact h x hx
  rw [e]

theorem validG_take (gs : List Nd) (k : Nat) (h : validG gs = true) (hk : k ≤ gs.length) : validG (gs.take k) = true := by
  obtain ⟨h10, hok⟩ := validG_parts gs h
  rw [validG_fin (gs.take k) fun i hi => by
    have hi' : i < k := by rw [List.length_take] at hi; omega
    rw [nodeOK_take gs k i hi' hk]
    exact hok i (by omega)]
  rw [List.length_take]
  simp
  omega

theorem okC_zero (gs : List Nd) (n : Nat) (h : validG gs = true) (hn : n = gs.length) : okC gs (List.replicate n 0) = true := by
  unfold okC
  rw [h, Bool.true_and]
  refine validC_fin _ _ (by simp [hn]) fun i hi => ?_
  unfold cellOK rng
  simp [List.getD, hn, hi]
end Go.Proofs.Ythephbppeiealaa
