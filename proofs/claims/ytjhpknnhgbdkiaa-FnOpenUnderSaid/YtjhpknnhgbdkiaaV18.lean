/- Owners are cleared: what it does to a list, plainly; words for a list of owners that is written in place. -/
import Derived.Test.YtjhpknnhgbdkiaaP0a

namespace Go.Proofs.Ytjhpknnhgbdkiaa
set_option linter.unusedSimpArgs false
set_option linter.unusedVariables false
open Go.RowKit

/-- An owner is closed; an owner has nothing left to clean up. -/
def shut (ds : List On) (b : Nat) : List On := ds.set b ⟨(ds.getD b default).p, false, (ds.getD b default).cl, (ds.getD b default).cx⟩
def wipe (ds : List On) (o : Nat) : List On := ds.set o ⟨(ds.getD o default).p, (ds.getD o default).o, [], (ds.getD o default).cx⟩
/-- The labels that are met, and the owners behind it. -/
def clr : Nat → List On → Nat → List Int × List On
  | 0, ds, _ => ([], ds)
  | f + 1, ds, o =>
    let r := ((nwTo (kidB ds o) ds.length).reverse).foldl (fun (s : List Int × List On) (b : Int) => (s.1 ++ (clr f s.2 b.toNat).1, shut (clr f s.2 b.toNat).2 b.toNat)) ([], ds)
    (r.1 ++ ((r.2.getD o default).cl).reverse, wipe r.2 o)
/-- One kid is cleared and closed. -/
def clrS (f : Nat) (s : List Int × List On) (b : Int) : List Int × List On := (s.1 ++ (clr f s.2 b.toNat).1, shut (clr f s.2 b.toNat).2 b.toNat)
/-- Behind the last m kids. -/
def clrK (f : Nat) (ds : List On) (o m : Nat) : List Int × List On := (((nwTo (kidB ds o) ds.length).reverse).take m).foldl (clrS f) ([], ds)
theorem clr_step (f : Nat) (ds : List On) (o : Nat) : clr (f + 1) ds o = ((clrK f ds o (nwTo (kidB ds o) ds.length).length).1 ++ (((clrK f ds o (nwTo (kidB ds o) ds.length).length).2.getD o default).cl).reverse, wipe (clrK f ds o (nwTo (kidB ds o) ds.length).length).2 o) := by
  unfold clrK
  rw [List.take_of_length_le (by rw [List.length_reverse]; exact Nat.le_refl _)]
  rfl
theorem clrK_succ (f : Nat) (ds : List On) (o m k : Nat) (h : m + k + 1 = (nwTo (kidB ds o) ds.length).length) : clrK f ds o (m + 1) = clrS f (clrK f ds o m) ((nwTo (kidB ds o) ds.length).getD k 0) := by
  unfold clrK
  have hr : m < ((nwTo (kidB ds o) ds.length).reverse).length := by rw [List.length_reverse]; omega
  rw [List.take_succ_eq_append_getElem hr, List.foldl_append]
  have e : ((nwTo (kidB ds o) ds.length).reverse)[m] = (nwTo (kidB ds o) ds.length).getD k 0 := by
    rw [List.getElem_reverse]
    have e1 : (nwTo (kidB ds o) ds.length).length - 1 - m = k := by omega
    simp only [List.getD]
    rw [List.getElem?_eq_getElem (by omega)]
    simp [e1]
  rw [e]; rfl

theorem shut_len (ds : List On) (b : Nat) : (shut ds b).length = ds.length := by unfold shut; simp
theorem wipe_len (ds : List On) (b : Nat) : (wipe ds b).length = ds.length := by unfold wipe; simp
theorem shut_get (ds : List On) (b i : Nat) : (shut ds b).getD i default = if i = b ∧ b < ds.length then ⟨(ds.getD b default).p, false, (ds.getD b default).cl, (ds.getD b default).cx⟩ else ds.getD i default := by
  unfold shut
  by_cases hb : b < ds.length
  · rw [getD_set ds b i _ hb]
    by_cases h : i = b
    · rw [if_pos h, if_pos ⟨h, hb⟩]
    · rw [if_neg h, if_neg (fun e => h e.1)]
  · rw [if_neg (fun e => hb e.2), List.set_eq_of_length_le (by omega)]
theorem wipe_get (ds : List On) (b i : Nat) : (wipe ds b).getD i default = if i = b ∧ b < ds.length then ⟨(ds.getD b default).p, (ds.getD b default).o, [], (ds.getD b default).cx⟩ else ds.getD i default := by
  unfold wipe
  by_cases hb : b < ds.length
  · rw [getD_set ds b i _ hb]
    by_cases h : i = b
    · rw [if_pos h, if_pos ⟨h, hb⟩]
    · rw [if_neg h, if_neg (fun e => h e.1)]
  · rw [if_neg (fun e => hb e.2), List.set_eq_of_length_le (by omega)]

/-- What clearing keeps: how many there are, parents and contexts; and none has more to clean up. -/
structure SameP (ds es : List On) : Prop where
  len : es.length = ds.length
  par : ∀ i, (es.getD i default).p = (ds.getD i default).p
  cxs : ∀ i, (es.getD i default).cx = (ds.getD i default).cx
  cls : ∀ i, (es.getD i default).cl.length ≤ (ds.getD i default).cl.length
theorem SameP.refl (ds : List On) : SameP ds ds := ⟨rfl, fun _ => rfl, fun _ => rfl, fun _ => Nat.le_refl _⟩
theorem SameP.trans {a b c : List On} (h : SameP a b) (k : SameP b c) : SameP a c :=
  ⟨k.len.trans h.len, fun i => (k.par i).trans (h.par i), fun i => (k.cxs i).trans (h.cxs i), fun i => Nat.le_trans (k.cls i) (h.cls i)⟩
theorem SameP.shut (ds : List On) (b : Nat) : SameP ds (shut ds b) := by
  refine ⟨shut_len _ _, fun i => ?_, fun i => ?_, fun i => ?_⟩ <;> rw [shut_get] <;> by_cases h : i = b ∧ b < ds.length
  all_goals first | (rw [if_neg h]; done) | (rw [if_neg h]; exact Nat.le_refl _) | (obtain ⟨rfl, _⟩ := h; rw [if_pos ⟨rfl, by assumption⟩]; done) | (obtain ⟨rfl, h2⟩ := h; rw [if_pos ⟨rfl, h2⟩]; exact Nat.le_refl _)
theorem SameP.wipe (ds : List On) (b : Nat) : SameP ds (wipe ds b) := by
  refine ⟨wipe_len _ _, fun i => ?_, fun i => ?_, fun i => ?_⟩ <;> rw [wipe_get] <;> by_cases h : i = b ∧ b < ds.length
  all_goals first | (rw [if_neg h]; done) | (rw [if_neg h]; exact Nat.le_refl _) | (obtain ⟨rfl, _⟩ := h; rw [if_pos ⟨rfl, by assumption⟩]; done) | (obtain ⟨rfl, h2⟩ := h; rw [if_pos ⟨rfl, h2⟩]; exact Nat.zero_le _)
theorem clr_same : ∀ (f : Nat) (ds : List On) (o : Nat), SameP ds (clr f ds o).2 := by
  intro f
  induction f with
  | zero => intro ds o; exact SameP.refl _
  | succ f ih =>
    intro ds o
    have key : ∀ (L : List Int) (s : List Int × List On), SameP ds s.2 → SameP ds (L.foldl (clrS f) s).2 := by
      intro L
      induction L with
      | nil => intro s h; exact h
      | cons b L ihL => intro s h; exact ihL _ ((h.trans (ih _ _)).trans (SameP.shut _ _))
    rw [clr_step]
    exact (key _ _ (SameP.refl _)).trans (SameP.wipe _ _)
theorem clrK_same (f : Nat) (ds : List On) (o m : Nat) : SameP ds (clrK f ds o m).2 := by
  have key : ∀ (L : List Int) (s : List Int × List On), SameP ds s.2 → SameP ds (L.foldl (clrS f) s).2 := by
    intro L
    induction L with
    | nil => intro s h; exact h
    | cons b L ihL => intro s h; exact ihL _ ((h.trans (clr_same f _ _)).trans (SameP.shut _ _))
  exact key _ _ (SameP.refl _)

/-- How many labels there are to clean up. -/
def tot (ds : List On) : Nat := (ds.map fun d => d.cl.length).sum
theorem tot_set (d : On) : ∀ (ds : List On) (b : Nat), b < ds.length → tot (ds.set b d) + (ds.getD b default).cl.length = tot ds + d.cl.length := by
  intro ds
  induction ds with
  | nil => intro b h; simp at h
  | cons e ds ih =>
    intro b h
    cases b with
    | zero => simp [tot, List.getD]; omega
    | succ b =>
      have := ih b (by simpa using h)
      simp only [tot, List.set_cons_succ, List.map_cons, List.sum_cons, List.getD_cons_succ] at *
      omega
theorem tot_shut (ds : List On) (b : Nat) : tot (shut ds b) = tot ds := by
  by_cases hb : b < ds.length
  · have := tot_set ⟨(ds.getD b default).p, false, (ds.getD b default).cl, (ds.getD b default).cx⟩ ds b hb
    unfold shut
    dsimp only at this
    omega
  · unfold shut; rw [List.set_eq_of_length_le (by omega)]
theorem tot_wipe (ds : List On) (b : Nat) : tot (wipe ds b) + (ds.getD b default).cl.length = tot ds := by
  by_cases hb : b < ds.length
  · have := tot_set ⟨(ds.getD b default).p, (ds.getD b default).o, [], (ds.getD b default).cx⟩ ds b hb
    unfold wipe
    dsimp only at this
    simpa using this
  · unfold wipe
    rw [List.set_eq_of_length_le (by omega)]
    have : ds.getD b default = default := by simp [List.getD, List.getElem?_eq_none (show ds.length ≤ b by omega)]
    rw [this]; rfl
theorem clr_tot : ∀ (f : Nat) (ds : List On) (o : Nat), (clr f ds o).1.length + tot (clr f ds o).2 = tot ds := by
  intro f
  induction f with
  | zero => intro ds o; simp [clr]
  | succ f ih =>
    intro ds o
    have key : ∀ (L : List Int) (s : List Int × List On), s.1.length + tot s.2 = tot ds → (L.foldl (clrS f) s).1.length + tot (L.foldl (clrS f) s).2 = tot ds := by
      intro L
      induction L with
      | nil => intro s h; exact h
      | cons b L ihL =>
        intro s h
        refine ihL _ ?_
        have := ih s.2 b.toNat
        unfold clrS
        rw [List.length_append, tot_shut]
        omega
    rw [clr_step]
    have h1 := key ((nwTo (kidB ds o) ds.length).reverse.take (nwTo (kidB ds o) ds.length).length) ([], ds) (by simp)
    have h2 := tot_wipe (clrK f ds o (nwTo (kidB ds o) ds.length).length).2 o
    unfold clrK at h2 ⊢
    dsimp only at h1 h2 ⊢
    rw [List.length_append, List.length_reverse]
    omega
theorem clrK_tot (f : Nat) (ds : List On) (o m : Nat) : (clrK f ds o m).1.length + tot (clrK f ds o m).2 = tot ds := by
  have key : ∀ (L : List Int) (s : List Int × List On), s.1.length + tot s.2 = tot ds → (L.foldl (clrS f) s).1.length + tot (L.foldl (clrS f) s).2 = tot ds := by
    intro L
    induction L with
    | nil => intro s h; exact h
    | cons b L ihL =>
      intro s h
      refine ihL _ ?_
      have := clr_tot f s.2 b.toNat
      unfold clrS
      rw [List.length_append, tot_shut]
      omega
  exact key _ _ (by simp)

/-- Each owner has a parent ahead of it. -/
def PO (ds : List On) : Prop := ∀ i, i < ds.length → (i = 0 → (ds.getD i default).p = -1) ∧ (0 < i → 0 ≤ (ds.getD i default).p ∧ (ds.getD i default).p < i)
theorem PO.same {ds es : List On} (h : PO ds) (k : SameP ds es) : PO es := fun i hi => by rw [k.par]; exact h i (by rw [← k.len]; exact hi)
theorem PO.low {ds : List On} (h : PO ds) (o i : Nat) (hi : i ≤ o) (ho : o < ds.length) : kidB ds o i = false := by
  have := h i (by omega)
  have e : ((ds.getD i default).p == (o : Int)) = false := by
    simp only [beq_eq_false_iff_ne, ne_eq]
    by_cases h0 : i = 0
    · have := this.1 h0; omega
    · have := this.2 (by omega); omega
  unfold kidB
  rw [e, Bool.and_false]
theorem PO.of_valid {ds : List On} (h : validO ds = true) : PO ds := fun i hi => okO_par h i hi
theorem nwTo_get (P : Nat → Bool) (n k : Nat) (hk : k < (nwTo P n).length) : ∃ b : Nat, (nwTo P n).getD k 0 = b ∧ b < n ∧ P b = true := by
  unfold nwTo at hk ⊢
  rw [List.length_map] at hk
  refine ⟨((List.range n).filter P)[k], by simp [List.getD, hk], ?_⟩
  have := List.getElem_mem hk
  rw [List.mem_filter, List.mem_range] at this
  exact this
theorem PO.kid {ds : List On} (h : PO ds) (o k : Nat) (ho : o < ds.length) (hk : k < (nwTo (kidB ds o) ds.length).length) : ∃ b : Nat, (nwTo (kidB ds o) ds.length).getD k 0 = b ∧ o < b ∧ b < ds.length := by
  obtain ⟨b, e, hb, hp⟩ := nwTo_get _ _ _ hk
  refine ⟨b, e, ?_, hb⟩
  rcases Nat.lt_or_ge o b with h1 | h1
  · exact h1
  · rw [h.low o b h1 ho] at hp; cases hp

/-- Owners of the call's own, whose lists lie in none of some blocks. -/
def OwOn (Q : Nat → Prop) (lo hi : Nat) (v : Value) (n : Nat) (ds : List On) (w : World) : Prop :=
  n = ds.length ∧ ∃ xs us, OwR lo hi 32 4 v n xs w ∧ us.length = n * 2 ∧ OwF xs us ds ∧ SSk lo hi us (lenOf (rowsO ds)) (rowOf (rowsO ds)) w ∧ ∀ (j : Nat) (u : Value) (q : Nat), us[j]? = some u → u.ownBlock = some q → ¬ Q q
theorem OwOn.all {Q : Nat → Prop} {lo hi n : Nat} {v : Value} {ds : List On} {w : World} (h : OwOn Q lo hi v n ds w) : OwO lo hi v n ds w := by
  obtain ⟨h0, xs, us, h1, h2, h3, h4, _⟩ := h
  exact ⟨h0, xs, us, h1, h2, h3, h4⟩
theorem OwOn.of {Q : Nat → Prop} {lo hi n : Nat} {v : Value} {ds : List On} {w : World} (h : OwO lo hi v n ds w) (hQ : ∀ q, Q q → hi ≤ q) : OwOn Q lo hi v n ds w := by
  obtain ⟨h0, xs, us, h1, h2, h3, h4⟩ := h
  exact ⟨h0, xs, us, h1, h2, h3, h4, fun j u q hj hu hq => by have := (h4.lt j u q hj hu).2; have := hQ q hq; omega⟩
theorem OwOn.more {Q Q' : Nat → Prop} {lo hi n : Nat} {v : Value} {ds : List On} {w : World} (h : OwOn Q lo hi v n ds w) (hQ : ∀ q, Q' q → Q q ∨ hi ≤ q) : OwOn Q' lo hi v n ds w := by
  obtain ⟨h0, xs, us, h1, h2, h3, h4, h5⟩ := h
  refine ⟨h0, xs, us, h1, h2, h3, h4, fun j u q hj hu hq => ?_⟩
  rcases hQ q hq with h6 | h6
  · exact h5 j u q hj hu h6
  · have := (h4.lt j u q hj hu).2; omega
theorem OwOn.mono {Q : Nat → Prop} {lo hi hi' n : Nat} {v : Value} {ds : List On} {w : World} (h : OwOn Q lo hi v n ds w) (h2 : hi ≤ hi') : OwOn Q lo hi' v n ds w := by
  obtain ⟨h0, xs, us, e1, e2, e3, e4, e5⟩ := h
  exact ⟨h0, xs, us, e1.mono (Nat.le_refl _) h2, e2, e3, e4.mono (Nat.le_refl _) h2, e5⟩
theorem OwOn.step {Q : Nat → Prop} {lo hi n : Nat} {v : Value} {ds : List On} {w w' : World} (h : OwOn Q lo hi v n ds w) (hb : Below w.heap.size w w') (hle : hi ≤ w.heap.size) : OwOn Q lo hi v n ds w' := by
  obtain ⟨h0, xs, us, h1, h2, h3, h4, h5⟩ := h
  exact ⟨h0, xs, us, h1.keep fun k _ hk => hb.block k (by omega), h2, h3, h4.keep fun k _ hk => hb.block k (by omega), h5⟩
/-- A row that the lists avoid grew. -/
theorem OwOn.grown {Q : Nat → Prop} {lo hi n : Nat} {v : Value} {ds : List On} {w w' : World} {q : Nat} (h : OwOn Q lo hi v n ds w) (hg : w.grownBy w' (some q)) (hq : Q q) (hv : v.ownBlock ≠ some q) : OwOn Q lo hi v n ds w' := by
  obtain ⟨h0, xs, us, h1, h2, h3, h4, h5⟩ := h
  refine ⟨h0, xs, us, ⟨h1.1.kept hg ?_, h1.2⟩, h2, h3, h4.grown hg (fun j u hj => ?_), h5⟩
  · cases hb : v.ownBlock with
    | none => exact .inl rfl
    | some k => right; rw [← hb]; exact hv
  · cases hb : u.ownBlock with
    | none => exact .inl rfl
    | some k => right; intro e; cases e; exact h5 j u q hj hb hq
/-- Whether an owner is open was written in place. -/
theorem OwOn.setOpen {Q : Nat → Prop} {lo hi n cap g : Nat} {ds : List On} {w : World} (h : OwOn Q lo hi (.slice (some ⟨g, 0, none⟩) n cap) n ds w) (k : Nat) (hk : k < n) :
    OwOn Q lo hi (.slice (some ⟨g, 0, none⟩) n cap) n (shut ds k) (w.setCell ⟨g, k * 4 + 1, none⟩ (.bool false)) := by
  obtain ⟨hn, xs, us, hr, hu, hf, hs, hq⟩ := h
  have hxl : xs.length = n * 4 := hr.1.1
  have hst := hr.1.stored (k * 4 + 1) (.bool false)
  have hkl : k < ds.length := by omega
  have hro : rowsO (shut ds k) = rowsO ds := by
    apply List.ext_getElem?
    intro i
    have hl : (rowsO (shut ds k)).length = (rowsO ds).length := by rw [rowsO_len, rowsO_len, shut_len]
    by_cases hi : i < (rowsO ds).length
    · have e : ∀ (l : List (List Int)) (i : Nat), i < l.length → l[i]? = some (l.getD i []) := fun l i h => by simp [List.getD, h]
      rw [e _ i (by omega), e _ i hi, rowsO_getD, rowsO_getD]
      unfold rowO
      rw [shut_get]
      by_cases hx : i / 2 = k ∧ k < ds.length
      · rw [if_pos hx, hx.1]
      · rw [if_neg hx]
    · rw [List.getElem?_eq_none (by omega), List.getElem?_eq_none (by omega)]
  refine ⟨by rw [shut_len]; exact hn, _, us, ⟨hst.1, hr.2⟩, hu, fun j hj => ?_, by rw [hro]; exact hs.grown hst.2 (hs.ne hr.1 owner_ne_int.symm), hq⟩
  rw [shut_len] at hj
  obtain ⟨f0, f1, f2, f3⟩ := hf j hj
  rw [shut_get]
  by_cases e : j = k
  · subst e
    rw [if_pos ⟨rfl, hkl⟩]
    refine ⟨?_, ?_, ?_, ?_⟩
    · rw [List.getElem?_set, if_neg (by omega)]; exact f0
    · rw [List.getElem?_set, if_pos rfl, if_pos (by omega)]
    · rw [List.getElem?_set, if_neg (by omega)]; exact f2
    · rw [List.getElem?_set, if_neg (by omega)]; exact f3
  · rw [if_neg (fun h => e h.1)]
    refine ⟨?_, ?_, ?_, ?_⟩
    · rw [List.getElem?_set, if_neg (by omega)]; exact f0
    · rw [List.getElem?_set, if_neg (by omega)]; exact f1
    · rw [List.getElem?_set, if_neg (by omega)]; exact f2
    · rw [List.getElem?_set, if_neg (by omega)]; exact f3
theorem rowO_wipe (ds : List On) (k i : Nat) (hk : k < ds.length) : rowO (wipe ds k) i = if i = k * 2 then [] else rowO ds i := by
  unfold rowO
  rw [wipe_get]
  by_cases e2 : i % 2 = 0
  · rw [if_pos e2, if_pos e2]
    by_cases e1 : i / 2 = k
    · rw [if_pos ⟨e1, hk⟩, if_pos (by omega)]
    · rw [if_neg (fun h => e1 h.1), if_neg (by omega)]
  · rw [if_neg e2, if_neg e2, if_neg (show ¬ i = k * 2 by omega)]
    by_cases e1 : i / 2 = k
    · rw [if_pos ⟨e1, hk⟩, e1]
    · rw [if_neg (fun h => e1 h.1)]
/-- An owner's labels were replaced by none. -/
theorem OwOn.setNone {Q : Nat → Prop} {lo hi top n cap g : Nat} {ds : List On} {w : World} {A : Option Addr} {c : Nat} (h : OwOn Q lo hi (.slice (some ⟨g, 0, none⟩) n cap) n ds w) (hQ : ∀ q, Q q → q < hi) (k : Nat) (hk : k < n) (hx : OwR hi top 3 1 (.slice A 0 c) 0 [] w) (hlo : lo ≤ hi) (htop : hi ≤ top) :
    OwOn Q lo top (.slice (some ⟨g, 0, none⟩) n cap) n (wipe ds k) (w.setCell ⟨g, k * 4 + 2, none⟩ (.slice A 0 c)) := by
  obtain ⟨hn, xs, us, hr, hu, hf, hs, hq⟩ := h
  have hkl : k < ds.length := by omega
  have hss : SSk lo top (us.set (k * 2) (.slice A 0 c)) (lenOf (rowsO (wipe ds k))) (rowOf (rowsO (wipe ds k))) w := by
    refine hs.put (k * 2) (by rw [List.getElem?_set, if_pos rfl, if_pos (by omega)]) (fun j hj => by rw [List.getElem?_set, if_neg (by omega)]) (fun j hj _ => by simpa using hj) ?_ (fun j hj => ?_) ?_ hlo htop
    · rw [lenOfO, rowO_wipe ds k _ hkl, if_pos rfl]; rfl
    · rw [lenOfO, rowOfO, rowO_wipe ds k _ hkl, if_neg hj, lenOfO, rowOfO]; exact ⟨rfl, rfl⟩
    · rw [rowOfO, rowO_wipe ds k _ hkl, if_pos rfl]; exact hx
  have hxl : xs.length = n * 4 := hr.1.1
  have hst := hr.1.stored (k * 4 + 2) (.slice A 0 c)
  refine ⟨by rw [wipe_len]; exact hn, _, us.set (k * 2) (.slice A 0 c), ⟨hst.1, fun q hq => Nat.lt_of_lt_of_le (hr.2 q hq) htop⟩, by simpa using hu, fun j hj => ?_, hss.grown hst.2 (hss.ne hr.1 owner_ne_int.symm), fun j u q hj hu hQq => ?_⟩
  · rw [wipe_len] at hj
    obtain ⟨f0, f1, f2, f3⟩ := hf j hj
    rw [wipe_get]
    by_cases e : j = k
    · subst e
      rw [if_pos ⟨rfl, hkl⟩]
      refine ⟨?_, ?_, ?_, ?_⟩
      · rw [List.getElem?_set, if_neg (by omega)]; exact f0
      · rw [List.getElem?_set, if_neg (by omega)]; exact f1
      · rw [List.getElem?_set, if_pos rfl, if_pos (by omega), List.getElem?_set, if_pos rfl, if_pos (by omega)]
      · rw [List.getElem?_set, if_neg (by omega), List.getElem?_set, if_neg (by omega)]; exact f3
    · rw [if_neg (fun h => e h.1)]
      refine ⟨?_, ?_, ?_, ?_⟩
      · rw [List.getElem?_set, if_neg (by omega)]; exact f0
      · rw [List.getElem?_set, if_neg (by omega)]; exact f1
      · rw [List.getElem?_set, if_neg (by omega), List.getElem?_set, if_neg (by omega)]; exact f2
      · rw [List.getElem?_set, if_neg (by omega), List.getElem?_set, if_neg (by omega)]; exact f3
  · rw [List.getElem?_set] at hj
    by_cases e : k * 2 = j
    · rw [if_pos e, if_pos (by omega)] at hj
      cases hj
      have h1 := (hx.1.lt q hu).1
      have h2 := hQ q hQq
      omega
    · rw [if_neg e] at hj
      exact hq j u q hj hu hQq
end Go.Proofs.Ytjhpknnhgbdkiaa
