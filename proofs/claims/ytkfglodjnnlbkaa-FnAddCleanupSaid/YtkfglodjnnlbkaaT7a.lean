/- Words and contracts for memory that the texts behind use. -/
import Derived.Test.YtkfglodjnnlbkaaT0a
import Derived.Test.YtkfglodjnnlbkaaT1a
import Derived.Test.YtkfglodjnnlbkaaT2b
import Derived.Test.YtkfglodjnnlbkaaT3a
import Derived.Test.YtkfglodjnnlbkaaT4a
import Derived.Test.YtkfglodjnnlbkaaT5a
import Derived.Test.YtkfglodjnnlbkaaT6a
import Derived.WalkKit
import Derived.Laws.OwnMore
import Derived.Deep.Draws
import Derived.Test.YtkfglodjnnlbkaaProg
import Derived.WalkSpells
import Derived.WalkLawsBesides
import Derived.Outline
import Derived.Lib.Hide
import Derived.BigQuiet
import Derived.Deep.QuietTactic
import Derived.StillTailTactics
import Derived.Deep.LoopGhost
import Derived.Laws.MakeOwn
import Derived.WalkSmall
import Derived.RegionTactic
import Derived.BigRegion
import Derived.Deep.RegionWith
import Derived.Deep.RegionHeld3
import Derived.Maps.AppendAt
import Derived.Laws.CopyOwn
import Derived.Deep.Cut
import Derived.Laws.Entries
import Derived.Laws.Bits64
import Derived.IntWalk
import Derived.Deep.RegionLaw
import Derived.Deep.AppendLies
import Derived.Deep.DeepCutAuto
import Derived.ArgAppend

namespace Go.Proofs.Ytkfglodjnnlbkaa
set_option linter.unusedSimpArgs false
set_option linter.unusedVariables false
open Go.RowKit
theorem SSk.congr {lo hi : Nat} {vs : List Value} {lens : Nat → Nat} {cont cont' : Nat → List Value} {w : World} (h : SSk lo hi vs lens cont w) (hc : ∀ j, j < vs.length → cont j = cont' j) : SSk lo hi vs lens cont' w :=
  ⟨fun j hj => by obtain ⟨A, m, c, e1, e2, e3⟩ := h.row j hj; exact ⟨A, m, c, e1, e2, by rw [← hc j hj]; exact e3⟩, h.apart⟩
end Go.Proofs.Ytkfglodjnnlbkaa

namespace Go.Proofs.Ytkfglodjnnlbkaa
set_option linter.unusedSimpArgs false
set_option linter.unusedVariables false
open Go.RowKit
theorem SSk.two {lo mid top : Nat} {w : World} {A A' : Option Addr} {m c m' c' : Nat} {lens : Nat → Nat} {cont : Nat → List Value} (h1 : OwR lo mid 3 1 (.slice A m c) m (cont 0) w) (h2 : OwR mid top 3 1 (.slice A' m' c') m' (cont 1) w) (hm : m = lens 0) (hm' : m' = lens 1) (hlo : lo ≤ mid) (htop : mid ≤ top) :
    SSk lo top [.slice A m c, .slice A' m' c'] lens cont w := by
  refine ⟨fun j hj => ?_, fun i j v u k hij hi hj hv hu => ?_⟩
  · match j, hj with
    | 0, _ => exact ⟨A, m, c, rfl, hm, h1.mono (Nat.le_refl _) htop⟩
    | 1, _ => exact ⟨A', m', c', rfl, hm', h2.mono hlo (Nat.le_refl _)⟩
  · have b1 : ∀ q, (Value.slice A m c).ownBlock = some q → lo ≤ q ∧ q < mid := fun q hq => ⟨(h1.1.lt q hq).1, h1.2 q hq⟩
    have b2 : ∀ q, (Value.slice A' m' c').ownBlock = some q → mid ≤ q ∧ q < top := fun q hq => ⟨(h2.1.lt q hq).1, h2.2 q hq⟩
    match i, j with
    | 0, 0 => exact absurd rfl hij
    | 1, 1 => exact absurd rfl hij
    | 0, 1 => cases hi; cases hj; have := b1 k hv; have := b2 k hu; omega
    | 1, 0 => cases hi; cases hj; have := b2 k hv; have := b1 k hu; omega
    | i + 2, _ => simp at hi
    | 0, j + 2 => simp at hj
    | 1, j + 2 => simp at hj
end Go.Proofs.Ytkfglodjnnlbkaa

namespace Go.Proofs.Ytkfglodjnnlbkaa
set_option linter.unusedSimpArgs false
set_option linter.unusedVariables false
open Go.RowKit
/-- An owner and all above it. -/
def upF (ds : List On) : Nat → Int → List Int
  | 0, _ => []
  | f + 1, o => if o < 0 then [] else o :: upF ds f (ds.getD o.toNat default).p
theorem upF_neg (ds : List On) (f : Nat) (o : Int) (h : o < 0) : upF ds f o = [] := by
  cases f with
  | zero => rfl
  | succ f => unfold upF; rw [if_pos h]
theorem upF_step (ds : List On) (f k : Nat) : upF ds (f + 1) (k : Int) = (k : Int) :: upF ds f (ds.getD k default).p := by
  rw [upF, if_neg (by omega)]; simp
end Go.Proofs.Ytkfglodjnnlbkaa

namespace Go.Proofs.Ytkfglodjnnlbkaa
set_option linter.unusedSimpArgs false
set_option linter.unusedVariables false
open Go.RowKit
def wipe (ds : List On) (o : Nat) : List On := ds.set o ⟨(ds.getD o default).p, (ds.getD o default).o, [], (ds.getD o default).cx⟩
/-- The labels that are met, and the owners behind it. -/
def clr : Nat → List On → Nat → List Int × List On
  | 0, ds, _ => ([], ds)
  | f + 1, ds, o =>
    let r := ((nwTo (kidB ds o) ds.length).reverse).foldl (fun (s : List Int × List On) (b : Int) => (s.1 ++ (clr f s.2 b.toNat).1, shut (clr f s.2 b.toNat).2 b.toNat)) ([], ds)
    (r.1 ++ ((r.2.getD o default).cl).reverse, wipe r.2 o)
/-- One kid is cleared and closed. -/
def clrS (f : Nat) (s : List Int × List On) (b : Int) : List Int × List On := (s.1 ++ (clr f s.2 b.toNat).1, shut (clr f s.2 b.toNat).2 b.toNat)
/-- Behind the last m kids. -/
def clrK (f : Nat) (ds : List On) (o m : Nat) : List Int × List On := (((nwTo (kidB ds o) ds.length).reverse).take m).foldl (clrS f) ([], ds)
theorem clr_step (f : Nat) (ds : List On) (o : Nat) : clr (f + 1) ds o = ((clrK f ds o (nwTo (kidB ds o) ds.length).length).1 ++ (((clrK f ds o (nwTo (kidB ds o) ds.length).length).2.getD o default).cl).reverse, wipe (clrK f ds o (nwTo (kidB ds o) ds.length).length).2 o) := by
  unfold clrK
  rw [List.take_of_length_le (by rw [List.length_reverse]; exact Nat.le_refl _)]
  rfl
theorem wipe_len (ds : List On) (b : Nat) : (wipe ds b).length = ds.length := by unfold wipe; simp
theorem wipe_get (ds : List On) (b i : Nat) : (wipe ds b).getD i default = if i = b ∧ b < ds.length then ⟨(ds.getD b default).p, (ds.getD b default).o, [], (ds.getD b default).cx⟩ else ds.getD i default := by
  unfold wipe
  by_cases hb : b < ds.length
  · rw [getD_set ds b i _ hb]
    by_cases h : i = b
    · rw [if_pos h, if_pos ⟨h, hb⟩]
    · rw [if_neg h, if_neg (fun e => h e.1)]
  · rw [if_neg (fun e => hb e.2), List.set_eq_of_length_le (by omega)]
theorem SameP.wipe (ds : List On) (b : Nat) : SameP ds (wipe ds b) := by
  refine ⟨wipe_len _ _, fun i => ?_, fun i => ?_, fun i => ?_⟩ <;> rw [wipe_get] <;> by_cases h : i = b ∧ b < ds.length
  all_goals first | (rw [if_neg h]; done) | (rw [if_neg h]; exact Nat.le_refl _) | (obtain ⟨rfl, _⟩ := h; rw [if_pos ⟨rfl, by assumption⟩]; done) | (obtain ⟨rfl, h2⟩ := h; rw [if_pos ⟨rfl, h2⟩]; exact Nat.zero_le _)
theorem clr_same : ∀ (f : Nat) (ds : List On) (o : Nat), SameP ds (clr f ds o).2 := by
  intro f
  induction f with
  | zero => intro ds o; exact SameP.refl _
  | succ f ih =>
    intro ds o
    have key : ∀ (L : List Int) (s : List Int × List On), SameP ds s.2 → SameP ds (L.foldl (clrS f) s).2 := by
      intro L
      induction L with
      | nil => intro s h; exact h
      | cons b L ihL => intro s h; exact ihL _ ((h.trans (ih _ _)).trans (SameP.shut _ _))
    rw [clr_step]
    exact (key _ _ (SameP.refl _)).trans (SameP.wipe _ _)
theorem clrK_same (f : Nat) (ds : List On) (o m : Nat) : SameP ds (clrK f ds o m).2 := by
  have key : ∀ (L : List Int) (s : List Int × List On), SameP ds s.2 → SameP ds (L.foldl (clrS f) s).2 := by
    intro L
    induction L with
    | nil => intro s h; exact h
    | cons b L ihL => intro s h; exact ihL _ ((h.trans (clr_same f _ _)).trans (SameP.shut _ _))
  exact key _ _ (SameP.refl _)
theorem PO.same {ds es : List On} (h : PO ds) (k : SameP ds es) : PO es := fun i hi => by rw [k.par]; exact h i (by rw [← k.len]; exact hi)
theorem PO.low {ds : List On} (h : PO ds) (o i : Nat) (hi : i ≤ o) (ho : o < ds.length) : kidB ds o i = false := by
  have := h i (by omega)
  have e : ((ds.getD i default).p == (o : Int)) = false := by
    simp only [beq_eq_false_iff_ne, ne_eq]
    by_cases h0 : i = 0
    · have := this.1 h0; omega
    · have := this.2 (by omega); omega
  unfold kidB
  rw [e, Bool.and_false]
theorem nwTo_get (P : Nat → Bool) (n k : Nat) (hk : k < (nwTo P n).length) : ∃ b : Nat, (nwTo P n).getD k 0 = b ∧ b < n ∧ P b = true := by
  unfold nwTo at hk ⊢
  rw [List.length_map] at hk
  refine ⟨((List.range n).filter P)[k], by simp [List.getD, hk], ?_⟩
  have := List.getElem_mem hk
  rw [List.mem_filter, List.mem_range] at this
  exact this
theorem PO.kid {ds : List On} (h : PO ds) (o k : Nat) (ho : o < ds.length) (hk : k < (nwTo (kidB ds o) ds.length).length) : ∃ b : Nat, (nwTo (kidB ds o) ds.length).getD k 0 = b ∧ o < b ∧ b < ds.length := by
  obtain ⟨b, e, hb, hp⟩ := nwTo_get _ _ _ hk
  refine ⟨b, e, ?_, hb⟩
  rcases Nat.lt_or_ge o b with h1 | h1
  · exact h1
  · rw [h.low o b h1 ho] at hp; cases hp
end Go.Proofs.Ytkfglodjnnlbkaa

namespace Go.Proofs.Ytkfglodjnnlbkaa
set_option linter.unusedSimpArgs false
set_option linter.unusedVariables false
/-- The owner o is i, or above it. -/
def Und (ds : List On) (o i : Nat) : Prop := (o : Int) ∈ upF ds ds.length (i : Int)
theorem upF_fuel {ds : List On} (h : PO ds) : ∀ (i f : Nat), i < f → i < ds.length → upF ds f (i : Int) = upF ds (i + 1) (i : Int) := by
  intro i
  induction i using Nat.strongRecOn with
  | ind i ih =>
    intro f hf hi
    obtain ⟨f', rfl⟩ : ∃ f', f = f' + 1 := ⟨f - 1, by omega⟩
    rw [upF_step, upF_step]
    congr 1
    rcases Nat.eq_zero_or_pos i with rfl | h0
    · rw [(h 0 hi).1 rfl, upF_neg _ _ _ (by omega), upF_neg _ _ _ (by omega)]
    · obtain ⟨p0, p1⟩ := (h i hi).2 h0
      obtain ⟨q, hq⟩ : ∃ q : Nat, (ds.getD i default).p = q := ⟨(ds.getD i default).p.toNat, by omega⟩
      rw [hq, ih q (by omega) f' (by omega) (by omega), ih q (by omega) i (by omega) (by omega)]
theorem Und_iff {ds : List On} (h : PO ds) (o i : Nat) (hi : i < ds.length) : Und ds o i ↔ i = o ∨ (0 < i ∧ Und ds o (parN ds i)) := by
  unfold Und
  rw [upF_fuel h i _ hi hi, upF_step, List.mem_cons]
  rcases Nat.eq_zero_or_pos i with rfl | h0
  · rw [(h 0 hi).1 rfl, upF_neg _ _ _ (by omega)]
    simp
    omega
  · obtain ⟨p0, p1⟩ := (h i hi).2 h0
    have hq : (ds.getD i default).p = ((parN ds i : Nat) : Int) := by unfold parN; omega
    have hlt : parN ds i < i := by unfold parN; omega
    rw [hq, upF_fuel h _ i hlt (by omega), upF_fuel h _ ds.length (by omega) (by omega)]
    constructor
    · rintro (e | e)
      · left; omega
      · exact .inr ⟨h0, e⟩
    · rintro (e | ⟨_, e⟩)
      · left; omega
      · exact .inr e
theorem Und_self {ds : List On} (h : PO ds) (o : Nat) (ho : o < ds.length) : Und ds o o := (Und_iff h o o ho).2 (.inl rfl)
theorem par_lt {ds : List On} (h : PO ds) (i : Nat) (hi : i < ds.length) (h0 : 0 < i) : parN ds i < i := by
  have := (h i hi).2 h0
  unfold parN; omega
theorem Und_le {ds : List On} (h : PO ds) (o : Nat) : ∀ i, i < ds.length → Und ds o i → o ≤ i := by
  intro i
  induction i using Nat.strongRecOn with
  | ind i ih =>
    intro hi hb
    rcases (Und_iff h o i hi).1 hb with e | ⟨h0, hb⟩
    · omega
    · have := par_lt h i hi h0
      have := ih _ this (by omega) hb
      omega
theorem Und_trans {ds : List On} (h : PO ds) (a b : Nat) (hab : Und ds a b) : ∀ i, i < ds.length → Und ds b i → Und ds a i := by
  intro i
  induction i using Nat.strongRecOn with
  | ind i ih =>
    intro hi hb
    rcases (Und_iff h b i hi).1 hb with e | ⟨h0, hb⟩
    · rw [e]; exact hab
    · have := par_lt h i hi h0
      exact (Und_iff h a i hi).2 (.inr ⟨h0, ih _ this (by omega) hb⟩)
/-- Of what lies below o, but o itself, there is a kid on the way. -/
theorem Und_kid {ds : List On} (h : PO ds) (o : Nat) : ∀ i, i < ds.length → Und ds o i → i ≠ o → ∃ b, b < ds.length ∧ 0 < b ∧ parN ds b = o ∧ Und ds b i := by
  intro i
  induction i using Nat.strongRecOn with
  | ind i ih =>
    intro hi hb hne
    rcases (Und_iff h o i hi).1 hb with e | ⟨h0, hb⟩
    · exact absurd e hne
    · have hlt := par_lt h i hi h0
      by_cases e : parN ds i = o
      · exact ⟨i, hi, h0, e, Und_self h i hi⟩
      · obtain ⟨b, h1, h2, h3, h4⟩ := ih _ hlt (by omega) hb e
        exact ⟨b, h1, h2, h3, (Und_iff h b i hi).2 (.inr ⟨h0, h4⟩)⟩
theorem SameP.parE {ds es : List On} (k : SameP ds es) (i : Nat) : parN es i = parN ds i := by unfold parN; rw [k.par]
theorem SameP.bl {ds es : List On} (k : SameP ds es) (h : PO ds) (o : Nat) : ∀ i, i < ds.length → (Und es o i ↔ Und ds o i) := by
  intro i
  induction i using Nat.strongRecOn with
  | ind i ih =>
    intro hi
    rw [Und_iff (h.same k) o i (by rw [k.len]; exact hi), Und_iff h o i hi, k.parE]
    constructor
    · rintro (e | ⟨h0, e⟩)
      · exact .inl e
      · exact .inr ⟨h0, (ih _ (par_lt h i hi h0) (by have := par_lt h i hi h0; omega)).1 e⟩
    · rintro (e | ⟨h0, e⟩)
      · exact .inl e
      · exact .inr ⟨h0, (ih _ (par_lt h i hi h0) (by have := par_lt h i hi h0; omega)).2 e⟩
/-- Below a closed owner all are closed. -/
theorem VO.closed {ds : List On} (v : VO ds) (h : PO ds) (b : Nat) (hb : isO ds b = false) : ∀ i, i < ds.length → Und ds b i → isO ds i = false := by
  intro i
  induction i using Nat.strongRecOn with
  | ind i ih =>
    intro hi hbi
    rcases (Und_iff h b i hi).1 hbi with e | ⟨h0, e⟩
    · rw [e]; exact hb
    · have hlt := par_lt h i hi h0
      have h2 := ih _ hlt (by omega) e
      cases hc : isO ds i
      · rfl
      · rw [v.up i hi h0 hc] at h2; cases h2
/-- What clearing does. -/
structure ClrP (ds es : List On) (o : Nat) : Prop where
  low : ∀ i, i < ds.length → i ≠ o → Und ds o i → isO es i = false ∧ clO es i = []
  out : ∀ i, i < ds.length → ¬ Und ds o i → isO es i = isO ds i ∧ clO es i = clO ds i
  own : isO es o = isO ds o ∧ clO es o = []
theorem isO_shut (ds : List On) (b i : Nat) (hb : b < ds.length) : isO (shut ds b) i = if i = b then false else isO ds i := by
  unfold isO; rw [shut_get]
  by_cases h : i = b
  · rw [if_pos ⟨h, hb⟩, if_pos h]
  · rw [if_neg (fun e => h e.1), if_neg h]
theorem clO_shut (ds : List On) (b i : Nat) : clO (shut ds b) i = clO ds i := by
  unfold clO; rw [shut_get]
  by_cases h : i = b ∧ b < ds.length
  · rw [if_pos h, h.1]
  · rw [if_neg h]
theorem isO_wipe (ds : List On) (b i : Nat) : isO (wipe ds b) i = isO ds i := by
  unfold isO; rw [wipe_get]
  by_cases h : i = b ∧ b < ds.length
  · rw [if_pos h, h.1]
  · rw [if_neg h]
theorem clO_wipe (ds : List On) (b i : Nat) (hb : b < ds.length) : clO (wipe ds b) i = if i = b then [] else clO ds i := by
  unfold clO; rw [wipe_get]
  by_cases h : i = b
  · rw [if_pos ⟨h, hb⟩, if_pos h]
  · rw [if_neg (fun e => h e.1), if_neg h]
theorem kid_mem {ds : List On} (h : PO ds) (o b : Nat) (ho : o < ds.length) : (b : Int) ∈ nwTo (kidB ds o) ds.length ↔ b < ds.length ∧ 0 < b ∧ parN ds b = o ∧ isO ds b = true := by
  unfold nwTo kidB isO parN
  rw [List.mem_map]
  constructor
  · rintro ⟨i, hi, e⟩
    rw [List.mem_filter, List.mem_range] at hi
    obtain ⟨h1, h2⟩ := hi
    obtain rfl : i = b := by omega
    rw [Bool.and_eq_true] at h2
    obtain ⟨h2, h3⟩ := h2
    have h3' : (ds.getD i default).p = (o : Int) := by simpa using h3
    refine ⟨h1, ?_, by omega, h2⟩
    rcases Nat.eq_zero_or_pos i with rfl | h0
    · have := (h 0 h1).1 rfl; omega
    · exact h0
  · rintro ⟨h1, h0, h2, h3⟩
    refine ⟨b, ?_, rfl⟩
    rw [List.mem_filter, List.mem_range, Bool.and_eq_true]
    have := (h b h1).2 h0
    exact ⟨h1, h3, by rw [beq_iff_eq]; omega⟩
theorem nwTo_nodup (P : Nat → Bool) (n : Nat) : (nwTo P n).Nodup := by
  unfold nwTo
  rw [List.nodup_iff_pairwise_ne, List.pairwise_map]
  have h := List.nodup_range (n := n)
  exact (List.nodup_iff_pairwise_ne.1 (h.sublist List.filter_sublist)).imp fun h e => h (by omega)
theorem clr_facts : ∀ (f : Nat) (ds : List On) (o : Nat), ds.length - o ≤ f → o < ds.length → PO ds → VO ds → isO ds o = true → ClrP ds (clr f ds o).2 o ∧ VO (clr f ds o).2 := by
  intro f
  induction f with
  | zero => intro ds o h1 h2; omega
  | succ f ih =>
    intro ds o hf ho hp hv hoo
    -- the kids, from the last one on
    have key : ∀ (L : List Int) (s : List Int × List On) (dn : List Nat), SameP ds s.2 → VO s.2 → (∀ b ∈ L, ∃ k : Nat, b = k ∧ k < ds.length ∧ 0 < k ∧ parN ds k = o ∧ isO ds k = true ∧ k ∉ dn) → L.Nodup → (∀ k ∈ dn, k < ds.length ∧ 0 < k ∧ parN ds k = o) →
        (∀ i, i < ds.length → (∃ k ∈ dn, Und ds k i) → isO s.2 i = false ∧ clO s.2 i = []) → (∀ i, i < ds.length → (¬ ∃ k ∈ dn, Und ds k i) → isO s.2 i = isO ds i ∧ clO s.2 i = clO ds i) →
        VO (L.foldl (clrS f) s).2 ∧ (∀ i, i < ds.length → ((∃ k ∈ dn, Und ds k i) ∨ ∃ k : Nat, (k : Int) ∈ L ∧ Und ds k i) → isO (L.foldl (clrS f) s).2 i = false ∧ clO (L.foldl (clrS f) s).2 i = []) ∧
          (∀ i, i < ds.length → (¬ ((∃ k ∈ dn, Und ds k i) ∨ ∃ k : Nat, (k : Int) ∈ L ∧ Und ds k i)) → isO (L.foldl (clrS f) s).2 i = isO ds i ∧ clO (L.foldl (clrS f) s).2 i = clO ds i) := by
      intro L
      induction L with
      | nil =>
        intro s dn hs hvs hL hnd hdn h1 h2
        refine ⟨hvs, fun i hi h => h1 i hi (h.elim id fun ⟨k, hk, _⟩ => by simp at hk), fun i hi h => h2 i hi fun e => h (.inl e)⟩
      | cons b0 L ihL =>
        intro s dn hs hvs hL hnd hdn h1 h2
        obtain ⟨b, rfl, hb, hb0, hbp, hbo, hbd⟩ := hL b0 (by simp)
        have hob : o < b := by have := par_lt hp b hb hb0; omega
        have hlen := hs.len
        have hps := hp.same hs
        -- two kids do not lie one above the other
        have apart : ∀ k, k < ds.length → 0 < k → parN ds k = o → Und ds k b → k = b := by
          intro k hk hk0 hkp hkb
          rcases (Und_iff hp k b hb).1 hkb with e | ⟨_, e⟩
          · exact e.symm
          · rw [hbp] at e
            have h5 := Und_le hp k o (by omega) e
            have h6 := par_lt hp k hk hk0
            omega
        have hbs : isO s.2 b = true := by
          rw [(h2 b hb (fun ⟨k, hk, hkb⟩ => by
            obtain ⟨k1, k2, k3⟩ := hdn k hk
            exact hbd (apart k k1 k2 k3 hkb ▸ hk))).1]
          exact hbo
        obtain ⟨c1, c2⟩ := ih s.2 b (by rw [hlen]; omega) (by rw [hlen]; exact hb) hps hvs hbs
        have hsm := clr_same f s.2 b
        have hE : SameP ds (clr f s.2 b).2 := hs.trans hsm
        have hbE : b < (clr f s.2 b).2.length := by rw [hE.len]; exact hb
        have hsS : SameP ds (clrS f s (b : Int)).2 := by
          unfold clrS
          simp only [Int.toNat_natCast]
          exact hE.trans (SameP.shut _ _)
        have e2 : (clrS f s (b : Int)).2 = shut (clr f s.2 b).2 b := by unfold clrS; simp only [Int.toNat_natCast]
        have st1 : ∀ i, i < ds.length → (∃ k ∈ b :: dn, Und ds k i) → isO (clrS f s (b : Int)).2 i = false ∧ clO (clrS f s (b : Int)).2 i = [] := by
          intro i hi hk
          rw [e2, isO_shut _ _ _ hbE, clO_shut]
          by_cases hbi : Und ds b i
          · by_cases e : i = b
            · subst e; rw [if_pos rfl]; exact ⟨rfl, c1.own.2⟩
            · rw [if_neg e]
              exact c1.low i (by rw [hlen]; exact hi) e ((hs.bl hp b i hi).2 hbi)
          · obtain ⟨k, hk1, hk2⟩ := hk
            rcases List.mem_cons.1 hk1 with rfl | hk1
            · exact absurd hk2 hbi
            · have hne : i ≠ b := fun e => hbi (e ▸ Und_self hp b hb)
              rw [if_neg hne]
              have h3 := c1.out i (by rw [hlen]; exact hi) (fun e => hbi ((hs.bl hp b i hi).1 e))
              rw [h3.1, h3.2]
              exact h1 i hi ⟨k, hk1, hk2⟩
        have st2 : ∀ i, i < ds.length → (¬ ∃ k ∈ b :: dn, Und ds k i) → isO (clrS f s (b : Int)).2 i = isO ds i ∧ clO (clrS f s (b : Int)).2 i = clO ds i := by
          intro i hi hk
          rw [e2, isO_shut _ _ _ hbE, clO_shut]
          have hbi : ¬ Und ds b i := fun e => hk ⟨b, by simp, e⟩
          have hne : i ≠ b := fun e => hbi (e ▸ Und_self hp b hb)
          rw [if_neg hne]
          have h3 := c1.out i (by rw [hlen]; exact hi) (fun e => hbi ((hs.bl hp b i hi).1 e))
          rw [h3.1, h3.2]
          exact h2 i hi fun ⟨k, hk1, hk2⟩ => hk ⟨k, by simp [hk1], hk2⟩
        have hvS : VO (clrS f s (b : Int)).2 := by
          rw [e2]
          refine ⟨fun i hi h0 hio => ?_, fun i hi hio => ?_⟩
          · rw [shut_len] at hi
            have hid : i < ds.length := by rw [hE.len] at hi; exact hi
            rw [isO_shut _ _ _ hbE] at hio ⊢
            have hpn : parN (shut (clr f s.2 b).2 b) i = parN ds i := by rw [(SameP.shut _ _).parE, hE.parE]
            rw [hpn]
            have hib : i ≠ b := fun e => by rw [if_pos e] at hio; cases hio
            rw [if_neg hib] at hio
            have hnb : ¬ Und ds b i := fun e => by
              have := (c1.low i (by rw [hlen]; exact hid) hib ((hs.bl hp b i hid).2 e)).1
              rw [this] at hio; cases hio
            have hpb : parN ds i ≠ b := fun e => hnb ((Und_iff hp b i hid).2 (.inr ⟨h0, by rw [e]; exact Und_self hp b hb⟩))
            rw [if_neg hpb]
            have := c2.up i hi h0 hio
            rwa [hE.parE] at this
          · rw [shut_len] at hi
            rw [isO_shut _ _ _ hbE] at hio
            rw [clO_shut]
            by_cases e : i = b
            · rw [e]; exact c1.own.2
            · rw [if_neg e] at hio
              exact c2.no i hi hio
        rw [List.nodup_cons] at hnd
        obtain ⟨r1, r2, r3⟩ := ihL (clrS f s (b : Int)) (b :: dn) hsS hvS (fun c hc => by
          obtain ⟨k, rfl, k1, k2, k3, k4, k5⟩ := hL c (by simp [hc])
          refine ⟨k, rfl, k1, k2, k3, k4, fun e => ?_⟩
          rcases List.mem_cons.1 e with rfl | e
          · exact hnd.1 hc
          · exact k5 e) hnd.2 (fun k hk => by
          rcases List.mem_cons.1 hk with rfl | hk
          · exact ⟨hb, hb0, hbp⟩
          · exact hdn k hk) st1 st2
        have heq : ∀ i, ((∃ k ∈ dn, Und ds k i) ∨ ∃ k : Nat, (k : Int) ∈ (b : Int) :: L ∧ Und ds k i) ↔ ((∃ k ∈ b :: dn, Und ds k i) ∨ ∃ k : Nat, (k : Int) ∈ L ∧ Und ds k i) := by
          intro i
          constructor
          · rintro (⟨k, hk, hki⟩ | ⟨k, hk, hki⟩)
            · exact .inl ⟨k, by simp [hk], hki⟩
            · rcases List.mem_cons.1 hk with e | hk
              · obtain rfl : k = b := by omega
                exact .inl ⟨k, by simp, hki⟩
              · exact .inr ⟨k, hk, hki⟩
          · rintro (⟨k, hk, hki⟩ | ⟨k, hk, hki⟩)
            · rcases List.mem_cons.1 hk with rfl | hk
              · exact .inr ⟨k, by simp, hki⟩
              · exact .inl ⟨k, hk, hki⟩
            · exact .inr ⟨k, by simp [hk], hki⟩
        exact ⟨r1, fun i hi h => r2 i hi ((heq i).1 h), fun i hi h => r3 i hi fun e => h ((heq i).2 e)⟩
    obtain ⟨r1, r2, r3⟩ := key ((nwTo (kidB ds o) ds.length).reverse.take (nwTo (kidB ds o) ds.length).length) ([], ds) [] (SameP.refl _) hv (fun b hb => by
      rw [List.take_of_length_le (by rw [List.length_reverse]; exact Nat.le_refl _), List.mem_reverse] at hb
      obtain ⟨k, hk, hkk⟩ := List.getElem_of_mem hb
      obtain ⟨q, e, hq, _⟩ := nwTo_get _ _ _ hk
      have hbq : b = (q : Int) := by rw [← hkk, ← e]; simp [List.getD, hk]
      subst hbq
      obtain ⟨m1, m2, m3, m4⟩ := (kid_mem hp o q ho).1 hb
      exact ⟨q, rfl, m1, m2, m3, m4, by simp⟩) (by
      rw [List.take_of_length_le (by rw [List.length_reverse]; exact Nat.le_refl _)]
      exact (List.reverse_perm _).nodup_iff.2 (nwTo_nodup _ _)) (by simp) (fun i _ h => by simp at h) (fun i _ _ => ⟨rfl, rfl⟩)
    have hmem : ∀ k : Nat, (k : Int) ∈ (nwTo (kidB ds o) ds.length).reverse.take (nwTo (kidB ds o) ds.length).length ↔ k < ds.length ∧ 0 < k ∧ parN ds k = o ∧ isO ds k = true := by
      intro k
      rw [List.take_of_length_le (by rw [List.length_reverse]; exact Nat.le_refl _), List.mem_reverse]
      exact kid_mem hp o k ho
    have hsm : SameP ds (clrK f ds o (nwTo (kidB ds o) ds.length).length).2 := clrK_same _ _ _ _
    have hK : clrK f ds o (nwTo (kidB ds o) ds.length).length = ((nwTo (kidB ds o) ds.length).reverse.take (nwTo (kidB ds o) ds.length).length).foldl (clrS f) ([], ds) := rfl
    rw [← hK] at r1 r2 r3
    rw [clr_step]
    generalize clrK f ds o (nwTo (kidB ds o) ds.length).length = K at *
    have hoK : o < K.2.length := by rw [hsm.len]; exact ho
    have hoo2 : ¬ ((∃ k ∈ ([] : List Nat), Und ds k o) ∨ ∃ k : Nat, (k : Int) ∈ (nwTo (kidB ds o) ds.length).reverse.take (nwTo (kidB ds o) ds.length).length ∧ Und ds k o) := by
      rintro (⟨k, hk, _⟩ | ⟨k, hk, hko⟩)
      · simp at hk
      · obtain ⟨m1, m2, m3, _⟩ := (hmem k).1 hk
        have := Und_le hp k o ho hko
        have := par_lt hp k m1 m2
        omega
    refine ⟨⟨fun i hi hne hb => ?_, fun i hi hb => ?_, ?_⟩, ⟨fun i hi h0 hio => ?_, fun i hi hio => ?_⟩⟩
    · dsimp only
      rw [isO_wipe, clO_wipe _ _ _ hoK, if_neg hne]
      obtain ⟨b, hb1, hb2, hb3, hb4⟩ := Und_kid hp o i hi hb hne
      cases hbo : isO ds b
      · have hci := hv.closed hp b hbo i hi hb4
        by_cases hx : (∃ k ∈ ([] : List Nat), Und ds k i) ∨ ∃ k : Nat, (k : Int) ∈ (nwTo (kidB ds o) ds.length).reverse.take (nwTo (kidB ds o) ds.length).length ∧ Und ds k i
        · exact r2 i hi hx
        · obtain ⟨a1, a2⟩ := r3 i hi hx
          rw [a1, a2]
          exact ⟨hci, hv.no i hi hci⟩
      · exact r2 i hi (.inr ⟨b, (hmem b).2 ⟨hb1, hb2, hb3, hbo⟩, hb4⟩)
    · dsimp only
      have hne : i ≠ o := fun e => hb (e ▸ Und_self hp o ho)
      rw [isO_wipe, clO_wipe _ _ _ hoK, if_neg hne]
      refine r3 i hi ?_
      rintro (⟨k, hk, _⟩ | ⟨k, hk, hki⟩)
      · simp at hk
      · obtain ⟨m1, m2, m3, _⟩ := (hmem k).1 hk
        refine hb (Und_trans hp o k ?_ i hi hki)
        exact (Und_iff hp o k m1).2 (.inr ⟨m2, by rw [m3]; exact Und_self hp o ho⟩)
    · dsimp only
      rw [isO_wipe, clO_wipe _ _ _ hoK, if_pos rfl]
      exact ⟨(r3 o ho hoo2).1, rfl⟩
    · dsimp only at hi hio ⊢
      rw [wipe_len] at hi
      rw [isO_wipe] at hio ⊢
      rw [(SameP.wipe _ _).parE]
      exact r1.up i hi h0 hio
    · dsimp only at hi hio ⊢
      rw [wipe_len] at hi
      rw [isO_wipe] at hio
      rw [clO_wipe _ _ _ hoK]
      split
      · rfl
      · exact r1.no i hi hio
end Go.Proofs.Ytkfglodjnnlbkaa
