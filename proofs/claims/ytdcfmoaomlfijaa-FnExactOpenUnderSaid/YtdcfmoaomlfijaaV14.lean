/- Owners: one list of an owner changes: words; the standing contracts of AddCleanup and SetContext. -/
import Derived.Test.YtdcfmoaomlfijaaV13
import Derived.Test.YtdcfmoaomlfijaaV9

namespace Go.Proofs.Ytdcfmoaomlfijaa
set_option linter.unusedSimpArgs false
set_option linter.unusedVariables false
open Go.RowKit

/-- One of the lists grew by an append. -/
theorem SSk.grow {lo hi J m' c' : Nat} {vs : List Value} {lens lens' : Nat → Nat} {cont cont' : Nat → List Value} {w w' : World} {X : Value} {A' : Option Addr} {ys : List Value} (h : SSk lo hi vs lens cont w) (hle : hi ≤ w.heap.size) (hJ : vs[J]? = some X) (hg : w.grownBy w' X.ownBlock)
    (hv : w'.ownsRow lo 3 1 (.slice A' m' c') m' ys) (hb : (Value.slice A' m' c').ownBlock = X.ownBlock ∨ (Value.slice A' m' c').ownBlock = some w.heap.size) (hl : lens' J = m') (hc : cont' J = ys) (ho : ∀ j, j ≠ J → lens' j = lens j ∧ cont' j = cont j) : SSk lo w'.heap.size (vs.set J (.slice A' m' c')) lens' cont' w' := by
  have hJl : J < vs.length := by
    rcases Nat.lt_or_ge J vs.length with h1 | h1
    · exact h1
    · rw [List.getElem?_eq_none h1] at hJ; cases hJ
  have hw := hg.size
  have hother (j : Nat) (hj : j ≠ J) (u : Value) (hu : vs[j]? = some u) (q : Nat) (hq : u.ownBlock = some q) : q < w.heap.size ∧ X.ownBlock ≠ some q := by
    refine ⟨by have := (h.lt j u q hu hq).2; omega, fun hx => ?_⟩
    exact h.apart j J u X q hj hu hJ hq hx
  refine ⟨fun j hj => ?_, fun i j v u q hij hi hj hvq huq => ?_⟩
  · by_cases e : j = J
    · subst e
      exact ⟨A', m', c', by rw [List.getElem?_set, if_pos rfl, if_pos hJl], hl.symm, by rw [hc]; exact OwR.start hv⟩
    · obtain ⟨A, m, c, e1, e2, e3⟩ := h.row j (by simpa using hj)
      obtain ⟨o1, o2⟩ := ho j e
      refine ⟨A, m, c, by rw [List.getElem?_set, if_neg (fun h => e h.symm)]; exact e1, by rw [o1]; exact e2, ?_⟩
      rw [o2]
      refine ⟨e3.1.kept hg ?_, fun q hq => by have := e3.2 q hq; omega⟩
      cases hb2 : (Value.slice A m c).ownBlock with
      | none => exact .inl rfl
      | some q => exact .inr fun hx => (hother j e _ e1 q hb2).2 hx.symm
  · by_cases ei : i = J
    · subst ei
      rw [List.getElem?_set, if_pos rfl, if_pos hJl] at hi
      cases hi
      rw [List.getElem?_set, if_neg hij] at hj
      have := hother j (fun h => hij h.symm) u hj q huq
      rcases hb with hb | hb
      · rw [hb] at hvq; exact this.2 hvq
      · rw [hb] at hvq; simp only [Option.some.injEq] at hvq; omega
    · rw [List.getElem?_set, if_neg (fun h => ei h.symm)] at hi
      by_cases ej : j = J
      · subst ej
        rw [List.getElem?_set, if_pos rfl, if_pos hJl] at hj
        cases hj
        have := hother i ei v hi q hvq
        rcases hb with hb | hb
        · rw [hb] at huq; exact this.2 huq
        · rw [hb] at huq; simp only [Option.some.injEq] at huq; omega
      · rw [List.getElem?_set, if_neg (fun h => ej h.symm)] at hj
        exact h.apart i j v u q hij hi hj hvq huq

/-- One list of one owner was replaced. -/
theorem OwO.field {lo hi top n cap g k e : Nat} {ds : List On} {d' : On} {w : World} {xs us : List Value} {X : Value} (he : e < 2) (hn : n = ds.length) (hr : OwR lo hi 50 4 (.slice (some ⟨g, 0, none⟩) n cap) n xs w) (hul : us.length = n * 2) (hf : OwF xs us ds) (hk : k < n)
    (hs : SSk lo top (us.set (k * 2 + e) X) (lenOf (rowsO (ds.set k d'))) (rowOf (rowsO (ds.set k d'))) w) (hp : d'.p = (ds.getD k default).p) (ho : d'.o = (ds.getD k default).o) (hle : hi ≤ top) :
    OwO lo top (.slice (some ⟨g, 0, none⟩) n cap) n (ds.set k d') (w.setCell ⟨g, k * 4 + 2 + e, none⟩ X) := by
  have hxl : xs.length = n * 4 := hr.1.1
  have hst := hr.1.stored (k * 4 + 2 + e) X
  have hkl : k < ds.length := by omega
  refine ⟨by simpa using hn, _, _, ⟨hst.1, fun q hq => Nat.lt_of_lt_of_le (hr.2 q hq) hle⟩, by simpa using hul, fun j hj => ?_, hs.grown hst.2 (hs.ne hr.1 owner_ne_int.symm)⟩
  have hj' : j < ds.length := by simpa using hj
  obtain ⟨f0, f1, f2, f3⟩ := hf j hj'
  rw [getD_set ds k j d' hkl]
  have a0 : (xs.set (k * 4 + 2 + e) X)[j * 4]? = xs[j * 4]? := by rw [List.getElem?_set, if_neg (by omega)]
  have a1 : (xs.set (k * 4 + 2 + e) X)[j * 4 + 1]? = xs[j * 4 + 1]? := by rw [List.getElem?_set, if_neg (by omega)]
  rw [a0, a1]
  have hpo : (if j = k then d' else ds.getD j default).p = (ds.getD j default).p ∧ (if j = k then d' else ds.getD j default).o = (ds.getD j default).o := by
    by_cases ej : j = k
    · subst ej; rw [if_pos rfl]; exact ⟨hp, ho⟩
    · rw [if_neg ej]; exact ⟨rfl, rfl⟩
  rw [hpo.1, hpo.2]
  refine ⟨f0, f1, ?_, ?_⟩
  · rw [List.getElem?_set, List.getElem?_set]
    by_cases e2 : k * 4 + 2 + e = j * 4 + 2
    · rw [if_pos e2, if_pos (by omega), if_pos (by omega), if_pos (by omega)]
    · rw [if_neg e2, if_neg (by omega)]; exact f2
  · rw [List.getElem?_set, List.getElem?_set]
    by_cases e2 : k * 4 + 2 + e = j * 4 + 3
    · rw [if_pos e2, if_pos (by omega), if_pos (by omega), if_pos (by omega)]
    · rw [if_neg e2, if_neg (by omega)]; exact f3

/-- One number of one list was written. -/
theorem SSk.put1 {lo hi J g m cap j : Nat} {vs : List Value} {lens : Nat → Nat} {cont cont' : Nat → List Value} {w : World} {x : Value} (h : SSk lo hi vs lens cont w) (hJ : vs[J]? = some (.slice (some ⟨g, 0, none⟩) m cap)) (hc : cont' J = (cont J).set j x) (ho : ∀ i, i ≠ J → cont' i = cont i) : SSk lo hi vs lens cont' (w.setCell ⟨g, j, none⟩ x) := by
  refine ⟨fun i hi => ?_, h.apart⟩
  obtain ⟨A, m', c, e1, e2, e3⟩ := h.row i hi
  by_cases e : i = J
  · subst e
    rw [hJ] at e1
    cases e1
    refine ⟨_, _, _, hJ, e2, ?_⟩
    rw [hc]
    exact ⟨(e3.1.stored j x).1, e3.2⟩
  · refine ⟨A, m', c, e1, e2, ?_⟩
    rw [ho i e]
    obtain ⟨A2, m2, c2, k1, k2, k3⟩ := h.row J (by
      rcases Nat.lt_or_ge J vs.length with h1 | h1
      · exact h1
      · rw [List.getElem?_eq_none h1] at hJ; cases hJ)
    rw [hJ] at k1
    cases k1
    refine ⟨e3.1.kept (k3.1.stored j x).2 ?_, e3.2⟩
    cases hb : (Value.slice A m' c).ownBlock with
    | none => exact .inl rfl
    | some q => exact .inr fun hx => h.apart i J _ _ q e e1 hJ hb hx.symm

theorem sum_le_mul (l : List (List Int)) (m : Nat) (h : ∀ j, (l.getD j []).length ≤ m) : (l.map List.length).sum ≤ l.length * m := by
  induction l with
  | nil => simp
  | cons x l ih =>
    have h0 := h 0
    have := ih fun j => h (j + 1)
    simp only [List.getD_cons_zero] at h0
    simp only [List.map_cons, List.sum_cons, List.length_cons, Nat.add_mul]
    omega
theorem OB.small {ds : List On} (hl : ds.length ≤ 12) (h : ∀ j, (ds.getD j default).cl.length ≤ 100 ∧ (ds.getD j default).cx.length ≤ 100) : OB ds := by
  have h1 := sum_le_mul (rowsO ds) 100 fun j => by
    rw [rowsO_getD]; unfold rowO
    split
    · exact (h _).1
    · exact (h _).2
  rw [rowsO_len] at h1
  exact OB.of_sum (by omega) (by omega)
theorem okO_len {ds : List On} (h : validO ds = true) (i : Nat) : (ds.getD i default).cl.length ≤ 5 ∧ (ds.getD i default).cx.length ≤ 3 := by
  by_cases hi : i < ds.length
  · have h1 := (validO_ok h).2.2 i hi
    unfold okO okD clOK ctxOK at h1
    simp only [Bool.and_eq_true, decide_eq_true_eq] at h1
    exact ⟨h1.2.1.1.1, by omega⟩
  · rw [show ds.getD i default = default by simp [List.getD, List.getElem?_eq_none (show ds.length ≤ i by omega)]]
    exact ⟨Nat.zero_le _, Nat.zero_le _⟩

def hasOpO (ds : List On) (o : Int) : Bool := hasO ds o && opn ds o
theorem hasOpO_at {ds : List On} {o : Int} (h : hasOpO ds o = true) : ∃ k : Nat, o = k ∧ k < ds.length ∧ validO ds = true := by
  unfold hasOpO at h
  rw [Bool.and_eq_true] at h
  exact hasO_at h.1

set_option maxHeartbeats 800000 in
theorem impl_hasOpenOwner (A : Option Addr) (n c : Nat) (ds : List On) (o : Int) (w : World) (B : Nat) (hB : B ≤ w.heap.size) (hn : n = ds.length) (hnc : n ≤ c) (h : OS w B A ds) (hb : OB ds) :
    Calls Try.prog 52 #[.slice A n c, .int .i64 o] w fun e w' => e = .returned (.bool (hasOpO ds o)) ∧ Below w.heap.size w w' := by
  have hnb : n ≤ 1048576 := by rw [hn]; exact hb.1
  have HC := Lib.hid (impl_hasOwner A n c ds o w B hB hn hnc h hb)
  unfold hasOpO
  cases hv : hasO ds o
  · rw [hv] at HC
    clear hv hn h hb
    go_enter Try.func52, Try.ntmps52
    go_wp2_with fail
    refine HC.out.mono ?_
    rintro e w1 ⟨rfl, hb⟩
    go_wp2
    go_ret
    exact ⟨rfl, hb⟩
  · rw [hv] at HC
    obtain ⟨k, rfl, hk, -⟩ := hasO_at hv
    have hkn : k < n := by omega
    obtain ⟨b, off, rfl, hbB, c0, c1, -, -⟩ := h.at_ k hk
    have hop : opn ds (k : Int) = (ds.getD k default).o := by simp [opn]
    rw [hop]
    generalize (ds.getD k default).o = po at *
    clear hv hn h hb hop hk c0
    go_enter Try.func52, Try.ntmps52
    go_wp2_with fail
    refine HC.out.mono ?_
    rintro e w1 ⟨rfl, hb⟩
    have d1 := (hb.cell (p := ⟨b, off + k * 4 + 1, none⟩) (by simp; omega)).trans c1
    go_wp2
    go_ret
    exact ⟨ret_b (by simp), hb⟩

set_option maxHeartbeats 800000 in
theorem spec_isOpen (A : Option Addr) (n c : Nat) (ds : List On) (o : Int) (w : World) (B : Nat) (hB : B ≤ w.heap.size) (hn : n = ds.length) (h : OS w B A ds) (hs : n ≤ 1048576) :
    Calls Try.prog 49 #[.slice A n c, .int .i64 o] w fun e w' => e = .returned (.bool (rng o 0 ((n : Int) - 1) && opn ds o)) ∧ w = w' := by
  cases hr : rng o 0 ((n : Int) - 1)
  · clear hn h
    go_enter Try.func49, Try.ntmps49
    go_wp2_with fail
    refine (spec_inRange _ _ _ _).mono ?_
    rintro e w' ⟨rfl, rfl⟩
    go_wp2
    go_ret
    exact ⟨rfl, rfl⟩
  · obtain ⟨h0, h1⟩ := (rng_iff _ _ _).1 hr
    obtain ⟨k, rfl⟩ : ∃ k : Nat, o = k := ⟨o.toNat, by omega⟩
    have hkn : k < n := by omega
    obtain ⟨b, off, rfl, hbB, c0, c1, -, -⟩ := h.at_ k (by omega)
    have hop : opn ds (k : Int) = (ds.getD k default).o := by simp [opn]
    rw [hop]
    generalize (ds.getD k default).o = po at *
    clear hn h hop c0 h0 h1
    go_enter Try.func49, Try.ntmps49
    go_wp2_with fail
    refine (spec_inRange _ _ _ _).mono ?_
    rintro e w' ⟨rfl, rfl⟩
    go_wp2
    go_ret
    exact ⟨ret_b (by simp), rfl⟩

/-- Returns owners in fresh blocks, and a bool. -/
def RetOB (w : World) (ds : List On) (b : Bool) (e : Ending) (w' : World) : Prop := ∃ v, e = .returned (.tuple #[v, .bool b]) ∧ OwO w.heap.size w'.heap.size v ds.length ds w' ∧ Below w.heap.size w w'
theorem RetOB.nil {w w' : World} (hb : Below w.heap.size w w') : RetOB w [] false (.returned (.tuple #[.slice none 0 0, .bool false])) w' := ⟨_, rfl, OwO.nil _ _ _, hb⟩

def withCl (ds : List On) (k : Nat) (l : Int) : On := ⟨(ds.getD k default).p, (ds.getD k default).o, (ds.getD k default).cl ++ [l], (ds.getD k default).cx⟩
def withCx (ds : List On) (k j : Nat) (x : Int) : On := ⟨(ds.getD k default).p, (ds.getD k default).o, (ds.getD k default).cl, (ds.getD k default).cx.set j x⟩
def addB (ds : List On) (o l : Int) : Bool := hasOpO ds o && (rng l 0 50 && !(decide ((ds.getD o.toNat default).cl.length = 5)))
def addF (ds : List On) (o l : Int) : List On := if addB ds o l then ds.set o.toNat (withCl ds o.toNat l) else []
def ctxB (ds : List On) (o k x : Int) : Bool := hasOpO ds o && (rng k 0 2 && rng x 0 50)
def ctxF (ds : List On) (o k x : Int) : List On := if ctxB ds o k x then ds.set o.toNat (withCx ds o.toNat k.toNat x) else []

theorem addF_OB (ds : List On) (o l : Int) : OB (addF ds o l) := by
  unfold addF
  cases h : addB ds o l
  · exact OB.of_sum (by simp) (by simp [rowsO])
  · have h1 : hasOpO ds o = true := by unfold addB at h; rw [Bool.and_eq_true] at h; exact h.1
    obtain ⟨k, rfl, hk, hv⟩ := hasOpO_at h1
    have hl := okO_len hv
    simp only [if_true, Int.toNat_natCast]
    refine OB.small (by simp; exact (validO_ok hv).2.1) fun j => ?_
    rw [getD_set ds k j _ hk]
    by_cases e : j = k
    · rw [if_pos e]; have := hl k; simp [withCl]; simp [List.getD] at this; omega
    · rw [if_neg e]; have := hl j; omega
theorem ctxF_OB (ds : List On) (o k x : Int) : OB (ctxF ds o k x) := by
  unfold ctxF
  cases h : ctxB ds o k x
  · exact OB.of_sum (by simp) (by simp [rowsO])
  · have h1 : hasOpO ds o = true := by unfold ctxB at h; rw [Bool.and_eq_true] at h; exact h.1
    obtain ⟨q, rfl, hq, hv⟩ := hasOpO_at h1
    have hl := okO_len hv
    simp only [if_true, Int.toNat_natCast]
    refine OB.small (by simp; exact (validO_ok hv).2.1) fun j => ?_
    rw [getD_set ds q j _ hq]
    by_cases e : j = q
    · rw [if_pos e]; have := hl q; simp [withCx]; simp [List.getD] at this; omega
    · rw [if_neg e]; have := hl j; omega

theorem rowO_set (ds : List On) (k : Nat) (d : On) (hk : k < ds.length) (i : Nat) : rowO (ds.set k d) i = if i = k * 2 then d.cl else if i = k * 2 + 1 then d.cx else rowO ds i := by
  unfold rowO
  rw [getD_set ds k (i / 2) d hk]
  by_cases e1 : i / 2 = k
  · rw [if_pos e1]
    by_cases e2 : i % 2 = 0
    · rw [if_pos e2, if_pos (by omega)]
    · rw [if_neg e2, if_neg (by omega), if_pos (by omega)]
  · have e3 : ¬ i = k * 2 := by omega
    have e4 : ¬ i = k * 2 + 1 := by omega
    simp only [if_neg e1, if_neg e3, if_neg e4]
theorem okO_len2 {ds : List On} (h : validO ds = true) (i : Nat) (hi : i < ds.length) : (ds.getD i default).cx.length = 3 := by
  have h1 := (validO_ok h).2.2 i hi
  unfold okO okD clOK ctxOK at h1
  simp only [Bool.and_eq_true, decide_eq_true_eq] at h1
  omega
end Go.Proofs.Ytdcfmoaomlfijaa
