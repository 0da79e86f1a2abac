/- A region that draws its order, whose last operation waits for all others, which only read: one walk in the text's order, in a round of a range over a function too. -/
import Derived.Test.YtjlfabfejnpaaaaS9
import Derived.Test.YtjlfabfejnpaaaaRQ

namespace Go.Proofs.Ytjlfabfejnpaaaa
set_option linter.unusedSimpArgs false
set_option linter.unusedVariables false

/-- No guards, no defer, each operation waits for earlier ones alone, and the last one, in the end, for all. -/
def tailOK (md : Region.Mode) (l : List Oper) (o : Oper) : Bool :=
  (l ++ [o]).all (fun x => x.guard.isNone) && noDef (l ++ [o]).toArray &&
  (List.range l.length).all (fun j => match l[j]? with | some x => x.after.all (fun e => decide (e.on < j)) | none => true) &&
  o.after.all (fun e => decide (e.on < l.length)) &&
  (List.range l.length).all (fun j => (List.range (l.length + 1)).any fun k => decide (j < k) && match (l ++ [o])[k]? with | some x => x.after.any (fun e => Region.binds md e && e.on == j) | none => false)

section
variable {F : Fence} {n : Nat} {P : Program} {md : Region.Mode} {l : List Oper} {o : Oper} {C : World → Prop}

theorem getD_push (listed : Array Bool) (i : Nat) (d : Bool) (h : i < listed.size) : (listed.push false).getD i d = listed.getD i d := by
  simp [Array.getD_eq_getD_getElem?, Array.getElem?_push, show ¬ i = listed.size by omega]
theorem getD_push_last (listed : Array Bool) (d : Bool) : (listed.push false).getD listed.size d = false := by
  simp [Array.getD_eq_getD_getElem?]
theorem set_push (listed : Array Bool) (i : Nat) (h : i < listed.size) : (listed.push false).setIfInBounds i true = (listed.setIfInBounds i true).push false := by
  apply Array.ext_getElem?
  intro j
  simp only [Array.getElem?_setIfInBounds, Array.getElem?_push, Array.size_push, Array.size_setIfInBounds]
  by_cases h1 : i = j
  · subst h1; simp [h, show ¬ i = listed.size by omega, show i < listed.size + 1 by omega]
  · simp [h1]

/-- What an operation waits for is listed once it is. -/
def Closed (md : Region.Mode) (l : List Oper) (listed : Array Bool) : Prop := ∀ j x, l[j]? = some x → listed.getD j false = true → ∀ e ∈ x.after, Region.binds md e = true → listed.getD e.on false = true

theorem tail_parts (h : tailOK md l o = true) : (∀ (k : Nat) (x : Oper), (l ++ [o])[k]? = some x → x.guard = none) ∧ noDef (l ++ [o]).toArray = true ∧ (∀ (j : Nat) (x : Oper), l[j]? = some x → ∀ e ∈ x.after, e.on < j) ∧ (∀ e ∈ o.after, e.on < l.length) ∧
    (∀ j, j < l.length → ∃ (k : Nat) (x : Oper), j < k ∧ k < l.length + 1 ∧ (l ++ [o])[k]? = some x ∧ ∃ e ∈ x.after, Region.binds md e = true ∧ e.on = j) := by
  unfold tailOK at h
  simp only [Bool.and_eq_true] at h
  obtain ⟨⟨⟨⟨h1, h2⟩, h3⟩, h4⟩, h5⟩ := h
  refine ⟨?_, h2, ?_, ?_, ?_⟩
  · intro k x hk
    have := (List.all_eq_true.1 h1) x (List.mem_of_getElem? hk)
    simpa using this
  · intro j x hj e he
    have hl : j < l.length := (List.getElem?_eq_some_iff.1 hj).1
    have := (List.all_eq_true.1 h3) j (by simpa using hl)
    simp only [hj] at this
    have := (Array.all_eq_true_iff_forall_mem.1 this) e he
    simpa using this
  · intro e he
    have := (Array.all_eq_true_iff_forall_mem.1 h4) e he
    simpa using this
  · intro j hj
    have := (List.all_eq_true.1 h5) j (by simpa using hj)
    obtain ⟨k, hk, hb⟩ := List.any_eq_true.1 this
    simp only [Bool.and_eq_true, decide_eq_true_eq] at hb
    cases hx : (l ++ [o])[k]? with
    | none => rw [hx] at hb; exact absurd hb.2 (by simp)
    | some x =>
      rw [hx] at hb
      obtain ⟨i, hi, hb2⟩ := Array.any_eq_true.1 hb.2
      have he : x.after[i] ∈ x.after := Array.getElem_mem hi
      generalize x.after[i] = e at *
      simp only [Bool.and_eq_true, beq_iff_eq] at hb2
      exact ⟨k, x, hb.1, by simpa using hk, hx, e, he, hb2.1, hb2.2⟩

theorem all_listed (h : tailOK md l o = true) {listed : Array Bool} (hc : Closed md l listed) (ho : ∀ e ∈ o.after, Region.binds md e = true → listed.getD e.on false = true) : ∀ j, j < l.length → listed.getD j false = true := by
  obtain ⟨_, _, _, _, h5⟩ := tail_parts h
  have key : ∀ d j, l.length - j ≤ d → j < l.length → listed.getD j false = true := by
    intro d
    induction d with
    | zero => intro j h1 h2; omega
    | succ d ih =>
      intro j h1 h2
      obtain ⟨k, x, hjk, hkl, hx, e, he, hb, rfl⟩ := h5 j h2
      rcases Nat.lt_or_ge k l.length with hk | hk
      · have hx' : l[k]? = some x := by rw [← hx, List.getElem?_append_left hk]
        exact hc k x hx' (ih k (by omega) hk) e he hb
      · have hkm : k = l.length := by omega
        subst hkm
        simp at hx
        subst hx
        exact ho e he hb
  exact fun j hj => key _ j (Nat.le_refl _) hj

theorem ready_nil (h : tailOK md l o = true) {listed : Array Bool} (hs : listed.size = l.length) (hr : Region.ready md l.toArray listed = []) : ∀ j, j < l.length → listed.getD j false = true := by
  obtain ⟨_, _, h3, _, _⟩ := tail_parts h
  intro j
  induction j using Nat.strongRecOn with
  | ind j ih =>
    intro hj
    cases hl : listed.getD j false with
    | true => rfl
    | false =>
      have hx : l.toArray[j]? = some l[j] := by simp [hj]
      have : j ∈ Region.ready md l.toArray listed := by
        rw [mem_ready]
        refine ⟨?_, l[j], hx, fun e he _ => ih e.on (h3 j l[j] (by simp [hj]) e he) (by have := h3 j l[j] (by simp [hj]) e he; omega)⟩
        have hjs : j < listed.size := by omega
        simpa [Array.getD, hjs] using hl
      rw [hr] at this
      cases this

theorem wanted_none {x : Oper} (h : x.guard = none) (f : Nat → Option Bool) : Region.wanted x f = true := by
  unfold Region.wanted; rw [h]

theorem any_of_tail {Q : Exit → Act → World → Prop} {Qf : Act → Prop} (hk : tailOK md l o = true) (hQ : ∀ a w, C w → Qf a → o.wpIn F n P a w (fun a w => Q .normal a w) Q) : ∀ (fuel : Nat) (listed : Array Bool) (a : Act) (w : World), C w → listed.size = l.length → Closed md l listed →
    wpAnyQIn F n P md l.toArray C Qf fuel listed a → wpAnyIn F n P md (l ++ [o]).toArray Q (fuel + 1) (listed.push false) a w := by
  obtain ⟨h1, h2, h3, h4, h5⟩ := tail_parts hk
  -- the last one comes when all are listed
  have hlast : ∀ (fuel : Nat) (listed : Array Bool) (a : Act) (w : World), C w → listed.size = l.length → (∀ j, j < l.length → listed.getD j false = true) → Qf a →
      wpOpIn F n P (l ++ [o]).toArray Q l.length (wpAnyIn F n P md (l ++ [o]).toArray Q fuel ((listed.push false).setIfInBounds l.length true)) a w := by
    intro fuel listed a w hw hs hall hq
    have ho : (l ++ [o]).toArray[l.length]? = some o := by simp
    unfold wpOpIn
    simp only [ho, wanted_none (h1 l.length o (by simp)), if_true]
    refine Oper.wpIn_mono (fun a' w' h => ?_) (hQ a w hw hq)
    refine wpAnyIn_done ?_ h fuel
    rw [List.eq_nil_iff_forall_not_mem]
    intro i hi
    obtain ⟨hu, x, hx, _⟩ := mem_ready.1 hi
    have hil : i < l.length + 1 := by have := (Array.getElem?_eq_some_iff.1 hx).1; simpa using this
    rcases Nat.lt_or_ge i l.length with hlt | hge
    · have := hall i hlt
      have his : i < listed.size := by omega
      have e : ((listed.push false).setIfInBounds l.length true).getD i true = listed.getD i false := by
        simp [Array.getD_eq_getD_getElem?, Array.getElem?_setIfInBounds, Array.getElem?_push, show ¬ l.length = i by omega, show ¬ i = listed.size by omega, his]
      rw [e, this] at hu
      cases hu
    · have : i = l.length := by omega
      subst this
      rw [← hs] at hu
      simp [Array.getD_eq_getD_getElem?] at hu
  have hready : ∀ (listed : Array Bool) (i : Nat), listed.size = l.length → Closed md l listed → i ∈ Region.ready md (l ++ [o]).toArray (listed.push false) → (i < l.length ∧ i ∈ Region.ready md l.toArray listed) ∨ (i = l.length ∧ ∀ j, j < l.length → listed.getD j false = true) := by
    intro listed i hs hc hi
    obtain ⟨hu, x, hx, hall⟩ := mem_ready.1 hi
    have hil : i < l.length + 1 := by have := (Array.getElem?_eq_some_iff.1 hx).1; simpa using this
    rcases Nat.lt_or_ge i l.length with hlt | hge
    · refine .inl ⟨hlt, mem_ready.2 ⟨?_, x, ?_, fun e he hb => ?_⟩⟩
      · rwa [getD_push _ _ _ (by omega)] at hu
      · rw [← hx]; simp [List.getElem?_append_left hlt]
      · have hxl : l[i]? = some x := by have := hx; simpa [List.getElem?_append_left hlt] using this
        have := hall e he hb
        rwa [getD_push _ _ _ (by have := h3 i x hxl e he; omega)] at this
    · have : i = l.length := by omega
      subst this
      have hxo : x = o := by simpa using hx.symm
      subst hxo
      refine .inr ⟨rfl, all_listed hk hc fun e he hb => ?_⟩
      have := hall e he hb
      rwa [getD_push _ _ _ (by have := h4 e he; omega)] at this
  have hne : ∀ (listed : Array Bool), listed.size = l.length → Region.ready md (l ++ [o]).toArray (listed.push false) = [] → False := by
    intro listed hs hr
    -- the least that is not listed is ready
    have key : ∀ j, j < l.length → listed.getD j false = true := by
      refine ready_nil hk hs ?_
      rw [List.eq_nil_iff_forall_not_mem]
      intro i hi
      obtain ⟨hu, x, hx, hall⟩ := mem_ready.1 hi
      have hlt : i < l.length := by have := (Array.getElem?_eq_some_iff.1 hx).1; simpa using this
      have hxl : l[i]? = some x := by simpa using hx
      have : i ∈ Region.ready md (l ++ [o]).toArray (listed.push false) := by
        refine mem_ready.2 ⟨by rw [getD_push _ _ _ (by omega)]; exact hu, x, by simp [List.getElem?_append_left hlt, hxl], fun e he hb => ?_⟩
        rw [getD_push _ _ _ (by have := h3 i x hxl e he; omega)]
        exact hall e he hb
      rw [hr] at this
      cases this
    have : l.length ∈ Region.ready md (l ++ [o]).toArray (listed.push false) := by
      refine mem_ready.2 ⟨by rw [← hs]; exact getD_push_last _ _, o, by simp, fun e he hb => ?_⟩
      rw [getD_push _ _ _ (by have := h4 e he; omega)]
      exact key _ (h4 e he)
    rw [hr] at this
    cases this
  have hnilQ : ∀ (listed : Array Bool), (∀ j, j < l.length → listed.getD j false = true) → listed.size = l.length → Region.ready md l.toArray listed = [] := by
    intro listed hall hs
    rw [List.eq_nil_iff_forall_not_mem]
    intro i hi
    obtain ⟨hu, x, hx, _⟩ := mem_ready.1 hi
    have hlt : i < l.length := by have := (Array.getElem?_eq_some_iff.1 hx).1; simpa using this
    have h1 := hall i hlt
    have his : i < listed.size := by omega
    simp [Array.getD, his] at hu h1
    rw [h1] at hu
    cases hu
  intro fuel
  induction fuel with
  | zero =>
    intro listed a w hw hs hc h
    refine ⟨fun h0 => (hne listed hs h0).elim, fun i hi => ?_⟩
    rcases hready listed i hs hc hi with ⟨_, hr⟩ | ⟨rfl, hall⟩
    · rw [h.1] at hr; cases hr
    · exact hlast 0 listed a w hw hs hall h.2
  | succ fuel ih =>
    intro listed a w hw hs hc h
    refine ⟨fun h0 => (hne listed hs h0).elim, fun i hi => ?_⟩
    rcases hready listed i hs hc hi with ⟨hlt, hr⟩ | ⟨rfl, hall⟩
    · have hq := h.2 i hr
      obtain ⟨_, x, hx, hxall⟩ := mem_ready.1 hr
      have hxl : l[i]? = some x := by simpa using hx
      have hxo : (l ++ [o]).toArray[i]? = some x := by simp [List.getElem?_append_left hlt, hxl]
      have hc' : Closed md l (listed.setIfInBounds i true) := by
        intro j y hy hj e he hb
        by_cases hij : i = j
        · subst hij
          rw [hxl] at hy
          cases hy
          exact getD_set_true (hxall e he hb)
        · rw [getD_set_ne false hij] at hj
          exact getD_set_true (hc j y hy hj e he hb)
      unfold qOpIn at hq
      simp only [hx, wanted_none (h1 i x (by simpa using hxo)), if_true] at hq
      unfold wpOpIn
      simp only [hxo, wanted_none (h1 i x (by simpa using hxo)), if_true]
      rw [set_push _ _ (by omega)]
      exact op_of_quiet (noDef_at h2 hxo) hw (fun a' w' hw' hk' => ih _ a' w' hw' (by simpa using hs) hc' hk') hq.1 hq.2
    · exact hlast (fuel + 1) listed a w hw hs hall (h.1 (hnilQ listed hall hs))

theorem quiet_tail {id : Nat} {Q : Exit → Act → World → Prop} {a : Act} {w : World} {L : List Oper} (hL : L = l ++ [o]) (hm : P.follows .mixedOrders = true) (hB : Region.lexB .any l.toArray = true) (hk : tailOK .any l o = true)
    (h : wpQuietIn F n P l.toArray (fun w' => ∃ n, w' = w.drewN n) (fun a' => ∀ w', (∃ n, w' = w.drewN n) → o.wpIn F n P a' w' (fun a w => Q .normal a w) Q) l a) : (Code.region id L.toArray true).wpIn F n P Q a w := by
  subst hL
  simp only [Region.lexB, Bool.and_eq_true] at hB
  have hq := wpAnyQIn_lex (F := F) (n := n) (C := fun w' => ∃ n, w' = w.drewN n) (md := .any) hB.1 l 0 (Array.replicate l.toArray.size false) a (by simp) (by simpa using hB.2) h
  have := any_of_tail (F := F) (n := n) (P := P) (C := fun w' => ∃ n, w' = w.drewN n) (Q := Q) (Qf := fun a' => ∀ w', (∃ n, w' = w.drewN n) → o.wpIn F n P a' w' (fun a w => Q .normal a w) Q) hk (fun a w' hw' hq => hq w' hw') l.length (Array.replicate l.toArray.size false) a { w with drawn := w.drawn + 1 } ⟨1, rfl⟩ (by simp)
    (by intro j x hj hl; simp [Array.getD_eq_getD_getElem?, Array.getElem?_replicate] at hl; split at hl <;> simp_all) hq
  refine wpIn_region_any hm ?_
  have e1 : (l ++ [o]).toArray.size = l.length + 1 := by simp
  have e2 : Array.replicate (l.length + 1) false = (Array.replicate l.toArray.size false).push false := by
    simp [Array.replicate_succ]
  rw [e1, e2]
  exact this
end
end Go.Proofs.Ytjlfabfejnpaaaa
