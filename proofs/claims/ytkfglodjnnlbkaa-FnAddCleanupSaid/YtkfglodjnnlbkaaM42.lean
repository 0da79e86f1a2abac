/- The labels that a clearing meets hang on what lies below alone; facts for the laws on clearing. -/
import Derived.Test.YtkfglodjnnlbkaaM40
import Derived.Test.YtkfglodjnnlbkaaT20a

namespace Go.Proofs.Ytkfglodjnnlbkaa
set_option linter.unusedSimpArgs false
set_option linter.unusedVariables false
open Go.RowKit

/-- As many owners, with the same parents. -/
structure SaP (ds es : List On) : Prop where
  len : es.length = ds.length
  par : ∀ i, (es.getD i default).p = (ds.getD i default).p
section
variable {ds es fs : List On}
theorem SaP.refl (ds : List On) : SaP ds ds := ⟨rfl, fun _ => rfl⟩
theorem SaP.of (h : SameP ds es) : SaP ds es := ⟨h.len, h.par⟩
theorem SaP.trans (h : SaP ds es) (k : SaP es fs) : SaP ds fs := ⟨k.len.trans h.len, fun i => (k.par i).trans (h.par i)⟩
theorem SaP.po (h : SaP ds es) (hp : PO ds) : PO es := fun i hi => by rw [h.par]; exact hp i (by rw [← h.len]; exact hi)
theorem SaP.parE (h : SaP ds es) (i : Nat) : parN es i = parN ds i := by unfold parN; rw [h.par]
theorem SaP.bl (h : SaP ds es) (hp : PO ds) (o i : Nat) (hi : i < ds.length) : Und es o i ↔ Und ds o i := by unfold Und; rw [h.len, up_same hp (fun j _ => h.par j) _ _ hi]
end
/-- The kids of an owner are the same where what lies below it is the same. -/
theorem kids_agree {ds es1 es2 : List On} (hp : PO ds) (h1 : SaP ds es1) (h2 : SaP ds es2) (o : Nat) (ho : o < ds.length) (ha : ∀ i, i < ds.length → Und ds o i → isO es2 i = isO es1 i) : nwTo (kidB es2 o) es2.length = nwTo (kidB es1 o) es1.length := by
  rw [h2.len, h1.len]
  unfold nwTo
  congr 1
  refine List.filter_congr fun i hi => ?_
  rw [List.mem_range] at hi
  unfold kidB
  rw [h2.par i, h1.par i]
  by_cases e : (ds.getD i default).p = (o : Int)
  · have h0 : 0 < i := by
      rcases Nat.eq_zero_or_pos i with rfl | h
      · have := (hp 0 hi).1 rfl; omega
      · exact h
    have hpn : parN ds i = o := by unfold parN; omega
    have := ha i hi ((Und_iff hp o i hi).2 (.inr ⟨h0, by rw [hpn]; exact Und_self hp o ho⟩))
    unfold isO at this
    rw [this]
  · have : ((ds.getD i default).p == (o : Int)) = false := by simpa using e
    rw [this]; simp
/-- What a kid is, and what lies below it is as it was when it is its turn. -/
theorem kid_turn {ds es : List On} (hp : PO ds) (hl : SaP ds es) (hV : VO es) (f o m k : Nat) (hf : ds.length - o ≤ f + 1) (ho : o < ds.length) (hk : m + k + 1 = (nwTo (kidB es o) es.length).length) :
    ∃ c : Nat, (nwTo (kidB es o) es.length).getD k 0 = (c : Int) ∧ c < ds.length ∧ o < c ∧ parN ds c = o ∧ isO es c = true ∧ VO (clrK f es o m).2 ∧ ∀ i, i < ds.length → Und ds c i → isO (clrK f es o m).2 i = isO es i ∧ clO (clrK f es o m).2 i = clO es i := by
  have hlen := hl.len
  have hpe := hl.po hp
  have hkl : k < (nwTo (kidB es o) es.length).length := by omega
  have hmem : (nwTo (kidB es o) es.length).getD k 0 ∈ nwTo (kidB es o) es.length := by
    rw [List.getD_eq_getElem?_getD, List.getElem?_eq_getElem hkl]; exact List.getElem_mem hkl
  obtain ⟨c, e, hc, _⟩ := nwTo_get _ _ _ hkl
  rw [e] at hmem
  obtain ⟨b1, b2, b3, b4⟩ := (kid_mem hpe o c (by omega)).1 hmem
  obtain ⟨c1, c2⟩ := clrK_facts f es o m (by omega) (by omega) hpe hV
  have hoc : o < c := by have := par_lt hpe c b1 b2; omega
  refine ⟨c, e, by omega, hoc, by rw [← hl.parE]; exact b3, b4, c1, fun i hi hu => c2 i (by omega) fun q hq hqi => ?_⟩
  obtain ⟨q1, q2, q3, q4⟩ := (kid_mem hpe o q (by omega)).1 (List.mem_reverse.1 (List.mem_of_mem_take hq))
  have hne : q ≠ c := by
    rintro rfl
    obtain ⟨j, hj, hje⟩ := List.getElem_of_mem hq
    rw [List.length_take, List.length_reverse] at hj
    rw [List.getElem_take, List.getElem_reverse] at hje
    have e2 : (nwTo (kidB es o) es.length)[k] = (q : Int) := by rw [← e]; simp [List.getD, hkl]
    rw [← e2] at hje
    have := (List.getElem_inj (nwTo_nodup _ _)).1 hje
    omega
  exact kids_apart hpe o q c b1 q1 q2 b2 q3 b3 hne i (by omega) hqi ((hl.bl hp c i hi).2 hu)
theorem clr_agree {ds : List On} (hp : PO ds) : ∀ (f1 f2 b : Nat) (es1 es2 : List On), ds.length - b ≤ f1 → ds.length - b ≤ f2 → b < ds.length → SaP ds es1 → SaP ds es2 → VO es1 → VO es2 →
    (∀ i, i < ds.length → Und ds b i → isO es2 i = isO es1 i ∧ (i ≠ b → clO es2 i = clO es1 i)) → ∃ L, (clr f1 es1 b).1 = L ++ (clO es1 b).reverse ∧ (clr f2 es2 b).1 = L ++ (clO es2 b).reverse := by
  intro f1
  induction f1 with
  | zero => intro f2 b es1 es2 h1 h2 hb; omega
  | succ f1 ih =>
    intro f2 b es1 es2 h1 h2 hb hl1 hl2 hv1 hv2 ha
    cases f2 with
    | zero => omega
    | succ f2 =>
      have hk := kids_agree hp hl1 hl2 b hb (fun i hi hu => (ha i hi hu).1)
      have key : ∀ m, m ≤ (nwTo (kidB es1 b) es1.length).length → (clrK f2 es2 b m).1 = (clrK f1 es1 b m).1 := by
        intro m
        induction m with
        | zero => intro _; simp [clrK]
        | succ m ihm =>
          intro hm
          obtain ⟨k, hkm⟩ : ∃ k, m + k + 1 = (nwTo (kidB es1 b) es1.length).length := ⟨(nwTo (kidB es1 b) es1.length).length - m - 1, by omega⟩
          obtain ⟨c, e1, c1, c2, c3, c4, c5, c6⟩ := kid_turn hp hl1 hv1 f1 b m k h1 hb hkm
          obtain ⟨c', e1', _, _, _, _, d5, d6⟩ := kid_turn hp hl2 hv2 f2 b m k h2 hb (by rw [hk]; exact hkm)
          obtain rfl : c' = c := by rw [hk, e1] at e1'; omega
          rw [clrK_succ f2 es2 b m k (by rw [hk]; exact hkm), clrK_succ f1 es1 b m k hkm, hk, e1]
          unfold clrS
          dsimp only
          rw [Int.toNat_natCast, ihm (by omega)]
          congr 1
          have hlk1 := hl1.trans (SaP.of (clrK_same f1 es1 b m))
          have hlk2 := hl2.trans (SaP.of (clrK_same f2 es2 b m))
          have hub : ∀ i, i < ds.length → Und ds c' i → Und ds b i := fun i hi hu => Und_trans hp b c' ((Und_iff hp b c' c1).2 (.inr ⟨by omega, by rw [c3]; exact Und_self hp b hb⟩)) i hi hu
          have hib : ∀ i, i < ds.length → Und ds c' i → i ≠ b := fun i hi hu => by have := Und_le hp c' i hi hu; omega
          obtain ⟨L, r1, r2⟩ := ih f2 c' (clrK f1 es1 b m).2 (clrK f2 es2 b m).2 (by omega) (by omega) c1 hlk1 hlk2 c5 d5 (fun i hi hu => by
            obtain ⟨x1, x2⟩ := c6 i hi hu
            obtain ⟨y1, y2⟩ := d6 i hi hu
            obtain ⟨z1, z2⟩ := ha i hi (hub i hi hu)
            exact ⟨by rw [x1, y1, z1], fun _ => by rw [x2, y2, z2 (hib i hi hu)]⟩)
          rw [r1, r2]
          have hcc := Und_self hp c' c1
          rw [(c6 c' c1 hcc).2, (d6 c' c1 hcc).2, (ha c' c1 (hub c' c1 hcc)).2 (hib c' c1 hcc)]
      have own : ∀ (f : Nat) (es : List On), ds.length - b ≤ f + 1 → SaP ds es → VO es → (clr (f + 1) es b).1 = (clrK f es b (nwTo (kidB es b) es.length).length).1 ++ (clO es b).reverse := by
        intro f es hf hl hv
        rw [clr_step]
        dsimp only
        have := (clrK_facts f es b (nwTo (kidB es b) es.length).length (by rw [hl.len]; exact hf) (by rw [hl.len]; exact hb) (hl.po hp) hv).2 b (by rw [hl.len]; exact hb) (fun k hk hu => by
          obtain ⟨q1, q2, q3, q4⟩ := (kid_mem (hl.po hp) b k (by rw [hl.len]; exact hb)).1 (List.mem_reverse.1 (List.mem_of_mem_take hk))
          have h5 := Und_le (hl.po hp) k b (by rw [hl.len]; exact hb) hu
          have h6 := par_lt (hl.po hp) k q1 q2
          omega)
        have e := this.2
        unfold clO at e ⊢
        rw [e]
      refine ⟨(clrK f1 es1 b (nwTo (kidB es1 b) es1.length).length).1, own f1 es1 h1 hl1 hv1, ?_⟩
      rw [own f2 es2 h2 hl2 hv2, hk, key _ (Nat.le_refl _)]
/-- The labels of an owner: those of its kids, from the last one on, then its own, from the last one on. -/
theorem labels_facts {ds : List On} (hv : validO ds = true) (k : Nat) (hk : k < ds.length) (ho : isO ds k = true) :
    ∃ S : Nat → List Int, S 0 = [] ∧ (∀ m j, m + j + 1 = (kidsF ds k).length → S (m + 1) = S m ++ rerL ds ((kidsF ds k).getD j 0)) ∧ rerL ds k = S (kidsF ds k).length ++ (clO ds k).reverse ∧ (∀ m, m ≤ (kidsF ds k).length → (S m).length ≤ 60) ∧ (∀ j, j < (kidsF ds k).length → ∃ c : Nat, (kidsF ds k).getD j 0 = (c : Int) ∧ c < ds.length) := by
  have hkf : kidsF ds k = nwTo (kidB ds k) ds.length := by unfold kidsF; rw [hasO_nat hv k hk]; rfl
  obtain ⟨_, h12, hp, hV, _⟩ := (validO_iff ds).1 hv
  have hop : ∀ c : Nat, c < ds.length → isO ds c = true → hasOpO ds (c : Int) = true := fun c hc hoc => by
    unfold hasOpO
    rw [hasO_nat hv c hc, Bool.true_and]
    show (ds.getD ((c : Int).toNat) default).o = true
    rw [Int.toNat_natCast]
    exact hoc
  have hr : ∀ c : Nat, c < ds.length → isO ds c = true → rerL ds (c : Int) = (clr ds.length ds c).1 := fun c hc hoc => by
    unfold rerL
    rw [hop c hc hoc]
    simp
  obtain ⟨n, hn⟩ : ∃ n, ds.length = n + 1 := ⟨ds.length - 1, by omega⟩
  rw [hkf]
  refine ⟨fun m => (clrK n ds k m).1, by simp [clrK], fun m j hmj => ?_, ?_, fun m hm => ?_, fun j hj => ?_⟩
  · obtain ⟨c, e1, c1, c2, c3, c4, c5, c6⟩ := kid_turn hp (SaP.refl ds) hV n k m j (by omega) hk hmj
    dsimp only
    rw [clrK_succ n ds k m j hmj, e1, hr c c1 c4]
    unfold clrS
    dsimp only
    rw [Int.toNat_natCast]
    congr 1
    obtain ⟨L, r1, r2⟩ := clr_agree hp n ds.length c (clrK n ds k m).2 ds (by omega) (by omega) c1 (SaP.of (clrK_same n ds k m)) (SaP.refl ds) c5 hV (fun i hi hu => ⟨(c6 i hi hu).1.symm, fun _ => (c6 i hi hu).2.symm⟩)
    rw [r1, r2, (c6 c c1 (Und_self hp c c1)).2]
  · rw [hr k hk ho]
    have h1 : clr ds.length ds k = clr (n + 1) ds k := by rw [hn]
    rw [h1, clr_step]
    dsimp only
    have := (clrK_facts n ds k (nwTo (kidB ds k) ds.length).length (by omega) hk hp hV).2 k hk (fun q hq hu => by
      obtain ⟨q1, q2, q3, q4⟩ := (kid_mem hp k q hk).1 (List.mem_reverse.1 (List.mem_of_mem_take hq))
      have h5 := Und_le hp q k hk hu
      have h6 := par_lt hp q q1 q2
      omega)
    have e := this.2
    unfold clO at e ⊢
    rw [e]
  · have key : ∀ (L : List Int) (s : List Int × List On), (L.foldl (clrS n) s).1.length + tot (L.foldl (clrS n) s).2 = s.1.length + tot s.2 := by
      intro L
      induction L with
      | nil => intro s; rfl
      | cons b L ihL =>
        intro s
        rw [List.foldl_cons, ihL]
        unfold clrS
        dsimp only
        rw [tot_shut, List.length_append]
        have := clr_tot n s.2 b.toNat
        omega
    have h3 := key (((nwTo (kidB ds k) ds.length).reverse).take m) ([], ds)
    have := tot_valid hv
    show (clrK n ds k m).1.length ≤ 60
    unfold clrK
    simp only [List.length_nil] at h3
    omega
  · obtain ⟨c, e, hc, _⟩ := nwTo_get _ _ _ hj
    exact ⟨c, e, hc⟩
/-- A cleanup more is met first of the owner's own. -/
theorem add_labels {ds : List On} {o l : Int} (h : addB ds o l = true) : ∃ k : Nat, o = k ∧ k < ds.length ∧ validO ds = true ∧ validO (addF ds o l) = true ∧ ∃ L, rerL ds o = L ++ (clO ds k).reverse ∧ rerL (addF ds o l) o = L ++ [l] ++ (clO ds k).reverse := by
  obtain ⟨k, rfl, hk, hF, hv2⟩ := valid_add h
  have hop : hasOpO ds k = true := by unfold addB at h; simp only [Bool.and_eq_true] at h; exact h.1
  obtain ⟨k', e, hk', hv, ho⟩ := hasOpO_is hop
  obtain rfl : k' = k := by omega
  refine ⟨k', rfl, hk, hv, by rw [hF]; exact hv2, ?_⟩
  rw [hF]
  have hw : (withCl ds k' l).p = (ds.getD k' default).p ∧ (withCl ds k' l).o = (ds.getD k' default).o ∧ (withCl ds k' l).cl = (ds.getD k' default).cl ++ [l] := ⟨rfl, rfl, rfl⟩
  generalize withCl ds k' l = d at *
  obtain ⟨w1, w2, w3⟩ := hw
  have hg : ∀ i, (ds.set k' d).getD i default = if i = k' then d else ds.getD i default := fun i => by
    by_cases e : i = k'
    · subst e; simp [List.getD, hk]
    · rw [if_neg e]; simp [List.getD, List.getElem?_set, show ¬ k' = i from fun h => e h.symm]
  have hl : SaP ds (ds.set k' d) := ⟨List.length_set, fun i => by
    rw [hg]
    by_cases e : i = k'
    · rw [if_pos e, e, w1]
    · rw [if_neg e]⟩
  have hO : ∀ i, isO (ds.set k' d) i = isO ds i := fun i => by
    unfold isO
    rw [hg]
    by_cases e : i = k'
    · rw [if_pos e, e, w2]
    · rw [if_neg e]
  have hop2 : hasOpO (ds.set k' d) (k' : Int) = true := by
    unfold hasOpO
    rw [hasO_nat hv2 k' (by rw [hl.len]; exact hk), Bool.true_and]
    show ((ds.set k' d).getD ((k' : Int).toNat) default).o = true
    rw [Int.toNat_natCast]
    have := hO k'
    rw [ho] at this
    exact this
  obtain ⟨_, _, hp, hV, _⟩ := (validO_iff ds).1 hv
  obtain ⟨_, _, _, hV2, _⟩ := (validO_iff _).1 hv2
  obtain ⟨L, r1, r2⟩ := clr_agree hp ds.length (ds.set k' d).length k' ds (ds.set k' d) (by omega) (by rw [hl.len]; omega) hk (SaP.refl ds) hl hV hV2 (fun i hi hu => ⟨hO i, fun hne => by unfold clO; rw [hg, if_neg hne]⟩)
  refine ⟨L, ?_, ?_⟩
  · unfold rerL; rw [hop]; simpa using r1
  · unfold rerL; rw [hop2]
    have e : clO (ds.set k' d) k' = clO ds k' ++ [l] := by unfold clO; rw [hg, if_pos rfl, w3]
    rw [e] at r2
    simpa using r2
end Go.Proofs.Ytkfglodjnnlbkaa
