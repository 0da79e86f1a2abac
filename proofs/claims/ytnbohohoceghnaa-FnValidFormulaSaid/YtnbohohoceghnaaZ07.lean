/- Texts put together: A18 M5 R5 O1 R3 A19 A26. -/
import Derived.Test.YtnbohohoceghnaaZ06
import Derived.Test.YtnbohohoceghnaaRows
import Derived.WalkKit
import Derived.ProofKit
import Derived.OpenShut
import Derived.ShutString
import Derived.ChangeOld
import Derived.Below
import Derived.Deep.Slices
import Derived.Deep.Fields
import Derived.Deep.RegionWith
/- ReadsOf: both sides. -/
namespace Go.Proofs.Ytnbohohoceghnaa
set_option linter.unusedSimpArgs false
set_option linter.unusedVariables false
open Go.RowKit

/-- What ReadsOf answers. -/
def readF (ps : List Pt) (vs : List Int) : List Int := if canEv ps vs then firsts ((whole ps).rds vs) else []

theorem rds_whole (ps : List Pt) (vs : List Int) (h : ps.length ≤ 12) : ((whole ps).rds vs).length ≤ 531441 :=
  Nat.le_trans (rds_len ps vs ps.length (ps.length - 1)) (Nat.pow_le_pow_right (by omega) h)

theorem firsts_inv (P : List Int → Prop) (l : List Int) : ∀ acc : List Int, P acc → (∀ acc x, x ∈ l → P acc → P (if x ∈ acc then acc else acc ++ [x])) → P (l.foldl (fun acc x => if x ∈ acc then acc else acc ++ [x]) acc) := by
  induction l with
  | nil => intro acc h _; exact h
  | cons y l ih => intro acc h hs; exact ih _ (hs acc y List.mem_cons_self h) fun a x hx => hs a x (List.mem_cons_of_mem _ hx)

theorem firsts_bd (l : List Int) (m : Nat) (h : ∀ x ∈ l, ∃ q : Nat, q < m ∧ x = (q : Int)) : (firsts l).length ≤ m := by
  have h1 : (firsts l).Nodup ∧ ∀ x ∈ firsts l, ∃ q : Nat, q < m ∧ x = (q : Int) := by
    refine firsts_inv (fun a => a.Nodup ∧ ∀ x ∈ a, ∃ q : Nat, q < m ∧ x = (q : Int)) l [] ⟨List.nodup_nil, fun x hx => by cases hx⟩ ?_
    intro acc x hx ⟨h2, h3⟩
    split
    · exact ⟨h2, h3⟩
    · rename_i hn
      refine ⟨?_, ?_⟩
      · rw [List.nodup_append]
        refine ⟨h2, by simp, ?_⟩
        intro a ha b hb e
        simp at hb
        subst hb; subst e
        exact hn ha
      · intro y hy
        rcases List.mem_append.mp hy with h4 | h4
        · exact h3 y h4
        · simp at h4; subst h4; exact h y hx
  have h2 := sum_counts (firsts l) m fun x hx => by
    obtain ⟨q, hq, rfl⟩ := h1.2 x hx; omega
  rw [← h2]
  exact (sum_ones (fun i : Nat => (firsts l).count (i : Int)) m fun i _ => List.nodup_iff_count.mp h1.1 _).1

set_option maxHeartbeats 800000 in
theorem spec_ReadsOf (A A' : Option Addr) (n c m c' : Nat) (ps : List Pt) (vs : List Int) (B : Nat) (hn : n = ps.length) (hm : m = vs.length) (hs : n ≤ 1999999) (hs' : m ≤ 2000000) (w : World) (hB : B ≤ w.heap.size) (h : PS w B A ps) (h' : IS w B A' vs) :
    Calls Try.prog 14 #[.agg #[.slice A n c], .slice A' m c'] w fun e w' => RetI w (readF ps vs) e w' := by
  have H := Lib.hid h
  have HN := Lib.hid hn
  have H' := Lib.hid h'
  have HM := Lib.hid hm
  clear hn h hm h'
  cases hv : validF ps
  · have hc : canEv ps vs = false := by simp [canEv, hv]
    have hr : readF ps vs = [] := by simp [readF, hc]
    rw [hr]
    have HV := Lib.hid hv
    clear hr hc hv
    go_enter Try.func14, Try.ntmps14
    go_wp2_with fail
    refine (spec_validFormula _ _ _ ps _ B (by simp; omega) HN.out (H.out.alloc hB _) (by omega)).mono ?_
    rintro e w1 ⟨rfl, hb⟩
    rw [HV.out]
    go_wp2
    go_ret
    exact ⟨_, rfl, World.ownsRow_nil _ _ _ _, ((Below.refl _ _).alloc (Nat.le_refl _) _).trans (hb.mono (by simp))⟩
  · have HE := Lib.hid (canEv_val ps vs hv)
    have HV := Lib.hid hv
    clear hv
    cases hc : canEv ps vs
    · have hr : readF ps vs = [] := by simp [readF, hc]
      rw [hr]
      have HC := Lib.hid hc
      clear hr hc
      go_enter Try.func14, Try.ntmps14
      go_wp2_with fail
      refine (spec_validFormula _ _ _ ps _ B (by simp; omega) HN.out (H.out.alloc hB _) (by omega)).mono ?_
      rintro e w1 ⟨rfl, hb⟩
      rw [HV.out]
      have hz : w.heap.size + 1 ≤ w1.heap.size := by have := hb.size; simpa using this
      have hbox : w1.cell? ⟨w.heap.size, 0, none⟩ = some (.slice A n c) := (hb.cell (p := ⟨w.heap.size, 0, none⟩) (by simp)).trans (by go_simp)
      have HI1 := Lib.hid ((H'.out.alloc hB _).below hb (by simp; omega))
      have HP1 := Lib.hid ((H.out.alloc hB _).below hb (by simp; omega))
      go_wp2_with fail
      refine (spec_validValues _ _ _ _ _ _ ps vs _ B (by omega) HN.out HM.out HP1.out HI1.out (by omega) hs').mono ?_
      rintro e w2 ⟨rfl, hb2⟩
      rw [HE.out, HC.out]
      go_wp2
      go_ret
      exact ⟨_, rfl, World.ownsRow_nil _ _ _ _, ((Below.refl _ _).alloc (Nat.le_refl _) _).trans ((hb.trans (hb2.mono hb.size)).mono (by simp))⟩
    · have hr : readF ps vs = firsts ((whole ps).rds vs) := by simp [readF, hc]
      rw [hr]
      obtain ⟨hv, hvo, hm10, hea⟩ := canEv_parts ps vs hc
      obtain ⟨hg, h1, h12⟩ := validF_good ps hv
      have HRUN := Lib.hid (fun (w : World) => spec_run A A' n c m c' ps vs B HN.out HM.out hg (by rw [HM.out]; exact hea) hvo (by have := HN.out; omega) (by have := HN.out; omega) hs' w)
      have HC := Lib.hid hc
      clear hr hc hv hvo hea hg h1 h12
      generalize firsts ((whole ps).rds vs) = F at *
      go_enter Try.func14, Try.ntmps14
      go_wp2_with fail
      refine (spec_validFormula _ _ _ ps _ B (by simp; omega) HN.out (H.out.alloc hB _) (by omega)).mono ?_
      rintro e w1 ⟨rfl, hb⟩
      rw [HV.out]
      have hz : w.heap.size + 1 ≤ w1.heap.size := by have := hb.size; simpa using this
      have hbox : w1.cell? ⟨w.heap.size, 0, none⟩ = some (.slice A n c) := (hb.cell (p := ⟨w.heap.size, 0, none⟩) (by simp)).trans (by go_simp)
      have HI1 := Lib.hid ((H'.out.alloc hB _).below hb (by simp; omega))
      have HP1 := Lib.hid ((H.out.alloc hB _).below hb (by simp; omega))
      go_wp2_with fail
      refine (spec_validValues _ _ _ _ _ _ ps vs _ B (by omega) HN.out HM.out HP1.out HI1.out (by omega) hs').mono ?_
      rintro e w2 ⟨rfl, hb2⟩
      rw [HE.out, HC.out]
      have hz2 : w.heap.size + 1 ≤ w2.heap.size := by have := hb2.size; omega
      have hbox2 := (hb2.cell (p := ⟨w.heap.size, 0, none⟩) (by show w.heap.size < w1.heap.size; omega)).trans hbox
      have HI2 := Lib.hid (HI1.out.below hb2 (by omega))
      have HP2 := Lib.hid (HP1.out.below hb2 (by omega))
      go_wp2_with fail
      refine (HRUN.out _ (by omega) HP2.out HI2.out).mono ?_
      rintro e w3 ⟨v3, rfl, hown3, hb3⟩
      go_wp2
      go_ret
      exact ⟨v3, by simp, own_mono hown3.1 (by omega), ((Below.refl _ _).alloc (Nat.le_refl _) _).trans ((hb.trans ((hb2.trans (hb3.mono hb2.size)).mono hb.size)).mono (by simp))⟩

set_option maxHeartbeats 800000 in
theorem impl_ReadsOf (A A' : Option Addr) (n c m c' : Nat) (ps : List Pt) (vs : List Int) (B : Nat) (hn : n = ps.length) (hm : m = vs.length) (hs : n ≤ 1999999) (hs' : m ≤ 2000000) (w : World) (hB : B ≤ w.heap.size) (h : PS w B A ps) (h' : IS w B A' vs) :
    Calls Try.prog 12 #[.agg #[.slice A n c], .slice A' m c'] w fun e w' => RetI w (readF ps vs) e w' := by
  have H := Lib.hid h
  have HN := Lib.hid hn
  have H' := Lib.hid h'
  have HM := Lib.hid hm
  clear hn h hm h'
  cases hc : canEv ps vs
  · have hr : readF ps vs = [] := by simp [readF, hc]
    rw [hr]
    have HC := Lib.hid hc
    clear hr hc
    go_enter Try.func12, Try.ntmps12
    go_wp2_with fail
    refine (impl_canEvaluate _ _ _ _ _ _ ps vs _ B (by simp; omega) HN.out HM.out ((H.out.alloc hB _).alloc (by simp; omega) _) ((H'.out.alloc hB _).alloc (by simp; omega) _) (by omega) hs').mono ?_
    rintro e w1 ⟨rfl, hb⟩
    rw [HC.out]
    go_wp2
    go_ret
    exact ⟨_, rfl, World.ownsRow_nil _ _ _ _, (((Below.refl _ _).alloc (Nat.le_refl _) _).alloc (by simp) _).trans (hb.mono (by simp; omega))⟩
  · have hr : readF ps vs = firsts ((whole ps).rds vs) := by simp [readF, hc]
    rw [hr]
    obtain ⟨hv, hvo, hm10, hea⟩ := canEv_parts ps vs hc
    obtain ⟨hg, h1, h12⟩ := validF_good ps hv
    have hok : (whole ps).ok vs.length := tmAt_ok ps vs.length hg hea ps.length (ps.length - 1) (by omega) (by omega)
    have HWH := Lib.hid (fun (w : World) => impl_wholeOf A n c ps B HN.out hg (by omega) (by have := HN.out; omega) w)
    rw [show tmAt ps n (n - 1) = whole ps by rw [HN.out]; rfl] at HWH
    have hrl := rds_whole ps vs h12
    have HC := Lib.hid hc
    have HVO := Lib.hid hvo
    have HOK := Lib.hid hok
    clear hr hc hv hvo hea hg h1 h12 hok
    generalize whole ps = t at *
    go_enter Try.func12, Try.ntmps12
    go_wp2_with fail
    refine (impl_canEvaluate _ _ _ _ _ _ ps vs _ B (by simp; omega) HN.out HM.out ((H.out.alloc hB _).alloc (by simp; omega) _) ((H'.out.alloc hB _).alloc (by simp; omega) _) (by omega) hs').mono ?_
    rintro e w1 ⟨rfl, hb⟩
    rw [HC.out]
    have hz : w.heap.size + 1 + 1 ≤ w1.heap.size := by have := hb.size; simpa using this
    have hz0 : w.heap.size < w1.heap.size := by omega
    have hbox : w1.cell? ⟨w.heap.size, 0, none⟩ = some (.slice A n c) := (hb.cell (p := ⟨w.heap.size, 0, none⟩) (by simp; omega)).trans (by go_simp)
    have hbox2 : w1.cell? ⟨w.heap.size + 1, 0, none⟩ = some (.slice A' m c') := (hb.cell (p := ⟨w.heap.size + 1, 0, none⟩) (by simp)).trans (by go_simp)
    have HP1 := Lib.hid (((H.out.alloc hB (.cells #[.slice A n c] 25)).alloc (by simp; omega) (.cells #[.slice A' m c'] 26)).below hb (by simp; omega))
    have HI1 := Lib.hid (((H'.out.alloc hB (.cells #[.slice A n c] 25)).alloc (by simp; omega) (.cells #[.slice A' m c'] 26)).below hb (by simp; omega))
    have hB1 : Below w.heap.size w w1 := (((Below.refl _ _).alloc (Nat.le_refl _) _).alloc (by simp) _).trans (hb.mono (by simp; omega))
    clear hb
    go_wp2_with fail
    refine (HWH.out _ (by simp; omega) (HP1.out.alloc (by omega) _)).mono ?_
    rintro e w2 ⟨T, x, rfl, hT, hb2⟩
    have HT := Lib.hid hT
    clear hT
    have hz2 : w1.heap.size + 1 ≤ w2.heap.size := by have := hb2.size; simpa using this
    have hbg : Below w1.heap.size w1 w2 := (below_new w1 _).trans (hb2.mono (by simp))
    have hIR : IR w1.heap.size w1 [] w2 := ⟨hbg, by omega, (hb2.frozen (p := ⟨w1.heap.size, 0, none⟩) (by simp)).trans (by go_simp), .slice none 0 0, (hb2.cell (p := ⟨w1.heap.size, 0, none⟩) (by simp)).trans (by go_simp), World.ownsRow_nil _ _ _ _⟩
    have HEV := Lib.hid (impl_evaluate2 44 (.pointer (some ⟨w1.heap.size, 0, none⟩)) (.pointer (some ⟨w.heap.size + 1, 0, none⟩)) vs HVO.out (footR w1.heap.size) (fun acc w' => IR w1.heap.size w1 acc w' ∧ ∀ x ∈ acc, ∃ q : Nat, q < vs.length ∧ x = (q : Int))
      (fun acc w' k h hf => h.1.foot_lt k hf) (fun acc wa wb h1 h2 => ⟨⟨h1.1.step h2, h1.2⟩, fun k hf => h1.1.foot_step h2 k hf⟩) (fun q w => by kernel_rfl)
      (fun q acc wa hq h1 => (look_read A' m c' w1.heap.size (w.heap.size + 1) q vs acc w1 wa B HM.out hs' hq (by omega) (by omega) hbox2 HI1.out h1.1 (by have := firsts_bd acc vs.length h1.2; omega)).mono
        fun e wb ⟨he, hI, hF⟩ => ⟨he, ⟨hI, fun x hx => by
          rcases List.mem_append.mp hx with h4 | h4
          · exact h1.2 x h4
          · simp at h4; exact ⟨q, hq, h4⟩⟩, hF⟩) t)
    have HIR := Lib.hid hIR
    clear hb2 hIR
    go_wp2_with fail
    rw [← HT.out]
    refine (HEV.out [] _ HOK.out ⟨HIR.out, fun x hx => by cases hx⟩).mono ?_
    rintro e w3 ⟨rfl, ⟨hI3, _⟩, _⟩
    obtain ⟨v, hv, ho⟩ := hI3.cell
    obtain ⟨A3, c3, rfl⟩ := own_form ho
    simp only [List.nil_append] at hv ho
    have HO := Lib.hid ho
    have HB3 := Lib.hid hI3.bel
    have hs3 := hI3.lt
    clear ho hI3
    go_wp2
    go_ret
    exact ⟨_, rfl, own_mono HO.out (by omega), hB1.trans (HB3.out.mono (by omega))⟩
end Go.Proofs.Ytnbohohoceghnaa

/- Plain facts for the laws of promises: values that are not read, graphs' first nodes, cells of 0. -/
namespace Go.Proofs.Ytnbohohoceghnaa
set_option linter.unusedSimpArgs false
set_option linter.unusedVariables false
open Go.RowKit

theorem rds_lt (t : Tm) (vs : List Int) (m : Nat) (h : t.ok m) : ∀ x ∈ t.rds vs, ∃ q : Nat, q < m ∧ x = (q : Int) := by
  induction t with
  | num v => intro x hx; simp [Tm.rds] at hx
  | rd v =>
    intro x hx
    simp [Tm.rds] at hx
    simp only [Tm.ok] at h
    exact ⟨v.toNat, by omega, by omega⟩
  | pr k l r ihl ihr =>
    intro x hx
    simp only [Tm.ok] at h
    simp only [Tm.rds, List.mem_append] at hx
    rcases hx with hx | hx
    · exact ihl h.1 x hx
    · exact ihr h.2 x hx
  | ch a b c iha ihb ihc =>
    intro x hx
    simp only [Tm.ok] at h
    simp only [Tm.rds, List.mem_append] at hx
    rcases hx with hx | hx
    · exact iha h.1 x hx
    · split at hx
      · exact ihc h.2.2 x hx
      · exact ihb h.2.1 x hx

/-- What is not read does not matter. -/
theorem ev_agree (t : Tm) (vs vs' : List Int) (m : Nat) (hok : t.ok m) (h : ∀ x ∈ t.rds vs, vs'.getD x.toNat 0 = vs.getD x.toNat 0) : t.ev vs' = t.ev vs ∧ t.rds vs' = t.rds vs := by
  induction t with
  | num v => exact ⟨rfl, rfl⟩
  | rd v =>
    simp only [Tm.ev, Tm.rds] at *
    exact ⟨h v (by simp), trivial⟩
  | pr k l r ihl ihr =>
    simp only [Tm.ok] at hok
    simp only [Tm.ev, Tm.rds] at *
    obtain ⟨l1, l2⟩ := ihl hok.1 fun x hx => h x (List.mem_append_left _ hx)
    obtain ⟨r1, r2⟩ := ihr hok.2 fun x hx => h x (List.mem_append_right _ hx)
    rw [l1, l2, r1, r2]
    exact ⟨rfl, rfl⟩
  | ch a b c iha ihb ihc =>
    simp only [Tm.ok] at hok
    simp only [Tm.ev, Tm.rds] at *
    obtain ⟨a1, a2⟩ := iha hok.1 fun x hx => h x (List.mem_append_left _ hx)
    rw [a1, a2]
    split
    · rename_i h0
      obtain ⟨b1, b2⟩ := ihc hok.2.2 fun x hx => h x (List.mem_append_right _ (by rw [if_pos h0]; exact hx))
      rw [b1, b2]
      exact ⟨rfl, rfl⟩
    · rename_i h0
      obtain ⟨c1, c2⟩ := ihb hok.2.1 fun x hx => h x (List.mem_append_right _ (by rw [if_neg h0]; exact hx))
      rw [c1, c2]
      exact ⟨rfl, rfl⟩

theorem firsts_mem (l : List Int) (x : Int) : x ∈ firsts l ↔ x ∈ l := by
  have : ∀ (l acc : List Int), x ∈ l.foldl (fun acc x => if x ∈ acc then acc else acc ++ [x]) acc ↔ x ∈ acc ∨ x ∈ l := by
    intro l
    induction l with
    | nil => intro acc; simp
    | cons y l ih =>
      intro acc
      rw [List.foldl_cons, ih]
      by_cases hy : y ∈ acc
      · rw [if_pos hy, List.mem_cons]
        constructor
        · rintro (h | h)
          · exact .inl h
          · exact .inr (.inr h)
        · rintro (h | h | h)
          · exact .inl h
          · subst h; exact .inl hy
          · exact .inr h
      · rw [if_neg hy, List.mem_append, List.mem_cons, List.mem_cons]
        simp only [List.not_mem_nil, or_false]
        constructor
        · rintro ((h | h) | h)
          · exact .inl h
          · exact .inr (.inl h)
          · exact .inr (.inr h)
        · rintro (h | h | h)
          · exact .inl (.inl h)
          · exact .inl (.inr h)
          · exact .inr h
  simpa [firsts] using this l []

theorem firsts_nodup (l : List Int) : (firsts l).Nodup :=
  firsts_inv (fun a => a.Nodup) l [] List.nodup_nil fun acc x _ h => by
    by_cases hx : x ∈ acc
    · rw [if_pos hx]; exact h
    · rw [if_neg hx]
      refine List.nodup_append.2 ⟨h, by simp, ?_⟩
      intro a ha b hb e
      simp at hb
      subst hb; subst e
      exact hx ha

theorem canEv_set (ps : List Pt) (vs : List Int) (n : Nat) (y : Int) (h : canEv ps vs = true) (hy : 0 ≤ y) (hy' : y ≤ 999) : canEv ps (vs.set n y) = true := by
  obtain ⟨hv, hvo, hl, he⟩ := canEv_parts ps vs h
  refine canEv_of ps _ hv (by simpa using hl) ?_ (by simpa using he)
  intro j hj
  have hj' : j < vs.length := by simpa using hj
  by_cases e : n = j
  · subst e
    simp [List.getD, hj', hy, hy']
  · have := hvo j hj'
    simpa [List.getD, List.getElem?_set, e] using this

/-- Another value for a node that is not read: the same value, the same reads. -/
theorem unread (ps : List Pt) (vs : List Int) (n : Nat) (y : Int) (h : canEv ps vs = true) (hy : 0 ≤ y) (hy' : y ≤ 999) (hn : (n : Int) ∉ readF ps vs) : canEv ps (vs.set n y) = true ∧ valF ps (vs.set n y) = valF ps vs ∧ readF ps (vs.set n y) = readF ps vs := by
  have hc := canEv_set ps vs n y h hy hy'
  obtain ⟨hv, hvo, hl, he⟩ := canEv_parts ps vs h
  have hok := whole_ok ps vs.length hv he
  have hr : readF ps vs = firsts ((whole ps).rds vs) := by unfold readF; rw [h]; rfl
  have := ev_agree (whole ps) vs (vs.set n y) vs.length hok fun x hx => by
    have hne : x ≠ (n : Int) := by
      rintro rfl
      exact hn (by rw [hr, firsts_mem]; exact hx)
    obtain ⟨q, _, rfl⟩ := rds_lt (whole ps) vs vs.length hok x hx
    have : ¬ n = q := by intro e; exact hne (by rw [e])
    simp [List.getD, List.getElem?_set, this]
  refine ⟨hc, ?_, ?_⟩
  · unfold valF; rw [h, hc]; simpa using this.1
  · unfold readF; rw [h, hc]; simp [this.2]

theorem valF_bd (ps : List Pt) (vs : List Int) (h : canEv ps vs = true) : 0 ≤ valF ps vs ∧ valF ps vs < 1000 := by
  obtain ⟨hv, hvo, hl, he⟩ := canEv_parts ps vs h
  have := Tm.ev_bd vs hvo (whole ps) (whole_ok ps vs.length hv he)
  unfold valF
  rw [h]
  simp only [if_true]
  omega

/-- What is read may be read. -/
theorem rds_node (ps : List Pt) (hg : AllGood ps) (vs : List Int) (f : Nat) : ∀ i, i < f → i < ps.length → ∀ x ∈ (tmAt ps f i).rds vs, ∃ q : Nat, q < 10 ∧ x = (q : Int) ∧ hasNode ps q = true := by
  induction f with
  | zero => intro i hi; omega
  | succ f ih =>
    intro i hi hin x hx
    have hgi := hg i hin
    have hmem : ps.getD i default ∈ ps := by simp [List.getD, hin]
    rw [tmAt_eq] at hx
    have hbn := good_bel_nat _ _ hgi
    have hnum := good_num _ _ hgi
    generalize ps.getD i default = p at *
    rcases good_kind _ _ hgi with h0 | h0 | h0 | h0
    · simp only [h0] at hx
      simp [Tm.rds] at hx
    · have h1 : (p.k == 1) = true := by simp [h0]
      have h00 : (p.k == 0) = false := by simp [h0]
      simp only [h00, h1, if_true, Bool.false_eq_true, if_false, Tm.rds, List.mem_singleton] at hx
      have := hnum.2 h0
      refine ⟨p.n.toNat, by omega, by omega, ?_⟩
      unfold hasNode
      rw [List.any_eq_true]
      exact ⟨_, hmem, by rw [h1, Bool.true_and]; simp only [beq_iff_eq]; omega⟩
    · obtain ⟨a, b, ea, eb, la, lb⟩ := hbn.1 h0
      have k0 : (p.k == 0) = false := by simp; omega
      have k1 : (p.k == 1) = false := by simp; omega
      have k8 : (p.k == 8) = false := by simp; omega
      simp only [k0, k1, k8, Bool.false_eq_true, if_false, ea, eb, Int.toNat_natCast, Tm.rds, List.mem_append] at hx
      rcases hx with hx | hx
      · exact ih a (by omega) (by omega) x hx
      · exact ih b (by omega) (by omega) x hx
    · obtain ⟨a, b, c, ea, eb, ec, la, lb, lc⟩ := hbn.2 h0
      have k0 : (p.k == 0) = false := by simp [h0]
      have k1 : (p.k == 1) = false := by simp [h0]
      have k8 : (p.k == 8) = true := by simp [h0]
      simp only [k0, k1, k8, Bool.false_eq_true, if_false, if_true, ea, eb, ec, Int.toNat_natCast, Tm.rds, List.mem_append] at hx
      rcases hx with hx | hx
      · exact ih a (by omega) (by omega) x hx
      · split at hx
        · exact ih c (by omega) (by omega) x hx
        · exact ih b (by omega) (by omega) x hx

theorem readF_may (ps : List Pt) (vs : List Int) : (readF ps vs).Nodup ∧ ∀ x ∈ readF ps vs, x ∈ mayF ps := by
  unfold readF mayF
  cases h : canEv ps vs
  · simp
  · simp only [if_true]
    obtain ⟨hv, hvo, hl, he⟩ := canEv_parts ps vs h
    obtain ⟨hg, h1, h12⟩ := validF_good ps hv
    rw [hv]
    refine ⟨firsts_nodup _, fun x hx => ?_⟩
    rw [firsts_mem] at hx
    obtain ⟨q, hq, rfl, hq2⟩ := rds_node ps hg vs ps.length (ps.length - 1) (by omega) (by omega) x hx
    simp only [if_true]
    rw [mem_mayR]
    exact ⟨q, hq, hq2, rfl⟩

/-! Graphs. -/
theorem take_getD (gs : List Nd) (k i : Nat) (h : i < k) : (gs.take k).getD i default = gs.getD i default := by
  simp only [List.getD, List.getElem?_take, if_pos h]

theorem nodeOK_take (gs : List Nd) (k i : Nat) (h : i < k) (hk : k ≤ gs.length) : nodeOK (gs.take k) i = nodeOK gs i := by
  unfold nodeOK goodRd
  rw [take_getD gs k i h]
  have e : (mayR (gs.getD i default).ps).all (rdOK (gs.take k) i) = (mayR (gs.getD i default).ps).all (rdOK gs i) := by
    rw [Bool.eq_iff_iff, List.all_eq_true, List.all_eq_true]
    have key : ∀ x ∈ mayR (gs.getD i default).ps, rdOK (gs.take k) i x = rdOK gs i x := fun x hx => by
      unfold rdOK
      by_cases hxi : x < (i : Int)
      · have := (mem_mayR_bd _ _ hx).1
        rw [take_getD gs k x.toNat (by omega)]
      · rw [decide_eq_false hxi]; rfl
    constructor
    · intro h x hx; rw [← key x hx]; exact h x hx
    · intro h x hx; rw [key x hx]; exact h x hx
  rw [e]

theorem validG_take (gs : List Nd) (k : Nat) (h : validG gs = true) (hk : k ≤ gs.length) : validG (gs.take k) = true := by
  obtain ⟨h10, hok⟩ := validG_parts gs h
  rw [validG_fin (gs.take k) fun i hi => by
    have hi' : i < k := by rw [List.length_take] at hi; omega
    rw [nodeOK_take gs k i hi' hk]
    exact hok i (by omega)]
  rw [List.length_take]
  simp
  omega

theorem okC_zero (gs : List Nd) (n : Nat) (h : validG gs = true) (hn : n = gs.length) : okC gs (List.replicate n 0) = true := by
  unfold okC
  rw [h, Bool.true_and]
  refine validC_fin _ _ (by simp [hn]) fun i hi => ?_
  unfold cellOK rng
  simp [List.getD, hn, hi]
end Go.Proofs.Ytnbohohoceghnaa

/- The laws' own helpers on lists, where they answer true. -/
namespace Go.Proofs.Ytnbohohoceghnaa
set_option linter.unusedSimpArgs false
set_option linter.unusedVariables false
open Go.RowKit

set_option maxHeartbeats 800000 in
theorem laws_equalInts (A A' : Option Addr) (n n' c c' : Nat) (a b : List Int) (w : World) (B : Nat) (hB : B ≤ w.heap.size) (hn : n = a.length) (hn' : n' = b.length) (h : IS w B A a) (h' : IS w B A' b) (hs : n ≤ 2000000) (hs' : n' ≤ 2000000) :
    Calls Try.prog 13 #[.slice A n c, .slice A' n' c'] w fun e w' => e = .returned (.bool (decide (a = b))) ∧ Below w.heap.size w w' := by
  by_cases hl : n = n'
  · have hne : ((n : Int) != (n' : Int)) = false := by simp [hl]
    have HL := Lib.hid hl
    have HN := Lib.hid hn
    have HN' := Lib.hid hn'
    have H := Lib.hid h
    have H' := Lib.hid h'
    clear hl hn hn' h h'
    go_enter Try.func13, Try.ntmps13
    go_wp2
    go_loopw [5] (fun i wr => ∃ k : Nat, k ≤ n ∧ i = .int .i64 k ∧ Hid (∀ j, j < k → a.getD j 0 = b.getD j 0) ∧ Below w.heap.size w wr) (fun i _ => n - (intOf i).toNat)
    case atStart => exact ⟨0, Nat.zero_le _, rfl, fun j hj => by omega, Below.refl _ _⟩
    case round =>
      obtain ⟨k, hk, rfl, HT, hb⟩ := hrel
      by_cases hlt : k < n
      · have hlt' : k < n' := by have := HL.out; omega
        obtain ⟨b1, off, rfl, hbB, hc⟩ := H.out (by have := HN.out; omega)
        obtain ⟨b2, off', rfl, hbB', hc'⟩ := H'.out (by have := HN'.out; omega)
        have d1 := hc k (by have := HN.out; omega)
        have d2 := hc' k (by have := HN'.out; omega)
        have e1 := (hb.cell (p := ⟨b1, off + k, none⟩) (by simp; omega)).trans d1
        have e2 := (hb.cell (p := ⟨b2, off' + k, none⟩) (by simp; omega)).trans d2
        clear hc hc' d1 d2 H H'
        have HNE : Hid (a.getD k 0 ≠ b.getD k 0 → decide (a = b) = false) := fun hh => by rw [decide_eq_false_iff_not]; rintro rfl; exact hh rfl
        have HEQ : Hid (a.getD k 0 = b.getD k 0 → ∀ j, j < k + 1 → a.getD j 0 = b.getD j 0) := fun hh j hj => by
          rcases Nat.lt_or_ge j k with h1 | h1
          · exact HT.out j h1
          · obtain rfl : j = k := by omega
            exact hh
        generalize a.getD k 0 = x at *
        generalize b.getD k 0 = y at *
        cases hxy : (x == y)
        · have hne2 : (x != y) = true := by simp [bne, hxy]
          have HF := Lib.hid (HNE.out (by simpa using hxy))
          clear hxy
          go_wp2
          go_region
          go_wp2
          go_ret
          exact ⟨ret_b HF.out.symm, hb.drew⟩
        · have hne2 : (x != y) = false := by simp [bne, hxy]
          have HF := Lib.hid (HEQ.out (by simpa using hxy))
          clear hxy
          go_wp2
          go_region
          go_wp2
          go_roundw
          case rel => exact ⟨k + 1, by omega, by go_num, HF.out, hb.drew⟩
          case measure => simp [intOf]; omega
      · obtain rfl : k = n := by omega
        go_wp2
        go_ret
        refine ⟨ret_b ?_, hb⟩
        symm
        apply decide_eq_true
        have h1 := HN.out
        have h2 := HN'.out
        have h3 := HL.out
        apply List.ext_getElem (by omega)
        intro j hj hj'
        have := HT.out j (by omega)
        simpa [List.getD, hj, hj'] using this
  · have hne : ((n : Int) != (n' : Int)) = true := by simp; omega
    have hf : decide (a = b) = false := by rw [decide_eq_false_iff_not]; rintro rfl; omega
    rw [hf]
    clear hl hn hn' h h' hf
    go_enter Try.func13, Try.ntmps13
    go_wp2
    go_ret
    exact ⟨rfl, Below.refl _ _⟩

theorem nodup_plc (xs : List Int) (h : xs.Nodup) (k : Nat) (hk : k < xs.length) : plc xs (xs.getD k 0) = (k : Int) := by
  refine plc_at xs _ k hk rfl fun j hj => ?_
  have := List.pairwise_iff_getElem.1 h j k (by omega) hk hj
  simpa [List.getD, hk, show j < xs.length by omega] using this

set_option maxHeartbeats 800000 in
theorem laws_noTwice (A : Option Addr) (n c : Nat) (xs : List Int) (w : World) (B : Nat) (hB : B ≤ w.heap.size) (hn : n = xs.length) (h : IS w B A xs) (hs : n ≤ 2000000) (hd : xs.Nodup) :
    Calls Try.prog 15 #[.slice A n c] w fun e w' => e = .returned (.bool true) ∧ w = w' := by
  have H := Lib.hid h
  have HN := Lib.hid hn
  have HP := Lib.hid fun (k : Nat) (hk : k < n) => nodup_plc xs hd k (by omega)
  clear hn h hd
  go_enter Try.func15, Try.ntmps15
  go_wp2
  go_loop [3] (fun i => ∃ k : Nat, k ≤ n ∧ i = .int .i64 k) (fun i => n - (intOf i).toNat)
  case atStart => exact ⟨0, Nat.zero_le _, rfl⟩
  case round =>
    obtain ⟨k, hk, rfl⟩ := hrel
    by_cases hlt : k < n
    · obtain ⟨b, off, rfl, hbB, hc⟩ := H.out (by have := HN.out; omega)
      have c0 := hc k (by have := HN.out; omega)
      clear hc
      have HC := Lib.hid (laws_place (some ⟨b, off, none⟩) n c xs (xs.getD k 0) w B hB HN.out H.out hs)
      rw [HP.out k hlt] at HC
      generalize xs.getD k 0 = x at *
      have hne : ((k : Int) != (k : Int)) = false := by simp
      go_wp2_with fail
      refine HC.out.mono ?_
      rintro e w' ⟨rfl, rfl⟩
      go_wp2
      go_round
      case rel => exact ⟨k + 1, by omega, by go_num⟩
      case measure => simp [intOf]; omega
    · go_wp2
      go_ret
      exact ⟨rfl, rfl⟩

set_option maxHeartbeats 800000 in
theorem laws_within (A A' : Option Addr) (n c m c' : Nat) (xs ys : List Int) (w : World) (B : Nat) (hB : B ≤ w.heap.size) (hn : n = xs.length) (h : IS w B A xs) (hs : n ≤ 2000000) (hm : m = ys.length) (h' : IS w B A' ys) (hs' : m ≤ 2000000) (hd : ∀ x ∈ xs, x ∈ ys) :
    Calls Try.prog 16 #[.slice A n c, .slice A' m c'] w fun e w' => e = .returned (.bool true) ∧ w = w' := by
  have H := Lib.hid h
  have HN := Lib.hid hn
  have HIN := Lib.hid fun (y : Int) => laws_isIn A' m c' ys y w B hB hm h' hs'
  have HD := Lib.hid hd
  clear hn h hd hm h'
  go_enter Try.func16, Try.ntmps16
  go_wp2
  go_loop [5] (fun i => ∃ k : Nat, k ≤ n ∧ i = .int .i64 k) (fun i => n - (intOf i).toNat)
  case atStart => exact ⟨0, Nat.zero_le _, rfl⟩
  case round =>
    obtain ⟨k, hk, rfl⟩ := hrel
    by_cases hlt : k < n
    · have hkx : k < xs.length := by have := HN.out; omega
      obtain ⟨b, off, rfl, hbB, hc⟩ := H.out (by have := HN.out; omega)
      have c0 := hc k hkx
      have HC := Lib.hid (HIN.out (xs.getD k 0))
      rw [decide_eq_true (HD.out (xs.getD k 0) (by simp [List.getD, hkx]))] at HC
      clear hc
      generalize xs.getD k 0 = x at *
      go_wp2_with fail
      refine HC.out.mono ?_
      rintro e w' ⟨rfl, rfl⟩
      go_wp2
      go_round
      case rel => exact ⟨k + 1, by omega, by go_num⟩
      case measure => simp [intOf]; omega
    · go_wp2
      go_ret
      exact ⟨rfl, rfl⟩
end Go.Proofs.Ytnbohohoceghnaa

/- How the laws' arguments open: a formula, a list of numbers. -/
namespace Go.Proofs.Ytnbohohoceghnaa
set_option linter.unusedSimpArgs false
set_option linter.unusedVariables false
open Go.ChangeShapes Go.WideShapes Go.ChangeAt Go.RowKit Go.Deep

theorem own : ownKnob Try.prog.godebug = none := by kernel_rfl
theorem laidOut : laidOutB Try.prog = true := by kernel_rfl
theorem cells_int : Try.prog.cellsOf 3 = 1 := by kernel_rfl
theorem add_of (b off n : Nat) : (⟨b, off, none⟩ : Addr).add n = ⟨b, off + n, none⟩ := by
  unfold Addr.add
  by_cases h : n = 0 <;> simp [h]

theorem add_add' (a : Addr) (i j : Nat) : (a.add i).add j = a.add (i + j) := by
  unfold Addr.add
  by_cases hi : i = 0 <;> by_cases hj : j = 0 <;> simp [hi, hj, Nat.add_assoc]

theorem one_of_list (cs : List Value) (h : cs.length = 1) : ∃ c, cs = [c] := by
  match cs, h with
  | [c], _ => exact ⟨c, rfl⟩

theorem choose_parts (f : Nat → Nat → Option Value) (len : Nat) (hp : ∀ i, i < len → ∃ p : Pt, ∀ j, j < 5 → f i j = p.cells[j]?) :
    ∃ ps : List Pt, ps.length = len ∧ ∀ i, i < len → ∀ j, j < 5 → f i j = (ps.getD i default).cells[j]? := by
  induction len with
  | zero => exact ⟨[], rfl, fun i hi => by omega⟩
  | succ k ih =>
    obtain ⟨ps, hl, hps⟩ := ih (fun i hi => hp i (by omega))
    obtain ⟨p, hpp⟩ := hp k (by omega)
    refine ⟨ps ++ [p], by simp [hl], fun i hi j hj => ?_⟩
    rcases Nat.lt_or_ge i k with h1 | h1
    · rw [hps i h1 j hj]; simp [List.getD, List.getElem?_append, hl, h1]
    · obtain rfl : i = k := by omega
      rw [hpp j hj]; simp [List.getD, List.getElem?_append, hl]

section
variable {H : Type} {enc : TypeId × Value → H} {w : World} {base : Nat} {spare : Nat → Bool} {held : Bool}

set_option maxRecDepth 100000 in
theorem open_list {r : Reach} {b0 : Nat} {v : Value} {d : DataW H} {p : List MemPlace} (hsp : ∀ b, spare b = true) (hv : Value.okWide Try.prog w r b0 26 v) (h : DataW.Trod enc Try.prog w base spare held 26 v d p) :
    ∃ (A : Option Addr) (n c : Nat) (xs : List Int), v = .slice A n c ∧ n = xs.length ∧ n ≤ 9223372036854775807 ∧ IS w w.heap.size A xs := by
  obtain ⟨a0, len0, cap0, rfl⟩ := okWide_slice Try.underlying26 hv
  obtain ⟨fuel, hf⟩ := h
  rcases open_ints Try.underlying26 Try.underlying3 cells_int hf with ⟨hcs, _⟩ | ⟨x, l, c, zs, hcs, _, hl, hm, hz, _, hcell, _⟩
  · simp [Value.cells] at hcs
    obtain ⟨rfl, rfl, rfl⟩ := hcs
    exact ⟨none, 0, 0, [], rfl, rfl, by omega, IS.nil _ _ _⟩
  · simp [Value.cells] at hcs
    obtain ⟨rfl, rfl, rfl⟩ := hcs
    have hzl : len0 ≤ zs.length := by rw [hz]; split <;> omega
    refine ⟨some x, len0, cap0, zs.take len0, rfl, by simp; omega, by unfold maxLen at hm; omega, fun hn => ?_⟩
    have hlen : (zs.take len0).length = len0 := by simp; omega
    have h0 := hcell 0 (by omega)
    obtain ⟨b, off, spot⟩ := x
    have hspot : spot = none := by
      have h1 : w.cell? ⟨b, off, spot⟩ = some (.int .i64 (zs.getD 0 0)) := by simpa [Addr.add] using h0
      exact World.cell?_spot h1
    subst hspot
    have hblk : b < w.heap.size := by
      have h1 : w.cell? ⟨b, off, none⟩ = some (.int .i64 (zs.getD 0 0)) := by simpa [Addr.add] using h0
      exact World.block_lt_of_cell? w _ h1
    refine ⟨b, off, rfl, hblk, fun j hj => ?_⟩
    have g := hcell j (by omega)
    rw [add_of] at g
    rw [g]
    congr 2
    simp only [List.getD, List.getElem?_take, if_pos (show j < len0 by omega)]
end
end Go.Proofs.Ytnbohohoceghnaa

/- For all bytes the law of RunsOf holds (runs of all numbers together are as many as the list that is drawn is long, and the program's count is the model's), and the bytes stay as they were. Conditions: none. -/
namespace Go.Proofs.Ytnbohohoceghnaa
set_option linter.unusedSimpArgs false
set_option linter.unusedVariables false
open Go.ChangeShapes Go.WideShapes Go.ChangeAt Go.RowKit

theorem cells_u8 : Try.prog.cellsOf 5 = 1 := by kernel_rfl

section
variable {H : Type} {enc : TypeId × Value → H} {w : World} {base : Nat} {spare : Nat → Bool} {held : Bool}

set_option maxRecDepth 100000 in
theorem open_code {r : Reach} {b0 : Nat} {v : Value} {d : DataW H} {p : List MemPlace} (hv : Value.okWide Try.prog w r b0 22 v) (h : DataW.Trod enc Try.prog w base spare held 22 v d p) :
    ∃ (A : Option Addr) (n c : Nat) (bs : List Int), v = .slice A n c ∧ n = bs.length ∧ n ≤ c ∧ n ≤ 9223372036854775807 ∧ BY bs ∧ BS w w.heap.size A bs := by
  obtain ⟨a0, len0, cap0, rfl⟩ := okWide_slice Try.underlying22 hv
  obtain ⟨fuel, hf⟩ := h
  rcases open_ints Try.underlying22 Try.underlying5 cells_u8 hf with ⟨hcs, _⟩ | ⟨x, l, c, zs, hcs, _, hl, hm, hz, _, hcell, hwz⟩
  · simp [Value.cells] at hcs
    obtain ⟨rfl, rfl, rfl⟩ := hcs
    exact ⟨none, 0, 0, [], rfl, rfl, Nat.le_refl _, by omega, fun j => by simp [List.getD], fun h => absurd h (by simp)⟩
  · simp [Value.cells] at hcs
    obtain ⟨rfl, rfl, rfl⟩ := hcs
    have hzl : len0 ≤ zs.length := by rw [hz]; split <;> omega
    have hby : BY (zs.take len0) := by
      intro j
      have hall : ∀ y ∈ zs, 0 ≤ y ∧ y ≤ 255 := by
        intro y hy
        have := hwz y hy
        have this : (decide (IntKind.u8.min ≤ y) && decide (y ≤ IntKind.u8.max)) = true := this
        have e1 : IntKind.u8.min = 0 := by decide
        have e2 : IntKind.u8.max = 255 := by decide
        rw [e1, e2] at this
        simpa using this
      rcases hg : (zs.take len0)[j]? with _ | y
      · simp [List.getD, hg]
      · have hm2 : y ∈ zs := List.mem_of_mem_take (List.mem_of_getElem? hg)
        simpa [List.getD, hg] using hall y hm2
    refine ⟨some x, len0, cap0, zs.take len0, rfl, by simp; omega, hl, by unfold maxLen at hm; omega, hby, fun hn => ?_⟩
    have hlen : (zs.take len0).length = len0 := by simp; omega
    have h0 := hcell 0 (by omega)
    obtain ⟨b, off, spot⟩ := x
    have hspot : spot = none := by
      have h1 : w.cell? ⟨b, off, spot⟩ = some (.int .u8 (zs.getD 0 0)) := by simpa [Addr.add] using h0
      exact World.cell?_spot h1
    subst hspot
    have hblk : b < w.heap.size := by
      have h1 : w.cell? ⟨b, off, none⟩ = some (.int .u8 (zs.getD 0 0)) := by simpa [Addr.add] using h0
      exact World.block_lt_of_cell? w _ h1
    refine ⟨b, off, rfl, hblk, fun j hj => ?_⟩
    have g := hcell j (by omega)
    rw [add_of] at g
    rw [g]
    congr 2
    simp only [List.getD, List.getElem?_take, if_pos (show j < len0 by omega)]
end

end Go.Proofs.Ytnbohohoceghnaa

/- ReadsWhole: both sides. -/
namespace Go.Proofs.Ytnbohohoceghnaa
set_option linter.unusedSimpArgs false
set_option linter.unusedVariables false
open Go.RowKit

/-- What ReadsWhole answers. -/
def wholeF (ps : List Pt) (vs : List Int) : Bool := canEv ps vs && decide ((firsts ((whole ps).rds vs)).length = (mayR ps).length)

theorem int_eq_nat (a b : Nat) : ((a : Int) == (b : Int)) = decide (a = b) := by
  by_cases h : a = b
  · simp [h]
  · simp [h]; omega

set_option maxHeartbeats 800000 in
theorem spec_ReadsWhole (A A' : Option Addr) (n c m c' : Nat) (ps : List Pt) (vs : List Int) (B : Nat) (hn : n = ps.length) (hm : m = vs.length) (hs : n ≤ 1999999) (hs' : m ≤ 2000000) (w : World) (hB : B ≤ w.heap.size) (h : PS w B A ps) (h' : IS w B A' vs) :
    Calls Try.prog 20 #[.agg #[.slice A n c], .slice A' m c'] w fun e w' => e = .returned (.bool (wholeF ps vs)) ∧ Below w.heap.size w w' := by
  have H := Lib.hid h
  have HN := Lib.hid hn
  have H' := Lib.hid h'
  have HM := Lib.hid hm
  clear hn h hm h'
  cases hv : validF ps
  · have hc : canEv ps vs = false := by simp [canEv, hv]
    have hr : wholeF ps vs = false := by simp [wholeF, hc]
    rw [hr]
    have HV := Lib.hid hv
    clear hr hc hv
    go_enter Try.func20, Try.ntmps20
    go_wp2_with fail
    refine (spec_validFormula _ _ _ ps _ B (by simp; omega) HN.out (H.out.alloc hB _) (by omega)).mono ?_
    rintro e w1 ⟨rfl, hb⟩
    rw [HV.out]
    go_wp2
    go_ret
    exact ⟨rfl, ((Below.refl _ _).alloc (Nat.le_refl _) _).trans (hb.mono (by simp))⟩
  · have HE := Lib.hid (canEv_val ps vs hv)
    have HV := Lib.hid hv
    clear hv
    cases hc : canEv ps vs
    · have hr : wholeF ps vs = false := by simp [wholeF, hc]
      rw [hr]
      have HC := Lib.hid hc
      clear hr hc
      go_enter Try.func20, Try.ntmps20
      go_wp2_with fail
      refine (spec_validFormula _ _ _ ps _ B (by simp; omega) HN.out (H.out.alloc hB _) (by omega)).mono ?_
      rintro e w1 ⟨rfl, hb⟩
      rw [HV.out]
      have hz : w.heap.size + 1 ≤ w1.heap.size := by have := hb.size; simpa using this
      have hbox : w1.cell? ⟨w.heap.size, 0, none⟩ = some (.slice A n c) := (hb.cell (p := ⟨w.heap.size, 0, none⟩) (by simp)).trans (by go_simp)
      have HI1 := Lib.hid ((H'.out.alloc hB _).below hb (by simp; omega))
      have HP1 := Lib.hid ((H.out.alloc hB _).below hb (by simp; omega))
      go_wp2_with fail
      refine (spec_validValues _ _ _ _ _ _ ps vs _ B (by omega) HN.out HM.out HP1.out HI1.out (by omega) hs').mono ?_
      rintro e w2 ⟨rfl, hb2⟩
      rw [HE.out, HC.out]
      go_wp2
      go_ret
      exact ⟨rfl, ((Below.refl _ _).alloc (Nat.le_refl _) _).trans ((hb.trans (hb2.mono hb.size)).mono (by simp))⟩
    · have hr : wholeF ps vs = decide ((firsts ((whole ps).rds vs)).length = (mayR ps).length) := by simp [wholeF, hc]
      rw [hr]
      obtain ⟨hv, hvo, hm10, hea⟩ := canEv_parts ps vs hc
      obtain ⟨hg, h1, h12⟩ := validF_good ps hv
      have HRUN := Lib.hid (fun (w : World) => spec_run A A' n c m c' ps vs B HN.out HM.out hg (by rw [HM.out]; exact hea) hvo (by have := HN.out; omega) (by have := HN.out; omega) hs' w)
      have hfl : (firsts ((whole ps).rds vs)).length ≤ 1000000 := Nat.le_trans (firsts_len _) (by have := rds_whole ps vs h12; omega)
      have hml : (mayR ps).length ≤ 10 := mayR_len ps 10
      have HMR := Lib.hid (fun (w : World) => spec_mayRead A n c ps w B)
      have HC := Lib.hid hc
      clear hr hc hv hvo hea hg h1 h12
      generalize firsts ((whole ps).rds vs) = F at *
      generalize mayR ps = M at *
      go_enter Try.func20, Try.ntmps20
      go_wp2_with fail
      refine (spec_validFormula _ _ _ ps _ B (by simp; omega) HN.out (H.out.alloc hB _) (by omega)).mono ?_
      rintro e w1 ⟨rfl, hb⟩
      rw [HV.out]
      have hz : w.heap.size + 1 ≤ w1.heap.size := by have := hb.size; simpa using this
      have hbox : w1.cell? ⟨w.heap.size, 0, none⟩ = some (.slice A n c) := (hb.cell (p := ⟨w.heap.size, 0, none⟩) (by simp)).trans (by go_simp)
      have HI1 := Lib.hid ((H'.out.alloc hB _).below hb (by simp; omega))
      have HP1 := Lib.hid ((H.out.alloc hB _).below hb (by simp; omega))
      go_wp2_with fail
      refine (spec_validValues _ _ _ _ _ _ ps vs _ B (by omega) HN.out HM.out HP1.out HI1.out (by omega) hs').mono ?_
      rintro e w2 ⟨rfl, hb2⟩
      rw [HE.out, HC.out]
      have hz2 : w.heap.size + 1 ≤ w2.heap.size := by have := hb2.size; omega
      have hbox2 := (hb2.cell (p := ⟨w.heap.size, 0, none⟩) (by show w.heap.size < w1.heap.size; omega)).trans hbox
      have HI2 := Lib.hid (HI1.out.below hb2 (by omega))
      have HP2 := Lib.hid (HP1.out.below hb2 (by omega))
      go_wp2_with fail
      refine (HRUN.out _ (by omega) HP2.out HI2.out).mono ?_
      rintro e w3 ⟨v3, rfl, hown3, hb3⟩
      obtain ⟨g3, c3, rfl, _⟩ := hown3.form
      have hz3 : w.heap.size + 1 ≤ w3.heap.size := by have := hb3.size; omega
      have hbox3 := (hb3.cell (p := ⟨w.heap.size, 0, none⟩) (by show w.heap.size < w2.heap.size; omega)).trans hbox2
      have HP3 := Lib.hid (HP2.out.below hb3 (by omega))
      go_wp2_with fail
      refine (HMR.out _ (by omega) HN.out HP3.out (by omega)).mono ?_
      rintro e w4 ⟨v4, rfl, hown4, hb4⟩
      obtain ⟨g4, c4, rfl, _⟩ := hown4.form
      go_wp2
      go_ret
      exact ⟨ret_b (int_eq_nat _ _), ((Below.refl _ _).alloc (Nat.le_refl _) _).trans ((hb.trans ((hb2.trans ((hb3.trans (hb4.mono hb3.size)).mono hb2.size)).mono hb.size)).mono (by simp))⟩

set_option maxRecDepth 100000 in
set_option maxHeartbeats 1600000 in
theorem impl_ReadsWhole (A A' : Option Addr) (n c m c' : Nat) (ps : List Pt) (vs : List Int) (B : Nat) (hn : n = ps.length) (hm : m = vs.length) (hs : n ≤ 1999999) (hs' : m ≤ 2000000) (w : World) (hB : B ≤ w.heap.size) (h : PS w B A ps) (h' : IS w B A' vs) :
    Calls Try.prog 19 #[.agg #[.slice A n c], .slice A' m c'] w fun e w' => e = .returned (.bool (wholeF ps vs)) ∧ Below w.heap.size w w' := by
  have H0 := Lib.hid (h.alloc hB (.cells #[.slice A n c] 25))
  have HN := Lib.hid hn
  have H0' := Lib.hid (h'.alloc hB (.cells #[.slice A n c] 25))
  have HM := Lib.hid hm
  have HS0 := Lib.hid (show B ≤ (w.alloc (.cells #[.slice A n c] 25)).heap.size by simp; omega)
  have hbel0 : Below w.heap.size w (w.alloc (.cells #[.slice A n c] 25)) := (Below.refl _ _).alloc (Nat.le_refl _) _
  have HB0 := Lib.hid hbel0
  clear hn h hm h' hbel0
  cases hc : canEv ps vs
  · have hr : wholeF ps vs = false := by simp [wholeF, hc]
    rw [hr]
    have HC := Lib.hid hc
    clear hr hc
    go_enter Try.func19, Try.ntmps19
    go_wp2
    first | go_region_with (go_at_call 41; refine (impl_canEvaluate _ _ _ _ _ _ ps vs _ B ?_ HN.out HM.out ?_ ?_ (Nat.le_trans hs (by decide)) hs').mono ?_; exact HS0.out; exact H0.out; exact H0'.out; rintro e w1 ⟨rfl, hb1'⟩; have HB1 := Lib.hid (below_of_drew hb1'); clear hb1'; rw [HC.out]) | fail
    all_goals
      go_wp2
      go_ret
      exact ⟨rfl, HB0.out.trans (HB1.out.mono (by simp))⟩
  · have hr : wholeF ps vs = decide ((readF ps vs).length = (mayF ps).length) := by
      obtain ⟨hv, _⟩ := canEv_parts ps vs hc
      simp [wholeF, hc, readF, mayF, hv]
    rw [hr]
    have HR := Lib.hid (fun (w : World) => impl_ReadsOf A A' n c m c' ps vs B HN.out HM.out hs hs' w)
    have HY := Lib.hid (fun (w : World) (hB : B ≤ w.heap.size) => impl_MayRead A n c ps w B hB HN.out)
    have hfl : (readF ps vs).length ≤ 1000000 := by
      obtain ⟨hv, _⟩ := canEv_parts ps vs hc
      obtain ⟨hg, h1, h12⟩ := validF_good ps hv
      unfold readF
      rw [hc]
      exact Nat.le_trans (firsts_len _) (by have := rds_whole ps vs h12; omega)
    have hml : (mayF ps).length ≤ 10 := by
      unfold mayF
      split
      · exact mayR_len ps 10
      · simp
    have HC := Lib.hid hc
    clear hr hc
    generalize readF ps vs = F at *
    generalize mayF ps = M at *
    go_enter Try.func19, Try.ntmps19
    go_wp2
    first | go_region_with (first
      | (go_at_call 41; refine (impl_canEvaluate _ _ _ _ _ _ ps vs _ B ?_ HN.out HM.out ?_ ?_ (Nat.le_trans hs (by decide)) hs').mono ?_; exact HS0.out; exact H0.out; exact H0'.out; rintro e w1 ⟨rfl, hb1'⟩; have hb1 := below_of_drew hb1'; have hlt1 : w.heap.size + 1 ≤ w1.heap.size := by { have := hb1.size; simpa using this }; have HP1 := Lib.hid (H0.out.below hb1 (by simp; omega)); have HI1 := Lib.hid (H0'.out.below hb1 (by simp; omega)); have hbox1 : w1.cell? ⟨w.heap.size, 0, none⟩ = some (.slice A n c) := (hb1.cell (p := ⟨w.heap.size, 0, none⟩) (by simp)).trans (by go_simp); have HB1 := Lib.hid (HB0.out.trans (hb1.mono (by simp))); clear hb1' hb1; rw [HC.out])
      | (go_at_call 12; refine (HR.out w1 ?_ HP1.out HI1.out).mono ?_; omega; rintro e w2 ⟨v2, rfl, hown2, hb2⟩; obtain ⟨A2, c2, rfl⟩ := own_form hown2; have hlt2 : w.heap.size + 1 ≤ w2.heap.size := by { have := hb2.size; omega }; have HP2 := Lib.hid (HP1.out.below hb2 (by omega)); have hbox2 : w2.cell? ⟨w.heap.size, 0, none⟩ = some (.slice A n c) := (hb2.cell (p := ⟨w.heap.size, 0, none⟩) (by show w.heap.size < w1.heap.size; omega)).trans hbox1; have HB2 := Lib.hid (HB1.out.trans (hb2.mono (by omega))); clear hb2 hown2)
      | (go_at_call 17; refine (HY.out w1 ?_ HP1.out hs).mono ?_; omega; rintro e w3 ⟨v3, rfl, hown3, hb3⟩; obtain ⟨A3, c3, rfl⟩ := own_form hown3; have hlt3 : w.heap.size + 1 ≤ w3.heap.size := by { have := hb3.size; omega }; have HP3 := Lib.hid (HP1.out.below hb3 (by omega)); have HI3 := Lib.hid (HI1.out.below hb3 (by omega)); have hbox3 : w3.cell? ⟨w.heap.size, 0, none⟩ = some (.slice A n c) := (hb3.cell (p := ⟨w.heap.size, 0, none⟩) (by show w.heap.size < w1.heap.size; omega)).trans hbox1; have HB3 := Lib.hid (HB1.out.trans (hb3.mono (by omega))); clear hb3 hown3)
      | (go_at_call 17; refine (HY.out w2 ?_ HP2.out hs).mono ?_; omega; rintro e w4 ⟨v4, rfl, hown4, hb4⟩; obtain ⟨A4, c4, rfl⟩ := own_form hown4; have HB4 := Lib.hid (HB2.out.trans (hb4.mono (by omega))); clear hb4 hown4)
      | (go_at_call 12; refine (HR.out w3 ?_ HP3.out HI3.out).mono ?_; omega; rintro e w4 ⟨v4, rfl, hown4, hb4⟩; obtain ⟨A4, c4, rfl⟩ := own_form hown4; have HB4 := Lib.hid (HB3.out.trans (hb4.mono (by omega))); clear hb4 hown4)) | fail
    all_goals
      go_wp2
      go_ret
      exact ⟨ret_b (int_eq_nat _ _), HB4.out⟩
end Go.Proofs.Ytnbohohoceghnaa

/- Both RenameReads. -/
namespace Go.Proofs.Ytnbohohoceghnaa
set_option linter.unusedSimpArgs false
set_option linter.unusedVariables false
open Go.RowKit

theorem canRen_parts (ps : List Pt) (tos : List Int) (h : canRen ps tos = true) : validF ps = true ∧ tos.length ≤ 10 ∧ eachOK ps tos.length = true := by
  simp only [canRen, Bool.and_eq_true, decide_eq_true_eq] at h
  exact ⟨h.1, h.2.1.1, h.2.2⟩

theorem eachOK_at (ps : List Pt) (m k : Nat) (h : eachOK ps m = true) (hk : k < ps.length) (h1 : ((ps.getD k default).k == 1) = true) : (ps.getD k default).n < (m : Int) := by
  unfold eachOK at h
  rw [List.all_eq_true] at h
  have := h (ps.getD k default) (getD_mem' ps k hk)
  rw [h1] at this
  simpa using this

set_option maxRecDepth 100000 in
set_option maxHeartbeats 3200000 in
theorem impl_RenameReads (A A' : Option Addr) (n c m c' : Nat) (ps : List Pt) (tos : List Int) (B : Nat) (hn : n = ps.length) (hm : m = tos.length) (hs : n ≤ 1999999) (hs' : m ≤ 2000000) (w : World) (hB : B ≤ w.heap.size) (h : PS w B A ps) (h' : IS w B A' tos) :
    Calls Try.prog 30 #[.agg #[.slice A n c], .slice A' m c'] w fun e w' => RetP w (renF ps tos) e w' := by
  have H := Lib.hid h
  have HN := Lib.hid hn
  have H' := Lib.hid h'
  have HM := Lib.hid hm
  clear hn h hm h'
  cases hv : validF ps
  · have hr : renF ps tos = [] := by simp [renF, canRen, hv]
    rw [hr]
    have HV := Lib.hid hv
    clear hr hv
    go_enter Try.func30, Try.ntmps30
    go_wp2_with fail
    refine (impl_ValidFormula _ _ _ ps _ B (by simp; omega) HN.out ((H.out.alloc hB _).alloc (by simp; omega) _) (by omega)).mono ?_
    rintro e w1 ⟨rfl, hb⟩
    rw [HV.out]
    have hz' : w.heap.size + 1 < w1.heap.size := by have := hb.size; simp at this; omega
    have hf : w1.frozen? ⟨w.heap.size + 1, 0, none⟩ = false := (hb.frozen (p := ⟨w.heap.size + 1, 0, none⟩) (by simp)).trans (by go_simp)
    have hc : w1.cell? ⟨w.heap.size + 1, 0, none⟩ = some (.slice none 0 0) := (hb.cell (p := ⟨w.heap.size + 1, 0, none⟩) (by simp)).trans (by go_simp)
    have HB := Lib.hid hb
    clear hb
    go_wp2
    refine bodyPost_ret (v := .agg #[.slice none 0 0]) (by simp [results, Try.results30, go_sem, hz', hc]) rfl (RetP.zero rfl ?_)
    exact ((((Below.refl _ _).alloc (Nat.le_refl _) _).alloc (by simp) _).trans (HB.out.mono (by simp; omega))).setCell (by simp) _
  · cases hr2 : (decide (tos.length ≤ 10) && allR tos 0 9)
    · have hr : renF ps tos = [] := by simp only [renF, canRen, hr2]; simp
      rw [hr]
      have HV := Lib.hid hv
      have HR2 := Lib.hid hr2
      clear hr hv hr2
      go_enter Try.func30, Try.ntmps30
      go_wp2_with fail
      refine (impl_ValidFormula _ _ _ ps _ B (by simp; omega) HN.out ((H.out.alloc hB _).alloc (by simp; omega) _) (by omega)).mono ?_
      rintro e w1 ⟨rfl, hb⟩
      rw [HV.out]
      have hz' : w.heap.size + 1 < w1.heap.size := by have := hb.size; simp at this; omega
      have hf : w1.frozen? ⟨w.heap.size + 1, 0, none⟩ = false := (hb.frozen (p := ⟨w.heap.size + 1, 0, none⟩) (by simp)).trans (by go_simp)
      have hc : w1.cell? ⟨w.heap.size + 1, 0, none⟩ = some (.slice none 0 0) := (hb.cell (p := ⟨w.heap.size + 1, 0, none⟩) (by simp)).trans (by go_simp)
      have HI1 := Lib.hid (((H'.out.alloc hB (.cells #[.slice A n c] 25)).alloc (by simp; omega) (.cells #[.slice none 0 0] 25)).below hb (by simp; omega))
      have HB := Lib.hid hb
      clear hb
      go_wp2_with fail
      refine (impl_allInRange _ _ _ tos _ _ B (by omega) HM.out HI1.out hs').mono ?_
      rintro e w2 ⟨rfl, rfl⟩
      rw [HR2.out]
      go_wp2
      refine bodyPost_ret (v := .agg #[.slice none 0 0]) (by simp [results, Try.results30, go_sem, hz', hc]) rfl (RetP.zero rfl ?_)
      exact ((((Below.refl _ _).alloc (Nat.le_refl _) _).alloc (by simp) _).trans (HB.out.mono (by simp; omega))).setCell (by simp) _
    · cases hea : eachOK ps m
      · have hr : renF ps tos = [] := by simp only [renF, canRen, hr2, ← HM.out, hea]; simp
        rw [hr]
        have HV := Lib.hid hv
        have HR2 := Lib.hid hr2
        have HEA := Lib.hid hea
        clear hr hv hr2 hea
        go_enter Try.func30, Try.ntmps30
        go_wp2_with fail
        refine (impl_ValidFormula _ _ _ ps _ B (by simp; omega) HN.out ((H.out.alloc hB _).alloc (by simp; omega) _) (by omega)).mono ?_
        rintro e w1 ⟨rfl, hb⟩
        rw [HV.out]
        have hz' : w.heap.size + 1 < w1.heap.size := by have := hb.size; simp at this; omega
        have hbox : w1.cell? ⟨w.heap.size, 0, none⟩ = some (.slice A n c) := (hb.cell (p := ⟨w.heap.size, 0, none⟩) (by simp; omega)).trans (by go_simp)
        have hf : w1.frozen? ⟨w.heap.size + 1, 0, none⟩ = false := (hb.frozen (p := ⟨w.heap.size + 1, 0, none⟩) (by simp)).trans (by go_simp)
        have hc : w1.cell? ⟨w.heap.size + 1, 0, none⟩ = some (.slice none 0 0) := (hb.cell (p := ⟨w.heap.size + 1, 0, none⟩) (by simp)).trans (by go_simp)
        have HI1 := Lib.hid (((H'.out.alloc hB (.cells #[.slice A n c] 25)).alloc (by simp; omega) (.cells #[.slice none 0 0] 25)).below hb (by simp; omega))
        have HP1 := Lib.hid (((H.out.alloc hB (.cells #[.slice A n c] 25)).alloc (by simp; omega) (.cells #[.slice none 0 0] 25)).below hb (by simp; omega))
        have HB := Lib.hid ((((Below.refl w.heap.size w).alloc (Nat.le_refl _) (.cells #[.slice A n c] 25)).alloc (by simp) (.cells #[.slice none 0 0] 25)).trans (hb.mono (by simp; omega)))
        clear hb
        go_wp2_with fail
        refine (impl_allInRange _ _ _ tos _ _ B (by omega) HM.out HI1.out hs').mono ?_
        rintro e w2 ⟨rfl, rfl⟩
        rw [HR2.out]
        go_wp2_with fail
        refine (impl_hasEach _ _ _ _ _ _ ps _ B (by omega) HN.out HP1.out (by omega) hs').mono ?_
        rintro e w2 ⟨rfl, hb2⟩
        rw [HEA.out]
        have hz2 : w.heap.size + 1 < w2.heap.size := by have := hb2.size; omega
        have hf2 : w2.frozen? ⟨w.heap.size + 1, 0, none⟩ = false := (hb2.frozen (p := ⟨w.heap.size + 1, 0, none⟩) hz').trans hf
        have hc2 : w2.cell? ⟨w.heap.size + 1, 0, none⟩ = some (.slice none 0 0) := (hb2.cell (p := ⟨w.heap.size + 1, 0, none⟩) hz').trans hc
        have HB2 := Lib.hid (HB.out.trans (hb2.mono (by omega)))
        clear hb2 hf hc hbox
        go_wp2
        refine bodyPost_ret (v := .agg #[.slice none 0 0]) (by simp [results, Try.results30, go_sem, hz2, hc2]) rfl (RetP.zero rfl ?_)
        exact HB2.out.setCell (by simp) _
      · have hr : renF ps tos = mix tos ps n := by
          rw [mix_all tos ps n HN.out]
          have : canRen ps tos = true := by simp only [canRen]; rw [hr2, ← HM.out, hea, hv]; rfl
          simp [renF, this]
        rw [hr]
        obtain ⟨hg, h1, h12⟩ := validF_good ps hv
        have h1n : 1 ≤ n := by have := HN.out; omega
        have HG := Lib.hid hg
        have HV := Lib.hid hv
        have HR2 := Lib.hid hr2
        have HEA := Lib.hid hea
        clear hr hv hr2 hea hg h1 h12
        go_enter Try.func30, Try.ntmps30
        go_wp2_with fail
        refine (impl_ValidFormula _ _ _ ps _ B (by simp; omega) HN.out ((H.out.alloc hB _).alloc (by simp; omega) _) (by omega)).mono ?_
        rintro e w1 ⟨rfl, hb⟩
        rw [HV.out]
        have hz' : w.heap.size + 1 < w1.heap.size := by have := hb.size; simp at this; omega
        have hbox : w1.cell? ⟨w.heap.size, 0, none⟩ = some (.slice A n c) := (hb.cell (p := ⟨w.heap.size, 0, none⟩) (by simp; omega)).trans (by go_simp)
        have hf : w1.frozen? ⟨w.heap.size + 1, 0, none⟩ = false := (hb.frozen (p := ⟨w.heap.size + 1, 0, none⟩) (by simp)).trans (by go_simp)
        have hc : w1.cell? ⟨w.heap.size + 1, 0, none⟩ = some (.slice none 0 0) := (hb.cell (p := ⟨w.heap.size + 1, 0, none⟩) (by simp)).trans (by go_simp)
        have HI1 := Lib.hid (((H'.out.alloc hB (.cells #[.slice A n c] 25)).alloc (by simp; omega) (.cells #[.slice none 0 0] 25)).below hb (by simp; omega))
        have HP1 := Lib.hid (((H.out.alloc hB (.cells #[.slice A n c] 25)).alloc (by simp; omega) (.cells #[.slice none 0 0] 25)).below hb (by simp; omega))
        have HB := Lib.hid ((((Below.refl w.heap.size w).alloc (Nat.le_refl _) (.cells #[.slice A n c] 25)).alloc (by simp) (.cells #[.slice none 0 0] 25)).trans (hb.mono (by simp; omega)))
        clear hb
        go_wp2_with fail
        refine (impl_allInRange _ _ _ tos _ _ B (by omega) HM.out HI1.out hs').mono ?_
        rintro e w2 ⟨rfl, rfl⟩
        rw [HR2.out]
        go_wp2_with fail
        refine (impl_hasEach _ _ _ _ _ _ ps _ B (by omega) HN.out HP1.out (by omega) hs').mono ?_
        rintro e w2 ⟨rfl, hb2⟩
        rw [HEA.out]
        have hz2 : w.heap.size + 1 < w2.heap.size := by have := hb2.size; omega
        have hbox2 : w2.cell? ⟨w.heap.size, 0, none⟩ = some (.slice A n c) := (hb2.cell (p := ⟨w.heap.size, 0, none⟩) (by show w.heap.size < w1.heap.size; omega)).trans hbox
        have hf2 : w2.frozen? ⟨w.heap.size + 1, 0, none⟩ = false := (hb2.frozen (p := ⟨w.heap.size + 1, 0, none⟩) hz').trans hf
        have hc2 : w2.cell? ⟨w.heap.size + 1, 0, none⟩ = some (.slice none 0 0) := (hb2.cell (p := ⟨w.heap.size + 1, 0, none⟩) hz').trans hc
        have HP2 := Lib.hid (HP1.out.below hb2 (by omega))
        have HI2 := Lib.hid (HI1.out.below hb2 (by omega))
        have HB2 := Lib.hid (HB.out.trans (hb2.mono (by omega)))
        clear hb2 hf hc hbox HP1 HI1
        go_wp2_with fail
        refine (clone_parts A n c ps _ B (by omega) HN.out h1n HP2.out (by omega)).mono ?_
        rintro e w3 ⟨v, rfl, hown, hb3⟩
        rw [← HN.out] at hown
        have hg3 : ∃ g cap, v = .slice (some ⟨g, 0, none⟩) n cap := by
          rcases hown.2 with ⟨_, h0⟩ | ⟨g, cap, cur, hv, _⟩
          · omega
          · exact ⟨g, cap, hv⟩
        obtain ⟨g, cap, rfl⟩ := hg3
        have hgb := hown.lt g rfl
        have HB3 := Lib.hid hb3
        have HO3 := Lib.hid hown
        have HF2 := Lib.hid hf2
        have HC2 := Lib.hid hc2
        have hg2 : w2.heap.size ≤ g := hgb.1
        clear hown hb3 hf2 hc2 hbox2 HP2 hgb
        go_wp2
        go_loopw [28] (fun i wr => ∃ k : Nat, k ≤ n ∧ i = .int .i64 k ∧ Hid (wr.ownsRow w2.heap.size 54 5 (.slice (some ⟨g, 0, none⟩) n cap) n ((mix tos ps k).flatMap Pt.cells)) ∧ Hid (Below w2.heap.size w2 wr)) (fun i _ => n - (intOf i).toNat)
        case atStart => exact ⟨0, Nat.zero_le _, rfl, by rw [mix_zero]; exact HO3.out, HB3.out⟩
        case round =>
          clear HO3 HB3
          obtain ⟨k, hk, rfl, HO, HBr⟩ := hrel
          have hgw : g < wr.heap.size := (HO.out.lt g rfl).2
          by_cases hlt : k < n
          · have hkl : k < ps.length := by have := HN.out; omega
            obtain ⟨c0, c1, c2, c3, c4⟩ := cells_get (mix tos ps k) k (by rw [mix_len]; exact hkl)
            rw [mix_getD tos ps k hkl] at c0 c1 c2 c3 c4
            have b0 := (HO.out.cellAt (k * 5) (by omega)).trans c0
            have b1 := (HO.out.cellAt (k * 5 + 1) (by omega)).trans c1
            have b2 := (HO.out.cellAt (k * 5 + 2) (by omega)).trans c2
            have b3 := (HO.out.cellAt (k * 5 + 3) (by omega)).trans c3
            have b4 := (HO.out.cellAt (k * 5 + 4) (by omega)).trans c4
            have f4 := HO.out.frozenAt (k * 5 + 4)
            have hgk := HG.out k hkl
            have HMS := Lib.hid (mix_succ tos ps k hkl)
            have HMG := Lib.hid (mix_getD tos ps k hkl)
            have HML := Lib.hid (mix_len tos ps k)
            have HKL := Lib.hid hkl
            clear c0 c1 c2 c3 c4
            cases h1 : ((ps.getD k default).k == 1)
            · have HMK := Lib.hid (mix_keep tos ps k hkl h1)
              have H1 := Lib.hid h1
              clear hgk hkl f4
              generalize ps.getD k default = p at *
              clear H1
              go_wp2
              go_roundw
              case rel => exact ⟨k + 1, by omega, by go_num, by rw [HMK.out]; exact HO.out.alloc _, HBr.out.alloc (by omega) _⟩
              case measure => simp [intOf]; omega
            · have hlt2 := eachOK_at ps m k HEA.out hkl h1
              generalize ps.getD k default = p at *
              obtain ⟨q, hq⟩ : ∃ q : Nat, p.n = (q : Int) := by
                have := (good_num p k hgk).2 (by simpa using h1)
                exact ⟨p.n.toNat, by omega⟩
              have hqm : q < m := by omega
              obtain ⟨b', off', rfl, hbB', hc'⟩ := HI2.out (by have := HM.out; omega)
              have hx := (HBr.out.cell (p := ⟨b', off' + q, none⟩) (by show b' < w2.heap.size; omega)).trans (hc' q (by have := HM.out; omega))
              have hren : ren tos p = { p with n := tos.getD q 0 } := by unfold ren; rw [h1, if_pos rfl, hq]; rfl
              have HRE := Lib.hid hren
              rw [hq] at b4
              have H1 := Lib.hid h1
              have hbw' : b' < wr.heap.size := by have := HBr.out.size; omega
              clear hgk hkl hc' hren hlt2 hq
              generalize tos.getD q 0 = x at *
              go_wp2
              go_roundw
              case rel =>
                refine ⟨k + 1, by omega, by go_num, ?_, ?_⟩
                · have h2 := (HO.out.stored (k * 5 + 4) (.int .i64 x)).1
                  rw [cells_set4 _ k (by rw [HML.out]; exact HKL.out) x, HMG.out, ← HRE.out, ← HMS.out] at h2
                  exact h2.alloc _
                · exact (HBr.out.setCell (p := ⟨g, k * 5 + 4, none⟩) hg2 _).alloc (by simp [World.setCell]; omega) _
              case measure => simp [intOf]; omega
          · obtain rfl : k = n := by omega
            have hf3 : wr.frozen? ⟨w.heap.size + 1, 0, none⟩ = false := (HBr.out.frozen (p := ⟨w.heap.size + 1, 0, none⟩) hz2).trans HF2.out
            have hc3 : wr.cell? ⟨w.heap.size + 1, 0, none⟩ = some (.slice none 0 0) := (HBr.out.cell (p := ⟨w.heap.size + 1, 0, none⟩) hz2).trans HC2.out
            have hzr : w.heap.size + 1 < wr.heap.size := by have := HBr.out.size; omega
            have HML := Lib.hid ((mix_len tos ps k).trans HN.out.symm)
            clear hlt hk
            go_wp2
            refine bodyPost_ret (v := .agg #[.slice (some ⟨g, 0, none⟩) k cap]) (by simp [results, Try.results30, go_sem, hzr, hc3]) rfl ⟨_, rfl, ?_, ?_⟩
            · rw [HML.out]
              have h1 := HO.out
              have h2 : w.heap.size ≤ w2.heap.size := by omega
              exact own_mono (ownsRow_setCell_below (a := ⟨w.heap.size + 1, 0, none⟩) h1 (show w.heap.size + 1 < w2.heap.size by omega) _) h2
            · exact (HB2.out.trans (HBr.out.mono (by omega))).setCell (by simp) _

theorem eachOK_take (ps : List Pt) (m k : Nat) (h : eachOK (ps.take k) m = true) (hk : k < ps.length) (h1 : ((ps.getD k default).k == 1 && decide ((m : Int) ≤ (ps.getD k default).n)) = false) : eachOK (ps.take (k + 1)) m = true := by
  rw [take_succ_getD ps k hk]
  unfold eachOK at *
  rw [List.all_append, h]
  simp only [List.all_cons, List.all_nil, h1]; rfl

theorem eachOK_false (ps : List Pt) (m k : Nat) (hk : k < ps.length) (h1 : ((ps.getD k default).k == 1 && decide ((m : Int) ≤ (ps.getD k default).n)) = true) : eachOK ps m = false := by
  unfold eachOK
  rw [List.all_eq_false]
  exact ⟨ps.getD k default, getD_mem' ps k hk, by rw [h1]; simp⟩

set_option maxRecDepth 100000 in
set_option maxHeartbeats 3200000 in
theorem spec_RenameReads (A A' : Option Addr) (n c m c' : Nat) (ps : List Pt) (tos : List Int) (B : Nat) (hn : n = ps.length) (hm : m = tos.length) (hs : n ≤ 1999999) (hs' : m ≤ 2000000) (w : World) (hB : B ≤ w.heap.size) (h : PS w B A ps) (h' : IS w B A' tos) :
    Calls Try.prog 40 #[.agg #[.slice A n c], .slice A' m c'] w fun e w' => RetP w (renF ps tos) e w' := by
  obtain ⟨i1, hi1, hy0, hy1, hy2⟩ := info_parts info_part
  have H := Lib.hid h
  have HN := Lib.hid hn
  have H' := Lib.hid h'
  have HM := Lib.hid hm
  clear hn h hm h'
  cases hv : validF ps
  · have hr : renF ps tos = [] := by simp [renF, canRen, hv]
    rw [hr]
    have HV := Lib.hid hv
    clear hr hv
    go_enter Try.func40, Try.ntmps40
    go_wp2_with fail
    refine (spec_validFormula _ _ _ ps _ B (by simp; omega) HN.out ((H.out.alloc hB _).alloc (by simp; omega) _) (by omega)).mono ?_
    rintro e w1 ⟨rfl, hb⟩
    rw [HV.out]
    have hz' : w.heap.size + 1 < w1.heap.size := by have := hb.size; simp at this; omega
    have hf : w1.frozen? ⟨w.heap.size + 1, 0, none⟩ = false := (hb.frozen (p := ⟨w.heap.size + 1, 0, none⟩) (by simp)).trans (by go_simp)
    have hc : w1.cell? ⟨w.heap.size + 1, 0, none⟩ = some (.slice none 0 0) := (hb.cell (p := ⟨w.heap.size + 1, 0, none⟩) (by simp)).trans (by go_simp)
    have HB := Lib.hid hb
    clear hb
    go_wp2
    refine bodyPost_ret (v := .agg #[.slice none 0 0]) (by simp [results, Try.results40, go_sem, hz', hc]) rfl (RetP.zero rfl ?_)
    exact ((((Below.refl _ _).alloc (Nat.le_refl _) _).alloc (by simp) _).trans (HB.out.mono (by simp; omega))).setCell (by simp) _
  · by_cases h10 : 10 < m
    · have hr : renF ps tos = [] := by
        have : decide (tos.length ≤ 10) = false := by rw [← HM.out]; simp; omega
        simp only [renF, canRen, this]; simp
      rw [hr]
      have HV := Lib.hid hv
      clear hr hv
      go_enter Try.func40, Try.ntmps40
      go_wp2_with fail
      refine (spec_validFormula _ _ _ ps _ B (by simp; omega) HN.out ((H.out.alloc hB _).alloc (by simp; omega) _) (by omega)).mono ?_
      rintro e w1 ⟨rfl, hb⟩
      rw [HV.out]
      have hz' : w.heap.size + 1 < w1.heap.size := by have := hb.size; simp at this; omega
      have hf : w1.frozen? ⟨w.heap.size + 1, 0, none⟩ = false := (hb.frozen (p := ⟨w.heap.size + 1, 0, none⟩) (by simp)).trans (by go_simp)
      have hc : w1.cell? ⟨w.heap.size + 1, 0, none⟩ = some (.slice none 0 0) := (hb.cell (p := ⟨w.heap.size + 1, 0, none⟩) (by simp)).trans (by go_simp)
      have HB := Lib.hid hb
      clear hb
      go_wp2
      refine bodyPost_ret (v := .agg #[.slice none 0 0]) (by simp [results, Try.results40, go_sem, hz', hc]) rfl (RetP.zero rfl ?_)
      exact ((((Below.refl _ _).alloc (Nat.le_refl _) _).alloc (by simp) _).trans (HB.out.mono (by simp; omega))).setCell (by simp) _
    · cases har : allR tos 0 9
      · have hr : renF ps tos = [] := by simp only [renF, canRen, har]; simp
        rw [hr]
        have HV := Lib.hid hv
        have HAR := Lib.hid har
        clear hr hv har
        go_enter Try.func40, Try.ntmps40
        go_wp2_with fail
        refine (spec_validFormula _ _ _ ps _ B (by simp; omega) HN.out ((H.out.alloc hB _).alloc (by simp; omega) _) (by omega)).mono ?_
        rintro e w1 ⟨rfl, hb⟩
        rw [HV.out]
        have hz' : w.heap.size + 1 < w1.heap.size := by have := hb.size; simp at this; omega
        have hf : w1.frozen? ⟨w.heap.size + 1, 0, none⟩ = false := (hb.frozen (p := ⟨w.heap.size + 1, 0, none⟩) (by simp)).trans (by go_simp)
        have hc : w1.cell? ⟨w.heap.size + 1, 0, none⟩ = some (.slice none 0 0) := (hb.cell (p := ⟨w.heap.size + 1, 0, none⟩) (by simp)).trans (by go_simp)
        have HI1 := Lib.hid (((H'.out.alloc hB (.cells #[.slice A n c] 25)).alloc (by simp; omega) (.cells #[.slice none 0 0] 25)).below hb (by simp; omega))
        have HB := Lib.hid hb
        clear hb
        go_wp2_with fail
        refine (spec_allIn _ _ _ tos _ _ _ B (by omega) HM.out HI1.out hs').mono ?_
        rintro e w2 ⟨rfl, rfl⟩
        rw [HAR.out]
        go_wp2
        refine bodyPost_ret (v := .agg #[.slice none 0 0]) (by simp [results, Try.results40, go_sem, hz', hc]) rfl (RetP.zero rfl ?_)
        exact ((((Below.refl _ _).alloc (Nat.le_refl _) _).alloc (by simp) _).trans (HB.out.mono (by simp; omega))).setCell (by simp) _
      · have HRF := Lib.hid (show eachOK ps m = false → renF ps tos = [] by
          intro h; simp only [renF, canRen, ← HM.out, h]; simp)
        have HRT := Lib.hid (show eachOK ps m = true → renF ps tos = mix tos ps n by
          intro h
          have h10' : decide (tos.length ≤ 10) = true := by rw [← HM.out]; simp; omega
          have : canRen ps tos = true := by simp only [canRen]; rw [h10', har, ← HM.out, h, hv]; rfl
          rw [mix_all tos ps n HN.out]
          simp [renF, this])
        obtain ⟨hg, h1, h12⟩ := validF_good ps hv
        have h1n : 1 ≤ n := by have := HN.out; omega
        have HG := Lib.hid hg
        have HV := Lib.hid hv
        have HAR := Lib.hid har
        clear hv hg h1 h12 har
        generalize renF ps tos = R at *
        go_enter Try.func40, Try.ntmps40
        go_wp2_with fail
        refine (spec_validFormula _ _ _ ps _ B (by simp; omega) HN.out ((H.out.alloc hB _).alloc (by simp; omega) _) (by omega)).mono ?_
        rintro e w1 ⟨rfl, hb⟩
        rw [HV.out]
        have hz' : w.heap.size + 1 < w1.heap.size := by have := hb.size; simp at this; omega
        have hbox : w1.cell? ⟨w.heap.size, 0, none⟩ = some (.slice A n c) := (hb.cell (p := ⟨w.heap.size, 0, none⟩) (by simp; omega)).trans (by go_simp)
        have hf : w1.frozen? ⟨w.heap.size + 1, 0, none⟩ = false := (hb.frozen (p := ⟨w.heap.size + 1, 0, none⟩) (by simp)).trans (by go_simp)
        have hc : w1.cell? ⟨w.heap.size + 1, 0, none⟩ = some (.slice none 0 0) := (hb.cell (p := ⟨w.heap.size + 1, 0, none⟩) (by simp)).trans (by go_simp)
        have HI1 := Lib.hid (((H'.out.alloc hB (.cells #[.slice A n c] 25)).alloc (by simp; omega) (.cells #[.slice none 0 0] 25)).below hb (by simp; omega))
        have HP1 := Lib.hid (((H.out.alloc hB (.cells #[.slice A n c] 25)).alloc (by simp; omega) (.cells #[.slice none 0 0] 25)).below hb (by simp; omega))
        have HB := Lib.hid ((((Below.refl w.heap.size w).alloc (Nat.le_refl _) (.cells #[.slice A n c] 25)).alloc (by simp) (.cells #[.slice none 0 0] 25)).trans (hb.mono (by simp; omega)))
        clear hb
        go_wp2_with fail
        refine (spec_allIn _ _ _ tos _ _ _ B (by omega) HM.out HI1.out hs').mono ?_
        rintro e w2 ⟨rfl, rfl⟩
        rw [HAR.out]
        obtain ⟨b, off, rfl, hbB, hpc⟩ := HP1.out (by have := HN.out; omega)
        have HPC := Lib.hid (news_of_parts hpc)
        have hnew := World.ownsRow_lit (e := 54) (size := 5) (base := w1.heap.size) w1 #[] 0 (Nat.le_refl _) (by unfold maxLen; omega) (by simp)
        have HNEW := Lib.hid hnew
        have hbw1 : b < w1.heap.size := by omega
        have hz0 : w.heap.size < w1.heap.size := by omega
        clear hnew hpc
        go_wp2_with (at_builtin; refine wpList_append_own_at _ rfl _ _ 23 rfl w1.heap.size 54 i1 _ 5 40 Try.underlying23 hi1 hy0 hy1 hy2 rfl (by decide) _ _ _ rfl HNEW.out ⟨b, off, none⟩ n c (ps.flatMap Pt.cells) rfl ?d1 ?d6 (cells_one ps) ?d3 ?d4 ?d5 ?_)
        case d1 => rw [length_cells, HN.out]
        case d6 => exact news_alloc HPC.out hbw1 _
        case d3 => unfold maxLen; omega
        case d4 => omega
        case d5 => simp
        intro v' w3 hown' hgrow _ hwhere
        have hown'' : w3.ownsRow w1.heap.size 54 5 v' n (ps.flatMap Pt.cells) := by simpa using hown'
        have hg3 : ∃ g cap, v' = .slice (some ⟨g, 0, none⟩) n cap := by
          rcases hown''.2 with ⟨_, h0⟩ | ⟨g, cap, cur, hv, _⟩
          · omega
          · exact ⟨g, cap, hv⟩
        obtain ⟨g, cap, rfl⟩ := hg3
        have hgb := hown''.lt g rfl
        have hb3 : Below w1.heap.size w1 w3 := ((Below.refl _ _).alloc (Nat.le_refl _) (.cells #[] 54)).grown hgrow (by simp) (fun k hk => by simp [Value.ownBlock] at hk; omega)
        have hz3 : w.heap.size + 1 < w3.heap.size := by have := hb3.size; omega
        have hw13 : w1.heap.size ≤ w3.heap.size := hb3.size
        have HO3 := Lib.hid (hown''.alloc (.cells #[.slice (some ⟨g, 0, none⟩) n cap] 25))
        have HB3 := Lib.hid (hb3.alloc hw13 (.cells #[.slice (some ⟨g, 0, none⟩) n cap] 25))
        have HF1 := Lib.hid hf
        have HC1 := Lib.hid hc
        have hg2 : w1.heap.size ≤ g := hgb.1
        have hgw3 : g < w3.heap.size := hgb.2
        clear hown' hown'' hgrow hwhere hb3 hf hc hbox HP1 HNEW HPC hgb
        go_wp2
        go_loopw [6] (fun i wr => ∃ k : Nat, k ≤ n ∧ i = .int .i64 k ∧ Hid (wr.ownsRow w1.heap.size 54 5 (.slice (some ⟨g, 0, none⟩) n cap) n ((mix tos ps k).flatMap Pt.cells)) ∧ Hid (Below w1.heap.size w1 wr) ∧ Hid (eachOK (ps.take k) m = true) ∧ Hid (wr.cell? ⟨w3.heap.size, 0, none⟩ = some (.slice (some ⟨g, 0, none⟩) n cap)) ∧ w3.heap.size < wr.heap.size) (fun i _ => n - (intOf i).toNat)
        case atStart => exact ⟨0, Nat.zero_le _, rfl, by rw [mix_zero]; exact HO3.out, HB3.out, by simp [Hid, eachOK], by simp only [Hid]; go_simp, by simp⟩
        case round =>
          clear HO3 HB3
          obtain ⟨k, hk, rfl, HO, HBr, HE, HFB, hwr⟩ := hrel
          have hfb := HFB.out
          have hgw : g < wr.heap.size := (HO.out.lt g rfl).2
          have hf3 : wr.frozen? ⟨w.heap.size + 1, 0, none⟩ = false := (HBr.out.frozen (p := ⟨w.heap.size + 1, 0, none⟩) hz').trans HF1.out
          have hc3 : wr.cell? ⟨w.heap.size + 1, 0, none⟩ = some (.slice none 0 0) := (HBr.out.cell (p := ⟨w.heap.size + 1, 0, none⟩) hz').trans HC1.out
          have hzr : w.heap.size + 1 < wr.heap.size := by omega
          by_cases hlt : k < n
          · have hkl : k < ps.length := by have := HN.out; omega
            obtain ⟨c0, c1, c2, c3, c4⟩ := cells_get (mix tos ps k) k (by rw [mix_len]; exact hkl)
            rw [mix_getD tos ps k hkl] at c0 c1 c2 c3 c4
            have b0 := (HO.out.cellAt (k * 5) (by omega)).trans c0
            have b4 := (HO.out.cellAt (k * 5 + 4) (by omega)).trans c4
            have f4 := HO.out.frozenAt (k * 5 + 4)
            have hgk := HG.out k hkl
            have HMS := Lib.hid (mix_succ tos ps k hkl)
            have HMG := Lib.hid (mix_getD tos ps k hkl)
            have HML := Lib.hid (mix_len tos ps k)
            have HKL := Lib.hid hkl
            have HET := Lib.hid (eachOK_take ps m k HE.out hkl)
            clear c0 c1 c2 c3 c4
            cases h1 : ((ps.getD k default).k == 1)
            · have HMK := Lib.hid (mix_keep tos ps k hkl h1)
              have HE2 := Lib.hid (HET.out (by rw [h1]; rfl))
              have h1' : ((ps.getD k default).k != 1) = true := by unfold bne; rw [h1]; rfl
              clear hgk hkl f4 HET HE h1 hf3 hc3
              have H1' := Lib.hid h1'
              generalize ps.getD k default = p at *
              have h1' := H1'.out
              clear H1'
              go_wp2
              go_roundw
              case rel => exact ⟨k + 1, by omega, by go_num, by rw [HMK.out]; exact HO.out, HBr.out, HE2.out, HFB.out, hwr⟩
              case measure => simp [intOf]; omega
            · have h1' : ((ps.getD k default).k != 1) = false := by unfold bne; rw [h1]; rfl
              cases hlt2 : decide ((m : Int) ≤ (ps.getD k default).n)
              · have HE2 := Lib.hid (HET.out (by rw [h1, hlt2]; rfl))
                clear HET HE
                generalize ps.getD k default = p at *
                obtain ⟨q, hq⟩ : ∃ q : Nat, p.n = (q : Int) := by
                  have := (good_num p k hgk).2 (by simpa using h1)
                  exact ⟨p.n.toNat, by omega⟩
                have hqm : q < m := by have := of_decide_eq_false hlt2; omega
                obtain ⟨b', off', rfl, hbB', hc'⟩ := HI1.out (by have := HM.out; omega)
                have hx := (HBr.out.cell (p := ⟨b', off' + q, none⟩) (by show b' < w1.heap.size; omega)).trans (hc' q (by have := HM.out; omega))
                have hren : ren tos p = { p with n := tos.getD q 0 } := by unfold ren; rw [h1, if_pos rfl, hq]; rfl
                have HRE := Lib.hid hren
                rw [hq] at b4 hlt2
                have hbw' : b' < wr.heap.size := by omega
                have hqmi : (q : Int) < (m : Int) := by omega
                clear hgk hkl hc' hren hlt2 hq h1 hf3 hc3
                generalize tos.getD q 0 = x at *
                go_wp2
                go_region
                go_wp2
                go_roundw
                case rel =>
                  refine ⟨k + 1, by omega, by go_num, ?_, ?_, HE2.out, ?_, by simp [World.setCell]; exact hwr⟩
                  · have h2 := (HO.out.stored (k * 5 + 4) (.int .i64 x)).1
                    rw [cells_set4 _ k (by rw [HML.out]; exact HKL.out) x, HMG.out, ← HRE.out, ← HMS.out] at h2
                    exact h2
                  · exact (HBr.out.setCell (p := ⟨g, k * 5 + 4, none⟩) hg2 _).drew
                  · have h3 : w3.heap.size ≠ g := by omega
                    simp only [Hid]
                    show (wr.setCell ⟨g, k * 5 + 4, none⟩ (.int .i64 x)).cell? ⟨w3.heap.size, 0, none⟩ = _
                    rw [World.cell?_setCell_other _ _ _ _ (by intro e; simp at e; try omega)]
                    exact HFB.out
                case measure => simp [intOf]; omega
              · have hR := HRF.out (eachOK_false ps m k hkl (by rw [h1, hlt2]; rfl))
                have hle : (m : Int) ≤ (ps.getD k default).n := of_decide_eq_true hlt2
                have HR := Lib.hid hR
                clear hR hgk HET HE h1 hkl hlt2
                generalize ps.getD k default = p at *
                go_wp2
                refine bodyPost_ret (v := .agg #[.slice none 0 0]) (by simp [results, Try.results40, go_sem, hzr, hc3]) rfl (by rw [HR.out]; refine RetP.zero rfl ?_; exact (HB.out.trans (HBr.out.mono (by omega))).setCell (by simp) _)
          · obtain rfl : k = n := by omega
            have hR := HRT.out (by have := HE.out; rwa [List.take_of_length_le (by have := HN.out; omega)] at this)
            have HR := Lib.hid hR
            have HML := Lib.hid ((mix_len tos ps k).trans HN.out.symm)
            clear hlt hk hR
            go_wp2
            refine bodyPost_ret (v := .agg #[.slice (some ⟨g, 0, none⟩) k cap]) (by simp [results, Try.results40, go_sem, hzr, hc3]) rfl (by
              rw [HR.out]
              refine ⟨_, rfl, ?_, ?_⟩
              · rw [HML.out]
                have h1 := HO.out
                have h2 : w.heap.size ≤ w1.heap.size := by omega
                exact own_mono (ownsRow_setCell_below (a := ⟨w.heap.size + 1, 0, none⟩) h1 (show w.heap.size + 1 < w1.heap.size by omega) _) h2
              · exact (HB.out.trans (HBr.out.mono (by omega))).setCell (by simp) _)
end Go.Proofs.Ytnbohohoceghnaa
