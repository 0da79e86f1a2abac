/- Texts put together: A12 A13 A14 M3 A15 A16 A17 A21 D3 G2 G4. -/
import Derived.Test.YtgclikdienlhdaaZ01
import Derived.Maps.AppendAt
import Derived.StillTailTactics
import Derived.Deep.RegionHeld3
import Derived.Deep.RegionLaw
import Derived.Deep.RegionWith
import Derived.Deep.AppendLies
import Derived.Deep.Cut
import Derived.Deep.DeepCutAuto
/- When values serve a formula; what a part of two makes of two values. -/
namespace Go.Proofs.Ytgclikdienlhdaa
set_option linter.unusedSimpArgs false
set_option linter.unusedVariables false
open Go.RowKit

/-- What a part of two makes of two values. -/
def jn (k x y : Int) : Int :=
  if k == 2 then (x + y) % 1000
  else if k == 3 then (x - y + 1000) % 1000
  else if k == 4 then x * y % 1000
  else if k == 5 then min x y
  else if k == 6 then max x y
  else if x < y then 1 else 0

theorem mul_bd (x y : Int) (hx : 0 ≤ x) (hx' : x ≤ 999) (hy : 0 ≤ y) (hy' : y ≤ 999) : 0 ≤ x * y ∧ x * y ≤ 998001 :=
  ⟨Int.mul_nonneg hx hy, by
    have h1 : x * y ≤ 999 * y := Int.mul_le_mul_of_nonneg_right hx' hy
    omega⟩

theorem jn_bd (k x y : Int) (hx : 0 ≤ x) (hx' : x ≤ 999) (hy : 0 ≤ y) (hy' : y ≤ 999) : 0 ≤ jn k x y ∧ jn k x y ≤ 999 := by
  have := mul_bd x y hx hx' hy hy'
  unfold jn
  (repeat' split) <;> omega

theorem getD_mem' {α : Type} [Inhabited α] (l : List α) (m : Nat) (h : m < l.length) : l.getD m default ∈ l := by
  simp [List.getD, h]

set_option maxHeartbeats 800000 in
theorem impl_combine (k x y : Int) (hx : 0 ≤ x) (hx' : x ≤ 999) (hy : 0 ≤ y) (hy' : y ≤ 999) (w : World) :
    Calls Try.prog 95 #[.int .i64 k, .int .i64 x, .int .i64 y] w fun e w' => e = .returned (.int .i64 (jn k x y)) ∧ w = w' := by
  obtain ⟨hm0, hm1⟩ := mul_bd x y hx hx' hy hy'
  have hs : 0 ≤ x - y + 1000 := by omega
  go_enter Try.func95, Try.ntmps95
  go_wp2
  all_goals
    go_ret
    refine ⟨ret_i ?_, rfl⟩
    simp_all [jn]
    try omega

set_option maxHeartbeats 800000 in
theorem spec_joined (k x y : Int) (hx : 0 ≤ x) (hx' : x ≤ 999) (hy : 0 ≤ y) (hy' : y ≤ 999) (w : World) :
    Calls Try.prog 104 #[.int .i64 k, .int .i64 x, .int .i64 y] w fun e w' => e = .returned (.int .i64 (jn k x y)) ∧ w = w' := by
  obtain ⟨hm0, hm1⟩ := mul_bd x y hx hx' hy hy'
  have hs : 0 ≤ x - y + 1000 := by omega
  go_enter Try.func104, Try.ntmps104
  go_wp2
  all_goals
    go_ret
    refine ⟨ret_i ?_, rfl⟩
    simp_all [jn]
    try omega

/-- There is a value for each node of the formula. -/
def eachOK (ps : List Pt) (n : Nat) : Bool := ps.all fun p => !(p.k == 1 && decide ((n : Int) ≤ p.n))

set_option maxRecDepth 100000 in
set_option maxHeartbeats 800000 in
theorem impl_hasEach (A A' : Option Addr) (n c m c' : Nat) (ps : List Pt) (w : World) (B : Nat) (hB : B ≤ w.heap.size) (hn : n = ps.length) (h : PS w B A ps) (hs : n ≤ 2000000) (hm : m ≤ 2000000) :
    Calls Try.prog 94 #[.agg #[.slice A n c], .slice A' m c'] w fun e w' => e = .returned (.bool (eachOK ps m)) ∧ Below w.heap.size w w' := by
  have H := Lib.hid h
  have HN := Lib.hid hn
  clear hn h
  go_enter Try.func94, Try.ntmps94
  go_wp2
  go_loopw [10] (fun i wr => ∃ k : Nat, k ≤ n ∧ i = .int .i64 k ∧ Hid (∀ j, j < k → ((ps.getD j default).k == 1 && decide ((m : Int) ≤ (ps.getD j default).n)) = false) ∧ Below w.heap.size w wr) (fun i _ => n - (intOf i).toNat)
  case atStart => exact ⟨0, Nat.zero_le _, rfl, by intro j hj; omega, (Below.refl _ _).alloc (Nat.le_refl _) _⟩
  case round =>
    obtain ⟨k, hk, rfl, HA, hb⟩ := hrel
    have hwr : w.heap.size ≤ wr.heap.size := hb.size
    by_cases hlt : k < n
    · obtain ⟨b, off, rfl, hbB, hc⟩ := H.out (by have := HN.out; omega)
      obtain ⟨c0, c1, c2, c3, c4⟩ := hc k (by have := HN.out; omega)
      clear hc
      have b0 := (hb.cell (p := ⟨b, off + k * 5, none⟩) (by simp; omega)).trans c0
      have b1 := (hb.cell (p := ⟨b, off + k * 5 + 1, none⟩) (by simp; omega)).trans c1
      have b2 := (hb.cell (p := ⟨b, off + k * 5 + 2, none⟩) (by simp; omega)).trans c2
      have b3 := (hb.cell (p := ⟨b, off + k * 5 + 3, none⟩) (by simp; omega)).trans c3
      have b4 := (hb.cell (p := ⟨b, off + k * 5 + 4, none⟩) (by simp; omega)).trans c4
      clear c0 c1 c2 c3 c4
      generalize hp : ps.getD k default = p at *
      have HP := Lib.hid hp
      clear hp
      cases h1 : (p.k == 1)
      · have H1 := Lib.hid h1
        go_wp2
        go_roundw
        case rel => exact ⟨k + 1, by omega, by go_num, fun j hj => by
          rcases Nat.lt_or_ge j k with h2 | h2
          · exact HA.out j h2
          · obtain rfl : j = k := by omega
            rw [HP.out, H1.out]; rfl, hb.alloc hwr _⟩
        case measure => simp [intOf]; omega
      · have H1 := Lib.hid h1
        by_cases h2 : (m : Int) ≤ p.n
        · have H2 := Lib.hid h2
          go_wp2
          go_ret
          refine ⟨ret_b ?_, hb.alloc hwr _⟩
          have hf : eachOK ps m = false := by
            unfold eachOK
            rw [List.all_eq_false]
            refine ⟨ps.getD k default, getD_mem' ps k (by have := HN.out; omega), ?_⟩
            rw [HP.out, H1.out, decide_eq_true H2.out]; simp
          rw [hf]; try rfl
        · have H2 := Lib.hid h2
          go_wp2
          go_roundw
          case rel => exact ⟨k + 1, by omega, by go_num, fun j hj => by
            rcases Nat.lt_or_ge j k with h3 | h3
            · exact HA.out j h3
            · obtain rfl : j = k := by omega
              rw [HP.out, H1.out, decide_eq_false H2.out]; rfl, hb.alloc hwr _⟩
          case measure => simp [intOf]; omega
    · go_wp2
      go_ret
      refine ⟨ret_b ?_, hb⟩
      have hf : eachOK ps m = true := by
        unfold eachOK
        rw [List.all_eq_true]
        intro x hx
        obtain ⟨j, hj, rfl⟩ := List.mem_iff_getElem.1 hx
        have := HA.out j (by have := HN.out; omega)
        rw [show ps.getD j default = ps[j] by simp [List.getD, hj]] at this
        rw [this]; rfl
      rw [hf]; try rfl

/-- The values serve the formula, as impl reckons it. -/
def canEv (ps : List Pt) (vs : List Int) : Bool := validF ps && ((decide (vs.length ≤ 10) && allR vs 0 999) && eachOK ps vs.length)

set_option maxHeartbeats 800000 in
theorem impl_canEvaluate (A A' : Option Addr) (n c m c' : Nat) (ps : List Pt) (vs : List Int) (w : World) (B : Nat) (hB : B ≤ w.heap.size) (hn : n = ps.length) (hm : m = vs.length) (h : PS w B A ps) (h' : IS w B A' vs) (hs : n ≤ 2000000) (hs' : m ≤ 2000000) :
    Calls Try.prog 68 #[.agg #[.slice A n c], .slice A' m c'] w fun e w' => e = .returned (.bool (canEv ps vs)) ∧ Below w.heap.size w w' := by
  have H := Lib.hid h
  have HN := Lib.hid hn
  have H' := Lib.hid h'
  have HM := Lib.hid hm
  clear hn h hm h'
  cases hv : validF ps
  · have hr : canEv ps vs = false := by simp [canEv, hv]
    rw [hr]
    have HV := Lib.hid hv
    clear hr hv
    go_enter Try.func68, Try.ntmps68
    go_wp2_with fail
    refine (impl_ValidFormula _ _ _ ps _ B (by simp; omega) HN.out (H.out.alloc hB _) hs).mono ?_
    rintro e w1 ⟨rfl, hb⟩
    rw [HV.out]
    go_wp2
    go_ret
    exact ⟨rfl, ((Below.refl _ _).alloc (Nat.le_refl _) _).trans (hb.mono (by simp))⟩
  · cases hr2 : (decide (vs.length ≤ 10) && allR vs 0 999)
    · have hr : canEv ps vs = false := by simp only [canEv, hr2]; simp
      rw [hr]
      have HV := Lib.hid hv
      have HR2 := Lib.hid hr2
      clear hr hv hr2
      go_enter Try.func68, Try.ntmps68
      go_wp2_with fail
      refine (impl_ValidFormula _ _ _ ps _ B (by simp; omega) HN.out (H.out.alloc hB _) hs).mono ?_
      rintro e w1 ⟨rfl, hb⟩
      rw [HV.out]
      have hz : w.heap.size + 1 ≤ w1.heap.size := by have := hb.size; simpa using this
      have HI1 := Lib.hid ((H'.out.alloc hB _).below hb (by simp; omega))
      go_wp2_with fail
      refine (impl_allInRange _ _ _ vs _ _ B (by omega) HM.out HI1.out hs').mono ?_
      rintro e w2 ⟨rfl, rfl⟩
      rw [HR2.out]
      go_wp2
      go_ret
      exact ⟨rfl, ((Below.refl _ _).alloc (Nat.le_refl _) _).trans (hb.mono (by simp))⟩
    · have hr : canEv ps vs = eachOK ps m := by rw [HM.out]; simp only [canEv, hr2, hv]; simp
      rw [hr]
      have HV := Lib.hid hv
      have HR2 := Lib.hid hr2
      clear hr hv hr2
      go_enter Try.func68, Try.ntmps68
      go_wp2_with fail
      refine (impl_ValidFormula _ _ _ ps _ B (by simp; omega) HN.out (H.out.alloc hB _) hs).mono ?_
      rintro e w1 ⟨rfl, hb⟩
      rw [HV.out]
      have hz : w.heap.size + 1 ≤ w1.heap.size := by have := hb.size; simpa using this
      have hbox : w1.cell? ⟨w.heap.size, 0, none⟩ = some (.slice A n c) := (hb.cell (p := ⟨w.heap.size, 0, none⟩) (by simp)).trans (by go_simp)
      have HI1 := Lib.hid ((H'.out.alloc hB _).below hb (by simp; omega))
      have HP1 := Lib.hid ((H.out.alloc hB _).below hb (by simp; omega))
      go_wp2_with fail
      refine (impl_allInRange _ _ _ vs _ _ B (by omega) HM.out HI1.out hs').mono ?_
      rintro e w2 ⟨rfl, rfl⟩
      rw [HR2.out]
      go_wp2_with fail
      refine (impl_hasEach _ _ _ _ _ _ ps _ B (by omega) HN.out HP1.out hs hs').mono ?_
      rintro e w3 ⟨rfl, hb3⟩
      go_wp2
      go_ret
      exact ⟨by simp, ((Below.refl _ _).alloc (Nat.le_refl _) _).trans ((hb.trans (hb3.mono (by simp; omega))).mono (by simp))⟩

/-- The values serve the formula, as the model reckons it. -/
def lastOK (l : List Int) (n : Nat) : Bool := decide (l.length = 0) || decide (l.getD (l.length - 1) 0 < (n : Int))
def valOK (ps : List Pt) (vs : List Int) : Bool := allR vs 0 999 && decide (vs.length ≤ 10) && lastOK (mayR ps) vs.length

end Go.Proofs.Ytgclikdienlhdaa

/- Values and reads of terms; the contract of spec.reckoned. -/
namespace Go.Proofs.Ytgclikdienlhdaa
set_option linter.unusedSimpArgs false
set_option linter.unusedVariables false
open Go.RowKit

def Tm.ev (vs : List Int) : Tm → Int
  | .num v => v
  | .rd v => vs.getD v.toNat 0
  | .pr k l r => jn k (l.ev vs) (r.ev vs)
  | .ch t a b => if t.ev vs == 0 then b.ev vs else a.ev vs

def Tm.rds (vs : List Int) : Tm → List Int
  | .num _ => []
  | .rd v => [v]
  | .pr _ l r => l.rds vs ++ r.rds vs
  | .ch t a b => t.rds vs ++ (if t.ev vs == 0 then b.rds vs else a.rds vs)

def Tm.ok (m : Nat) : Tm → Prop
  | .num v => 0 ≤ v ∧ v ≤ 99
  | .rd v => 0 ≤ v ∧ v < (m : Int)
  | .pr _ l r => l.ok m ∧ r.ok m
  | .ch t a b => t.ok m ∧ a.ok m ∧ b.ok m

/-- All values are in range. -/
def VOK (vs : List Int) : Prop := ∀ j, j < vs.length → 0 ≤ vs.getD j 0 ∧ vs.getD j 0 ≤ 999

theorem Tm.ev_bd (vs : List Int) (hv : VOK vs) (t : Tm) (h : t.ok vs.length) : 0 ≤ t.ev vs ∧ t.ev vs ≤ 999 := by
  induction t with
  | num v => simp only [Tm.ok] at h; simp only [Tm.ev]; omega
  | rd v => simp only [Tm.ok] at h; exact hv _ (by omega)
  | pr k l r hl hr =>
    simp only [Tm.ok] at h
    obtain ⟨a1, a2⟩ := hl h.1
    obtain ⟨b1, b2⟩ := hr h.2
    exact jn_bd _ _ _ a1 a2 b1 b2
  | ch t a b ht ha hb =>
    simp only [Tm.ok] at h
    simp only [Tm.ev]
    split
    · exact hb h.2.2
    · exact ha h.2.1

theorem good_num (p : Pt) (i : Int) (h : goodPt p i = true) : (p.k = 0 → 0 ≤ p.n ∧ p.n ≤ 99) ∧ (p.k = 1 → 0 ≤ p.n ∧ p.n ≤ 9) := by
  constructor
  · intro hk
    have e : ar p.k = 0 := by simp [ar, hk]
    unfold goodPt at h
    rw [e, hk] at h
    simp [rng] at h
    omega
  · intro hk
    have e : ar p.k = 0 := by simp [ar, hk]
    unfold goodPt at h
    rw [e, hk] at h
    simp [rng] at h
    omega

theorem tmAt_eq (ps : List Pt) (f i : Nat) : tmAt ps (f + 1) i = (if (ps.getD i default).k == 0 then .num (ps.getD i default).n else if (ps.getD i default).k == 1 then .rd (ps.getD i default).n
    else if (ps.getD i default).k == 8 then .ch (tmAt ps f (ps.getD i default).a.toNat) (tmAt ps f (ps.getD i default).b.toNat) (tmAt ps f (ps.getD i default).c.toNat)
    else .pr (ps.getD i default).k (tmAt ps f (ps.getD i default).a.toNat) (tmAt ps f (ps.getD i default).b.toNat)) := rfl

theorem tmAt_ok (ps : List Pt) (m : Nat) (hg : AllGood ps) (he : eachOK ps m = true) (f : Nat) : ∀ i, i < f → i < ps.length → (tmAt ps f i).ok m := by
  induction f with
  | zero => intro i hi; omega
  | succ f ih =>
    intro i hif hin
    have hgi := hg i hin
    have hei : ((ps.getD i default).k == 1 && decide ((m : Int) ≤ (ps.getD i default).n)) = false := by
      unfold eachOK at he
      rw [List.all_eq_true] at he
      have := he (ps.getD i default) (getD_mem' ps i hin)
      cases hq : ((ps.getD i default).k == 1 && decide ((m : Int) ≤ (ps.getD i default).n))
      · rfl
      · rw [hq] at this; cases this
    rw [tmAt_eq]
    generalize ps.getD i default = p at *
    rcases good_kind _ _ hgi with h0 | h1 | h2 | h8
    · have := (good_num p i hgi).1 h0
      simp [h0, Tm.ok, this]
    · have := (good_num p i hgi).2 h1
      simp [h1] at hei
      simp [h1, Tm.ok, this, hei]
    · obtain ⟨a, b, ea, eb, la, lb⟩ := (good_bel_nat p i hgi).1 h2
      have k0 : (p.k == 0) = false := by simp only [beq_eq_false_iff_ne, ne_eq]; omega
      have k1 : (p.k == 1) = false := by simp only [beq_eq_false_iff_ne, ne_eq]; omega
      have k8 : (p.k == 8) = false := by simp only [beq_eq_false_iff_ne, ne_eq]; omega
      simp only [k0, k1, k8, Bool.false_eq_true, if_false, Tm.ok]
      exact ⟨ih _ (by omega) (by omega), ih _ (by omega) (by omega)⟩
    · obtain ⟨a, b, c, ea, eb, ec, la, lb, lc⟩ := (good_bel_nat p i hgi).2 h8
      simp only [h8, Tm.ok]
      exact ⟨ih _ (by omega) (by omega), ih _ (by omega) (by omega), ih _ (by omega) (by omega)⟩

theorem rds_len (ps : List Pt) (vs : List Int) (f i : Nat) : ((tmAt ps f i).rds vs).length ≤ 3 ^ f := by
  induction f generalizing i with
  | zero => simp [tmAt, Tm.rds]
  | succ f ih =>
    have hp : 0 < 3 ^ f := Nat.pow_pos (by omega)
    rw [tmAt_eq, Nat.pow_succ]
    generalize ps.getD i default = p
    have ha := ih p.a.toNat
    have hb := ih p.b.toNat
    have hc := ih p.c.toNat
    split
    · simp [Tm.rds]
    · split
      · simp only [Tm.rds, List.length_cons, List.length_nil]; omega
      · split
        · simp only [Tm.rds, List.length_append]
          split <;> omega
        · simp only [Tm.rds, List.length_append]; omega

/-- Returns a value and a fresh slice of numbers that is not nil. -/
def RetVN (w : World) (x : Int) (xs : List Int) (e : Ending) (w' : World) : Prop := ∃ v, e = .returned (.tuple #[.int .i64 x, v]) ∧ OwnN w' w.heap.size v xs ∧ Below w.heap.size w w'

theorem retVN_lit {w w1 : World} (hb : Below w.heap.size w w1) (x : Int) (xs : List Int) (cs : Array Value) (n : Nat) (hn : n = xs.length) (hm : n ≤ maxLen) (hc : cs.toList = xs.map (Value.int .i64)) (e : Ending)
    (he : e = .returned (.tuple #[.int .i64 x, .slice (some ⟨w1.heap.size, 0, none⟩) n n])) : RetVN w x xs e (w1.alloc (.cells cs 3)) := by
  subst hn
  refine ⟨_, he, ⟨?_, by simp⟩, hb.alloc hb.size _⟩
  have h := World.ownsRow_lit (e := 3) (size := 1) w1 cs xs.length hb.size hm (by rw [← Array.length_toList, hc]; simp)
  rw [hc] at h
  exact h

theorem RetVN.drew {w w' : World} {x : Int} {xs : List Int} {e : Ending} (h : RetVN w x xs e w') : RetVN w x xs e w'.drew := by
  obtain ⟨v, he, ho, hb⟩ := h
  exact ⟨v, he, ho, hb.drew⟩

set_option maxRecDepth 100000 in
set_option maxHeartbeats 3200000 in
theorem spec_reckoned (A A' : Option Addr) (n c m c' : Nat) (ps : List Pt) (vs : List Int) (B : Nat) (hn : n = ps.length) (hm : m = vs.length) (hg : AllGood ps) (he : eachOK ps m = true) (hv : VOK vs) (hs : n ≤ 2000000) (hs' : m ≤ 2000000) (f : Nat) (hf : f ≤ 12) :
    ∀ (i : Nat) (w : World), i < f → i < n → B ≤ w.heap.size → PS w B A ps → IS w B A' vs →
    Calls Try.prog 97 #[.agg #[.slice A n c], .slice A' m c', .int .i64 i] w fun e w' => RetVN w ((tmAt ps f i).ev vs) ((tmAt ps f i).rds vs) e w' := by
  obtain ⟨i0, hi, hz0, hz1, hz2⟩ := info_parts info_int
  induction f with
  | zero => intro i w hi; omega
  | succ f ih =>
    intro i w hif hin hB h h'
    obtain ⟨b, off, rfl, hbB, hc⟩ := h (by omega)
    obtain ⟨c0, c1, c2, c3, c4⟩ := hc i (by omega)
    clear hc
    have hgi := hg i (by omega)
    have hok := tmAt_ok ps m hg he (f + 1) i hif (by omega)
    have hbw : b < w.heap.size := by omega
    have hsub : ∀ j, j < i → 0 ≤ (tmAt ps f j).ev vs ∧ (tmAt ps f j).ev vs ≤ 999 := fun j hj => Tm.ev_bd vs hv _ (by rw [← hm]; exact tmAt_ok ps m hg he f j (by omega) (by omega))
    have hlen : ∀ j, ((tmAt ps f j).rds vs).length ≤ 531441 := fun j => Nat.le_trans (rds_len ps vs f j) (Nat.pow_le_pow_right (by omega) (show f ≤ 12 by omega))
    have HE := Lib.hid (tmAt_eq ps f i)
    have H := Lib.hid h
    have H' := Lib.hid h'
    have IH := Lib.hid (ih (by omega))
    have HN := Lib.hid hn
    have HM := Lib.hid hm
    have HV := Lib.hid hv
    have HSUB := Lib.hid hsub
    have HLEN := Lib.hid hlen
    clear h h' ih hn hm hg he hv hsub hlen
    generalize hp : ps.getD i default = p at *
    generalize tmAt ps (f + 1) i = t at *
    clear hp
    rcases good_kind p i hgi with h0 | h1 | h2 | h8
    · have k0 : (p.k == 0) = true := by simp [h0]
      have ht : t = .num p.n := by rw [HE.out, k0]; rfl
      rw [ht]
      clear HE ht h0 hgi hok
      go_enter Try.func97, Try.ntmps97
      go_wp2
      go_ret2
      exact retVN_lit (((Below.refl _ _).alloc (Nat.le_refl _) _).alloc (by simp) _) _ _ _ 0 rfl (by unfold maxLen; omega) rfl _ (by simp [Tm.ev])
    · have k0 : (p.k == 0) = false := by simp [h1]
      have k1 : (p.k == 1) = true := by simp [h1]
      have ht : t = .rd p.n := by rw [HE.out, k0, k1]; rfl
      rw [ht] at hok ⊢
      simp only [Tm.ok] at hok
      obtain ⟨q, hq⟩ : ∃ q : Nat, p.n = (q : Int) := ⟨p.n.toNat, by omega⟩
      have hqm : q < m := by omega
      rw [hq] at c4
      obtain ⟨b2, off2, rfl, hb2, hc2⟩ := H'.out (by have := HM.out; omega)
      have d0 := hc2 q (by have := HM.out; omega)
      have hb2w : b2 < w.heap.size := by omega
      have hb2w1 : b2 < w.heap.size + 1 := by omega
      have hb2w2 : b2 < w.heap.size + 1 + 1 := by omega
      have hev : (Tm.rd p.n).ev vs = vs.getD q 0 := by rw [hq]; simp [Tm.ev]
      have hrd : (Tm.rd p.n).rds vs = [(q : Int)] := by rw [hq]; rfl
      rw [hev, hrd]
      generalize vs.getD q 0 = x at *
      clear HE ht h1 hgi hok hc2 hq hev hrd
      go_enter Try.func97, Try.ntmps97
      go_wp2
      go_region
      go_wp2
      go_ret2
      exact (retVN_lit (((Below.refl _ _).alloc (Nat.le_refl _) _).alloc (by simp) _) _ _ _ 1 rfl (by unfold maxLen; omega) rfl _ (by simp)).drew
    · obtain ⟨ta, tb, ea, eb, la, lb⟩ := (good_bel_nat p i hgi).1 h2
      have k0 : (p.k == 0) = false := by simp only [beq_eq_false_iff_ne, ne_eq]; omega
      have k1 : (p.k == 1) = false := by simp only [beq_eq_false_iff_ne, ne_eq]; omega
      have k8 : (p.k == 8) = false := by simp only [beq_eq_false_iff_ne, ne_eq]; omega
      have ht : t = .pr p.k (tmAt ps f ta) (tmAt ps f tb) := by rw [HE.out, k0, k1, k8, ea, eb]; simp
      rw [ht]
      rw [ea] at c1
      rw [eb] at c2
      obtain ⟨va1, va2⟩ := HSUB.out ta la
      obtain ⟨vb1, vb2⟩ := HSUB.out tb lb
      have la1 := HLEN.out ta
      have lb1 := HLEN.out tb
      have hev : (Tm.pr p.k (tmAt ps f ta) (tmAt ps f tb)).ev vs = jn p.k ((tmAt ps f ta).ev vs) ((tmAt ps f tb).ev vs) := rfl
      have hrd : (Tm.pr p.k (tmAt ps f ta) (tmAt ps f tb)).rds vs = (tmAt ps f ta).rds vs ++ (tmAt ps f tb).rds vs := rfl
      rw [hev, hrd]
      have HIA := Lib.hid (IH.out ta)
      have HIB := Lib.hid (IH.out tb)
      generalize (tmAt ps f ta).ev vs = xa at *
      generalize (tmAt ps f tb).ev vs = xb at *
      generalize (tmAt ps f ta).rds vs = ra at *
      generalize (tmAt ps f tb).rds vs = rb at *
      clear HE ht h2 hgi hok hev hrd ea eb HSUB HLEN IH
      go_enter Try.func97, Try.ntmps97
      go_wp2_with fail
      refine (HIA.out _ (by omega) (by omega) (by simp; omega) ((H.out.alloc hB _).alloc (by simp; omega) _) ((H'.out.alloc hB _).alloc (by simp; omega) _)).mono ?_
      rintro e w1 ⟨v1, rfl, hown1, hb1⟩
      have hw1 : w.heap.size + 1 + 1 ≤ w1.heap.size := by have := hb1.size; simpa using this
      have q0 : w1.cell? ⟨w.heap.size, 0, none⟩ = some (.slice (some ⟨b, off, none⟩) n c) := (hb1.cell (p := ⟨w.heap.size, 0, none⟩) (by simp; try omega)).trans (by go_simp)
      have q1 : w1.cell? ⟨w.heap.size + 1, 0, none⟩ = some (.int .i64 p.k) := (hb1.cell (p := ⟨w.heap.size + 1, 0, none⟩) (by simp; try omega)).trans (by go_simp)
      have q2 : w1.cell? ⟨w.heap.size + 1, 2, none⟩ = some (.int .i64 tb) := (hb1.cell (p := ⟨w.heap.size + 1, 2, none⟩) (by simp; try omega)).trans (by go_simp)
      have HP1 := Lib.hid (((H.out.alloc hB (.cells #[.slice (some ⟨b, off, none⟩) n c] 53)).alloc (by simp; omega) (.cells #[.int .i64 p.k, .int .i64 ta, .int .i64 tb, .int .i64 p.c, .int .i64 p.n] 105)).below hb1 (by simp; omega))
      have HI1 := Lib.hid (((H'.out.alloc hB (.cells #[.slice (some ⟨b, off, none⟩) n c] 53)).alloc (by simp; omega) (.cells #[.int .i64 p.k, .int .i64 ta, .int .i64 tb, .int .i64 p.c, .int .i64 p.n] 105)).below hb1 (by simp; omega))
      have hB1 : Below w.heap.size w w1 := (((Below.refl _ _).alloc (Nat.le_refl _) _).alloc (by simp) _).trans (hb1.mono (by simp; omega))
      obtain ⟨g1, d1, rfl, hg1, hg1'⟩ := hown1.form
      simp only [World.size_alloc] at hg1
      have HO1 := Lib.hid hown1
      clear hb1 hown1 c0 c1 c2 c3 c4
      go_wp2_with fail
      refine (HIB.out _ (by omega) (by omega) (by omega) HP1.out HI1.out).mono ?_
      rintro e w2 ⟨v2, rfl, hown2, hb2⟩
      have hw2 : w1.heap.size ≤ w2.heap.size := hb2.size
      have q1' := (hb2.cell (p := ⟨w.heap.size + 1, 0, none⟩) (by show w.heap.size + 1 < w1.heap.size; omega)).trans q1
      have hB2 : Below w.heap.size w w2 := hB1.trans (hb2.mono (by omega))
      obtain ⟨g2, d2, rfl, hg2, hg2'⟩ := hown2.form
      have HO2 := Lib.hid hown2
      have HO1' : Hid (OwnN w2 w.heap.size (.slice (some ⟨g1, 0, none⟩) ra.length d1) ra) := ⟨own_below (own_mono HO1.out.1 (by simp; omega)) hb2, by simp⟩
      clear hb2 hown2 q0 q1 q2 HO1
      generalize hla : ra.length = na at *
      generalize hlb : rb.length = nb at *
      have HLA := Lib.hid hla
      have HLB := Lib.hid hlb
      clear hla hlb
      have hnews : ∀ j u, (rb.map (Value.int .i64))[j]? = some u → w2.cell? ((⟨g2, 0, none⟩ : Addr).add j) = some u := fun j u hu => HO2.out.1.cells (g := g2) rfl j u hu
      have HNW := Lib.hid hnews
      clear hnews
      go_wp2_with (first
        | (go_at_call 104; refine (spec_joined p.k xa xb (by omega) (by omega) (by omega) (by omega) _).mono ?_; rintro e w3 ⟨rfl, rfl⟩)
        | (at_builtin; refine wpList_append_own _ rfl _ _ 26 rfl w.heap.size 3 i0 (.int .i64 0) 1 8 Try.underlying26 hi hz0 hz1 hz2 rfl (by decide) _ _ _ rfl (by have := HO1'.out.1; rw [HLA.out] at this; exact this) ⟨g2, 0, none⟩ nb d2 (rb.map (Value.int .i64)) rfl ?c1 HNW.out (ints_oneCell _ _) ?c3 ?c4 ?c5 ?_))
      case c1 => have := HLB.out; simp; omega
      case c3 => unfold maxLen; omega
      case c4 => omega
      case c5 => exact hB2.size
      intro v' w4 hown' hgrow hnil
      have hB4 : Below w.heap.size w w4 := hB2.grown hgrow hB2.size (by intro q hq; simp [Value.ownBlock] at hq; omega)
      have HF : Hid (OwnN w4 w.heap.size v' (ra ++ rb)) := by
        refine ⟨?_, by first | exact hnil | (intro e; simp [e] at hnil)⟩
        have h1 := HLA.out
        have h2 := HLB.out
        rw [List.length_append, List.map_append, h1, h2]
        exact hown'
      clear hown' hgrow hnil
      go_wp2
      go_ret2
      exact ⟨v', by simp, HF.out, hB4⟩
    · obtain ⟨ta, tb, tc, ea, eb, ec, la, lb, lc⟩ := (good_bel_nat p i hgi).2 h8
      have k0 : (p.k == 0) = false := by simp only [beq_eq_false_iff_ne, ne_eq]; omega
      have k1 : (p.k == 1) = false := by simp only [beq_eq_false_iff_ne, ne_eq]; omega
      have k8 : (p.k == 8) = true := by simp only [beq_iff_eq]; omega
      have ht : t = .ch (tmAt ps f ta) (tmAt ps f tb) (tmAt ps f tc) := by rw [HE.out, k0, k1, k8, ea, eb, ec]; simp
      rw [ht]
      cases hz : ((tmAt ps f ta).ev vs == 0)
      · rw [ea] at c1
        rw [eb] at c2
        rw [ec] at c3
        obtain ⟨va1, va2⟩ := HSUB.out ta la
        have la1 := HLEN.out ta
        have lb1 := HLEN.out tb
        have hev : (Tm.ch (tmAt ps f ta) (tmAt ps f tb) (tmAt ps f tc)).ev vs = (tmAt ps f tb).ev vs := by simp only [Tm.ev, hz]; rfl
        have hrd : (Tm.ch (tmAt ps f ta) (tmAt ps f tb) (tmAt ps f tc)).rds vs = (tmAt ps f ta).rds vs ++ (tmAt ps f tb).rds vs := by simp only [Tm.rds, hz]; rfl
        rw [hev, hrd]
        have HIA := Lib.hid (IH.out ta)
        have HIB := Lib.hid (IH.out tb)
        generalize (tmAt ps f ta).ev vs = xa at *
        generalize (tmAt ps f tb).ev vs = xb at *
        generalize (tmAt ps f ta).rds vs = ra at *
        generalize (tmAt ps f tb).rds vs = rb at *
        clear HE ht h8 hgi hok hev hrd ea eb ec HSUB HLEN IH
        go_enter Try.func97, Try.ntmps97
        go_wp2_with fail
        refine (HIA.out _ (by omega) (by omega) (by simp; omega) ((H.out.alloc hB _).alloc (by simp; omega) _) ((H'.out.alloc hB _).alloc (by simp; omega) _)).mono ?_
        rintro e w1 ⟨v1, rfl, hown1, hb1⟩
        have hw1 : w.heap.size + 1 + 1 ≤ w1.heap.size := by have := hb1.size; simpa using this
        have q0 : w1.cell? ⟨w.heap.size, 0, none⟩ = some (.slice (some ⟨b, off, none⟩) n c) := (hb1.cell (p := ⟨w.heap.size, 0, none⟩) (by simp; try omega)).trans (by go_simp)
        have q1 : w1.cell? ⟨w.heap.size + 1, 0, none⟩ = some (.int .i64 p.k) := (hb1.cell (p := ⟨w.heap.size + 1, 0, none⟩) (by simp; try omega)).trans (by go_simp)
        have q3 : w1.cell? ⟨w.heap.size + 1, 3, none⟩ = some (.int .i64 tc) := (hb1.cell (p := ⟨w.heap.size + 1, 3, none⟩) (by simp; try omega)).trans (by go_simp)
        have q2 : w1.cell? ⟨w.heap.size + 1, 2, none⟩ = some (.int .i64 tb) := (hb1.cell (p := ⟨w.heap.size + 1, 2, none⟩) (by simp; try omega)).trans (by go_simp)
        have HP1 := Lib.hid (((H.out.alloc hB (.cells #[.slice (some ⟨b, off, none⟩) n c] 53)).alloc (by simp; omega) (.cells #[.int .i64 p.k, .int .i64 ta, .int .i64 tb, .int .i64 tc, .int .i64 p.n] 105)).below hb1 (by simp; omega))
        have HI1 := Lib.hid (((H'.out.alloc hB (.cells #[.slice (some ⟨b, off, none⟩) n c] 53)).alloc (by simp; omega) (.cells #[.int .i64 p.k, .int .i64 ta, .int .i64 tb, .int .i64 tc, .int .i64 p.n] 105)).below hb1 (by simp; omega))
        have hB1 : Below w.heap.size w w1 := (((Below.refl _ _).alloc (Nat.le_refl _) _).alloc (by simp) _).trans (hb1.mono (by simp; omega))
        obtain ⟨g1, d1, rfl, hg1, hg1'⟩ := hown1.form
        simp only [World.size_alloc] at hg1
        have HO1 := Lib.hid hown1
        clear hb1 hown1 c0 c1 c2 c3 c4
        go_wp2_with fail
        refine (HIB.out _ (by omega) (by omega) (by omega) HP1.out HI1.out).mono ?_
        rintro e w2 ⟨v2, rfl, hown2, hb2⟩
        have hw2 : w1.heap.size ≤ w2.heap.size := hb2.size
        have q1' := (hb2.cell (p := ⟨w.heap.size + 1, 0, none⟩) (by show w.heap.size + 1 < w1.heap.size; omega)).trans q1
        have hB2 : Below w.heap.size w w2 := hB1.trans (hb2.mono (by omega))
        obtain ⟨g2, d2, rfl, hg2, hg2'⟩ := hown2.form
        have HO2 := Lib.hid hown2
        have HO1' : Hid (OwnN w2 w.heap.size (.slice (some ⟨g1, 0, none⟩) ra.length d1) ra) := ⟨own_below (own_mono HO1.out.1 (by simp; omega)) hb2, by simp⟩
        clear hb2 hown2 q0 q1 q2 q3 HO1
        generalize hla : ra.length = na at *
        generalize hlb : rb.length = nb at *
        have HLA := Lib.hid hla
        have HLB := Lib.hid hlb
        clear hla hlb
        have hnews : ∀ j u, (rb.map (Value.int .i64))[j]? = some u → w2.cell? ((⟨g2, 0, none⟩ : Addr).add j) = some u := fun j u hu => HO2.out.1.cells (g := g2) rfl j u hu
        have HNW := Lib.hid hnews
        clear hnews
        go_wp2_with ((at_builtin; refine wpList_append_own _ rfl _ _ 26 rfl w.heap.size 3 i0 (.int .i64 0) 1 8 Try.underlying26 hi hz0 hz1 hz2 rfl (by decide) _ _ _ rfl (by have := HO1'.out.1; rw [HLA.out] at this; exact this) ⟨g2, 0, none⟩ nb d2 (rb.map (Value.int .i64)) rfl ?c1 HNW.out (ints_oneCell _ _) ?c3 ?c4 ?c5 ?_))
        case c1 => have := HLB.out; simp; omega
        case c3 => unfold maxLen; omega
        case c4 => omega
        case c5 => exact hB2.size
        intro v' w4 hown' hgrow hnil
        have hB4 : Below w.heap.size w w4 := hB2.grown hgrow hB2.size (by intro q hq; simp [Value.ownBlock] at hq; omega)
        have HF : Hid (OwnN w4 w.heap.size v' (ra ++ rb)) := by
          refine ⟨?_, by first | exact hnil | (intro e; simp [e] at hnil)⟩
          have h1 := HLA.out
          have h2 := HLB.out
          rw [List.length_append, List.map_append, h1, h2]
          exact hown'
        clear hown' hgrow hnil
        go_wp2
        go_ret2
        exact ⟨v', by simp, HF.out, hB4⟩
      · rw [ea] at c1
        rw [eb] at c2
        rw [ec] at c3
        obtain ⟨va1, va2⟩ := HSUB.out ta la
        have la1 := HLEN.out ta
        have lb1 := HLEN.out tc
        have hev : (Tm.ch (tmAt ps f ta) (tmAt ps f tb) (tmAt ps f tc)).ev vs = (tmAt ps f tc).ev vs := by simp only [Tm.ev, hz]; rfl
        have hrd : (Tm.ch (tmAt ps f ta) (tmAt ps f tb) (tmAt ps f tc)).rds vs = (tmAt ps f ta).rds vs ++ (tmAt ps f tc).rds vs := by simp only [Tm.rds, hz]; rfl
        rw [hev, hrd]
        have HIA := Lib.hid (IH.out ta)
        have HIB := Lib.hid (IH.out tc)
        generalize (tmAt ps f ta).ev vs = xa at *
        generalize (tmAt ps f tc).ev vs = xb at *
        generalize (tmAt ps f ta).rds vs = ra at *
        generalize (tmAt ps f tc).rds vs = rb at *
        clear HE ht h8 hgi hok hev hrd ea eb ec HSUB HLEN IH
        go_enter Try.func97, Try.ntmps97
        go_wp2_with fail
        refine (HIA.out _ (by omega) (by omega) (by simp; omega) ((H.out.alloc hB _).alloc (by simp; omega) _) ((H'.out.alloc hB _).alloc (by simp; omega) _)).mono ?_
        rintro e w1 ⟨v1, rfl, hown1, hb1⟩
        have hw1 : w.heap.size + 1 + 1 ≤ w1.heap.size := by have := hb1.size; simpa using this
        have q0 : w1.cell? ⟨w.heap.size, 0, none⟩ = some (.slice (some ⟨b, off, none⟩) n c) := (hb1.cell (p := ⟨w.heap.size, 0, none⟩) (by simp; try omega)).trans (by go_simp)
        have q1 : w1.cell? ⟨w.heap.size + 1, 0, none⟩ = some (.int .i64 p.k) := (hb1.cell (p := ⟨w.heap.size + 1, 0, none⟩) (by simp; try omega)).trans (by go_simp)
        have q3 : w1.cell? ⟨w.heap.size + 1, 3, none⟩ = some (.int .i64 tc) := (hb1.cell (p := ⟨w.heap.size + 1, 3, none⟩) (by simp; try omega)).trans (by go_simp)
        have q2 : w1.cell? ⟨w.heap.size + 1, 2, none⟩ = some (.int .i64 tb) := (hb1.cell (p := ⟨w.heap.size + 1, 2, none⟩) (by simp; try omega)).trans (by go_simp)
        have HP1 := Lib.hid (((H.out.alloc hB (.cells #[.slice (some ⟨b, off, none⟩) n c] 53)).alloc (by simp; omega) (.cells #[.int .i64 p.k, .int .i64 ta, .int .i64 tb, .int .i64 tc, .int .i64 p.n] 105)).below hb1 (by simp; omega))
        have HI1 := Lib.hid (((H'.out.alloc hB (.cells #[.slice (some ⟨b, off, none⟩) n c] 53)).alloc (by simp; omega) (.cells #[.int .i64 p.k, .int .i64 ta, .int .i64 tb, .int .i64 tc, .int .i64 p.n] 105)).below hb1 (by simp; omega))
        have hB1 : Below w.heap.size w w1 := (((Below.refl _ _).alloc (Nat.le_refl _) _).alloc (by simp) _).trans (hb1.mono (by simp; omega))
        obtain ⟨g1, d1, rfl, hg1, hg1'⟩ := hown1.form
        simp only [World.size_alloc] at hg1
        have HO1 := Lib.hid hown1
        clear hb1 hown1 c0 c1 c2 c3 c4
        go_wp2_with fail
        refine (HIB.out _ (by omega) (by omega) (by omega) HP1.out HI1.out).mono ?_
        rintro e w2 ⟨v2, rfl, hown2, hb2⟩
        have hw2 : w1.heap.size ≤ w2.heap.size := hb2.size
        have q1' := (hb2.cell (p := ⟨w.heap.size + 1, 0, none⟩) (by show w.heap.size + 1 < w1.heap.size; omega)).trans q1
        have hB2 : Below w.heap.size w w2 := hB1.trans (hb2.mono (by omega))
        obtain ⟨g2, d2, rfl, hg2, hg2'⟩ := hown2.form
        have HO2 := Lib.hid hown2
        have HO1' : Hid (OwnN w2 w.heap.size (.slice (some ⟨g1, 0, none⟩) ra.length d1) ra) := ⟨own_below (own_mono HO1.out.1 (by simp; omega)) hb2, by simp⟩
        clear hb2 hown2 q0 q1 q2 q3 HO1
        generalize hla : ra.length = na at *
        generalize hlb : rb.length = nb at *
        have HLA := Lib.hid hla
        have HLB := Lib.hid hlb
        clear hla hlb
        have hnews : ∀ j u, (rb.map (Value.int .i64))[j]? = some u → w2.cell? ((⟨g2, 0, none⟩ : Addr).add j) = some u := fun j u hu => HO2.out.1.cells (g := g2) rfl j u hu
        have HNW := Lib.hid hnews
        clear hnews
        go_wp2_with ((at_builtin; refine wpList_append_own _ rfl _ _ 26 rfl w.heap.size 3 i0 (.int .i64 0) 1 8 Try.underlying26 hi hz0 hz1 hz2 rfl (by decide) _ _ _ rfl (by have := HO1'.out.1; rw [HLA.out] at this; exact this) ⟨g2, 0, none⟩ nb d2 (rb.map (Value.int .i64)) rfl ?c1 HNW.out (ints_oneCell _ _) ?c3 ?c4 ?c5 ?_))
        case c1 => have := HLB.out; simp; omega
        case c3 => unfold maxLen; omega
        case c4 => omega
        case c5 => exact hB2.size
        intro v' w4 hown' hgrow hnil
        have hB4 : Below w.heap.size w w4 := hB2.grown hgrow hB2.size (by intro q hq; simp [Value.ownBlock] at hq; omega)
        have HF : Hid (OwnN w4 w.heap.size v' (ra ++ rb)) := by
          refine ⟨?_, by first | exact hnil | (intro e; simp [e] at hnil)⟩
          have h1 := HLA.out
          have h2 := HLB.out
          rw [List.length_append, List.map_append, h1, h2]
          exact hown'
        clear hown' hgrow hnil
        go_wp2
        go_ret2
        exact ⟨v', by simp, HF.out, hB4⟩
end Go.Proofs.Ytgclikdienlhdaa

/- The contract of impl.evaluate, whatever it looks nodes up with. -/
namespace Go.Proofs.Ytgclikdienlhdaa
set_option linter.unusedSimpArgs false
set_option linter.unusedVariables false
open Go.RowKit

theorem ta_NN (x : Value) (w : World) : (Instr.typeAssert (.iface 110 x) 93 110 true).run Try.prog w = .ok (.tuple #[x, .bool true]) w := by kernel_rfl
theorem ta_RN (x : Value) (w : World) : (Instr.typeAssert (.iface 112 x) 93 110 true).run Try.prog w = .ok (.tuple #[.agg #[.int .i64 0], .bool false]) w := by kernel_rfl
theorem ta_RR (x : Value) (w : World) : (Instr.typeAssert (.iface 112 x) 93 112 true).run Try.prog w = .ok (.tuple #[x, .bool true]) w := by kernel_rfl
theorem ta_PN (x : Value) (w : World) : (Instr.typeAssert (.iface 114 x) 93 110 true).run Try.prog w = .ok (.tuple #[.agg #[.int .i64 0], .bool false]) w := by kernel_rfl
theorem ta_PR (x : Value) (w : World) : (Instr.typeAssert (.iface 114 x) 93 112 true).run Try.prog w = .ok (.tuple #[.agg #[.int .i64 0], .bool false]) w := by kernel_rfl
theorem ta_PP (x : Value) (w : World) : (Instr.typeAssert (.iface 114 x) 93 114 true).run Try.prog w = .ok (.tuple #[x, .bool true]) w := by kernel_rfl
theorem ta_CN (x : Value) (w : World) : (Instr.typeAssert (.iface 117 x) 93 110 true).run Try.prog w = .ok (.tuple #[.agg #[.int .i64 0], .bool false]) w := by kernel_rfl
theorem ta_CR (x : Value) (w : World) : (Instr.typeAssert (.iface 117 x) 93 112 true).run Try.prog w = .ok (.tuple #[.agg #[.int .i64 0], .bool false]) w := by kernel_rfl
theorem ta_CP (x : Value) (w : World) : (Instr.typeAssert (.iface 117 x) 93 114 true).run Try.prog w = .ok (.tuple #[.agg #[.int .i64 0, .nilIface, .nilIface], .bool false]) w := by kernel_rfl
theorem ta_CC (x : Value) (w : World) : (Instr.typeAssert (.iface 117 x) 93 117 true).run Try.prog w = .ok (.tuple #[x, .bool true]) w := by kernel_rfl

/-- From w to w' only blocks of the footprint have turned; the footprint has got new blocks alone. -/
structure Fr (foot : World → Nat → Prop) (w w' : World) : Prop where
  size : w.heap.size ≤ w'.heap.size
  block : ∀ k, k < w.heap.size → ¬ foot w k → w'.heap[k]? = w.heap[k]?
  foot : ∀ k, foot w' k → foot w k ∨ w.heap.size ≤ k

theorem Fr.tr {foot : World → Nat → Prop} {a b c : World} (h : Fr foot a b) (k : Fr foot b c) : Fr foot a c :=
  ⟨Nat.le_trans h.size k.size, fun i hi hn => (k.block i (Nat.lt_of_lt_of_le hi h.size) fun hb => by
    rcases h.foot i hb with h1 | h1
    · exact hn h1
    · omega).trans (h.block i hi hn), fun i hi => by
    rcases k.foot i hi with h1 | h1
    · exact h.foot i h1
    · exact .inr (Nat.le_trans h.size h1)⟩

theorem Fr.cell {foot : World → Nat → Prop} {w w' : World} (h : Fr foot w w') {a : Addr} {v : Value} (hl : a.block < w.heap.size) (hn : ¬ foot w a.block) (hc : w.cell? a = some v) : w'.cell? a = some v :=
  (World.cell?_of_block (h.block a.block hl hn)).trans hc

theorem Fr.of_below {foot : World → Nat → Prop} {w w' : World} (h : Below w.heap.size w w') (hf : ∀ k, foot w' k → foot w k) : Fr foot w w' :=
  ⟨h.size, fun k hk _ => h.block k hk, fun k hk => .inl (hf k hk)⟩

set_option maxRecDepth 100000 in
set_option maxHeartbeats 3200000 in
theorem impl_evaluate1 (K : FuncId) (cap : Value) (vs : List Int) (hv : VOK vs) (foot : World → Nat → Prop) (I : List Int → World → Prop) (hG : ∀ acc w k, I acc w → foot w k → k < w.heap.size) (hI : ∀ acc w w', I acc w → Below w.heap.size w w' → I acc w' ∧ ∀ k, foot w' k → foot w k)
    (hcf : ∀ (q : Nat) (w : World), (callFunc K #[.int .i64 q, cap]).run Try.prog w = .ok (.enter K #[.int .i64 q, cap]) w)
    (hlook : ∀ (q : Nat) acc w, q < vs.length → I acc w → Calls Try.prog K #[.int .i64 q, cap] w fun e w' => e = .returned (.int .i64 (vs.getD q 0)) ∧ I (acc ++ [(q : Int)]) w' ∧ Fr foot w w') (t : Tm) :
    ∀ (acc : List Int) (w : World), t.ok vs.length → I acc w →
    Calls Try.prog 70 #[t.val, .func (.func K) #[] #[cap]] w fun e w' => e = .returned (.int .i64 (t.ev vs)) ∧ I (acc ++ t.rds vs) w' ∧ Fr foot w w' := by
  have HI := Lib.hid hI
  have HL := Lib.hid hlook
  have HV := Lib.hid hv
  have HG := Lib.hid hG
  have HCF := Lib.hid hcf
  clear hI hlook hv hG hcf
  induction t with
  | num v =>
    intro acc w hok h
    have H := Lib.hid h
    clear h hok
    show Calls _ _ #[.iface 110 (.agg #[.int .i64 v]), _] _ _
    have t1 := fun w => ta_NN (.agg #[.int .i64 v]) w
    go_enter Try.func70, Try.ntmps70
    go_wp2
    go_ret
    refine ⟨by simp [Tm.ev], ?_, Fr.of_below ((Below.refl w.heap.size w).alloc (Nat.le_refl _) _) (HI.out _ _ _ H.out ((Below.refl w.heap.size w).alloc (Nat.le_refl _) _)).2⟩
    have h1 := (HI.out _ _ _ H.out ((Below.refl w.heap.size w).alloc (Nat.le_refl _) (.cells #[.int .i64 v] 110))).1
    simpa [Tm.rds] using h1
  | rd v =>
    intro acc w hok h
    simp only [Tm.ok] at hok
    obtain ⟨q, rfl⟩ : ∃ q : Nat, v = (q : Int) := ⟨v.toNat, by omega⟩
    have hq : q < vs.length := by omega
    have HW0 := HI.out _ _ _ h ((Below.refl w.heap.size w).alloc (Nat.le_refl _) (.cells #[.int .i64 q] 112))
    have HW := Lib.hid HW0.1
    have HFR := Lib.hid (Fr.of_below (foot := foot) ((Below.refl w.heap.size w).alloc (Nat.le_refl _) (.cells #[.int .i64 q] 112)) HW0.2)
    have HNF := Lib.hid (show ¬ foot _ w.heap.size from fun hf => Nat.lt_irrefl _ (HG.out _ _ w.heap.size h (HW0.2 _ hf)))
    clear HW0
    clear h hok
    show Calls _ _ #[.iface 112 (.agg #[.int .i64 q]), _] _ _
    have t1 := fun w => ta_RN (.agg #[.int .i64 q]) w
    have t2 := fun w => ta_RR (.agg #[.int .i64 q]) w
    have hc := HCF.out q
    go_enter Try.func70, Try.ntmps70
    go_wp2_with fail
    refine (HL.out q acc _ hq HW.out).mono ?_
    rintro e w1 ⟨rfl, hI1, hg1⟩
    have H1 := Lib.hid hI1
    have HG1 := Lib.hid hg1
    clear hI1 hg1
    go_wp2
    go_ret
    exact ⟨by simp [Tm.ev, hq], H1.out, HFR.out.tr HG1.out⟩
  | pr k l r hl hr =>
    intro acc w hok h
    simp only [Tm.ok] at hok
    obtain ⟨T1, x1, e1⟩ := l.val_form
    obtain ⟨T2, x2, e2⟩ := r.val_form
    have HW0 := HI.out _ _ _ h ((Below.refl w.heap.size w).alloc (Nat.le_refl _) (.cells #[.int .i64 k, .iface T1 x1, .iface T2 x2] 114))
    have HW := Lib.hid HW0.1
    have HFR := Lib.hid (Fr.of_below (foot := foot) ((Below.refl w.heap.size w).alloc (Nat.le_refl _) (.cells #[.int .i64 k, .iface T1 x1, .iface T2 x2] 114)) HW0.2)
    have HNF := Lib.hid (show ¬ foot _ w.heap.size from fun hf => Nat.lt_irrefl _ (HG.out _ _ w.heap.size h (HW0.2 _ hf)))
    clear HW0
    obtain ⟨ex1, ex2⟩ := Tm.ev_bd vs HV.out l hok.1
    obtain ⟨ey1, ey2⟩ := Tm.ev_bd vs HV.out r hok.2
    have HLC := Lib.hid (fun acc w => hl acc w hok.1)
    have HRC := Lib.hid (fun acc w => hr acc w hok.2)
    have hev : (Tm.pr k l r).ev vs = jn k (l.ev vs) (r.ev vs) := rfl
    have hrd : (Tm.pr k l r).rds vs = l.rds vs ++ r.rds vs := rfl
    rw [hev, hrd]
    show Calls _ _ #[.iface 114 (.agg #[.int .i64 k, l.val, r.val]), _] _ _
    rw [e1, e2]
    rw [e1] at HLC
    rw [e2] at HRC
    generalize l.ev vs = xa at *
    generalize r.ev vs = xb at *
    generalize l.rds vs = ra at *
    generalize r.rds vs = rb at *
    clear h hok hl hr hev hrd e1 e2
    have t1 := fun w => ta_PN (.agg #[.int .i64 k, .iface T1 x1, .iface T2 x2]) w
    have t2 := fun w => ta_PR (.agg #[.int .i64 k, .iface T1 x1, .iface T2 x2]) w
    have t3 := fun w => ta_PP (.agg #[.int .i64 k, .iface T1 x1, .iface T2 x2]) w
    go_enter Try.func70, Try.ntmps70
    go_wp2_with fail
    refine (HLC.out acc _ HW.out).mono ?_
    rintro e w1 ⟨rfl, hI1, hg1⟩
    have q0 : w1.cell? ⟨w.heap.size, 0, none⟩ = some (.int .i64 k) := hg1.cell (a := ⟨w.heap.size, 0, none⟩) (by simp) HNF.out (by go_simp)
    have q2 : w1.cell? ⟨w.heap.size, 2, none⟩ = some (.iface T2 x2) := hg1.cell (a := ⟨w.heap.size, 2, none⟩) (by simp) HNF.out (by go_simp)
    have H1 := Lib.hid hI1
    have HG1 := Lib.hid (HFR.out.tr hg1)
    have hs1 : w.heap.size < w1.heap.size := by have := hg1.size; simp at this; omega
    have HNF1 := Lib.hid (show ¬ foot w1 w.heap.size from fun hf => (hg1.foot w.heap.size hf).elim HNF.out (fun h9 => by simp at h9; try omega))
    clear hI1 hg1
    go_wp2_with fail
    refine (HRC.out _ _ H1.out).mono ?_
    rintro e w2 ⟨rfl, hI2, hg2⟩
    have q0' : w2.cell? ⟨w.heap.size, 0, none⟩ = some (.int .i64 k) := hg2.cell (a := ⟨w.heap.size, 0, none⟩) hs1 HNF1.out q0
    have H2 := Lib.hid hI2
    have HG2 := Lib.hid (HG1.out.tr hg2)
    clear hI2 hg2 q0 q2
    go_wp2_with (go_at_call 95; refine (impl_combine k xa xb (by omega) (by omega) (by omega) (by omega) _).mono ?_; rintro e w3 ⟨rfl, rfl⟩)
    go_ret
    exact ⟨by simp, by rw [← List.append_assoc]; exact H2.out, HG2.out⟩
  | ch t a b ht ha hb =>
    intro acc w hok h
    simp only [Tm.ok] at hok
    obtain ⟨T1, x1, e1⟩ := t.val_form
    obtain ⟨T2, x2, e2⟩ := a.val_form
    obtain ⟨T3, x3, e3⟩ := b.val_form
    have HW0 := HI.out _ _ _ h ((Below.refl w.heap.size w).alloc (Nat.le_refl _) (.cells #[.iface T1 x1, .iface T2 x2, .iface T3 x3] 117))
    have HW := Lib.hid HW0.1
    have HFR := Lib.hid (Fr.of_below (foot := foot) ((Below.refl w.heap.size w).alloc (Nat.le_refl _) (.cells #[.iface T1 x1, .iface T2 x2, .iface T3 x3] 117)) HW0.2)
    have HNF := Lib.hid (show ¬ foot _ w.heap.size from fun hf => Nat.lt_irrefl _ (HG.out _ _ w.heap.size h (HW0.2 _ hf)))
    clear HW0
    have HTC := Lib.hid (fun acc w => ht acc w hok.1)
    have HAC := Lib.hid (fun acc w => ha acc w hok.2.1)
    have HBC := Lib.hid (fun acc w => hb acc w hok.2.2)
    have hev : (Tm.ch t a b).ev vs = if t.ev vs == 0 then b.ev vs else a.ev vs := rfl
    have hrd : (Tm.ch t a b).rds vs = t.rds vs ++ (if t.ev vs == 0 then b.rds vs else a.rds vs) := rfl
    rw [hev, hrd]
    show Calls _ _ #[.iface 117 (.agg #[t.val, a.val, b.val]), _] _ _
    rw [e1, e2, e3]
    rw [e1] at HTC
    rw [e2] at HAC
    rw [e3] at HBC
    have t1 := fun w => ta_CN (.agg #[.iface T1 x1, .iface T2 x2, .iface T3 x3]) w
    have t2 := fun w => ta_CR (.agg #[.iface T1 x1, .iface T2 x2, .iface T3 x3]) w
    have t3 := fun w => ta_CP (.agg #[.iface T1 x1, .iface T2 x2, .iface T3 x3]) w
    have t4 := fun w => ta_CC (.agg #[.iface T1 x1, .iface T2 x2, .iface T3 x3]) w
    cases hz : (t.ev vs == 0)
    · have hz' : (t.ev vs != 0) = true := by simp [bne, hz]
      simp only [Bool.false_eq_true, if_false]
      generalize t.ev vs = xt at *
      generalize a.ev vs = xa at *
      generalize t.rds vs = rt at *
      generalize a.rds vs = ra at *
      clear h hok ht ha hb hev hrd e1 e2 e3 hz
      go_enter Try.func70, Try.ntmps70
      go_wp2_with fail
      refine (HTC.out acc _ HW.out).mono ?_
      rintro e w1 ⟨rfl, hI1, hg1⟩
      have q1 : w1.cell? ⟨w.heap.size, 1, none⟩ = some (.iface T2 x2) := hg1.cell (a := ⟨w.heap.size, 1, none⟩) (by simp) HNF.out (by go_simp)
      have H1 := Lib.hid hI1
      have HG1 := Lib.hid (HFR.out.tr hg1)
      clear hI1 hg1
      go_wp2_with fail
      refine (HAC.out _ _ H1.out).mono ?_
      rintro e w2 ⟨rfl, hI2, hg2⟩
      have H2 := Lib.hid hI2
      have HG2 := Lib.hid (HG1.out.tr hg2)
      clear hI2 hg2
      go_wp2
      go_ret
      exact ⟨by simp, by rw [← List.append_assoc]; exact H2.out, HG2.out⟩
    · have hz' : (t.ev vs != 0) = false := by simp [bne, hz]
      simp only [if_true]
      generalize t.ev vs = xt at *
      generalize b.ev vs = xb at *
      generalize t.rds vs = rt at *
      generalize b.rds vs = rb at *
      clear h hok ht ha hb hev hrd e1 e2 e3 hz
      go_enter Try.func70, Try.ntmps70
      go_wp2_with fail
      refine (HTC.out acc _ HW.out).mono ?_
      rintro e w1 ⟨rfl, hI1, hg1⟩
      have q1 : w1.cell? ⟨w.heap.size, 2, none⟩ = some (.iface T3 x3) := hg1.cell (a := ⟨w.heap.size, 2, none⟩) (by simp) HNF.out (by go_simp)
      have H1 := Lib.hid hI1
      have HG1 := Lib.hid (HFR.out.tr hg1)
      clear hI1 hg1
      go_wp2_with fail
      refine (HBC.out _ _ H1.out).mono ?_
      rintro e w2 ⟨rfl, hI2, hg2⟩
      have H2 := Lib.hid hI2
      have HG2 := Lib.hid (HG1.out.tr hg2)
      clear hI2 hg2
      go_wp2
      go_ret
      exact ⟨by simp, by rw [← List.append_assoc]; exact H2.out, HG2.out⟩

set_option maxRecDepth 100000 in
set_option maxHeartbeats 3200000 in
theorem impl_evaluate2 (K : FuncId) (cap cap2 : Value) (vs : List Int) (hv : VOK vs) (foot : World → Nat → Prop) (I : List Int → World → Prop) (hG : ∀ acc w k, I acc w → foot w k → k < w.heap.size) (hI : ∀ acc w w', I acc w → Below w.heap.size w w' → I acc w' ∧ ∀ k, foot w' k → foot w k)
    (hcf : ∀ (q : Nat) (w : World), (callFunc K #[.int .i64 q, cap, cap2]).run Try.prog w = .ok (.enter K #[.int .i64 q, cap, cap2]) w)
    (hlook : ∀ (q : Nat) acc w, q < vs.length → I acc w → Calls Try.prog K #[.int .i64 q, cap, cap2] w fun e w' => e = .returned (.int .i64 (vs.getD q 0)) ∧ I (acc ++ [(q : Int)]) w' ∧ Fr foot w w') (t : Tm) :
    ∀ (acc : List Int) (w : World), t.ok vs.length → I acc w →
    Calls Try.prog 70 #[t.val, .func (.func K) #[] #[cap, cap2]] w fun e w' => e = .returned (.int .i64 (t.ev vs)) ∧ I (acc ++ t.rds vs) w' ∧ Fr foot w w' := by
  have HI := Lib.hid hI
  have HL := Lib.hid hlook
  have HV := Lib.hid hv
  have HG := Lib.hid hG
  have HCF := Lib.hid hcf
  clear hI hlook hv hG hcf
  induction t with
  | num v =>
    intro acc w hok h
    have H := Lib.hid h
    clear h hok
    show Calls _ _ #[.iface 110 (.agg #[.int .i64 v]), _] _ _
    have t1 := fun w => ta_NN (.agg #[.int .i64 v]) w
    go_enter Try.func70, Try.ntmps70
    go_wp2
    go_ret
    refine ⟨by simp [Tm.ev], ?_, Fr.of_below ((Below.refl w.heap.size w).alloc (Nat.le_refl _) _) (HI.out _ _ _ H.out ((Below.refl w.heap.size w).alloc (Nat.le_refl _) _)).2⟩
    have h1 := (HI.out _ _ _ H.out ((Below.refl w.heap.size w).alloc (Nat.le_refl _) (.cells #[.int .i64 v] 110))).1
    simpa [Tm.rds] using h1
  | rd v =>
    intro acc w hok h
    simp only [Tm.ok] at hok
    obtain ⟨q, rfl⟩ : ∃ q : Nat, v = (q : Int) := ⟨v.toNat, by omega⟩
    have hq : q < vs.length := by omega
    have HW0 := HI.out _ _ _ h ((Below.refl w.heap.size w).alloc (Nat.le_refl _) (.cells #[.int .i64 q] 112))
    have HW := Lib.hid HW0.1
    have HFR := Lib.hid (Fr.of_below (foot := foot) ((Below.refl w.heap.size w).alloc (Nat.le_refl _) (.cells #[.int .i64 q] 112)) HW0.2)
    have HNF := Lib.hid (show ¬ foot _ w.heap.size from fun hf => Nat.lt_irrefl _ (HG.out _ _ w.heap.size h (HW0.2 _ hf)))
    clear HW0
    clear h hok
    show Calls _ _ #[.iface 112 (.agg #[.int .i64 q]), _] _ _
    have t1 := fun w => ta_RN (.agg #[.int .i64 q]) w
    have t2 := fun w => ta_RR (.agg #[.int .i64 q]) w
    have hc := HCF.out q
    go_enter Try.func70, Try.ntmps70
    go_wp2_with fail
    refine (HL.out q acc _ hq HW.out).mono ?_
    rintro e w1 ⟨rfl, hI1, hg1⟩
    have H1 := Lib.hid hI1
    have HG1 := Lib.hid hg1
    clear hI1 hg1
    go_wp2
    go_ret
    exact ⟨by simp [Tm.ev, hq], H1.out, HFR.out.tr HG1.out⟩
  | pr k l r hl hr =>
    intro acc w hok h
    simp only [Tm.ok] at hok
    obtain ⟨T1, x1, e1⟩ := l.val_form
    obtain ⟨T2, x2, e2⟩ := r.val_form
    have HW0 := HI.out _ _ _ h ((Below.refl w.heap.size w).alloc (Nat.le_refl _) (.cells #[.int .i64 k, .iface T1 x1, .iface T2 x2] 114))
    have HW := Lib.hid HW0.1
    have HFR := Lib.hid (Fr.of_below (foot := foot) ((Below.refl w.heap.size w).alloc (Nat.le_refl _) (.cells #[.int .i64 k, .iface T1 x1, .iface T2 x2] 114)) HW0.2)
    have HNF := Lib.hid (show ¬ foot _ w.heap.size from fun hf => Nat.lt_irrefl _ (HG.out _ _ w.heap.size h (HW0.2 _ hf)))
    clear HW0
    obtain ⟨ex1, ex2⟩ := Tm.ev_bd vs HV.out l hok.1
    obtain ⟨ey1, ey2⟩ := Tm.ev_bd vs HV.out r hok.2
    have HLC := Lib.hid (fun acc w => hl acc w hok.1)
    have HRC := Lib.hid (fun acc w => hr acc w hok.2)
    have hev : (Tm.pr k l r).ev vs = jn k (l.ev vs) (r.ev vs) := rfl
    have hrd : (Tm.pr k l r).rds vs = l.rds vs ++ r.rds vs := rfl
    rw [hev, hrd]
    show Calls _ _ #[.iface 114 (.agg #[.int .i64 k, l.val, r.val]), _] _ _
    rw [e1, e2]
    rw [e1] at HLC
    rw [e2] at HRC
    generalize l.ev vs = xa at *
    generalize r.ev vs = xb at *
    generalize l.rds vs = ra at *
    generalize r.rds vs = rb at *
    clear h hok hl hr hev hrd e1 e2
    have t1 := fun w => ta_PN (.agg #[.int .i64 k, .iface T1 x1, .iface T2 x2]) w
    have t2 := fun w => ta_PR (.agg #[.int .i64 k, .iface T1 x1, .iface T2 x2]) w
    have t3 := fun w => ta_PP (.agg #[.int .i64 k, .iface T1 x1, .iface T2 x2]) w
    go_enter Try.func70, Try.ntmps70
    go_wp2_with fail
    refine (HLC.out acc _ HW.out).mono ?_
    rintro e w1 ⟨rfl, hI1, hg1⟩
    have q0 : w1.cell? ⟨w.heap.size, 0, none⟩ = some (.int .i64 k) := hg1.cell (a := ⟨w.heap.size, 0, none⟩) (by simp) HNF.out (by go_simp)
    have q2 : w1.cell? ⟨w.heap.size, 2, none⟩ = some (.iface T2 x2) := hg1.cell (a := ⟨w.heap.size, 2, none⟩) (by simp) HNF.out (by go_simp)
    have H1 := Lib.hid hI1
    have HG1 := Lib.hid (HFR.out.tr hg1)
    have hs1 : w.heap.size < w1.heap.size := by have := hg1.size; simp at this; omega
    have HNF1 := Lib.hid (show ¬ foot w1 w.heap.size from fun hf => (hg1.foot w.heap.size hf).elim HNF.out (fun h9 => by simp at h9; try omega))
    clear hI1 hg1
    go_wp2_with fail
    refine (HRC.out _ _ H1.out).mono ?_
    rintro e w2 ⟨rfl, hI2, hg2⟩
    have q0' : w2.cell? ⟨w.heap.size, 0, none⟩ = some (.int .i64 k) := hg2.cell (a := ⟨w.heap.size, 0, none⟩) hs1 HNF1.out q0
    have H2 := Lib.hid hI2
    have HG2 := Lib.hid (HG1.out.tr hg2)
    clear hI2 hg2 q0 q2
    go_wp2_with (go_at_call 95; refine (impl_combine k xa xb (by omega) (by omega) (by omega) (by omega) _).mono ?_; rintro e w3 ⟨rfl, rfl⟩)
    go_ret
    exact ⟨by simp, by rw [← List.append_assoc]; exact H2.out, HG2.out⟩
  | ch t a b ht ha hb =>
    intro acc w hok h
    simp only [Tm.ok] at hok
    obtain ⟨T1, x1, e1⟩ := t.val_form
    obtain ⟨T2, x2, e2⟩ := a.val_form
    obtain ⟨T3, x3, e3⟩ := b.val_form
    have HW0 := HI.out _ _ _ h ((Below.refl w.heap.size w).alloc (Nat.le_refl _) (.cells #[.iface T1 x1, .iface T2 x2, .iface T3 x3] 117))
    have HW := Lib.hid HW0.1
    have HFR := Lib.hid (Fr.of_below (foot := foot) ((Below.refl w.heap.size w).alloc (Nat.le_refl _) (.cells #[.iface T1 x1, .iface T2 x2, .iface T3 x3] 117)) HW0.2)
    have HNF := Lib.hid (show ¬ foot _ w.heap.size from fun hf => Nat.lt_irrefl _ (HG.out _ _ w.heap.size h (HW0.2 _ hf)))
    clear HW0
    have HTC := Lib.hid (fun acc w => ht acc w hok.1)
    have HAC := Lib.hid (fun acc w => ha acc w hok.2.1)
    have HBC := Lib.hid (fun acc w => hb acc w hok.2.2)
    have hev : (Tm.ch t a b).ev vs = if t.ev vs == 0 then b.ev vs else a.ev vs := rfl
    have hrd : (Tm.ch t a b).rds vs = t.rds vs ++ (if t.ev vs == 0 then b.rds vs else a.rds vs) := rfl
    rw [hev, hrd]
    show Calls _ _ #[.iface 117 (.agg #[t.val, a.val, b.val]), _] _ _
    rw [e1, e2, e3]
    rw [e1] at HTC
    rw [e2] at HAC
    rw [e3] at HBC
    have t1 := fun w => ta_CN (.agg #[.iface T1 x1, .iface T2 x2, .iface T3 x3]) w
    have t2 := fun w => ta_CR (.agg #[.iface T1 x1, .iface T2 x2, .iface T3 x3]) w
    have t3 := fun w => ta_CP (.agg #[.iface T1 x1, .iface T2 x2, .iface T3 x3]) w
    have t4 := fun w => ta_CC (.agg #[.iface T1 x1, .iface T2 x2, .iface T3 x3]) w
    cases hz : (t.ev vs == 0)
    · have hz' : (t.ev vs != 0) = true := by simp [bne, hz]
      simp only [Bool.false_eq_true, if_false]
      generalize t.ev vs = xt at *
      generalize a.ev vs = xa at *
      generalize t.rds vs = rt at *
      generalize a.rds vs = ra at *
      clear h hok ht ha hb hev hrd e1 e2 e3 hz
      go_enter Try.func70, Try.ntmps70
      go_wp2_with fail
      refine (HTC.out acc _ HW.out).mono ?_
      rintro e w1 ⟨rfl, hI1, hg1⟩
      have q1 : w1.cell? ⟨w.heap.size, 1, none⟩ = some (.iface T2 x2) := hg1.cell (a := ⟨w.heap.size, 1, none⟩) (by simp) HNF.out (by go_simp)
      have H1 := Lib.hid hI1
      have HG1 := Lib.hid (HFR.out.tr hg1)
      clear hI1 hg1
      go_wp2_with fail
      refine (HAC.out _ _ H1.out).mono ?_
      rintro e w2 ⟨rfl, hI2, hg2⟩
      have H2 := Lib.hid hI2
      have HG2 := Lib.hid (HG1.out.tr hg2)
      clear hI2 hg2
      go_wp2
      go_ret
      exact ⟨by simp, by rw [← List.append_assoc]; exact H2.out, HG2.out⟩
    · have hz' : (t.ev vs != 0) = false := by simp [bne, hz]
      simp only [if_true]
      generalize t.ev vs = xt at *
      generalize b.ev vs = xb at *
      generalize t.rds vs = rt at *
      generalize b.rds vs = rb at *
      clear h hok ht ha hb hev hrd e1 e2 e3 hz
      go_enter Try.func70, Try.ntmps70
      go_wp2_with fail
      refine (HTC.out acc _ HW.out).mono ?_
      rintro e w1 ⟨rfl, hI1, hg1⟩
      have q1 : w1.cell? ⟨w.heap.size, 2, none⟩ = some (.iface T3 x3) := hg1.cell (a := ⟨w.heap.size, 2, none⟩) (by simp) HNF.out (by go_simp)
      have H1 := Lib.hid hI1
      have HG1 := Lib.hid (HFR.out.tr hg1)
      clear hI1 hg1
      go_wp2_with fail
      refine (HBC.out _ _ H1.out).mono ?_
      rintro e w2 ⟨rfl, hI2, hg2⟩
      have H2 := Lib.hid hI2
      have HG2 := Lib.hid (HG1.out.tr hg2)
      clear hI2 hg2
      go_wp2
      go_ret
      exact ⟨by simp, by rw [← List.append_assoc]; exact H2.out, HG2.out⟩
end Go.Proofs.Ytgclikdienlhdaa

/- Plain facts on parts in order: what a term's parts are, from an index on. -/
namespace Go.Proofs.Ytgclikdienlhdaa
set_option linter.unusedSimpArgs false
set_option linter.unusedVariables false

def Tm.size : Tm → Nat
  | .num _ => 1
  | .rd _ => 1
  | .pr _ l r => l.size + r.size + 1
  | .ch t a b => t.size + a.size + b.size + 1

theorem Tm.size_pos (t : Tm) : 1 ≤ t.size := by cases t <;> simp [Tm.size]

/-- The parts of a term in order, from index k on. -/
def Tm.post : Tm → Nat → List Pt
  | .num v, _ => [⟨0, -1, -1, -1, v⟩]
  | .rd v, _ => [⟨1, -1, -1, -1, v⟩]
  | .pr K l r, k => l.post k ++ r.post (k + l.size) ++ [⟨K, ((k + l.size : Nat) : Int) - 1, ((k + l.size + r.size : Nat) : Int) - 1, -1, 0⟩]
  | .ch t a b, k => t.post k ++ a.post (k + t.size) ++ b.post (k + t.size + a.size) ++ [⟨8, ((k + t.size : Nat) : Int) - 1, ((k + t.size + a.size : Nat) : Int) - 1, ((k + t.size + a.size + b.size : Nat) : Int) - 1, 0⟩]

theorem Tm.post_len (t : Tm) (k : Nat) : (t.post k).length = t.size := by
  induction t generalizing k with
  | num v => rfl
  | rd v => rfl
  | pr K l r il ir => simp [Tm.post, Tm.size, il, ir]; omega
  | ch t a b it ia ib => simp [Tm.post, Tm.size, it, ia, ib]; omega

def kpost : List Tm → Nat → List Pt
  | [], _ => []
  | t :: ts, k => t.post k ++ kpost ts (k + t.size)

def kat : List Tm → Nat → List Int
  | [], _ => []
  | t :: ts, k => (((k + t.size : Nat) : Int) - 1) :: kat ts (k + t.size)

def ksize (ts : List Tm) : Nat := (ts.map Tm.size).sum

theorem ksize_snoc (ts : List Tm) (t : Tm) : ksize (ts ++ [t]) = ksize ts + t.size := by simp [ksize]

theorem kpost_len (ts : List Tm) (k : Nat) : (kpost ts k).length = ksize ts := by
  induction ts generalizing k with
  | nil => rfl
  | cons t ts ih => simp [kpost, ksize, Tm.post_len, ih]

theorem kat_len (ts : List Tm) (k : Nat) : (kat ts k).length = ts.length := by
  induction ts generalizing k with
  | nil => rfl
  | cons t ts ih => simp [kat, ih]

theorem kpost_snoc (ts : List Tm) (t : Tm) (k : Nat) : kpost (ts ++ [t]) k = kpost ts k ++ t.post (k + ksize ts) := by
  induction ts generalizing k with
  | nil => simp [kpost, ksize]
  | cons u ts ih =>
    have e : k + u.size + ksize ts = k + ksize (u :: ts) := by simp [ksize]; omega
    simp [kpost, ih, e]

theorem kat_snoc (ts : List Tm) (t : Tm) (k : Nat) : kat (ts ++ [t]) k = kat ts k ++ [((k + ksize ts + t.size : Nat) : Int) - 1] := by
  induction ts generalizing k with
  | nil => simp [kat, ksize]
  | cons u ts ih =>
    have e : k + u.size + ksize ts = k + ksize (u :: ts) := by simp [ksize]; omega
    simp [kat, ih, e]

/-- The part of a term, for the parts below it at some indices. -/
def Tm.own : Tm → List Int → Pt
  | .num v, _ => ⟨0, -1, -1, -1, v⟩
  | .rd v, _ => ⟨1, -1, -1, -1, v⟩
  | .pr K _ _, at_ => ⟨K, at_.getD 0 0, at_.getD 1 0, -1, 0⟩
  | .ch _ _ _, at_ => ⟨8, at_.getD 0 0, at_.getD 1 0, at_.getD 2 0, 0⟩

theorem Tm.post_kids (t : Tm) (k : Nat) : t.post k = kpost t.kids k ++ [t.own (kat t.kids k)] := by
  cases t with
  | num v => rfl
  | rd v => rfl
  | pr K l r => simp [Tm.post, Tm.kids, kpost, kat, Tm.own]
  | ch t a b => simp [Tm.post, Tm.kids, kpost, kat, Tm.own]

theorem Tm.size_kids (t : Tm) : t.size = ksize t.kids + 1 := by
  cases t <;> simp [Tm.size, Tm.kids, ksize, Nat.add_assoc]

theorem Tm.size_deep (t : Tm) : t.deep ≤ t.size := by
  induction t with
  | num v => simp [Tm.deep, Tm.size]
  | rd v => simp [Tm.deep, Tm.size]
  | pr K l r il ir => have := l.size_pos; have := r.size_pos; simp only [Tm.deep, Tm.size]; omega
  | ch t a b it ia ib => have := t.size_pos; have := a.size_pos; have := b.size_pos; simp only [Tm.deep, Tm.size]; omega

theorem ksize_take (ts : List Tm) (m : Nat) : ksize (ts.take m) ≤ ksize ts := by
  have h : ksize (ts.take m ++ ts.drop m) = ksize ts := by rw [List.take_append_drop]
  have h2 : ksize (ts.take m ++ ts.drop m) = ksize (ts.take m) + ksize (ts.drop m) := by unfold ksize; rw [List.map_append, List.sum_append]
  omega

/-- A term of depth d has at most as many parts as a full tree. -/
theorem size_tmAt (ps : List Pt) (f i : Nat) : 2 * (tmAt ps f i).size + 1 ≤ 3 ^ (f + 1) := by
  induction f generalizing i with
  | zero => simp [tmAt, Tm.size]
  | succ f ih =>
    have ha := ih (ps.getD i default).a.toNat
    have hb := ih (ps.getD i default).b.toNat
    have hc := ih (ps.getD i default).c.toNat
    have hp : 1 ≤ 3 ^ (f + 1) := Nat.one_le_pow _ _ (by omega)
    rw [tmAt_eq, Nat.pow_succ]
    split
    · simp only [Tm.size]; omega
    · split
      · simp only [Tm.size]; omega
      · split
        · simp only [Tm.size]; omega
        · simp only [Tm.size]; omega

/-- A part with the indices of the first parts below it. -/
def Pt.sub (p : Pt) (at_ : List Int) : Pt := ⟨p.k, at_.getD 0 p.a, at_.getD 1 p.b, at_.getD 2 p.c, p.n⟩

theorem Pt.sub_nil (p : Pt) : p.sub [] = p := rfl

theorem sub_own (ps : List Pt) (f i n : Nat) (hg : goodPt (ps.getD i default) i = true) : (ps.getD i default).sub (kat (tmAt ps (f + 1) i).kids n) = (tmAt ps (f + 1) i).own (kat (tmAt ps (f + 1) i).kids n) := by
  rw [tmAt_eq]
  generalize ps.getD i default = p at *
  have hh := hg
  rcases good_kind _ _ hg with h0 | h1 | h2 | h8
  · have ha : ar p.k = 0 := by unfold ar; rw [if_pos (by omega)]
    simp only [goodPt, ha] at hh
    simp [h0] at hh
    simp [h0, Tm.kids, kat, Tm.own, Pt.sub, hh]
  · have ha : ar p.k = 0 := by unfold ar; rw [if_pos (by omega)]
    simp only [goodPt, ha] at hh
    simp [h1] at hh
    simp [h1, Tm.kids, kat, Tm.own, Pt.sub, hh]
  · have k0 : (p.k == 0) = false := by simp only [beq_eq_false_iff_ne, ne_eq]; omega
    have k1 : (p.k == 1) = false := by simp only [beq_eq_false_iff_ne, ne_eq]; omega
    have k8 : (p.k == 8) = false := by simp only [beq_eq_false_iff_ne, ne_eq]; omega
    have ha : ar p.k = 2 := by unfold ar; rw [if_neg (by omega), if_pos h2]
    simp only [goodPt, ha] at hh
    simp at hh
    simp only [k0, k1, k8, Bool.false_eq_true, if_false]
    simp [Tm.kids, kat, Tm.own, Pt.sub, hh]
  · have ha : ar p.k = 3 := by unfold ar; rw [if_neg (by omega), if_neg (by omega), if_pos (by omega)]
    simp only [goodPt, ha] at hh
    simp at hh
    simp [h8, Tm.kids, kat, Tm.own, Pt.sub, hh]
end Go.Proofs.Ytgclikdienlhdaa

/- ValueOf and ReadsOf's values: both sides. -/
namespace Go.Proofs.Ytgclikdienlhdaa
set_option linter.unusedSimpArgs false
set_option linter.unusedVariables false
open Go.RowKit

theorem mayR_sorted (ps : List Pt) : (mayR ps).Pairwise (· < ·) := by
  unfold mayR
  rw [List.pairwise_map]
  exact (List.pairwise_lt_range.filter _).imp (by intro a b h; omega)

theorem mem_mayR (ps : List Pt) (x : Int) : x ∈ mayR ps ↔ ∃ m : Nat, m < 10 ∧ hasNode ps m = true ∧ x = m := by
  unfold mayR
  simp only [List.mem_map, List.mem_filter, List.mem_range]
  constructor
  · rintro ⟨m, ⟨h1, h2⟩, rfl⟩; exact ⟨m, h1, h2, rfl⟩
  · rintro ⟨m, h1, h2, rfl⟩; exact ⟨m, ⟨h1, h2⟩, rfl⟩

theorem le_last (l : List Int) (h : l.Pairwise (· < ·)) (x : Int) (hx : x ∈ l) : x ≤ l.getD (l.length - 1) 0 := by
  obtain ⟨i, hi, rfl⟩ := List.mem_iff_getElem.1 hx
  have hl : l.length - 1 < l.length := by omega
  rw [show l.getD (l.length - 1) 0 = l[l.length - 1] by simp [List.getD, hl]]
  rcases Nat.lt_or_ge i (l.length - 1) with h1 | h1
  · have := List.pairwise_iff_getElem.1 h i (l.length - 1) hi hl h1
    omega
  · have : i = l.length - 1 := by omega
    subst this
    exact Int.le_refl _

theorem last_each (ps : List Pt) (n : Nat) (hg : AllGood ps) : lastOK (mayR ps) n = eachOK ps n := by
  rw [Bool.eq_iff_iff]
  unfold lastOK eachOK
  simp only [Bool.or_eq_true, decide_eq_true_eq, List.all_eq_true]
  constructor
  · intro h p hp
    cases hq : (p.k == 1 && decide ((n : Int) ≤ p.n))
    · rfl
    · exfalso
      simp only [Bool.and_eq_true, beq_iff_eq, decide_eq_true_eq] at hq
      obtain ⟨i, hi, rfl⟩ := List.mem_iff_getElem.1 hp
      have hgi := hg i hi
      rw [show ps.getD i default = ps[i] by simp [List.getD, hi]] at hgi
      have hr := (good_num _ _ hgi).2 hq.1
      have hm : ps[i].n ∈ mayR ps := by
        rw [mem_mayR]
        refine ⟨ps[i].n.toNat, by omega, ?_, by omega⟩
        unfold hasNode
        rw [List.any_eq_true]
        exact ⟨ps[i], hp, by simp [hq.1]; omega⟩
      rcases h with h | h
      · rw [List.eq_nil_of_length_eq_zero h] at hm; cases hm
      · have := le_last _ (mayR_sorted ps) _ hm
        omega
  · intro h
    by_cases h0 : (mayR ps).length = 0
    · exact .inl h0
    · right
      have hl : (mayR ps).length - 1 < (mayR ps).length := by omega
      have hm : (mayR ps).getD ((mayR ps).length - 1) 0 ∈ mayR ps := by simp [List.getD, hl]
      generalize (mayR ps).getD ((mayR ps).length - 1) 0 = x at *
      rw [mem_mayR] at hm
      obtain ⟨m, hm1, hm2, rfl⟩ := hm
      unfold hasNode at hm2
      rw [List.any_eq_true] at hm2
      obtain ⟨p, hp, hpp⟩ := hm2
      have := h p hp
      simp only [Bool.and_eq_true, beq_iff_eq] at hpp
      rw [hpp.1, hpp.2] at this
      simp at this
      omega

theorem canEv_val (ps : List Pt) (vs : List Int) (hv : validF ps = true) : valOK ps vs = canEv ps vs := by
  unfold valOK canEv
  rw [hv, last_each ps vs.length (validF_good ps hv).1]
  cases allR vs 0 999 <;> cases decide (vs.length ≤ 10) <;> simp

theorem allR_VOK (vs : List Int) (h : allR vs 0 999 = true) : VOK vs := by
  intro j hj
  unfold allR at h
  rw [List.all_eq_true] at h
  have := h (vs.getD j 0) (by simp [List.getD, hj])
  simpa [rng] using this

theorem canEv_parts (ps : List Pt) (vs : List Int) (h : canEv ps vs = true) : validF ps = true ∧ VOK vs ∧ vs.length ≤ 10 ∧ eachOK ps vs.length = true := by
  unfold canEv at h
  simp only [Bool.and_eq_true, decide_eq_true_eq] at h
  exact ⟨h.1, allR_VOK vs h.2.1.2, h.2.1.1, h.2.2⟩

/-- The whole of a formula as a term. -/
def whole (ps : List Pt) : Tm := tmAt ps ps.length (ps.length - 1)

set_option maxHeartbeats 800000 in
theorem spec_run (A A' : Option Addr) (n c m c' : Nat) (ps : List Pt) (vs : List Int) (B : Nat) (hn : n = ps.length) (hm : m = vs.length) (hg : AllGood ps) (he : eachOK ps m = true) (hv : VOK vs) (h1 : 1 ≤ n) (h12 : n ≤ 12) (hs' : m ≤ 2000000) (w : World) (hB : B ≤ w.heap.size) (h : PS w B A ps) (h' : IS w B A' vs) :
    Calls Try.prog 76 #[.agg #[.slice A n c], .slice A' m c'] w fun e w' => RetVN w ((whole ps).ev vs) (firsts ((whole ps).rds vs)) e w' := by
  have hwh : whole ps = tmAt ps n (n - 1) := by rw [hn]; rfl
  have hln := rds_len ps vs n (n - 1)
  have h3n : 3 ^ n ≤ 531441 := Nat.pow_le_pow_right (by omega) (show n ≤ 12 from h12)
  rw [← hwh] at hln
  have HW := Lib.hid hwh
  have H := Lib.hid h
  have H' := Lib.hid h'
  have HR := Lib.hid (fun (k : Nat) (hk : n = k + 1) (w : World) => spec_reckoned A A' n c m c' ps vs B hn hm hg he hv (by omega) hs' n h12 k w (by omega) (by omega))
  obtain ⟨k, rfl⟩ : ∃ k, n = k + 1 := ⟨n - 1, by omega⟩
  have HK := Lib.hid (HR.out k rfl)
  clear h h' hn hm hg he hv hwh HR
  rw [show tmAt ps (k + 1) k = whole ps from by have := HW.out; simpa using this.symm] at HK
  generalize hwe : whole ps = t at *
  clear HW hwe
  go_enter Try.func76, Try.ntmps76
  go_wp2_with fail
  refine (HK.out _ (by simp; omega) (H.out.alloc hB _) (H'.out.alloc hB _)).mono ?_
  rintro e w1 ⟨v, rfl, hown, hb⟩
  obtain ⟨g, d, rfl, hg1, hg2⟩ := hown.form
  have HI := Lib.hid (IS.of_own hown.1)
  generalize hl : (t.rds vs).length = l at *
  have HL := Lib.hid hl.symm
  clear hown hl
  go_wp2_with fail
  refine (spec_firstOnly _ _ _ _ _ w1.heap.size (Nat.le_refl _) HL.out HI.out (by omega)).mono ?_
  rintro e w2 ⟨v2, rfl, hown2, hb2⟩
  have hw1 : w.heap.size ≤ w1.heap.size := by have := hb.size; simp at this; omega
  go_wp2
  go_ret2
  exact ⟨v2, by simp, ⟨own_mono hown2.1 hw1, hown2.2⟩, ((Below.refl _ _).alloc (Nat.le_refl _) _).trans ((hb.trans (hb2.mono hb.size)).mono (by simp))⟩

/-- What ValueOf answers. -/
def valF (ps : List Pt) (vs : List Int) : Int := if canEv ps vs then (whole ps).ev vs else 0

end Go.Proofs.Ytgclikdienlhdaa

/- impl.ValueOf. -/
namespace Go.Proofs.Ytgclikdienlhdaa
set_option linter.unusedSimpArgs false
set_option linter.unusedVariables false
open Go.RowKit

theorem grown_of_below {w w' : World} (h : Below w.heap.size w w') (row : Option Nat) : w.grownBy w' row :=
  ⟨h.os, h.tape, h.output, h.size, fun k hk _ => h.block k hk⟩

set_option maxHeartbeats 400000 in
theorem look_value (A' : Option Addr) (m c' g q : Nat) (vs : List Int) (w : World) (B : Nat) (hm : m = vs.length) (hs' : m ≤ 2000000) (hq : q < vs.length) (hc : w.cell? ⟨g, 0, none⟩ = some (.slice A' m c')) (h : IS w B A' vs) :
    Calls Try.prog 69 #[.int .i64 q, .pointer (some ⟨g, 0, none⟩)] w fun e w' => e = .returned (.int .i64 (vs.getD q 0)) ∧ w = w' := by
  obtain ⟨b, off, rfl, hb, hcc⟩ := h (by omega)
  have hx := hcc q hq
  have hqm : q < m := by omega
  generalize vs.getD q 0 = x at *
  clear hcc h hm hq
  go_enter Try.func69, Try.ntmps69
  go_wp2
  go_ret
  exact ⟨rfl, rfl⟩

set_option maxHeartbeats 800000 in
theorem impl_ValueOf (A A' : Option Addr) (n c m c' : Nat) (ps : List Pt) (vs : List Int) (B : Nat) (hn : n = ps.length) (hm : m = vs.length) (hs : n ≤ 1999999) (hs' : m ≤ 2000000) (w : World) (hB : B ≤ w.heap.size) (h : PS w B A ps) (h' : IS w B A' vs) :
    Calls Try.prog 40 #[.agg #[.slice A n c], .slice A' m c'] w fun e w' => e = .returned (.tuple #[.int .i64 (valF ps vs), .bool (canEv ps vs)]) ∧ Below w.heap.size w w' := by
  have H := Lib.hid h
  have HN := Lib.hid hn
  have H' := Lib.hid h'
  have HM := Lib.hid hm
  clear hn h hm h'
  cases hc : canEv ps vs
  · have hr : valF ps vs = 0 := by simp [valF, hc]
    rw [hr]
    have HC := Lib.hid hc
    clear hr hc
    go_enter Try.func40, Try.ntmps40
    go_wp2_with fail
    refine (impl_canEvaluate _ _ _ _ _ _ ps vs _ B (by simp; omega) HN.out HM.out ((H.out.alloc hB _).alloc (by simp; omega) _) ((H'.out.alloc hB _).alloc (by simp; omega) _) (by omega) hs').mono ?_
    rintro e w1 ⟨rfl, hb⟩
    rw [HC.out]
    go_wp2
    go_ret2
    exact ⟨rfl, (((Below.refl _ _).alloc (Nat.le_refl _) _).alloc (by simp) _).trans (hb.mono (by simp; omega))⟩
  · have hr : valF ps vs = (whole ps).ev vs := by simp [valF, hc]
    rw [hr]
    obtain ⟨hv, hvo, hm10, hea⟩ := canEv_parts ps vs hc
    obtain ⟨hg, h1, h12⟩ := validF_good ps hv
    have hok : (whole ps).ok vs.length := tmAt_ok ps vs.length hg hea ps.length (ps.length - 1) (by omega) (by omega)
    have HWH := Lib.hid (fun (w : World) => impl_wholeOf A n c ps B HN.out hg (by omega) (by have := HN.out; omega) w)
    rw [show tmAt ps n (n - 1) = whole ps by rw [HN.out]; rfl] at HWH
    have HC := Lib.hid hc
    have HVO := Lib.hid hvo
    have HOK := Lib.hid hok
    clear hr hc hv hvo hea hg h1 h12 hok
    generalize whole ps = t at *
    go_enter Try.func40, Try.ntmps40
    go_wp2_with fail
    refine (impl_canEvaluate _ _ _ _ _ _ ps vs _ B (by simp; omega) HN.out HM.out ((H.out.alloc hB _).alloc (by simp; omega) _) ((H'.out.alloc hB _).alloc (by simp; omega) _) (by omega) hs').mono ?_
    rintro e w1 ⟨rfl, hb⟩
    rw [HC.out]
    have hz : w.heap.size + 1 + 1 ≤ w1.heap.size := by have := hb.size; simpa using this
    have hbox : w1.cell? ⟨w.heap.size, 0, none⟩ = some (.slice A n c) := (hb.cell (p := ⟨w.heap.size, 0, none⟩) (by simp; omega)).trans (by go_simp)
    have hbox2 : w1.cell? ⟨w.heap.size + 1, 0, none⟩ = some (.slice A' m c') := (hb.cell (p := ⟨w.heap.size + 1, 0, none⟩) (by simp)).trans (by go_simp)
    have HP1 := Lib.hid (((H.out.alloc hB (.cells #[.slice A n c] 53)).alloc (by simp; omega) (.cells #[.slice A' m c'] 26)).below hb (by simp; omega))
    have HI1 := Lib.hid (((H'.out.alloc hB (.cells #[.slice A n c] 53)).alloc (by simp; omega) (.cells #[.slice A' m c'] 26)).below hb (by simp; omega))
    have hB1 : Below w.heap.size w w1 := (((Below.refl _ _).alloc (Nat.le_refl _) _).alloc (by simp) _).trans (hb.mono (by simp; omega))
    clear hb
    go_wp2_with fail
    refine (HWH.out _ (by omega) HP1.out).mono ?_
    rintro e w2 ⟨T, x, rfl, hT, hb2⟩
    have HT := Lib.hid hT
    clear hT
    have hz2 : w.heap.size + 1 + 1 ≤ w2.heap.size := by have := hb2.size; omega
    have hbox3 : w2.cell? ⟨w.heap.size + 1, 0, none⟩ = some (.slice A' m c') := (hb2.cell (p := ⟨w.heap.size + 1, 0, none⟩) (by show w.heap.size + 1 < w1.heap.size; omega)).trans hbox2
    have HI2 := Lib.hid (HI1.out.below hb2 (by omega))
    have hB2 : Below w.heap.size w w2 := hB1.trans (hb2.mono (by omega))
    have HEV := Lib.hid (impl_evaluate1 69 (.pointer (some ⟨w.heap.size + 1, 0, none⟩)) vs HVO.out (fun _ _ => False) (fun _ w' => Below w2.heap.size w2 w')
      (fun acc w' k h hf => hf.elim) (fun acc wa wb h1 h2 => ⟨h1.trans (h2.mono h1.size), fun k hf => hf⟩) (fun q w => by kernel_rfl)
      (fun q acc wa hq h1 => (look_value A' m c' (w.heap.size + 1) q vs wa B HM.out hs' hq ((h1.cell (p := ⟨w.heap.size + 1, 0, none⟩) (by show w.heap.size + 1 < w2.heap.size; omega)).trans hbox3) (HI2.out.below h1 (by omega))).mono
        fun e wb ⟨he, hw⟩ => ⟨he, by rw [← hw]; exact h1, by rw [← hw]; exact Fr.of_below (Below.refl _ _) fun k hf => hf⟩) t)
    clear hb2
    go_wp2_with fail
    rw [← HT.out]
    refine (HEV.out [] _ HOK.out (Below.refl _ _)).mono ?_
    rintro e w3 ⟨rfl, hb3, _⟩
    go_wp2
    go_ret2
    exact ⟨by simp, hB2.trans (hb3.mono (by omega))⟩
end Go.Proofs.Ytgclikdienlhdaa

/- MayRead and ReadsOf: both sides; ReadsWhole. -/
namespace Go.Proofs.Ytgclikdienlhdaa
set_option linter.unusedSimpArgs false
set_option linter.unusedVariables false
open Go.RowKit

/-- What MayRead answers. -/
def mayF (ps : List Pt) : List Int := if validF ps then mayR ps else []

/-- Ten marks: which nodes the first parts have. -/
def Mrk10 (w : World) (g : Nat) (ps : List Pt) : Prop :=
  g < w.heap.size ∧ ∀ t : Nat, t < 10 → w.cell? ⟨g, t, none⟩ = some (.bool (hasNode ps t)) ∧ w.frozen? ⟨g, t, none⟩ = false

theorem Mrk10.below {w w' : World} {g : Nat} {ps : List Pt} (h : Mrk10 w g ps) (hb : Below w.heap.size w w') : Mrk10 w' g ps :=
  ⟨Nat.lt_of_lt_of_le h.1 hb.size, fun t ht => ⟨(hb.cell (p := ⟨g, t, none⟩) h.1).trans (h.2 t ht).1, (hb.frozen (p := ⟨g, t, none⟩) h.1).trans (h.2 t ht).2⟩⟩

theorem hasNode_append (ps : List Pt) (p : Pt) (t : Nat) : hasNode (ps ++ [p]) t = (hasNode ps t || (p.k == 1 && p.n == (t : Int))) := by
  simp [hasNode, List.any_append]

theorem Mrk10.keep {w : World} {g : Nat} {ps : List Pt} {p : Pt} (h : Mrk10 w g ps) (hp : (p.k == 1) = false) : Mrk10 w g (ps ++ [p]) :=
  ⟨h.1, fun t ht => by rw [hasNode_append, hp]; simpa using h.2 t ht⟩

theorem Mrk10.set {w : World} {g : Nat} {ps : List Pt} {p : Pt} (h : Mrk10 w g ps) (q : Nat) (hq : q < 10) (hk : (p.k == 1) = true) (hn : p.n = (q : Int)) : Mrk10 (w.setCell ⟨g, q, none⟩ (.bool true)) g (ps ++ [p]) := by
  refine ⟨by simpa [World.setCell] using h.1, fun j hj => ?_⟩
  obtain ⟨h1, h2⟩ := h.2 j hj
  rw [hasNode_append, hk, hn]
  by_cases e : j = q
  · subst e
    refine ⟨?_, by simpa using h2⟩
    rw [World.cell?_setCell_same _ _ _ h1]; simp
  · refine ⟨?_, by simpa using h2⟩
    rw [World.cell?_setCell_other _ _ _ _ (by intro e'; simp at e'; try omega), h1]
    have : ((q : Int) == (j : Int)) = false := by simp; omega
    simp [this]

theorem mayR_below (ps : List Pt) : (((List.range 10).filter (hasNode ps)).map fun m : Nat => (m : Int)) = mayR ps := rfl

set_option maxRecDepth 100000 in
set_option maxHeartbeats 1600000 in
theorem impl_MayRead (A : Option Addr) (n c : Nat) (ps : List Pt) (w : World) (B : Nat) (hB : B ≤ w.heap.size) (hn : n = ps.length) (h : PS w B A ps) (hs : n ≤ 1999999) :
    Calls Try.prog 93 #[.agg #[.slice A n c]] w fun e w' => RetI w (mayF ps) e w' := by
  obtain ⟨i0, hi, hz0, hz1, hz2⟩ := info_parts info_int
  have H := Lib.hid h
  have HN := Lib.hid hn
  clear h hn
  cases hv : validF ps
  · have hd : mayF ps = [] := by simp [mayF, hv]
    rw [hd]
    have HV := Lib.hid hv
    clear hd hv
    go_enter Try.func93, Try.ntmps93
    go_wp2_with fail
    refine (impl_ValidFormula _ _ _ ps _ B (by simp; omega) HN.out (H.out.alloc hB _) (by omega)).mono ?_
    rintro e w1 ⟨rfl, hb⟩
    rw [HV.out]
    go_wp2
    go_ret
    exact ⟨_, rfl, World.ownsRow_nil _ _ _ _, ((Below.refl _ _).alloc (Nat.le_refl _) _).trans (hb.mono (by simp))⟩
  · have hd : mayF ps = mayR ps := by simp [mayF, hv]
    rw [hd]
    obtain ⟨hg, h1, h12⟩ := validF_good ps hv
    have HV := Lib.hid hv
    have HG := Lib.hid hg
    clear hd hv hg h1 h12
    go_enter Try.func93, Try.ntmps93
    go_wp2_with fail
    refine (impl_ValidFormula _ _ _ ps _ B (by simp; omega) HN.out (H.out.alloc hB _) (by omega)).mono ?_
    rintro e w1 ⟨rfl, hb⟩
    rw [HV.out]
    have hbox : w1.cell? ⟨w.heap.size, 0, none⟩ = some (.slice A n c) := (hb.cell (p := ⟨w.heap.size, 0, none⟩) (by simp)).trans (by go_simp)
    have HW := Lib.hid ((H.out.alloc hB _).below hb (by simp; omega))
    have hw1 : w.heap.size + 1 ≤ w1.heap.size := by have := hb.size; simpa using this
    have hB1 : Below w.heap.size w w1 := ((Below.refl _ _).alloc (Nat.le_refl _) _).trans (hb.mono (by simp))
    have hws : w.heap.size < w1.heap.size := by omega
    clear hb H
    go_wp2
    go_loopw [14] (fun i wr => ∃ k : Nat, k ≤ n ∧ i = .int .i64 k ∧ Hid (Mrk10 wr w1.heap.size (ps.take k)) ∧ Hid (Below w1.heap.size w1 wr)) (fun i _ => n - (intOf i).toNat)
    case atStart =>
      refine ⟨0, Nat.zero_le _, rfl, ⟨by simp, fun t ht => ?_⟩, below_new w1 _⟩
      have ht' : t = 0 ∨ t = 1 ∨ t = 2 ∨ t = 3 ∨ t = 4 ∨ t = 5 ∨ t = 6 ∨ t = 7 ∨ t = 8 ∨ t = 9 := by omega
      rcases ht' with rfl | rfl | rfl | rfl | rfl | rfl | rfl | rfl | rfl | rfl <;> exact ⟨by go_simp; rfl, by go_simp⟩
    case round =>
      obtain ⟨k, hk, rfl, HM, HB⟩ := hrel
      have hwr : w1.heap.size < wr.heap.size := HM.out.1
      by_cases hlt : k < n
      · obtain ⟨b, off, rfl, hbB, hc⟩ := HW.out (by have := HN.out; omega)
        obtain ⟨c0, c1, c2, c3, c4⟩ := hc k (by have := HN.out; omega)
        clear hc
        have hbw : b < w1.heap.size := by omega
        have b0 := (HB.out.cell (p := ⟨b, off + k * 5, none⟩) hbw).trans c0
        have b1 := (HB.out.cell (p := ⟨b, off + k * 5 + 1, none⟩) hbw).trans c1
        have b2 := (HB.out.cell (p := ⟨b, off + k * 5 + 2, none⟩) hbw).trans c2
        have b3 := (HB.out.cell (p := ⟨b, off + k * 5 + 3, none⟩) hbw).trans c3
        have b4 := (HB.out.cell (p := ⟨b, off + k * 5 + 4, none⟩) hbw).trans c4
        clear c0 c1 c2 c3 c4
        have hgk := HG.out k (by have := HN.out; omega)
        have HTS := Lib.hid (take_succ_getD ps k (by have := HN.out; omega))
        generalize ps.getD k default = p at *
        cases h1 : (p.k == 1)
        · have H1 := Lib.hid h1
          go_wp2
          go_roundw
          case rel => exact ⟨k + 1, by omega, by go_num, by rw [HTS.out]; exact (HM.out.below (below_new wr _)).keep H1.out, HB.out.alloc (by omega) _⟩
          case measure => simp [intOf]; omega
        · obtain ⟨q, hq⟩ : ∃ q : Nat, p.n = (q : Int) := by
            have := (good_num p k hgk).2 (by simpa using h1)
            exact ⟨p.n.toNat, by omega⟩
          have hq10 : q < 10 := by
            have := (good_num p k hgk).2 (by simpa using h1)
            omega
          have HMa := Lib.hid (HM.out.below (below_new wr (.cells #[.int .i64 p.k, .int .i64 p.a, .int .i64 p.b, .int .i64 p.c, .int .i64 p.n] 105)))
          rw [hq] at b4 HMa
          obtain ⟨hm1, hm2⟩ := HMa.out.2 q hq10
          have H1 := Lib.hid h1
          have HQ := Lib.hid hq
          clear hgk hq
          go_wp2
          go_roundw
          case rel => exact ⟨k + 1, by omega, by go_num, by rw [HTS.out]; exact (HM.out.set q hq10 H1.out HQ.out).below (below_new _ _), (HB.out.setCell (p := ⟨w1.heap.size, q, none⟩) (Nat.le_refl _) _).alloc (by simp [World.setCell]; omega) _⟩
          case measure => simp [intOf]; omega
      · obtain rfl : k = n := by omega
        rw [List.take_of_length_le (by have := HN.out; omega)] at HM
        clear hlt hk
        go_wp2
        go_loopw [6, 25] (fun v i wi => ∃ m : Nat, m ≤ 10 ∧ i = .int .i64 m ∧ Hid (OwnI wi (w1.heap.size + 1) v (((List.range m).filter (hasNode ps)).map fun m : Nat => (m : Int))) ∧ Hid (Below (w1.heap.size + 1) wr wi)) (fun _ i _ => 10 - (intOf i).toNat)
        case atStart => exact ⟨0, by omega, rfl, World.ownsRow_nil _ _ _ _, Below.refl _ _⟩
        case round =>
          obtain ⟨m, hm, rfl, HO, HBi⟩ := hrel
          by_cases hm10 : m < 10
          · have hc := (HBi.out.cell (p := ⟨w1.heap.size, m, none⟩) (by simp)).trans (HM.out.2 m hm10).1
            have HST := Lib.hid (mayR_step ps m)
            have hml := mayR_len ps m
            generalize hF : (((List.range m).filter (hasNode ps)).map fun m : Nat => (m : Int)) = F at *
            clear hF
            cases hh : hasNode ps m
            · rw [hh] at hc
              have HH := Lib.hid hh
              clear hh
              go_wp2
              go_roundw
              case rel => exact ⟨m + 1, by omega, by go_num, by rw [HST.out, HH.out]; simpa [Hid] using HO.out, HBi.out⟩
              case measure => simp [intOf]; omega
            · rw [hh] at hc
              have HH := Lib.hid hh
              clear hh
              obtain ⟨wi, hwi⟩ : ∃ wi : World, wi = wr := ⟨_, rfl⟩
              have hsz : w1.heap.size + 1 ≤ wi.heap.size := by have := HBi.out.size; rw [hwi]; omega
              rw [hwi] at hsz
              clear hwi
              go_wp2_with (at_builtin; refine wpList_append_own _ rfl _ _ 26 rfl (w1.heap.size + 1) 3 i0 (.int .i64 0) 1 8 Try.underlying26 hi hz0 hz1 hz2 rfl (by decide) _ _ _ rfl (HO.out.alloc _) ⟨_, 0, none⟩ 1 1 [.int .i64 m] rfl rfl (cell_one_new _ _ _) ?c2 ?c3 ?c4 ?c5 ?_)
              case c2 => intro u hu; simp at hu; subst hu; rfl
              case c3 => unfold maxLen; omega
              case c4 => omega
              case c5 => simp; omega
              intro v' w3 hown' hgrow _
              have hpos := (HO.out.alloc (.cells #[.int .i64 m] 3)).lt
              have HO' : Hid (OwnI w3 (w1.heap.size + 1) v' (((List.range (m + 1)).filter (hasNode ps)).map fun m : Nat => (m : Int))) := by
                rw [HST.out, HH.out]
                simpa [OwnI, Hid] using hown'
              have HB' := Lib.hid ((HBi.out.alloc hsz (.cells #[.int .i64 m] 3)).grown hgrow (by simp; omega) (fun q hq => (hpos q hq).1))
              clear hown' hgrow hpos
              go_wp2
              go_roundw
              case rel => exact ⟨m + 1, by omega, by go_num, HO'.out, HB'.out⟩
              case measure => simp [intOf]; omega
          · obtain rfl : m = 10 := by omega
            rw [mayR_below] at HO
            go_wp2
            go_ret
            exact ⟨_, rfl, own_mono HO.out (by omega), hB1.trans ((HB.out.trans (HBi.out.mono (by omega))).mono (by omega))⟩

set_option maxHeartbeats 400000 in
theorem slices_Index (A : Option Addr) (n c : Nat) (xs : List Int) (x : Int) (w : World) (B : Nat) (hB : B ≤ w.heap.size) (hn : n = xs.length) (h : IS w B A xs) (hs : n ≤ 2000000) :
    Calls Try.prog 82 #[.slice A n c, .int .i64 x] w fun e w' => e = .returned (.int .i64 (plc xs x)) ∧ w = w' := by
  have H := Lib.hid h
  have HN := Lib.hid hn
  clear hn h
  go_enter Try.func82, Try.ntmps82
  go_wp2
  go_loop [8] (fun i => ∃ k : Nat, k ≤ n ∧ i = .int .i64 k ∧ Hid (∀ j, j < k → xs.getD j 0 ≠ x)) (fun i => n - (intOf i).toNat)
  case atStart => exact ⟨0, Nat.zero_le _, rfl, fun j hj => by omega⟩
  case round =>
    obtain ⟨k, hk, rfl, HA⟩ := hrel
    by_cases hlt : k < n
    · obtain ⟨b, off, rfl, hbB, hc⟩ := H.out (by have := HN.out; omega)
      have c0 := hc k (by have := HN.out; omega)
      clear hc H
      generalize hp : xs.getD k 0 = p at *
      have HP := Lib.hid hp
      clear hp
      cases hr : (x == p)
      · have HR := Lib.hid hr
        go_wp2
        go_round
        case rel => exact ⟨k + 1, by omega, by go_num, fun j hj => by
          rcases Nat.lt_or_ge j k with h1 | h1
          · exact HA.out j h1
          · obtain rfl : j = k := by omega
            rw [HP.out]; intro e; have := HR.out; rw [e] at this; simp at this⟩
        case measure => simp [intOf]; omega
      · have HR := Lib.hid hr
        go_wp2
        go_ret
        refine ⟨ret_i ?_, rfl⟩
        exact (plc_at xs x k (by have := HN.out; omega) (by rw [HP.out]; have := HR.out; simp at this; exact this.symm) HA.out).symm
    · go_wp2
      go_ret
      refine ⟨ret_i ?_, rfl⟩
      exact (plc_none xs x fun j hj => HA.out j (by have := HN.out; omega)).symm

theorem plc_ge (l : List Int) (x : Int) : decide (0 ≤ plc l x) = decide (x ∈ l) := by
  unfold plc
  by_cases h : x ∈ l
  · simp [h]
  · simp [h]

set_option maxHeartbeats 400000 in
theorem slices_Contains (A : Option Addr) (n c : Nat) (xs : List Int) (x : Int) (w : World) (B : Nat) (hB : B ≤ w.heap.size) (hn : n = xs.length) (h : IS w B A xs) (hs : n ≤ 2000000) :
    Calls Try.prog 52 #[.slice A n c, .int .i64 x] w fun e w' => e = .returned (.bool (decide (x ∈ xs))) ∧ w = w' := by
  have H := Lib.hid h
  have HN := Lib.hid hn
  have HP := Lib.hid (plc_ge xs x)
  clear hn h
  go_enter Try.func52, Try.ntmps52
  go_wp2_with fail
  refine (slices_Index A n c xs x _ B hB HN.out H.out hs).mono ?_
  rintro e w' ⟨rfl, rfl⟩
  go_wp2
  all_goals
    go_ret
    exact ⟨ret_b (by rw [← HP.out]; try simp), rfl⟩

/-- The footprint of the closure of ReadsOf: the variable's block, and the row that it holds. -/
def footR (g : Nat) (w : World) (k : Nat) : Prop := k = g ∨ ∃ v, w.cell? ⟨g, 0, none⟩ = some v ∧ v.ownBlock = some k

/-- What the closure of ReadsOf keeps: the variable holds the first ones of what was read; all below it is as it was. -/
structure IR (g : Nat) (W : World) (acc : List Int) (w : World) : Prop where
  bel : Below g W w
  lt : g < w.heap.size
  free : w.frozen? ⟨g, 0, none⟩ = false
  cell : ∃ v, w.cell? ⟨g, 0, none⟩ = some v ∧ OwnI w (g + 1) v (firsts acc)

theorem IR.step {g : Nat} {W w w' : World} {acc : List Int} (h : IR g W acc w) (hb : Below w.heap.size w w') : IR g W acc w' := by
  obtain ⟨v, hv, ho⟩ := h.cell
  exact ⟨h.bel.trans (hb.mono (Nat.le_of_lt h.lt)), Nat.lt_of_lt_of_le h.lt hb.size, (hb.frozen (p := ⟨g, 0, none⟩) h.lt).trans h.free, v, (hb.cell (p := ⟨g, 0, none⟩) h.lt).trans hv, own_below ho hb⟩

theorem IR.foot_lt {g : Nat} {W w : World} {acc : List Int} (h : IR g W acc w) (k : Nat) (hf : footR g w k) : k < w.heap.size := by
  rcases hf with rfl | ⟨v, hv, hk⟩
  · exact h.lt
  · obtain ⟨v', hv', ho⟩ := h.cell
    rw [hv] at hv'
    cases hv'
    exact (ho.lt k hk).2

theorem IR.foot_step {g : Nat} {W w w' : World} {acc : List Int} (h : IR g W acc w) (hb : Below w.heap.size w w') (k : Nat) (hf : footR g w' k) : footR g w k := by
  rcases hf with rfl | ⟨v, hv, hk⟩
  · exact .inl rfl
  · exact .inr ⟨v, by rw [← hb.cell (p := ⟨g, 0, none⟩) h.lt]; exact hv, hk⟩

theorem firsts_snoc (acc : List Int) (x : Int) : firsts (acc ++ [x]) = if x ∈ firsts acc then firsts acc else firsts acc ++ [x] := by
  unfold firsts
  rw [List.foldl_append]
  rfl

set_option maxRecDepth 100000 in
set_option maxHeartbeats 1600000 in
theorem look_read (A' : Option Addr) (m c' g gv q : Nat) (vs acc : List Int) (W w : World) (B : Nat) (hm : m = vs.length) (hs' : m ≤ 2000000) (hq : q < vs.length) (hgv : gv < g) (hBg : B ≤ g) (hc : W.cell? ⟨gv, 0, none⟩ = some (.slice A' m c')) (h : IS W B A' vs) (hI : IR g W acc w) (hac : (firsts acc).length ≤ 1000000) :
    Calls Try.prog 72 #[.int .i64 q, .pointer (some ⟨g, 0, none⟩), .pointer (some ⟨gv, 0, none⟩)] w fun e w' => e = .returned (.int .i64 (vs.getD q 0)) ∧ IR g W (acc ++ [(q : Int)]) w' ∧ Fr (footR g) w w' := by
  obtain ⟨i0, hi, hz0, hz1, hz2⟩ := info_parts info_int
  obtain ⟨b, off, rfl, hb, hcc⟩ := h (by omega)
  have hx := (hI.bel.cell (p := ⟨b, off + q, none⟩) (by show b < g; omega)).trans (hcc q hq)
  have hcv := (hI.bel.cell (p := ⟨gv, 0, none⟩) hgv).trans hc
  have hqm : q < m := by omega
  generalize vs.getD q 0 = x at *
  obtain ⟨v, hv, ho⟩ := hI.cell
  obtain ⟨A3, c3, rfl, hIS⟩ := ho.form
  have hgw := hI.lt
  have hfz := hI.free
  have HII := Lib.hid hI
  have HO := Lib.hid ho
  have HIS := Lib.hid hIS
  have hFS := firsts_snoc acc q
  clear hcc h hm hq hc hI ho hIS
  generalize hF : firsts acc = F at *
  have HF := Lib.hid hF
  have HFS := Lib.hid hFS
  clear hF hFS
  generalize hl : F.length = l at *
  have HL := Lib.hid hl
  clear hl
  cases hin : decide ((q : Int) ∈ F)
  · have HIN := Lib.hid hin
    clear hin
    go_enter Try.func72, Try.ntmps72
    go_wp2_with fail
    refine (slices_Contains A3 l c3 F q _ _ (Nat.le_refl _) HL.out.symm HIS.out (by omega)).mono ?_
    rintro e w' ⟨rfl, rfl⟩
    rw [HIN.out]
    go_wp2_with (at_builtin; refine wpList_append_own_at _ rfl _ _ 26 rfl (g + 1) 3 i0 (.int .i64 0) 1 8 Try.underlying26 hi hz0 hz1 hz2 rfl (by decide) _ _ _ rfl (by have := HO.out.alloc (.cells #[.int .i64 q] 3); rw [HL.out] at this; exact this) ⟨w.heap.size, 0, none⟩ 1 1 [.int .i64 q] rfl rfl (cell_one_new _ _ _) ?c2 ?c3 ?c4 ?c5 ?_)
    case c2 => intro u hu; simp at hu; subst hu; rfl
    case c3 => unfold maxLen; omega
    case c4 => omega
    case c5 => simp; omega
    intro v' w3 hown' hgrow _ hwhere
    have hol := HO.out.lt
    obtain ⟨A4, c4, rfl⟩ := own_form hown'
    have hng : ∀ j, j ≤ g → some j ≠ (Value.slice A3 l c3).ownBlock := fun j hj e => by have := (hol j e.symm).1; omega
    have hga : ∀ j, j ≤ g → (w.alloc (.cells #[.int .i64 q] 3)).heap[j]? = w.heap[j]? := fun j hj => Below.heap_alloc w _ j (by omega)
    have hw3 : ∀ j, j ≤ g → w3.heap[j]? = w.heap[j]? := fun j hj => (hgrow.block j (by simp; omega) (hng j hj)).trans (hga j hj)
    have hv3 : w3.cell? ⟨g, 0, none⟩ = some (.slice A3 l c3) := (World.cell?_of_block (a := ⟨g, 0, none⟩) (hw3 g (Nat.le_refl _))).trans hv
    have hf3 : w3.frozen? ⟨g, 0, none⟩ = false := (World.frozen?_of_block (a := ⟨g, 0, none⟩) (hw3 g (Nat.le_refl _))).trans hfz
    have hcv3 : w3.cell? ⟨gv, 0, none⟩ = some (.slice (some ⟨b, off, none⟩) m c') := (World.cell?_of_block (a := ⟨gv, 0, none⟩) (hw3 gv (Nat.le_of_lt hgv))).trans hcv
    have hx3 : w3.cell? ⟨b, off + q, none⟩ = some (.int .i64 x) := (World.cell?_of_block (a := ⟨b, off + q, none⟩) (hw3 b (by omega))).trans hx
    have hbg : b ≠ g := by omega
    have hgvg : gv ≠ g := by omega
    have hcv4 := (World.cell?_setCell_other (w := w3) (a := ⟨g, 0, none⟩) (b := ⟨gv, 0, none⟩) (.slice A4 (l + 1) c4) (by intro e; simp at e; try omega)).trans hcv3
    have hx4 := (World.cell?_setCell_other (w := w3) (a := ⟨g, 0, none⟩) (b := ⟨b, off + q, none⟩) (.slice A4 (l + 1) c4) (by intro e; simp at e; try omega)).trans hx3
    have HG := Lib.hid hgrow
    have HOW := Lib.hid hown'
    have HWH := Lib.hid hwhere
    have HW3 := Lib.hid hw3
    have HOL := Lib.hid hol
    have HNG := Lib.hid hng
    clear hgrow hown' hwhere hw3 hol hng hga hcv hx hfz
    go_wp2
    go_ret
    have hnin : ¬ (q : Int) ∈ F := of_decide_eq_false HIN.out
    have hsz : w.heap.size + 1 ≤ w3.heap.size := by have := HG.out.size; simpa using this
    refine ⟨rfl, ⟨?_, by simp [World.setCell]; omega, by simpa using hf3, .slice A4 (l + 1) c4, World.cell?_setCell_same _ _ _ hv3, ?_⟩, ⟨by simp [World.setCell]; omega, ?_, ?_⟩⟩
    · exact ((HII.out.bel.alloc (Nat.le_of_lt hgw) _).grown HG.out (by simp; omega) (fun k hk => by have := (HOL.out k hk).1; omega)).setCell (p := ⟨g, 0, none⟩) (Nat.le_refl _) _
    · rw [HFS.out, if_neg hnin]
      refine ownsRow_setCell_below ?_ (by simp) _
      have h1 := HOW.out
      rw [List.length_append, List.map_append, HL.out]
      exact h1
    · intro k hk hn
      have hkg : k ≠ g := fun e => hn (.inl e)
      have hko : some k ≠ (Value.slice A3 l c3).ownBlock := fun e => hn (.inr ⟨_, ‹w.cell? ⟨g, 0, none⟩ = some (.slice A3 l c3)›, e.symm⟩)
      rw [Below.heap_setCell _ _ _ _ hkg, HG.out.block k (by simp; omega) hko, Below.heap_alloc _ _ _ hk]
    · intro k hk
      rcases hk with rfl | ⟨v2, hv2, hk2⟩
      · exact .inl (.inl rfl)
      · rw [World.cell?_setCell_same _ _ _ hv3] at hv2
        cases hv2
        rcases HWH.out with h1 | h1
        · exact .inl (.inr ⟨_, ‹w.cell? ⟨g, 0, none⟩ = some (.slice A3 l c3)›, h1.symm.trans hk2⟩)
        · rw [h1] at hk2
          simp at hk2
          right; omega
  · have HIN := Lib.hid hin
    clear hin
    go_enter Try.func72, Try.ntmps72
    go_wp2_with fail
    refine (slices_Contains A3 l c3 F q _ _ (Nat.le_refl _) HL.out.symm HIS.out (by omega)).mono ?_
    rintro e w' ⟨rfl, rfl⟩
    rw [HIN.out]
    go_wp2
    go_ret
    refine ⟨rfl, ?_, Fr.of_below (Below.refl _ _) fun k hf => hf⟩
    have hmem : (q : Int) ∈ F := of_decide_eq_true HIN.out
    refine ⟨HII.out.bel, HII.out.lt, HII.out.free, ?_⟩
    rw [HFS.out, if_pos hmem, ← HF.out]
    exact HII.out.cell
end Go.Proofs.Ytgclikdienlhdaa

/- Parts in order: impl.appendParts, formulaOf; how a row grows from call to call. -/
namespace Go.Proofs.Ytgclikdienlhdaa
set_option linter.unusedSimpArgs false
set_option linter.unusedVariables false
open Go.RowKit

/-- From w to w' nothing that was there has turned but the block of v; v' lies in that block or in a new one. -/
def Gr (w : World) (v : Value) (w' : World) (v' : Value) : Prop := w.grownBy w' v.ownBlock ∧ (v'.ownBlock = v.ownBlock ∨ ∀ k, v'.ownBlock = some k → w.heap.size ≤ k)

theorem Gr.refl (w : World) (v : Value) : Gr w v w v := ⟨grown_refl _ _, .inl rfl⟩

theorem Gr.trans {w w1 w2 : World} {v v1 v2 : Value} (h : Gr w v w1 v1) (k : Gr w1 v1 w2 v2) : Gr w v w2 v2 := by
  refine ⟨⟨k.1.os.trans h.1.os, k.1.tape.trans h.1.tape, k.1.output.trans h.1.output, Nat.le_trans h.1.size k.1.size, fun i hi hr => ?_⟩, ?_⟩
  · have h1 := h.1.block i hi hr
    have h2 : some i ≠ v1.ownBlock := by
      rcases h.2 with e | e
      · rw [e]; exact hr
      · intro e'; have := e i e'.symm; omega
    exact (k.1.block i (Nat.lt_of_lt_of_le hi h.1.size) h2).trans h1
  · rcases k.2 with e | e
    · rw [e]; exact h.2
    · exact .inr fun i hi => Nat.le_trans h.1.size (e i hi)

theorem Gr.below {w w1 w2 : World} {v v1 : Value} (h : Gr w v w1 v1) (hb : Below w1.heap.size w1 w2) : Gr w v w2 v1 := h.trans ⟨grown_below hb _, .inl rfl⟩
theorem Gr.alloc {w w1 : World} {v v1 : Value} (h : Gr w v w1 v1) (o : Obj) : Gr w v (w1.alloc o) v1 := h.below (below_new w1 o)
theorem Gr.size {w w1 : World} {v v1 : Value} (h : Gr w v w1 v1) : w.heap.size ≤ w1.heap.size := h.1.size

/-- Two rows that do not lie in one block. -/
def Apart (v u : Value) : Prop := ∀ k, v.ownBlock = some k → u.ownBlock ≠ some k

theorem Apart.symm {v u : Value} (h : Apart v u) : Apart u v := fun k hk e => h k e hk

/-- What another row becomes. -/
theorem Gr.other {w w' : World} {v v' u : Value} {base n size : Nat} {e : TypeId} {xs : List Value} (h : Gr w v w' v') (ho : w.ownsRow base e size u n xs) (ha : Apart v u) : w'.ownsRow base e size u n xs ∧ Apart v' u := by
  refine ⟨ho.kept h.1 ?_, fun k hk e' => ?_⟩
  · cases hu : u.ownBlock with
    | none => exact .inl rfl
    | some k => right; intro e'; exact ha k e'.symm hu
  · rcases h.2 with e2 | e2
    · exact ha k (by rw [← e2]; exact hk) e'
    · have h1 := e2 k hk
      have h2 := (ho.lt k e').2
      omega

theorem Gr.bel {w w' : World} {v v' : Value} (h : Gr w v w' v') {B : Nat} (hB : ∀ k, v.ownBlock = some k → B ≤ k) (hs : B ≤ w.heap.size) : Below B w w' :=
  (Below.refl _ _).grown h.1 hs hB

theorem info_ints : (Try.prog.info? 3).map (fun i => (i.zero, i.size, i.bytes)) = some (some (.int .i64 0), 1, 8) := by kernel_rfl

/-- Returns a part. -/
def RetPt (w : World) (p : Pt) (e : Ending) (w' : World) : Prop := e = .returned (.agg #[.int .i64 p.k, .int .i64 p.a, .int .i64 p.b, .int .i64 p.c, .int .i64 p.n]) ∧ Below w.heap.size w w'

theorem cells_new (w : World) (cs : Array Value) (t : TypeId) (xs : List Value) (hx : cs.toList = xs) : ∀ j u, xs[j]? = some u → (w.alloc (.cells cs t)).cell? ((⟨w.heap.size, 0, none⟩ : Addr).add j) = some u := by
  subst hx
  intro j u hj
  have hadd : (⟨w.heap.size, 0, none⟩ : Addr).add j = ⟨w.heap.size, j, none⟩ := by unfold Addr.add; split <;> simp_all
  rw [hadd, cell_of_row _ w.heap.size j cs t (0, 0) (heap_alloc_new w _)]
  simpa using hj

/-- Returns a row of parts that has grown out of v. -/
def RetG (w : World) (v : Value) (base n : Nat) (ps : List Pt) (e : Ending) (w' : World) : Prop := ∃ v', e = .returned v' ∧ w'.ownsRow base 105 5 v' n (ps.flatMap Pt.cells) ∧ Gr w v w' v'

theorem Gr.elsewhere {w wr w' : World} {v0 v : Value} {row : Option Nat} (h : Gr w v0 wr v) (hg : wr.grownBy w' row) (hu : ∀ k, row = some k → w.heap.size ≤ k) : Gr w v0 w' v := by
  refine ⟨⟨hg.os.trans h.1.os, hg.tape.trans h.1.tape, hg.output.trans h.1.output, Nat.le_trans h.1.size hg.size, fun i hi hr => ?_⟩, h.2⟩
  have h1 := h.1.block i hi hr
  exact (hg.block i (Nat.lt_of_lt_of_le hi h.1.size) (fun e => by have := hu i e.symm; omega)).trans h1

theorem Gr.of_append {w w' : World} {v v' : Value} (h : w.grownBy w' v.ownBlock) (ha : v'.ownBlock = v.ownBlock ∨ v'.ownBlock = some w.heap.size) : Gr w v w' v' := by
  refine ⟨h, ?_⟩
  rcases ha with e | e
  · exact .inl e
  · right
    intro k hk
    rw [e] at hk
    cases hk
    exact Nat.le_refl _

/-- What holds at the head of the loop of appendParts. -/
structure LP (w : World) (v0 vk : Value) (base n L : Nat) (ps : List Pt) (ks : List Tm) (m nm : Nat) (v u : Value) (wr : World) : Prop where
  num : nm = n + ksize (ks.take m)
  row : wr.ownsRow base 105 5 v nm ((ps ++ kpost (ks.take m) n).flatMap Pt.cells)
  at_ : wr.ownsRow w.heap.size 3 1 u m ((kat (ks.take m) n).map (Value.int .i64))
  kids : wr.ownsRow w.heap.size 93 1 vk L (ks.map Tm.val)
  gr : Gr w v0 wr v
  avu : Apart v u
  avk : Apart v vk
  auk : Apart u vk

theorem take_succ_tm (ks : List Tm) (m : Nat) (h : m < ks.length) : ks.take (m + 1) = ks.take m ++ [ks.getD m default] := by
  rw [List.take_succ_eq_append_getElem h]; simp [List.getD, h]
end Go.Proofs.Ytgclikdienlhdaa

/- The drawing of formulas: goodFormula. -/
namespace Go.Proofs.Ytgclikdienlhdaa
set_option linter.unusedSimpArgs false
set_option linter.unusedVariables false
open Go.RowKit

theorem row_form' {w : World} {base n size : Nat} {e : TypeId} {v : Value} {xs : List Value} (h : w.ownsRow base e size v n xs) : ∃ A c, v = .slice A n c := by
  rcases h.2 with ⟨rfl, rfl⟩ | ⟨g, cap, cur, rfl, _⟩
  · exact ⟨none, 0, rfl⟩
  · exact ⟨some ⟨g, 0, none⟩, cap, rfl⟩
theorem row_pos {w : World} {base n size : Nat} {e : TypeId} {v : Value} {xs : List Value} (h : w.ownsRow base e size v n xs) (hn : 0 < n) : ∃ g cap, v = .slice (some ⟨g, 0, none⟩) n cap := by
  rcases h.2 with ⟨hv, h0⟩ | ⟨g, cap, cur, hv, _⟩
  · omega
  · exact ⟨g, cap, hv⟩

/-- A part in a box. -/
structure PB (b : Nat) (q : Pt) (w : World) : Prop where
  lt : b < w.heap.size
  c0 : w.cell? ⟨b, 0, none⟩ = some (.int .i64 q.k)
  c1 : w.cell? ⟨b, 1, none⟩ = some (.int .i64 q.a)
  c2 : w.cell? ⟨b, 2, none⟩ = some (.int .i64 q.b)
  c3 : w.cell? ⟨b, 3, none⟩ = some (.int .i64 q.c)
  c4 : w.cell? ⟨b, 4, none⟩ = some (.int .i64 q.n)
  fz : ∀ j, w.frozen? ⟨b, j, none⟩ = false
theorem PB.keep {b : Nat} {q : Pt} {w w' : World} (h : PB b q w) (hk : w'.heap[b]? = w.heap[b]?) (hs : w.heap.size ≤ w'.heap.size) : PB b q w' := by
  have c (j : Nat) : w'.cell? ⟨b, j, none⟩ = w.cell? ⟨b, j, none⟩ := World.cell?_of_block (a := ⟨b, j, none⟩) hk
  have f (j : Nat) : w'.frozen? ⟨b, j, none⟩ = w.frozen? ⟨b, j, none⟩ := World.frozen?_of_block (a := ⟨b, j, none⟩) hk
  exact ⟨Nat.lt_of_lt_of_le h.lt hs, (c 0).trans h.c0, (c 1).trans h.c1, (c 2).trans h.c2, (c 3).trans h.c3, (c 4).trans h.c4, fun j => (f j).trans (h.fz j)⟩
theorem PB.pick {g b : Nat} {q : Pt} {w w' : World} (h : PB b q w) (ht : Tch g (g + 1) w w') (hb : b ≠ g) : PB b q w' := h.keep (ht.block b h.lt (by omega)) ht.size
theorem PB.step {b : Nat} {q : Pt} {w w' : World} (h : PB b q w) (hb : Below w.heap.size w w') : PB b q w' := h.keep (hb.block b h.lt) hb.size
theorem PB.alloc {b : Nat} {q : Pt} {w : World} (h : PB b q w) (o : Obj) : PB b q (w.alloc o) := h.step ((Below.refl _ _).alloc (Nat.le_refl _) o)

theorem PB.grown {b : Nat} {q : Pt} {w w' : World} {row : Option Nat} (h : PB b q w) (hg : w.grownBy w' row) (hr : ∀ k, row = some k → k < b) : PB b q w' :=
  h.keep (hg.block b h.lt fun e => absurd (hr b e.symm) (Nat.lt_irrefl _)) hg.size
theorem PB.set5 {b : Nat} {q : Pt} {w : World} (h : PB b q w) (k a b' c' n' : Int) : PB b ⟨k, a, b', c', n'⟩ (((((w.setCell ⟨b, 0, none⟩ (.int .i64 k)).setCell ⟨b, 1, none⟩ (.int .i64 a)).setCell ⟨b, 2, none⟩ (.int .i64 b')).setCell ⟨b, 3, none⟩ (.int .i64 c')).setCell ⟨b, 4, none⟩ (.int .i64 n')) := by
  have o (w : World) (i j : Nat) (x : Value) (hij : i ≠ j) : (w.setCell ⟨b, i, none⟩ x).cell? ⟨b, j, none⟩ = w.cell? ⟨b, j, none⟩ := World.cell?_setCell_other _ _ _ _ (by intro e; cases e; exact hij rfl)
  have sm (w : World) (i : Nat) (x u : Value) (hu : w.cell? ⟨b, i, none⟩ = some u) : (w.setCell ⟨b, i, none⟩ x).cell? ⟨b, i, none⟩ = some x := World.cell?_setCell_same _ _ _ hu
  refine ⟨by simpa [World.setCell] using h.lt, ?_, ?_, ?_, ?_, ?_, fun j => ?_⟩
  · rw [o _ 4 0 _ (by decide), o _ 3 0 _ (by decide), o _ 2 0 _ (by decide), o _ 1 0 _ (by decide)]; exact sm _ 0 _ _ h.c0
  · rw [o _ 4 1 _ (by decide), o _ 3 1 _ (by decide), o _ 2 1 _ (by decide)]; exact sm _ 1 _ _ ((o _ 0 1 _ (by decide)).trans h.c1)
  · rw [o _ 4 2 _ (by decide), o _ 3 2 _ (by decide)]; exact sm _ 2 _ _ ((o _ 1 2 _ (by decide)).trans ((o _ 0 2 _ (by decide)).trans h.c2))
  · rw [o _ 4 3 _ (by decide)]; exact sm _ 3 _ _ ((o _ 2 3 _ (by decide)).trans ((o _ 1 3 _ (by decide)).trans ((o _ 0 3 _ (by decide)).trans h.c3)))
  · exact sm _ 4 _ _ ((o _ 3 4 _ (by decide)).trans ((o _ 2 4 _ (by decide)).trans ((o _ 1 4 _ (by decide)).trans ((o _ 0 4 _ (by decide)).trans h.c4))))
  · simp only [World.frozen?_setCell]; exact h.fz j

theorem Rdr.drew {g n c P : Nat} {A : Option Addr} {bs : List Int} {w : World} (h : Rdr g A n c bs P w) : Rdr g A n c bs P w.drew := ⟨h.lt, h.c0, h.pos, h.fz, h.by_⟩
def slcLen : Value → Nat
  | .slice _ n _ => n
  | _ => 0

/-- Returns a formula of some parts in fresh blocks; the reader has picked Q times at most. -/
def GfP (g : Nat) (A : Option Addr) (n c : Nat) (bs : List Int) (Q : Nat) (w : World) (e : Ending) (w' : World) : Prop :=
  ∃ (A' : Option Addr) (n' c' : Nat) (ps : List Pt), e = .returned (.agg #[.slice A' n' c']) ∧ n' = ps.length ∧ 1 ≤ n' ∧ n' ≤ 40 ∧ w'.ownsRow w.heap.size 105 5 (.slice A' n' c') n' (ps.flatMap Pt.cells) ∧ Rdr g A n c bs Q w' ∧ Tch g (g + 1) w w'

set_option maxRecDepth 100000 in
set_option maxHeartbeats 40000000 in
theorem goodFormula_any (g : Nat) (A : Option Addr) (n c : Nat) (bs : List Int) (P : Nat) (An : Option Addr) (l c' : Nat) (nodes : List Int) (w : World) (h : Rdr g A n c bs P w) (hn : n = bs.length) (hby : BY bs) (hs : n ≤ 2000) (hP : P ≤ 900000)
    (hl : l = nodes.length) (hl2 : l ≤ 1000) (hx : IS w w.heap.size An nodes) (hne : ∀ b' o', An = some ⟨b', o', none⟩ → b' ≠ g) :
    Calls Try.prog 86 #[.pointer (some ⟨g, 0, none⟩), .slice An l c'] w fun e w' => GfP g A n c bs (P + 200) w e w' := by
  obtain ⟨i1, hi1, hy0, hy1, hy2⟩ := info_parts info_part
  obtain ⟨i0, hi0, hz0, hz1, hz2⟩ := info_parts info_int
  have hgw := h.lt
  obtain ⟨s, hs0⟩ : ∃ s, s = w.heap.size := ⟨_, rfl⟩
  have HN := Lib.hid hn
  have HL := Lib.hid hl
  have HX := Lib.hid hx
  have HNE := Lib.hid hne
  have HR0 := Lib.hid ((((h.alloc (.cells #[.slice none 0 0] 53)).alloc (.cells #[.slice none 0 0] 53)).alloc (.cells #[] 3)).alloc (.cells #[.int .i64 3, .int .i64 4, .int .i64 5, .int .i64 6, .int .i64 2, .int .i64 1] 3))
  have hrow0 := World.ownsRow_lit (e := 3) (size := 1) (base := w.heap.size + 2) ((w.alloc (.cells #[.slice none 0 0] 53)).alloc (.cells #[.slice none 0 0] 53)) #[] 0 (by simp) (by unfold maxLen; omega) (by simp)
  have HROW := Lib.hid hrow0
  have hBW : Below w.heap.size w ((((w.alloc (.cells #[.slice none 0 0] 53)).alloc (.cells #[.slice none 0 0] 53)).alloc (.cells #[] 3)).alloc (.cells #[.int .i64 3, .int .i64 4, .int .i64 5, .int .i64 6, .int .i64 2, .int .i64 1] 3)) := ((((Below.refl _ _).alloc (Nat.le_refl _) _).alloc (by simp) _).alloc (by simp; omega) _).alloc (by simp; omega) _
  have HGI : Hid (GI g w.heap.size A n c bs An nodes w P none 0 0 [] (.slice (some ⟨w.heap.size + 1 + 1, 0, none⟩) 0 0) 0 [] ((((w.alloc (.cells #[.slice none 0 0] 53)).alloc (.cells #[.slice none 0 0] 53)).alloc (.cells #[] 3)).alloc (.cells #[.int .i64 3, .int .i64 4, .int .i64 5, .int .i64 6, .int .i64 2, .int .i64 1] 3))) :=
    ⟨hgw, Frd.of_below hBW (Nat.le_refl _), HR0.out, by simp, by go_simp, by go_simp, by go_simp, by go_simp, rfl, World.ownsRow_nil _ _ _ _, rfl, by simpa using HROW.out.alloc (.cells #[.int .i64 3, .int .i64 4, .int .i64 5, .int .i64 6, .int .i64 2, .int .i64 1] 3), hx.below hBW (Nat.le_refl _), hne⟩
  clear h hn hl hx hne hrow0 hBW HROW
  go_enter Try.func86, Try.ntmps86
  go_wp2_with fail
  refine (one_any g A n c bs P (w.heap.size + 3) 0 6 6 [3, 4, 5, 6, 2, 1] _ HR0.out HN.out hby hs (by omega) rfl (by omega) (by omega) ?_ (by omega) (by simp)).mono ?_
  · intro j hj
    have : j = 0 ∨ j = 1 ∨ j = 2 ∨ j = 3 ∨ j = 4 ∨ j = 5 := by omega
    rcases this with rfl | rfl | rfl | rfl | rfl | rfl <;> go_simp
  rintro e w1 ⟨x, rfl, hxm, hr1, ht1⟩
  obtain ⟨N, rfl, hN1, hN6⟩ : ∃ N : Nat, x = (N : Int) ∧ 1 ≤ N ∧ N ≤ 6 := by
    simp only [List.mem_cons, List.not_mem_nil, or_false] at hxm
    exact ⟨x.toNat, by omega, by omega, by omega⟩
  have HG1 := Lib.hid (HGI.out.pick hr1 ht1)
  clear hxm hr1 ht1 HGI HR0
  go_wp2
  go_loopw [6, 7] (fun v u wr => ∃ (k m no nf cf : Nat) (Af : Option Addr) (ps : List Pt) (xs : List Int), k + m = N ∧ u = .int .i64 k ∧ no ≤ m ∧ nf ≤ 2 * m ∧ Hid (GI g w.heap.size A n c bs An nodes w (P + 1 + 10 * m) Af nf cf ps v no xs wr)) (fun _ u _ => (intOf u).toNat)
  case atStart => exact ⟨N, 0, 0, 0, 0, none, [], [], by omega, rfl, Nat.le_refl _, Nat.zero_le _, HG1.out⟩
  case round =>
    obtain ⟨k, m, no, nf, cf, Af, ps, xs, hkm, rfl, hno, hnf, HG⟩ := hrel
    by_cases hk : 0 < k
    · have hPm : P + 1 + 10 * m ≤ 900100 := by omega
      obtain ⟨P1, hP1⟩ : ∃ P1, P1 = P + 1 + 10 * m := ⟨_, rfl⟩
      have HP1 := Lib.hid hP1
      rw [← hP1] at HG hPm
      clear hP1
      go_wp2_with fail
      refine (readPart_any g A n c bs P1 An l c' nodes _ HG.out.rd HN.out hby hs (by omega) HL.out hl2 (HG.out.nd.more (by have := HG.out.lt; omega)) HG.out.ng).mono ?_
      rintro e w2 ⟨q, rfl, hr2, ht2⟩
      have HGq := Lib.hid (HG.out.pick hr2 ht2)
      obtain ⟨b8, hb8⟩ : ∃ b8, b8 = w2.heap.size := ⟨_, rfl⟩
      have HB8 := Lib.hid hb8
      have HPB : Hid (PB b8 q (w2.alloc (.cells #[.int .i64 q.k, .int .i64 q.a, .int .i64 q.b, .int .i64 q.c, .int .i64 q.n] 105))) := by
        rw [hb8]; exact ⟨by simp, by go_simp, by go_simp, by go_simp, by go_simp, by go_simp, fun j => by go_simp⟩
      have HO8 : Hid ((∀ k, (Value.slice Af nf cf).ownBlock = some k → k < b8) ∧ (∀ k, u6.ownBlock = some k → k < b8)) := by
        rw [hb8]; exact ⟨fun k hk => (HGq.out.pr.lt k hk).2, fun k hk => (HGq.out.xr.lt k hk).2⟩
      have HG2 := Lib.hid (HGq.out.alloc (.cells #[.int .i64 q.k, .int .i64 q.a, .int .i64 q.b, .int .i64 q.c, .int .i64 q.n] 105))
      have hb8s : w.heap.size + 2 ≤ b8 := by rw [hb8]; exact HGq.out.lt
      clear hr2 ht2 HG HGq hb8
      go_wp2_with fail
      rw [← HB8.out]
      generalize w2.alloc (.cells #[.int .i64 q.k, .int .i64 q.a, .int .i64 q.b, .int .i64 q.c, .int .i64 q.n] 105) = W2 at *
      refine (pick_any g A n c bs (P1 + 1) 4 W2 HG2.out.rd HN.out hby hs (by omega) (by omega)).mono ?_
      rintro e w3 ⟨x3, rfl, _, _, hr3, ht3⟩
      have HG3 := Lib.hid (HG2.out.pick hr3 ht3)
      have HPB3 := Lib.hid (HPB.out.pick ht3 (by omega))
      clear hr3 ht3 HG2 HPB
      go_upto_if 25 with fail
      go_cut [] from 16 to 119 (fun wx => ∃ q' : Pt, Hid (PB b8 q' wx) ∧ Hid (GI g w.heap.size A n c bs An nodes w (P1 + 3) Af nf cf ps u6 no xs wx))
      case first =>
        cases hx3 : ((x3 : Int) == 0)
        · go_wp2_with fail
          go_meet
          exact ⟨q, HPB3.out, HG3.out.mono (by omega)⟩
        · obtain rfl : x3 = 0 := by simpa using hx3
          clear hx3
          have HG3a := Lib.hid (HG3.out.alloc (.cells #[.int .i64 0, .int .i64 1, .int .i64 2, .int .i64 5, .int .i64 99, .int .i64 10] 3))
          have HPB3a := Lib.hid (HPB3.out.alloc (.cells #[.int .i64 0, .int .i64 1, .int .i64 2, .int .i64 5, .int .i64 99, .int .i64 10] 3))
          go_wp2_with fail
          refine (one_any g A n c bs (P1 + 2) w3.heap.size 0 6 6 [0, 1, 2, 5, 99, 10] _ HG3a.out.rd HN.out hby hs (by omega) rfl (by omega) (by omega) ?_ (by have := HG3.out.rd.lt; omega) (by simp)).mono ?_
          · intro j hj
            have : j = 0 ∨ j = 1 ∨ j = 2 ∨ j = 3 ∨ j = 4 ∨ j = 5 := by omega
            rcases this with rfl | rfl | rfl | rfl | rfl | rfl <;> go_simp
          rintro e w4 ⟨y, rfl, _, hr4, ht4⟩
          have HG4 := Lib.hid (HG3a.out.pick hr4 ht4)
          have HPB4 := Lib.hid (HPB3a.out.pick ht4 (by omega))
          clear hr4 ht4 HG3a HPB3a
          go_wp2_with fail
          refine (spec_numberPart y _).mono ?_
          rintro e w5 ⟨rfl, hb5⟩
          have HG5 := Lib.hid (HG4.out.step hb5)
          have HPB5 := Lib.hid (HPB4.out.step hb5)
          have p0 := HPB5.out.c0
          have p1 := HPB5.out.c1
          have p2 := HPB5.out.c2
          have p3 := HPB5.out.c3
          have p4 := HPB5.out.c4
          have f0 := HPB5.out.fz 0
          have f1 := HPB5.out.fz 1
          have f2 := HPB5.out.fz 2
          have f3 := HPB5.out.fz 3
          have f4 := HPB5.out.fz 4
          clear hb5
          go_wp2_with fail
          go_meet
          exact ⟨⟨0, -1, -1, -1, y⟩, HPB5.out.set5 0 (-1) (-1) (-1) y, ((((HG5.out.poke hb8s HO8.out.1 HO8.out.2 0 _).poke hb8s HO8.out.1 HO8.out.2 1 _).poke hb8s HO8.out.1 HO8.out.2 2 _).poke hb8s HO8.out.1 HO8.out.2 3 _).poke hb8s HO8.out.1 HO8.out.2 4 _⟩
      case rest =>
        obtain ⟨q', HPB9, HG9⟩ := hcut
        have f0 := HG9.out.fb
        have z1 : w.heap.size + 1 < wc.heap.size := HG9.out.lt
        have HGa := Lib.hid (HG9.out.alloc (.cells #[.int .i64 nf] 3))
        have HPBa := Lib.hid (HPB9.out.alloc (.cells #[.int .i64 nf] 3))
        have hnb : no ≤ 6 := by omega
        clear HPB3 HG3
        go_wp2_with (at_builtin; refine wpList_append_own _ rfl _ _ 26 rfl (w.heap.size + 2) 3 i0 (.int .i64 0) 1 8 Try.underlying26 hi0 hz0 hz1 hz2 rfl (by decide) _ _ _ rfl HGa.out.xr ⟨_, 0, none⟩ 1 1 [.int .i64 nf] rfl rfl (cell_one_new _ _ _) ?c2 ?c3 ?c4 ?c5 ?_)
        case c2 => first | rfl | (intro u hu; simp at hu; subst hu; rfl)
        case c3 => unfold maxLen; omega
        case c4 => omega
        case c5 => first | omega | (simp; omega)
        intro v' w4 hown' hgrow _
        obtain ⟨Ao, co, rfl⟩ := row_form' hown'
        have HG4 := Lib.hid (HGa.out.opened (xs' := xs ++ [(nf : Int)]) HGa.out.xr hgrow (by simpa using hown') (by rw [List.length_append, ← HGa.out.xl]; rfl))
        have HPB4 := Lib.hid (HPBa.out.grown hgrow HO8.out.2)
        clear hown' hgrow HGa HPBa f0 z1 HPB9 HG9
        have f0 := HG4.out.fb
        have f1 := HG4.out.fz
        have z1 : w.heap.size + 1 < w4.heap.size := HG4.out.lt
        have z2 : b8 < w4.heap.size := HPB4.out.lt
        have p0 := HPB4.out.c0
        have p1 := HPB4.out.c1
        have p2 := HPB4.out.c2
        have p3 := HPB4.out.c3
        have p4 := HPB4.out.c4
        have HGb := Lib.hid (HG4.out.alloc (.cells #[.int .i64 q'.k, .int .i64 q'.a, .int .i64 q'.b, .int .i64 q'.c, .int .i64 q'.n] 105))
        go_wp2_with (at_builtin; refine wpList_append_own_at _ rfl _ _ 51 rfl (w.heap.size + 2) 105 i1 _ 5 40 Try.underlying51 hi1 hy0 hy1 hy2 rfl (by decide) _ _ _ rfl HGb.out.pr ⟨_, 0, none⟩ 1 1 q'.cells rfl rfl (cells_new _ _ _ _ rfl) ?d2 ?d3 ?d4 ?d5 ?_)
        case d2 => intro u hu; simp [Pt.cells] at hu; rcases hu with rfl | rfl | rfl | rfl | rfl <;> rfl
        case d3 => unfold maxLen; omega
        case d4 => omega
        case d5 => simp; omega
        intro v5 w5 hown5 hgrow5 _ _
        obtain ⟨A5, c5, rfl⟩ := row_form' hown5
        have hfr := HGb.out.frame hgrow5 fun k hk => (HGb.out.pr.lt k hk).1
        have z5 := hfr.2.2.1
        have e0 := hfr.2.2.2.2.2.1
        have e1 := hfr.2.2.2.2.2.2.1
        clear hfr
        have HG6 := Lib.hid (HGb.out.parted (Af' := A5) (nf' := nf + 1) (cf' := c5) (ps' := ps ++ [q']) hgrow5 (by simpa [List.flatMap_append] using hown5) (by rw [List.length_append, ← HGb.out.pl]; rfl))
        clear hown5 hgrow5 HGb HG4 HPB4 f0 f1 z1 z2 p0 p1 p2 p3 p4 HO8
        by_cases h3 : 3 ≤ no + 1
        · obtain ⟨j, rfl⟩ : ∃ j, no = j + 2 := ⟨no - 2, by omega⟩
          go_wp2_with fail
          generalize (w5.setCell ⟨w.heap.size + 1, 0, none⟩ (.slice A5 (nf + 1) c5)) = W6 at *
          refine (pick_any g A n c bs (P1 + 3) 2 W6 HG6.out.rd HN.out hby hs (by omega) (by omega)).mono ?_
          rintro e w7 ⟨x7, rfl, _, _, hr7, ht7⟩
          have HG7 := Lib.hid (HG6.out.pick hr7 ht7)
          clear hr7 ht7 HG6 h3
          by_cases hx7 : x7 = 0
          · subst hx7
            obtain ⟨go, cg, hov⟩ := row_pos HG7.out.xr (by omega)
            cases hov
            have f0 := HG7.out.fb
            have f1 := HG7.out.fz
            have z1 : w.heap.size + 1 < w7.heap.size := HG7.out.lt
            have hxl := HG7.out.xl
            have o0 := HG7.out.xr.cellAt j (by omega)
            have o1 := HG7.out.xr.cellAt (j + 1) (by omega)
            have o2 := HG7.out.xr.cellAt (j + 2) (by omega)
            rw [List.getElem?_map] at o0 o1 o2
            generalize hX : xs ++ [(nf : Int)] = X at *
            have HX2 := Lib.hid hX
            clear hX
            rw [List.getElem?_eq_getElem (by omega), Option.map_some] at o0 o1 o2
            generalize X[j]'_ = x0 at o0
            generalize X[j + 1]'_ = x1 at o1
            generalize X[j + 2]'_ = x2 at o2
            have HXL := Lib.hid hxl
            clear hxl
            have hgo := (HG7.out.xr.lt go rfl).2
            go_wp2_with fail
            have a3 : IntKind.i64.wrap ((j : Int) + 2 + 1 - 3) = (j : Int) := by rw [IntKind.wrap_i64]; omega
            have a2 : IntKind.i64.wrap ((j : Int) + 2 + 1 - 2) = (j : Int) + 1 := by rw [IntKind.wrap_i64]; omega
            have a1 : IntKind.i64.wrap ((j : Int) + 2 + 1 - 1) = (j : Int) + 2 := by rw [IntKind.wrap_i64]; omega
            have b3 : (j : Int) < (j : Int) + 2 + 1 := by omega
            have b2 : (j : Int) + 1 < (j : Int) + 2 + 1 := by omega
            have b1 : (j : Int) + 2 < (j : Int) + 2 + 1 := by omega
            have b0 : 0 ≤ (j : Int) + 1 := by omega
            have b00 : 0 ≤ (j : Int) + 2 := by omega
            have a1' : IntKind.i64.wrap ((j : Int) + 2) = (j : Int) + 2 := by rw [IntKind.wrap_i64]; omega
            have a2' : IntKind.i64.wrap ((j : Int) + 1) = (j : Int) + 1 := by rw [IntKind.wrap_i64]; omega
            have t1 : ((j : Int) + 1).toNat = j + 1 := by omega
            have t2 : ((j : Int) + 2).toNat = j + 2 := by omega
            have HGc := Lib.hid (HG7.out.alloc (.cells #[.int .i64 8, .int .i64 x0, .int .i64 x1, .int .i64 x2, .int .i64 0] 105))
            have hX0 := (HG7.out.xr.cellAt j (by omega)).symm.trans o0
            have hX1 := (HG7.out.xr.cellAt (j + 1) (by omega)).symm.trans o1
            have hX2 := (HG7.out.xr.cellAt (j + 2) (by omega)).symm.trans o2
            have HXX := Lib.hid (And.intro hX0 (And.intro hX1 hX2))
            clear hX0 hX1 hX2
            have hgo2 := (HG7.out.xr.lt go rfl).1
            have hnb1 : ∀ q : Nat, (⟨w.heap.size + 1, 0, none⟩ : Addr) ≠ ⟨go, q, none⟩ := fun q e => by have := congrArg Addr.block e; simp at this; omega
            have q0 := (World.cell?_alloc_lt w7 (.cells #[.int .i64 8, .int .i64 x0, .int .i64 x1, .int .i64 x2, .int .i64 0] 105) ⟨go, j, none⟩ hgo).trans o0
            have q1 := (World.cell?_alloc_lt w7 (.cells #[.int .i64 8, .int .i64 x0, .int .i64 x1, .int .i64 x2, .int .i64 0] 105) ⟨go, j + 1, none⟩ hgo).trans o1
            have q2 := (World.cell?_alloc_lt w7 (.cells #[.int .i64 8, .int .i64 x0, .int .i64 x1, .int .i64 x2, .int .i64 0] 105) ⟨go, j + 2, none⟩ hgo).trans o2
            refine wp_region_held_drew (S := (fun w' => w'.cell? ⟨go, j, none⟩ = some (.int .i64 x0) ∧ w'.cell? ⟨go, j + 1, none⟩ = some (.int .i64 x1) ∧ w'.cell? ⟨go, j + 2, none⟩ = some (.int .i64 x2))) (by kernel_rfl) ⟨o0, o1, o2⟩ (fun hHeld => ?_)
            refine wpAnyH_take (i := 0) (oi := ⟨some 52, _, _, _, _, _⟩) (v := ?_) rfl (by kernel_rfl) (by kernel_rfl) (by kernel_rfl) (fun _ _ _ h => h) (Or.inl ⟨by rfl, ?_⟩) (by assumption) ?_; rotate_left; (focus (intro w hSw; (try dsimp only at hSw); go_simp; (try with_reducible rfl))); (try simp only [Act.put, List.setIfInBounds_toArray, List.set_cons_zero, List.set_cons_succ])
            refine wpAnyH_take (i := 2) (oi := ⟨some 54, _, _, _, _, _⟩) (v := ?_) rfl (by kernel_rfl) (by kernel_rfl) (by kernel_rfl) (fun _ _ _ h => h) (Or.inl ⟨by rfl, ?_⟩) (by assumption) ?_; rotate_left; (focus (intro w hSw; (try dsimp only at hSw); go_simp; (try with_reducible rfl))); (try simp only [Act.put, List.setIfInBounds_toArray, List.set_cons_zero, List.set_cons_succ])
            refine wpAnyH_take (i := 3) (oi := ⟨some 55, _, _, _, _, _⟩) (v := ?_) rfl (by kernel_rfl) (by kernel_rfl) (by kernel_rfl) (fun _ _ _ h => h) (Or.inl ⟨by rfl, ?_⟩) (by assumption) ?_; rotate_left; (focus (intro w hSw; (try dsimp only at hSw); go_simp; (try with_reducible rfl))); (try simp only [Act.put, List.setIfInBounds_toArray, List.set_cons_zero, List.set_cons_succ])
            refine wpAnyH_take (i := 4) (oi := ⟨some 56, _, _, _, _, _⟩) (v := ?_) rfl (by kernel_rfl) (by kernel_rfl) (by kernel_rfl) (fun _ _ _ h => h) (Or.inl ⟨by rfl, ?_⟩) (by assumption) ?_; rotate_left; (focus (intro w hSw; (try dsimp only at hSw); go_simp; (try with_reducible rfl))); (try simp only [Act.put, List.setIfInBounds_toArray, List.set_cons_zero, List.set_cons_succ])
            refine wpAnyH_take (i := 5) (oi := ⟨some 57, _, _, _, _, _⟩) (v := ?_) rfl (by kernel_rfl) (by kernel_rfl) (by kernel_rfl) (fun _ _ _ h => h) (Or.inl ⟨by rfl, ?_⟩) (by assumption) ?_; rotate_left; (focus (intro w hSw; (try dsimp only at hSw); go_simp; (try with_reducible rfl))); (try simp only [Act.put, List.setIfInBounds_toArray, List.set_cons_zero, List.set_cons_succ])
            refine wpAnyH_take (i := 6) (oi := ⟨some 58, _, _, _, _, _⟩) (v := ?_) rfl (by kernel_rfl) (by kernel_rfl) (by kernel_rfl) (fun _ _ _ h => h) (Or.inl ⟨by rfl, ?_⟩) (by assumption) ?_; rotate_left; (focus (intro w hSw; (try dsimp only at hSw); go_simp; (try with_reducible rfl))); (try simp only [Act.put, List.setIfInBounds_toArray, List.set_cons_zero, List.set_cons_succ])
            refine wpAnyH_take (i := 7) (oi := ⟨some 59, _, _, _, _, _⟩) (v := ?_) rfl (by kernel_rfl) (by kernel_rfl) (by kernel_rfl) (fun _ _ _ h => h) (Or.inl ⟨by rfl, ?_⟩) (by assumption) ?_; rotate_left; (focus (intro w hSw; (try dsimp only at hSw); go_simp; (try with_reducible rfl))); (try simp only [Act.put, List.setIfInBounds_toArray, List.set_cons_zero, List.set_cons_succ])
            refine wpAnyH_take (i := 8) (oi := ⟨some 60, _, _, _, _, _⟩) (v := ?_) rfl (by kernel_rfl) (by kernel_rfl) (by kernel_rfl) (fun _ _ _ h => h) (Or.inl ⟨by rfl, ?_⟩) (by assumption) ?_; rotate_left; (focus (intro w hSw; (try dsimp only at hSw); go_simp; (try with_reducible rfl))); (try simp only [Act.put, List.setIfInBounds_toArray, List.set_cons_zero, List.set_cons_succ])
            refine wpAnyH_take (i := 9) (oi := ⟨some 61, _, _, _, _, _⟩) (v := ?_) rfl (by kernel_rfl) (by kernel_rfl) (by kernel_rfl) (fun _ _ _ h => h) (Or.inl ⟨by rfl, ?_⟩) (by assumption) ?_; rotate_left; (focus (intro w hSw; (try dsimp only at hSw); go_simp; (try with_reducible rfl))); (try simp only [Act.put, List.setIfInBounds_toArray, List.set_cons_zero, List.set_cons_succ])
            refine wpAnyH_take (i := 10) (oi := ⟨some 62, _, _, _, _, _⟩) (v := ?_) rfl (by kernel_rfl) (by kernel_rfl) (by kernel_rfl) (fun _ _ _ h => h) (Or.inl ⟨by rfl, ?_⟩) (by assumption) ?_; rotate_left; (focus (intro w hSw; (try dsimp only at hSw); go_simp; (try with_reducible rfl))); (try simp only [Act.put, List.setIfInBounds_toArray, List.set_cons_zero, List.set_cons_succ])
            refine wpAnyH_take (i := 11) (oi := ⟨some 63, _, _, _, _, _⟩) (v := ?_) rfl (by kernel_rfl) (by kernel_rfl) (by kernel_rfl) (fun _ _ _ h => h) (Or.inl ⟨by rfl, ?_⟩) (by assumption) ?_; rotate_left; (focus (intro w hSw; (try dsimp only at hSw); go_simp; (try with_reducible rfl))); (try simp only [Act.put, List.setIfInBounds_toArray, List.set_cons_zero, List.set_cons_succ])
            refine wpAnyH_take (i := 12) (oi := ⟨some 64, _, _, _, _, _⟩) (v := ?_) rfl (by kernel_rfl) (by kernel_rfl) (by kernel_rfl) (fun _ _ _ h => h) (Or.inl ⟨by rfl, ?_⟩) (by assumption) ?_; rotate_left; (focus (intro w hSw; (try dsimp only at hSw); go_simp; (try with_reducible rfl))); (try simp only [Act.put, List.setIfInBounds_toArray, List.set_cons_zero, List.set_cons_succ])
            refine wpAnyH_take (i := 13) (oi := ⟨some 65, _, _, _, _, _⟩) (v := ?_) rfl (by kernel_rfl) (by kernel_rfl) (by kernel_rfl) (fun _ _ _ h => h) (Or.inl ⟨by rfl, ?_⟩) (by assumption) ?_; rotate_left; (focus (intro w hSw; (try dsimp only at hSw); go_simp; (try with_reducible rfl))); (try simp only [Act.put, List.setIfInBounds_toArray, List.set_cons_zero, List.set_cons_succ])
            refine wpAnyH_take (i := 14) (oi := ⟨some 66, _, _, _, _, _⟩) (v := ?_) rfl (by kernel_rfl) (by kernel_rfl) (by kernel_rfl) (fun _ _ _ h => h) (Or.inl ⟨by rfl, ?_⟩) (by assumption) ?_; rotate_left; (focus (intro w hSw; (try dsimp only at hSw); go_simp; (try with_reducible rfl))); (try simp only [Act.put, List.setIfInBounds_toArray, List.set_cons_zero, List.set_cons_succ])
            refine wpAnyH_take (i := 15) (oi := ⟨some 67, _, _, _, _, _⟩) (v := ?_) rfl (by kernel_rfl) (by kernel_rfl) (by kernel_rfl) (fun _ _ _ h => h) (Or.inl ⟨by rfl, ?_⟩) (by assumption) ?_; rotate_left; (focus (intro w hSw; (try dsimp only at hSw); go_simp; (try with_reducible rfl))); (try simp only [Act.put, List.setIfInBounds_toArray, List.set_cons_zero, List.set_cons_succ])
            refine wpAnyH_take (i := 16) (oi := ⟨some 68, _, _, _, _, _⟩) (v := ?_) rfl (by kernel_rfl) (by kernel_rfl) (by kernel_rfl) (fun _ _ _ h => h) (Or.inl ⟨by rfl, ?_⟩) (by assumption) ?_; rotate_left; (focus (intro w hSw; (try dsimp only at hSw); go_simp; (try with_reducible rfl))); (try simp only [Act.put, List.setIfInBounds_toArray, List.set_cons_zero, List.set_cons_succ])
            refine wpAnyH_take (i := 17) (oi := ⟨some 69, _, _, _, _, _⟩) (v := ?_) rfl (by kernel_rfl) (by kernel_rfl) (by kernel_rfl) (fun _ _ _ h => h) (Or.inl ⟨by rfl, ?_⟩) (by assumption) ?_; rotate_left; (focus (intro w hSw; (try dsimp only at hSw); go_simp; (try with_reducible rfl))); (try simp only [Act.put, List.setIfInBounds_toArray, List.set_cons_zero, List.set_cons_succ])
            refine wpAnyH_ready (rs := [1, 18]) (by kernel_rfl) (by simp) ?_; refine AllReadyH.cons (o := ⟨some 53, _, _, _, _, _⟩) rfl (fun K hK => ?_) (AllReadyH.cons (o := ⟨some 70, _, _, _, _, _⟩) rfl (fun K hK => ?_) AllReadyH.nil)
            go_simp
            refine hK.out _ _ ⟨o0, o1, o2⟩ (fun hHeld => ?_); clear hK K; (try simp only [Act.put, List.setIfInBounds_toArray, List.set_cons_zero, List.set_cons_succ])
            refine wpAnyH_ready (rs := [18]) (by kernel_rfl) (by simp) ?_; refine AllReadyH.cons (o := ⟨some 70, _, _, _, _, _⟩) rfl (fun K hK => ?_) AllReadyH.nil; go_simp
            refine hK.out _ _ ⟨q0, q1, q2⟩ (fun hHeld => ?_); clear hK K; (try simp only [Act.put, List.setIfInBounds_toArray, List.set_cons_zero, List.set_cons_succ])
            refine wpAnyH_ready (rs := [19]) (by kernel_rfl) (by simp) ?_; refine AllReadyH.cons (o := ⟨some 71, _, _, _, _, _⟩) rfl (fun K hK => ?_) AllReadyH.nil
            refine step_append_lies _ (by rfl) _ _ _ (by rfl) (w.heap.size + 2) 105 i1 _ 5 40 Try.underlying51 hi1 hy0 hy1 hy2 rfl (by omega) (.slice A5 (nf + 1) c5) (nf + 1) _ (by rfl) HGc.out.pr ⟨w7.heap.size, 0, none⟩ 1 1 [.int .i64 8, .int .i64 x0, .int .i64 x1, .int .i64 x2, .int .i64 0] (by rfl) (by rfl) (cells_new _ _ _ _ rfl) (by simp [Value.oneCell']) (by omega) (by unfold maxLen; omega) (by omega) (by simp; omega) (w7.heap.size + 1) (by simp) ?_
            intro gg cap w8 hown8 hgrow8 hat8 hlt8
            have hgr8 : (w7.alloc (.cells #[.int .i64 8, .int .i64 x0, .int .i64 x1, .int .i64 x2, .int .i64 0] 105)).grownBy w8 (Value.slice A5 (nf + 1) c5).ownBlock := ⟨hgrow8.os, hgrow8.tape, hgrow8.output, hgrow8.size, hgrow8.block⟩
            have hfr8 := HGc.out.frame hgr8 fun k hk => (HGc.out.pr.lt k hk).1
            have z8 := hfr8.2.2.1
            have g0 := hfr8.2.2.2.2.2.1
            have g1 := hfr8.2.2.2.2.2.2.1
            clear hfr8
            have hxr8 := HGc.out.xr.kept hgr8 (blocks_ne HGc.out.xr HGc.out.pr int_ne_part)
            have s0 := (hxr8.cellAt j (by omega)).trans HXX.out.1
            have s1 := (hxr8.cellAt (j + 1) (by omega)).trans HXX.out.2.1
            have s2 := (hxr8.cellAt (j + 2) (by omega)).trans HXX.out.2.2
            clear hxr8
            refine hK.out _ _ ⟨s0, s1, s2⟩ (fun hHeld => ?_); clear hK K; (try simp only [Act.put, List.setIfInBounds_toArray, List.set_cons_zero, List.set_cons_succ])
            refine wpAnyH_take (i := 20) (oi := ⟨some 72, _, _, _, _, _⟩) (v := ?_) rfl (by kernel_rfl) (by kernel_rfl) (by kernel_rfl) (fun _ _ _ h => h) (Or.inl ⟨by rfl, ?_⟩) (by assumption) ?_; rotate_left; (focus (intro w hSw; (try dsimp only at hSw); go_simp; (try with_reducible rfl))); (try simp only [Act.put, List.setIfInBounds_toArray, List.set_cons_zero, List.set_cons_succ])
            refine wpAnyH_ready (rs := [21]) (by kernel_rfl) (by simp) ?_; refine AllReadyH.cons (o := ⟨none, _, _, _, _, _⟩) rfl (fun K hK => ?_) AllReadyH.nil; go_simp
            refine hK.out _ _ ⟨(World.cell?_setCell_other _ _ _ _ (hnb1 _)).trans s0, (World.cell?_setCell_other _ _ _ _ (hnb1 _)).trans s1, (World.cell?_setCell_other _ _ _ _ (hnb1 _)).trans s2⟩ (fun hHeld => ?_); clear hK K; (try simp only [Act.put, List.setIfInBounds_toArray, List.set_cons_zero, List.set_cons_succ])
            refine wpAnyH_done (by kernel_rfl) ?_ _
            rotate_left
            go_simp
            refine hK.out _ _ ⟨q0, q1, q2⟩ (fun hHeld => ?_); clear hK K; (try simp only [Act.put, List.setIfInBounds_toArray, List.set_cons_zero, List.set_cons_succ])
            refine wpAnyH_ready (rs := [1]) (by kernel_rfl) (by simp) ?_; refine AllReadyH.cons (o := ⟨some 53, _, _, _, _, _⟩) rfl (fun K hK => ?_) AllReadyH.nil; go_simp
            refine hK.out _ _ ⟨q0, q1, q2⟩ (fun hHeld => ?_); clear hK K; (try simp only [Act.put, List.setIfInBounds_toArray, List.set_cons_zero, List.set_cons_succ])
            refine wpAnyH_ready (rs := [19]) (by kernel_rfl) (by simp) ?_; refine AllReadyH.cons (o := ⟨some 71, _, _, _, _, _⟩) rfl (fun K hK => ?_) AllReadyH.nil
            refine step_append_lies _ (by rfl) _ _ _ (by rfl) (w.heap.size + 2) 105 i1 _ 5 40 Try.underlying51 hi1 hy0 hy1 hy2 rfl (by omega) (.slice A5 (nf + 1) c5) (nf + 1) _ (by rfl) HGc.out.pr ⟨w7.heap.size, 0, none⟩ 1 1 [.int .i64 8, .int .i64 x0, .int .i64 x1, .int .i64 x2, .int .i64 0] (by rfl) (by rfl) (cells_new _ _ _ _ rfl) (by simp [Value.oneCell']) (by omega) (by unfold maxLen; omega) (by omega) (by simp; omega) (w7.heap.size + 1) (by simp) ?_
            intro gg cap w8 hown8 hgrow8 hat8 hlt8
            have hgr8 : (w7.alloc (.cells #[.int .i64 8, .int .i64 x0, .int .i64 x1, .int .i64 x2, .int .i64 0] 105)).grownBy w8 (Value.slice A5 (nf + 1) c5).ownBlock := ⟨hgrow8.os, hgrow8.tape, hgrow8.output, hgrow8.size, hgrow8.block⟩
            have hfr8 := HGc.out.frame hgr8 fun k hk => (HGc.out.pr.lt k hk).1
            have z8 := hfr8.2.2.1
            have g0 := hfr8.2.2.2.2.2.1
            have g1 := hfr8.2.2.2.2.2.2.1
            clear hfr8
            have hxr8 := HGc.out.xr.kept hgr8 (blocks_ne HGc.out.xr HGc.out.pr int_ne_part)
            have s0 := (hxr8.cellAt j (by omega)).trans HXX.out.1
            have s1 := (hxr8.cellAt (j + 1) (by omega)).trans HXX.out.2.1
            have s2 := (hxr8.cellAt (j + 2) (by omega)).trans HXX.out.2.2
            clear hxr8
            refine hK.out _ _ ⟨s0, s1, s2⟩ (fun hHeld => ?_); clear hK K; (try simp only [Act.put, List.setIfInBounds_toArray, List.set_cons_zero, List.set_cons_succ])
            refine wpAnyH_take (i := 20) (oi := ⟨some 72, _, _, _, _, _⟩) (v := ?_) rfl (by kernel_rfl) (by kernel_rfl) (by kernel_rfl) (fun _ _ _ h => h) (Or.inl ⟨by rfl, ?_⟩) (by assumption) ?_; rotate_left; (focus (intro w hSw; (try dsimp only at hSw); go_simp; (try with_reducible rfl))); (try simp only [Act.put, List.setIfInBounds_toArray, List.set_cons_zero, List.set_cons_succ])
            refine wpAnyH_ready (rs := [21]) (by kernel_rfl) (by simp) ?_; refine AllReadyH.cons (o := ⟨none, _, _, _, _, _⟩) rfl (fun K hK => ?_) AllReadyH.nil; go_simp
            refine hK.out _ _ ⟨(World.cell?_setCell_other _ _ _ _ (hnb1 _)).trans s0, (World.cell?_setCell_other _ _ _ _ (hnb1 _)).trans s1, (World.cell?_setCell_other _ _ _ _ (hnb1 _)).trans s2⟩ (fun hHeld => ?_); clear hK K; (try simp only [Act.put, List.setIfInBounds_toArray, List.set_cons_zero, List.set_cons_succ])
            refine wpAnyH_done (by kernel_rfl) ?_ _
            all_goals
              have HG8 := Lib.hid (HGc.out.parted (Af' := some ⟨gg, 0, none⟩) (nf' := nf + 1 + 1) (cf' := cap) (ps' := (ps ++ [q']) ++ [⟨8, x0, x1, x2, 0⟩]) hgr8 (by rw [List.flatMap_append]; exact hown8) (by rw [List.length_append, ← HGc.out.pl]; rfl))
              have HXL8 := Lib.hid (HXL.out)
              clear hown8 hgrow8 hgr8 hat8 hlt8 z8 g0 g1 s0 s1 s2 q0 q1 q2 o0 o1 o2 f0 f1 z1 HGc HG7 HXX
              go_wp2_with fail
              generalize (w8.setCell ⟨w.heap.size + 1, 0, none⟩ (.slice (some ⟨gg, 0, none⟩) (nf + 1 + 1) cap)) = W8 at *
              have f8 := HG8.out.fb
              have z8 : w.heap.size + 1 < W8.heap.size := HG8.out.lt
              have n1 : IntKind.i64.wrap ((nf : Int) + 1 + 1 - 1) = (nf : Int) + 1 := by rw [IntKind.wrap_i64]; omega
              have n2 : IntKind.i64.wrap ((nf : Int) + 1) = (nf : Int) + 1 := by rw [IntKind.wrap_i64]; omega
              have f8' := (World.cell?_alloc_lt W8 (.cells #[.int .i64 ((nf : Int) + 1)] 3) ⟨w.heap.size + 1, 0, none⟩ z8).trans f8
              have HG9 := Lib.hid (HG8.out.alloc (.cells #[.int .i64 ((nf : Int) + 1)] 3))
              have hcg : j + 2 + 1 ≤ co := by
                rcases HG8.out.xr.2 with ⟨h', _⟩ | ⟨g', cap', cur, h', _, _, hnc, _⟩
                · simp at h'
                · simp at h'
                  omega
              have hcg1 : (j : Int) ≤ (co : Int) := by omega
              have hcg0 : (0 : Int) ≤ (j : Int) := by omega
              go_region_held3 (fun w' => w'.cell? ⟨w.heap.size + 1, 0, none⟩ = some (.slice (some ⟨gg, 0, none⟩) (nf + 1 + 1) cap)) (first | exact f8 | exact f8' | exact f9)
                (first
                  | (refine step_append_lies _ (by rfl) _ _ _ (by rfl) (w.heap.size + 2) 3 i0 (.int .i64 0) 1 8 Try.underlying26 hi0 hz0 hz1 hz2 rfl (by omega) (.slice (some ⟨go, 0, none⟩) j co) j _ (by rfl) (own_shrink HG9.out.xr (by omega)) ⟨W8.heap.size, 0, none⟩ 1 1 [.int .i64 ((nf : Int) + 1)] (by rfl) (by rfl) (cell_one_new _ _ _) (by simp [Value.oneCell']) (by omega) (by unfold maxLen; omega) (by omega) (by simp; omega) W8.heap.size.succ (by simp) ?_; intro gh cah w9 hown9 hgrow9' hat9 hlt9; have hgrow9 : (W8.alloc (.cells #[.int .i64 ((nf : Int) + 1)] 3)).grownBy w9 (Value.slice (some ⟨go, 0, none⟩) j co).ownBlock := ⟨hgrow9'.os, hgrow9'.tape, hgrow9'.output, hgrow9'.size, hgrow9'.block⟩; have HGA := Lib.hid (HG9.out.opened (xs' := X.take j ++ [(nf : Int) + 1]) (own_shrink HG9.out.xr (by omega : j ≤ j + 2 + 1)) hgrow9 (by first | (simpa using hown9) | (simpa [List.map_take] using hown9) | (rw [List.map_append, List.map_take]; exact hown9)) (by have := HXL8.out; rw [List.length_append, List.length_take]; show _ = _ + 1; omega)); have f9 := HGA.out.fb))
              clear f8 f8' f9 hgrow9 hgrow9' hown9 hat9 hlt9 HG8 HG9 z8 n1 n2
              go_wp2_with fail
              go_roundw
              case rel => exact ⟨k - 1, m + 1, j + 1, nf + 1 + 1, cap, _, _, _, by omega, by go_num, by omega, by omega, (show GI _ _ _ _ _ _ _ _ _ _ _ _ _ _ _ _ _ _ from HGA.out.mono (by have := HP1.out; omega))⟩
              case measure => simp [intOf]; omega
          · have hx7' : ¬ (x7 : Int) = 0 := by omega
            go_wp2_with fail
            refine (pick_any g A n c bs (P1 + 4) 2 _ HG7.out.rd HN.out hby hs (by omega) (by omega)).mono ?_
            rintro e wz ⟨xz, rfl, _, _, hrz, htz⟩
            have HGz := Lib.hid (HG7.out.pick hrz htz)
            clear hrz htz HG7
            by_cases hxz : xz = 0
            · subst hxz
              obtain ⟨go, cg, hov⟩ := row_pos HGz.out.xr (by omega)
              cases hov
              have f0 := HGz.out.fb
              have f1 := HGz.out.fz
              have z1 : w.heap.size + 1 < wz.heap.size := HGz.out.lt
              have hxl := HGz.out.xl
              have o0 := HGz.out.xr.cellAt (j + 1) (by omega)
              have o1 := HGz.out.xr.cellAt (j + 2) (by omega)
              rw [List.getElem?_map] at o0 o1
              generalize hX : xs ++ [(nf : Int)] = X at *
              have HX2 := Lib.hid hX
              clear hX
              rw [List.getElem?_eq_getElem (by omega), Option.map_some] at o0 o1
              generalize X[j + 1]'_ = x0 at o0
              generalize X[j + 2]'_ = x1 at o1
              have HXL := Lib.hid hxl
              clear hxl
              have hgo := (HGz.out.xr.lt go rfl).2
              have hgo2 := (HGz.out.xr.lt go rfl).1
              go_wp2_with fail
              have a2 : IntKind.i64.wrap (((j : Int) + 2 + 1) - 2) = ((j : Int) + 1) := by rw [IntKind.wrap_i64]; omega
              have a1 : IntKind.i64.wrap (((j : Int) + 2 + 1) - 1) = ((j : Int) + 2) := by rw [IntKind.wrap_i64]; omega
              have a2' : IntKind.i64.wrap (((j : Int) + 1)) = ((j : Int) + 1) := by rw [IntKind.wrap_i64]; omega
              have a1' : IntKind.i64.wrap (((j : Int) + 2)) = ((j : Int) + 2) := by rw [IntKind.wrap_i64]; omega
              have b2 : ((j : Int) + 1) < ((j : Int) + 2 + 1) := by omega
              have b1 : ((j : Int) + 2) < ((j : Int) + 2 + 1) := by omega
              have b0 : 0 ≤ ((j : Int) + 1) := by omega
              have b00 : 0 ≤ ((j : Int) + 2) := by omega
              have t1 : (((j : Int) + 1)).toNat = j + 1 := by omega
              have t2 : (((j : Int) + 2)).toNat = j + 2 := by omega
              have HXX := Lib.hid (And.intro ((HGz.out.xr.cellAt (j + 1) (by omega)).symm.trans o0) ((HGz.out.xr.cellAt (j + 2) (by omega)).symm.trans o1))
              have hnb1 : ∀ q : Nat, (⟨w.heap.size + 1, 0, none⟩ : Addr) ≠ ⟨go, q, none⟩ := fun q e => by have := congrArg Addr.block e; simp at this; omega
              refine wp_region_held_drew (S := (fun w' => w'.cell? ⟨go, j + 1, none⟩ = some (.int .i64 x0) ∧ w'.cell? ⟨go, j + 2, none⟩ = some (.int .i64 x1))) (by kernel_rfl) ⟨o0, o1⟩ (fun hHeld => ?_)
              refine wpAnyH_take (i := 0) (oi := ⟨some 91, _, _, _, _, _⟩) (v := ?_) rfl (by kernel_rfl) (by kernel_rfl) (by kernel_rfl) (fun _ _ _ h => h) (Or.inl ⟨by rfl, ?_⟩) (by assumption) ?_; rotate_left; (focus (intro w hSw; (try dsimp only at hSw); go_simp; (try with_reducible rfl))); (try simp only [Act.put, List.setIfInBounds_toArray, List.set_cons_zero, List.set_cons_succ])
              refine wpAnyH_take (i := 2) (oi := ⟨some 93, _, _, _, _, _⟩) (v := ?_) rfl (by kernel_rfl) (by kernel_rfl) (by kernel_rfl) (fun _ _ _ h => h) (Or.inl ⟨by rfl, ?_⟩) (by assumption) ?_; rotate_left; (focus (intro w hSw; (try dsimp only at hSw); go_simp; (try with_reducible rfl))); (try simp only [Act.put, List.setIfInBounds_toArray, List.set_cons_zero, List.set_cons_succ])
              refine wpAnyH_take (i := 5) (oi := ⟨some 96, _, _, _, _, _⟩) (v := ?_) rfl (by kernel_rfl) (by kernel_rfl) (by kernel_rfl) (fun _ _ _ h => h) (Or.inl ⟨by rfl, ?_⟩) (by assumption) ?_; rotate_left; (focus (intro w hSw; (try dsimp only at hSw); go_simp; (try with_reducible rfl))); (try simp only [Act.put, List.setIfInBounds_toArray, List.set_cons_zero, List.set_cons_succ])
              refine wpAnyH_take (i := 6) (oi := ⟨some 97, _, _, _, _, _⟩) (v := ?_) rfl (by kernel_rfl) (by kernel_rfl) (by kernel_rfl) (fun _ _ _ h => h) (Or.inl ⟨by rfl, ?_⟩) (by assumption) ?_; rotate_left; (focus (intro w hSw; (try dsimp only at hSw); go_simp; (try with_reducible rfl))); (try simp only [Act.put, List.setIfInBounds_toArray, List.set_cons_zero, List.set_cons_succ])
              refine wpAnyH_take (i := 7) (oi := ⟨some 98, _, _, _, _, _⟩) (v := ?_) rfl (by kernel_rfl) (by kernel_rfl) (by kernel_rfl) (fun _ _ _ h => h) (Or.inl ⟨by rfl, ?_⟩) (by assumption) ?_; rotate_left; (focus (intro w hSw; (try dsimp only at hSw); go_simp; (try with_reducible rfl))); (try simp only [Act.put, List.setIfInBounds_toArray, List.set_cons_zero, List.set_cons_succ])
              refine wpAnyH_take (i := 8) (oi := ⟨some 99, _, _, _, _, _⟩) (v := ?_) rfl (by kernel_rfl) (by kernel_rfl) (by kernel_rfl) (fun _ _ _ h => h) (Or.inl ⟨by rfl, ?_⟩) (by assumption) ?_; rotate_left; (focus (intro w hSw; (try dsimp only at hSw); go_simp; (try with_reducible rfl))); (try simp only [Act.put, List.setIfInBounds_toArray, List.set_cons_zero, List.set_cons_succ])
              refine wpAnyH_take (i := 9) (oi := ⟨some 100, _, _, _, _, _⟩) (v := ?_) rfl (by kernel_rfl) (by kernel_rfl) (by kernel_rfl) (fun _ _ _ h => h) (Or.inl ⟨by rfl, ?_⟩) (by assumption) ?_; rotate_left; (focus (intro w hSw; (try dsimp only at hSw); go_simp; (try with_reducible rfl))); (try simp only [Act.put, List.setIfInBounds_toArray, List.set_cons_zero, List.set_cons_succ])
              refine wpAnyH_take (i := 10) (oi := ⟨some 101, _, _, _, _, _⟩) (v := ?_) rfl (by kernel_rfl) (by kernel_rfl) (by kernel_rfl) (fun _ _ _ h => h) (Or.inl ⟨by rfl, ?_⟩) (by assumption) ?_; rotate_left; (focus (intro w hSw; (try dsimp only at hSw); go_simp; (try with_reducible rfl))); (try simp only [Act.put, List.setIfInBounds_toArray, List.set_cons_zero, List.set_cons_succ])
              refine wpAnyH_take (i := 11) (oi := ⟨some 102, _, _, _, _, _⟩) (v := ?_) rfl (by kernel_rfl) (by kernel_rfl) (by kernel_rfl) (fun _ _ _ h => h) (Or.inl ⟨by rfl, ?_⟩) (by assumption) ?_; rotate_left; (focus (intro w hSw; (try dsimp only at hSw); go_simp; (try with_reducible rfl))); (try simp only [Act.put, List.setIfInBounds_toArray, List.set_cons_zero, List.set_cons_succ])
              refine wpAnyH_take (i := 12) (oi := ⟨some 103, _, _, _, _, _⟩) (v := ?_) rfl (by kernel_rfl) (by kernel_rfl) (by kernel_rfl) (fun _ _ _ h => h) (Or.inl ⟨by rfl, ?_⟩) (by assumption) ?_; rotate_left; (focus (intro w hSw; (try dsimp only at hSw); go_simp; (try with_reducible rfl))); (try simp only [Act.put, List.setIfInBounds_toArray, List.set_cons_zero, List.set_cons_succ])
              refine wpAnyH_take (i := 13) (oi := ⟨some 104, _, _, _, _, _⟩) (v := ?_) rfl (by kernel_rfl) (by kernel_rfl) (by kernel_rfl) (fun _ _ _ h => h) (Or.inl ⟨by rfl, ?_⟩) (by assumption) ?_; rotate_left; (focus (intro w hSw; (try dsimp only at hSw); go_simp; (try with_reducible rfl))); (try simp only [Act.put, List.setIfInBounds_toArray, List.set_cons_zero, List.set_cons_succ])
              refine wpAnyH_take (i := 14) (oi := ⟨some 105, _, _, _, _, _⟩) (v := ?_) rfl (by kernel_rfl) (by kernel_rfl) (by kernel_rfl) (fun _ _ _ h => h) (Or.inl ⟨by rfl, ?_⟩) (by assumption) ?_; rotate_left; (focus (intro w hSw; (try dsimp only at hSw); go_simp; (try with_reducible rfl))); (try simp only [Act.put, List.setIfInBounds_toArray, List.set_cons_zero, List.set_cons_succ])
              refine wpAnyH_ready (rs := [1, 3]) (by kernel_rfl) (by simp) ?_; refine AllReadyH.cons (o := ⟨some 92, _, _, _, _, _⟩) rfl (fun K hK => ?_) (AllReadyH.cons (o := ⟨some 94, _, _, _, _, _⟩) rfl (fun K hK => ?_) AllReadyH.nil)
              go_simp
              refine hK.out _ _ ⟨o0, o1⟩ (fun hHeld => ?_); clear hK K; (try simp only [Act.put, List.setIfInBounds_toArray, List.set_cons_zero, List.set_cons_succ])
              refine wpAnyH_ready (rs := [3]) (by kernel_rfl) (by simp) ?_; refine AllReadyH.cons (o := ⟨some 94, _, _, _, _, _⟩) rfl (fun K hK => ?_) AllReadyH.nil; go_simp
              go_at_call 73
              refine (pick_any g A n c bs (P1 + 4 + 1) 6 _ ?_ HN.out hby hs ?_ ?_).mono ?_
              (first | exact HGz.out.rd | exact HGz.out.rd.drew)
              omega
              omega
              rintro e w8 ⟨x8, rfl, hx8', _, hr8, ht8'⟩
              have hx8 : (x8 : Int) < 6 := hx8' (by omega)
              have ht8 : Tch g (g + 1) wz w8 := ⟨ht8'.os, ht8'.tape, ht8'.output, ht8'.size, ht8'.block⟩
              have HGP := Lib.hid (HGz.out.pick hr8 ht8)
              have p0 := (HGP.out.xr.cellAt (j + 1) (by omega)).trans HXX.out.1
              have p1 := (HGP.out.xr.cellAt (j + 2) (by omega)).trans HXX.out.2
              have g0 := HGP.out.fb
              have g1 := HGP.out.fz
              have z8 : w.heap.size + 1 < w8.heap.size := HGP.out.lt
              have hgo8 := (HGP.out.xr.lt go rfl).2
              have a8 : IntKind.i64.wrap (2 + (x8 : Int)) = 2 + (x8 : Int) := (by rw [IntKind.wrap_i64]; omega)
              have q0 := (World.cell?_alloc_lt w8 (.cells #[.int .i64 (2 + (x8 : Int)), .int .i64 x0, .int .i64 x1, .int .i64 (-1), .int .i64 0] 105) ⟨go, j + 1, none⟩ hgo8).trans p0
              have q1 := (World.cell?_alloc_lt w8 (.cells #[.int .i64 (2 + (x8 : Int)), .int .i64 x0, .int .i64 x1, .int .i64 (-1), .int .i64 0] 105) ⟨go, j + 2, none⟩ hgo8).trans p1
              have HGc := Lib.hid (HGP.out.alloc (.cells #[.int .i64 (2 + (x8 : Int)), .int .i64 x0, .int .i64 x1, .int .i64 (-1), .int .i64 0] 105))
              clear hx8' hr8 ht8'
              refine hK.out _ _ ⟨p0, p1⟩ (fun hHeld => ?_); clear hK K; (try simp only [Act.put, List.setIfInBounds_toArray, List.set_cons_zero, List.set_cons_succ])
              refine wpAnyH_take (i := 4) (oi := ⟨some 95, _, _, _, _, _⟩) (v := ?_) rfl (by kernel_rfl) (by kernel_rfl) (by kernel_rfl) (fun _ _ _ h => h) (Or.inl ⟨by rfl, ?_⟩) (by assumption) ?_; rotate_left; (focus (intro w hSw; (try dsimp only at hSw); go_simp; (try with_reducible rfl))); (try simp only [Act.put, List.setIfInBounds_toArray, List.set_cons_zero, List.set_cons_succ])
              refine wpAnyH_take (i := 15) (oi := ⟨some 106, _, _, _, _, _⟩) (v := ?_) rfl (by kernel_rfl) (by kernel_rfl) (by kernel_rfl) (fun _ _ _ h => h) (Or.inl ⟨by rfl, ?_⟩) (by assumption) ?_; rotate_left; (focus (intro w hSw; (try dsimp only at hSw); go_simp; (try with_reducible rfl))); (try simp only [Act.put, List.setIfInBounds_toArray, List.set_cons_zero, List.set_cons_succ])
              refine wpAnyH_ready (rs := [16]) (by kernel_rfl) (by simp) ?_; refine AllReadyH.cons (o := ⟨some 107, _, _, _, _, _⟩) rfl (fun K hK => ?_) AllReadyH.nil; go_simp
              refine hK.out _ _ ⟨q0, q1⟩ (fun hHeld => ?_); clear hK K; (try simp only [Act.put, List.setIfInBounds_toArray, List.set_cons_zero, List.set_cons_succ])
              refine wpAnyH_ready (rs := [17]) (by kernel_rfl) (by simp) ?_; refine AllReadyH.cons (o := ⟨some 108, _, _, _, _, _⟩) rfl (fun K hK => ?_) AllReadyH.nil
              refine step_append_lies _ (by rfl) _ _ _ (by rfl) (w.heap.size + 2) 105 i1 _ 5 40 Try.underlying51 hi1 hy0 hy1 hy2 rfl (by omega) (.slice A5 (nf + 1) c5) (nf + 1) _ (by rfl) HGc.out.pr ⟨w8.heap.size, 0, none⟩ 1 1 [.int .i64 (2 + (x8 : Int)), .int .i64 x0, .int .i64 x1, .int .i64 (-1), .int .i64 0] (by rfl) (by rfl) (cells_new _ _ _ _ rfl) (by simp [Value.oneCell']) (by omega) (by unfold maxLen; omega) (by omega) (by simp; omega) (w8.heap.size + 1) (by simp) ?_
              intro gg cap w9 hown9 hgrow9 hat9 hlt9
              have hgr9 : (w8.alloc (.cells #[.int .i64 (2 + (x8 : Int)), .int .i64 x0, .int .i64 x1, .int .i64 (-1), .int .i64 0] 105)).grownBy w9 (Value.slice A5 (nf + 1) c5).ownBlock := ⟨hgrow9.os, hgrow9.tape, hgrow9.output, hgrow9.size, hgrow9.block⟩
              have hfr9 := HGc.out.frame hgr9 fun k hk => (HGc.out.pr.lt k hk).1
              have z9 := hfr9.2.2.1
              have h0 := hfr9.2.2.2.2.2.1
              have h1 := hfr9.2.2.2.2.2.2.1
              clear hfr9
              have hxr9 := HGc.out.xr.kept hgr9 (blocks_ne HGc.out.xr HGc.out.pr int_ne_part)
              have s0 := (hxr9.cellAt (j + 1) (by omega)).trans HXX.out.1
              have s1 := (hxr9.cellAt (j + 2) (by omega)).trans HXX.out.2
              clear hxr9
              refine hK.out _ _ ⟨s0, s1⟩ (fun hHeld => ?_); clear hK K; (try simp only [Act.put, List.setIfInBounds_toArray, List.set_cons_zero, List.set_cons_succ])
              refine wpAnyH_take (i := 18) (oi := ⟨some 109, _, _, _, _, _⟩) (v := ?_) rfl (by kernel_rfl) (by kernel_rfl) (by kernel_rfl) (fun _ _ _ h => h) (Or.inl ⟨by rfl, ?_⟩) (by assumption) ?_; rotate_left; (focus (intro w hSw; (try dsimp only at hSw); go_simp; (try with_reducible rfl))); (try simp only [Act.put, List.setIfInBounds_toArray, List.set_cons_zero, List.set_cons_succ])
              refine wpAnyH_ready (rs := [19]) (by kernel_rfl) (by simp) ?_; refine AllReadyH.cons (o := ⟨none, _, _, _, _, _⟩) rfl (fun K hK => ?_) AllReadyH.nil; go_simp
              refine hK.out _ _ ⟨(World.cell?_setCell_other _ _ _ _ (hnb1 _)).trans s0, (World.cell?_setCell_other _ _ _ _ (hnb1 _)).trans s1⟩ (fun hHeld => ?_); clear hK K; (try simp only [Act.put, List.setIfInBounds_toArray, List.set_cons_zero, List.set_cons_succ])
              refine wpAnyH_done (by kernel_rfl) ?_ _
              rotate_left
              go_simp
              go_at_call 73
              refine (pick_any g A n c bs (P1 + 4 + 1) 6 _ ?_ HN.out hby hs ?_ ?_).mono ?_
              (first | exact HGz.out.rd | exact HGz.out.rd.drew)
              omega
              omega
              rintro e w8 ⟨x8, rfl, hx8', _, hr8, ht8'⟩
              have hx8 : (x8 : Int) < 6 := hx8' (by omega)
              have ht8 : Tch g (g + 1) wz w8 := ⟨ht8'.os, ht8'.tape, ht8'.output, ht8'.size, ht8'.block⟩
              have HGP := Lib.hid (HGz.out.pick hr8 ht8)
              have p0 := (HGP.out.xr.cellAt (j + 1) (by omega)).trans HXX.out.1
              have p1 := (HGP.out.xr.cellAt (j + 2) (by omega)).trans HXX.out.2
              have g0 := HGP.out.fb
              have g1 := HGP.out.fz
              have z8 : w.heap.size + 1 < w8.heap.size := HGP.out.lt
              have hgo8 := (HGP.out.xr.lt go rfl).2
              have a8 : IntKind.i64.wrap (2 + (x8 : Int)) = 2 + (x8 : Int) := (by rw [IntKind.wrap_i64]; omega)
              have q0 := (World.cell?_alloc_lt w8 (.cells #[.int .i64 (2 + (x8 : Int)), .int .i64 x0, .int .i64 x1, .int .i64 (-1), .int .i64 0] 105) ⟨go, j + 1, none⟩ hgo8).trans p0
              have q1 := (World.cell?_alloc_lt w8 (.cells #[.int .i64 (2 + (x8 : Int)), .int .i64 x0, .int .i64 x1, .int .i64 (-1), .int .i64 0] 105) ⟨go, j + 2, none⟩ hgo8).trans p1
              have HGc := Lib.hid (HGP.out.alloc (.cells #[.int .i64 (2 + (x8 : Int)), .int .i64 x0, .int .i64 x1, .int .i64 (-1), .int .i64 0] 105))
              clear hx8' hr8 ht8'
              refine hK.out _ _ ⟨p0, p1⟩ (fun hHeld => ?_); clear hK K; (try simp only [Act.put, List.setIfInBounds_toArray, List.set_cons_zero, List.set_cons_succ])
              refine wpAnyH_take (i := 4) (oi := ⟨some 95, _, _, _, _, _⟩) (v := ?_) rfl (by kernel_rfl) (by kernel_rfl) (by kernel_rfl) (fun _ _ _ h => h) (Or.inl ⟨by rfl, ?_⟩) (by assumption) ?_; rotate_left; (focus (intro w hSw; (try dsimp only at hSw); go_simp; (try with_reducible rfl))); (try simp only [Act.put, List.setIfInBounds_toArray, List.set_cons_zero, List.set_cons_succ])
              refine wpAnyH_take (i := 15) (oi := ⟨some 106, _, _, _, _, _⟩) (v := ?_) rfl (by kernel_rfl) (by kernel_rfl) (by kernel_rfl) (fun _ _ _ h => h) (Or.inl ⟨by rfl, ?_⟩) (by assumption) ?_; rotate_left; (focus (intro w hSw; (try dsimp only at hSw); go_simp; (try with_reducible rfl))); (try simp only [Act.put, List.setIfInBounds_toArray, List.set_cons_zero, List.set_cons_succ])
              refine wpAnyH_ready (rs := [1, 16]) (by kernel_rfl) (by simp) ?_; refine AllReadyH.cons (o := ⟨some 92, _, _, _, _, _⟩) rfl (fun K hK => ?_) (AllReadyH.cons (o := ⟨some 107, _, _, _, _, _⟩) rfl (fun K hK => ?_) AllReadyH.nil)
              go_simp
              refine hK.out _ _ ⟨p0, p1⟩ (fun hHeld => ?_); clear hK K; (try simp only [Act.put, List.setIfInBounds_toArray, List.set_cons_zero, List.set_cons_succ])
              refine wpAnyH_ready (rs := [16]) (by kernel_rfl) (by simp) ?_; refine AllReadyH.cons (o := ⟨some 107, _, _, _, _, _⟩) rfl (fun K hK => ?_) AllReadyH.nil; go_simp
              refine hK.out _ _ ⟨q0, q1⟩ (fun hHeld => ?_); clear hK K; (try simp only [Act.put, List.setIfInBounds_toArray, List.set_cons_zero, List.set_cons_succ])
              refine wpAnyH_ready (rs := [17]) (by kernel_rfl) (by simp) ?_; refine AllReadyH.cons (o := ⟨some 108, _, _, _, _, _⟩) rfl (fun K hK => ?_) AllReadyH.nil
              refine step_append_lies _ (by rfl) _ _ _ (by rfl) (w.heap.size + 2) 105 i1 _ 5 40 Try.underlying51 hi1 hy0 hy1 hy2 rfl (by omega) (.slice A5 (nf + 1) c5) (nf + 1) _ (by rfl) HGc.out.pr ⟨w8.heap.size, 0, none⟩ 1 1 [.int .i64 (2 + (x8 : Int)), .int .i64 x0, .int .i64 x1, .int .i64 (-1), .int .i64 0] (by rfl) (by rfl) (cells_new _ _ _ _ rfl) (by simp [Value.oneCell']) (by omega) (by unfold maxLen; omega) (by omega) (by simp; omega) (w8.heap.size + 1) (by simp) ?_
              intro gg cap w9 hown9 hgrow9 hat9 hlt9
              have hgr9 : (w8.alloc (.cells #[.int .i64 (2 + (x8 : Int)), .int .i64 x0, .int .i64 x1, .int .i64 (-1), .int .i64 0] 105)).grownBy w9 (Value.slice A5 (nf + 1) c5).ownBlock := ⟨hgrow9.os, hgrow9.tape, hgrow9.output, hgrow9.size, hgrow9.block⟩
              have hfr9 := HGc.out.frame hgr9 fun k hk => (HGc.out.pr.lt k hk).1
              have z9 := hfr9.2.2.1
              have h0 := hfr9.2.2.2.2.2.1
              have h1 := hfr9.2.2.2.2.2.2.1
              clear hfr9
              have hxr9 := HGc.out.xr.kept hgr9 (blocks_ne HGc.out.xr HGc.out.pr int_ne_part)
              have s0 := (hxr9.cellAt (j + 1) (by omega)).trans HXX.out.1
              have s1 := (hxr9.cellAt (j + 2) (by omega)).trans HXX.out.2
              clear hxr9
              refine hK.out _ _ ⟨s0, s1⟩ (fun hHeld => ?_); clear hK K; (try simp only [Act.put, List.setIfInBounds_toArray, List.set_cons_zero, List.set_cons_succ])
              refine wpAnyH_take (i := 18) (oi := ⟨some 109, _, _, _, _, _⟩) (v := ?_) rfl (by kernel_rfl) (by kernel_rfl) (by kernel_rfl) (fun _ _ _ h => h) (Or.inl ⟨by rfl, ?_⟩) (by assumption) ?_; rotate_left; (focus (intro w hSw; (try dsimp only at hSw); go_simp; (try with_reducible rfl))); (try simp only [Act.put, List.setIfInBounds_toArray, List.set_cons_zero, List.set_cons_succ])
              refine wpAnyH_ready (rs := [19]) (by kernel_rfl) (by simp) ?_; refine AllReadyH.cons (o := ⟨none, _, _, _, _, _⟩) rfl (fun K hK => ?_) AllReadyH.nil; go_simp
              refine hK.out _ _ ⟨(World.cell?_setCell_other _ _ _ _ (hnb1 _)).trans s0, (World.cell?_setCell_other _ _ _ _ (hnb1 _)).trans s1⟩ (fun hHeld => ?_); clear hK K; (try simp only [Act.put, List.setIfInBounds_toArray, List.set_cons_zero, List.set_cons_succ])
              refine wpAnyH_done (by kernel_rfl) ?_ _
              rotate_left
              go_simp
              refine hK.out _ _ ⟨q0, q1⟩ (fun hHeld => ?_); clear hK K; (try simp only [Act.put, List.setIfInBounds_toArray, List.set_cons_zero, List.set_cons_succ])
              refine wpAnyH_ready (rs := [1]) (by kernel_rfl) (by simp) ?_; refine AllReadyH.cons (o := ⟨some 92, _, _, _, _, _⟩) rfl (fun K hK => ?_) AllReadyH.nil; go_simp
              refine hK.out _ _ ⟨q0, q1⟩ (fun hHeld => ?_); clear hK K; (try simp only [Act.put, List.setIfInBounds_toArray, List.set_cons_zero, List.set_cons_succ])
              refine wpAnyH_ready (rs := [17]) (by kernel_rfl) (by simp) ?_; refine AllReadyH.cons (o := ⟨some 108, _, _, _, _, _⟩) rfl (fun K hK => ?_) AllReadyH.nil
              refine step_append_lies _ (by rfl) _ _ _ (by rfl) (w.heap.size + 2) 105 i1 _ 5 40 Try.underlying51 hi1 hy0 hy1 hy2 rfl (by omega) (.slice A5 (nf + 1) c5) (nf + 1) _ (by rfl) HGc.out.pr ⟨w8.heap.size, 0, none⟩ 1 1 [.int .i64 (2 + (x8 : Int)), .int .i64 x0, .int .i64 x1, .int .i64 (-1), .int .i64 0] (by rfl) (by rfl) (cells_new _ _ _ _ rfl) (by simp [Value.oneCell']) (by omega) (by unfold maxLen; omega) (by omega) (by simp; omega) (w8.heap.size + 1) (by simp) ?_
              intro gg cap w9 hown9 hgrow9 hat9 hlt9
              have hgr9 : (w8.alloc (.cells #[.int .i64 (2 + (x8 : Int)), .int .i64 x0, .int .i64 x1, .int .i64 (-1), .int .i64 0] 105)).grownBy w9 (Value.slice A5 (nf + 1) c5).ownBlock := ⟨hgrow9.os, hgrow9.tape, hgrow9.output, hgrow9.size, hgrow9.block⟩
              have hfr9 := HGc.out.frame hgr9 fun k hk => (HGc.out.pr.lt k hk).1
              have z9 := hfr9.2.2.1
              have h0 := hfr9.2.2.2.2.2.1
              have h1 := hfr9.2.2.2.2.2.2.1
              clear hfr9
              have hxr9 := HGc.out.xr.kept hgr9 (blocks_ne HGc.out.xr HGc.out.pr int_ne_part)
              have s0 := (hxr9.cellAt (j + 1) (by omega)).trans HXX.out.1
              have s1 := (hxr9.cellAt (j + 2) (by omega)).trans HXX.out.2
              clear hxr9
              refine hK.out _ _ ⟨s0, s1⟩ (fun hHeld => ?_); clear hK K; (try simp only [Act.put, List.setIfInBounds_toArray, List.set_cons_zero, List.set_cons_succ])
              refine wpAnyH_take (i := 18) (oi := ⟨some 109, _, _, _, _, _⟩) (v := ?_) rfl (by kernel_rfl) (by kernel_rfl) (by kernel_rfl) (fun _ _ _ h => h) (Or.inl ⟨by rfl, ?_⟩) (by assumption) ?_; rotate_left; (focus (intro w hSw; (try dsimp only at hSw); go_simp; (try with_reducible rfl))); (try simp only [Act.put, List.setIfInBounds_toArray, List.set_cons_zero, List.set_cons_succ])
              refine wpAnyH_ready (rs := [19]) (by kernel_rfl) (by simp) ?_; refine AllReadyH.cons (o := ⟨none, _, _, _, _, _⟩) rfl (fun K hK => ?_) AllReadyH.nil; go_simp
              refine hK.out _ _ ⟨(World.cell?_setCell_other _ _ _ _ (hnb1 _)).trans s0, (World.cell?_setCell_other _ _ _ _ (hnb1 _)).trans s1⟩ (fun hHeld => ?_); clear hK K; (try simp only [Act.put, List.setIfInBounds_toArray, List.set_cons_zero, List.set_cons_succ])
              refine wpAnyH_done (by kernel_rfl) ?_ _
              all_goals
                have HG8 := Lib.hid (HGc.out.parted (Af' := some ⟨gg, 0, none⟩) (nf' := nf + 1 + 1) (cf' := cap) (ps' := (ps ++ [q']) ++ [⟨2 + (x8 : Int), x0, x1, -1, 0⟩]) hgr9 (by rw [List.flatMap_append]; exact hown9) (by rw [List.length_append, ← HGc.out.pl]; rfl))
                have HXL8 := Lib.hid (HXL.out)
                clear hown9 hgrow9 hgr9 hat9 hlt9 z9 h0 h1 s0 s1 q0 q1 p0 p1 o0 o1 g0 g1 f0 f1 z1 z8 HGc HGP HGz HXX a8
                go_wp2_with fail
                generalize (w9.setCell ⟨w.heap.size + 1, 0, none⟩ (.slice (some ⟨gg, 0, none⟩) (nf + 1 + 1) cap)) = W8 at *
                have f8 := HG8.out.fb
                have z8 : w.heap.size + 1 < W8.heap.size := HG8.out.lt
                have n1 : IntKind.i64.wrap (((nf : Int) + 1) + 1 - 1) = ((nf : Int) + 1) := by rw [IntKind.wrap_i64]; omega
                have n2 : IntKind.i64.wrap (((nf : Int) + 1)) = ((nf : Int) + 1) := by rw [IntKind.wrap_i64]; omega
                have f8' := (World.cell?_alloc_lt W8 (.cells #[.int .i64 (((nf : Int) + 1))] 3) ⟨w.heap.size + 1, 0, none⟩ z8).trans f8
                have HG9 := Lib.hid (HG8.out.alloc (.cells #[.int .i64 (((nf : Int) + 1))] 3))
                have hcg : j + 2 + 1 ≤ co := by
                  rcases HG8.out.xr.2 with ⟨h', _⟩ | ⟨g', cap', cur, h', _, _, hnc, _⟩
                  · simp at h'
                  · simp at h'
                    omega
                have hcg1 : ((j : Int) + 1) ≤ (co : Int) := by omega
                go_region_held3 (fun w' => w'.cell? ⟨w.heap.size + 1, 0, none⟩ = some (.slice (some ⟨gg, 0, none⟩) (nf + 1 + 1) cap)) (first | exact f8 | exact f8' | exact f9)
                  (first
                    | (refine step_append_lies _ (by rfl) _ _ _ (by rfl) (w.heap.size + 2) 3 i0 (.int .i64 0) 1 8 Try.underlying26 hi0 hz0 hz1 hz2 rfl (by omega) (.slice (some ⟨go, 0, none⟩) (j + 1) co) (j + 1) _ (by rfl) (own_shrink HG9.out.xr (by omega)) ⟨W8.heap.size, 0, none⟩ 1 1 [.int .i64 (((nf : Int) + 1))] (by rfl) (by rfl) (cell_one_new _ _ _) (by simp [Value.oneCell']) (by omega) (by unfold maxLen; omega) (by omega) (by simp; omega) W8.heap.size.succ (by simp) ?_; intro gh cah w10 hown10 hgrow10' hat10 hlt10; have hgrow10 : (W8.alloc (.cells #[.int .i64 (((nf : Int) + 1))] 3)).grownBy w10 (Value.slice (some ⟨go, 0, none⟩) (j + 1) co).ownBlock := ⟨hgrow10'.os, hgrow10'.tape, hgrow10'.output, hgrow10'.size, hgrow10'.block⟩; have HGA := Lib.hid (HG9.out.opened (xs' := X.take (j + 1) ++ [((nf : Int) + 1)]) (own_shrink HG9.out.xr (by omega : j + 1 ≤ j + 2 + 1)) hgrow10 (by first | (simpa using hown10) | (simpa [List.map_take] using hown10) | (rw [List.map_append, List.map_take]; exact hown10)) (by have := HXL8.out; rw [List.length_append, List.length_take]; show _ = _ + 1; omega)); have f9 := HGA.out.fb))
                clear f8 f8' f9 hgrow10 hgrow10' hown10 hat10 hlt10 HG8 HG9 z8 n1 n2 a1 a2 a1' a2' t1 t2
                go_wp2_with fail
                go_roundw
                case rel => exact ⟨k - 1, m + 1, j + 1 + 1, nf + 1 + 1, cap, _, _, _, by omega, by go_num, by omega, by omega, (show GI _ _ _ _ _ _ _ _ _ _ _ _ _ _ _ _ _ _ from HGA.out.mono (by have := HP1.out; omega))⟩
                case measure => simp [intOf]; omega
            · go_wp2_with fail
              go_roundw
              case rel => exact ⟨k - 1, m + 1, j + 2 + 1, nf + 1, c5, A5, _, _, by omega, by go_num, by omega, by omega, (show GI _ _ _ _ _ _ _ _ _ _ _ _ _ _ _ _ _ _ from HGz.out.mono (by have := HP1.out; omega))⟩
              case measure => simp [intOf]; omega
        · by_cases h2 : 2 ≤ no + 1
          · obtain ⟨j, rfl⟩ : ∃ j, no = j + 1 := ⟨no - 1, by omega⟩
            go_wp2_with fail
            generalize (w5.setCell ⟨w.heap.size + 1, 0, none⟩ (.slice A5 (nf + 1) c5)) = W6 at *
            refine (pick_any g A n c bs (P1 + 3) 2 W6 HG6.out.rd HN.out hby hs (by omega) (by omega)).mono ?_
            rintro e wz ⟨xz, rfl, _, _, hrz, htz⟩
            have HGz := Lib.hid (HG6.out.pick hrz htz)
            clear hrz htz HG6
            by_cases hxz : xz = 0
            · subst hxz
              obtain ⟨go, cg, hov⟩ := row_pos HGz.out.xr (by omega)
              cases hov
              have f0 := HGz.out.fb
              have f1 := HGz.out.fz
              have z1 : w.heap.size + 1 < wz.heap.size := HGz.out.lt
              have hxl := HGz.out.xl
              have o0 := HGz.out.xr.cellAt (j) (by omega)
              have o1 := HGz.out.xr.cellAt (j + 1) (by omega)
              rw [List.getElem?_map] at o0 o1
              generalize hX : xs ++ [(nf : Int)] = X at *
              have HX2 := Lib.hid hX
              clear hX
              rw [List.getElem?_eq_getElem (by omega), Option.map_some] at o0 o1
              generalize X[j]'_ = x0 at o0
              generalize X[j + 1]'_ = x1 at o1
              have HXL := Lib.hid hxl
              clear hxl
              have hgo := (HGz.out.xr.lt go rfl).2
              have hgo2 := (HGz.out.xr.lt go rfl).1
              go_wp2_with fail
              have a2 : IntKind.i64.wrap (((j : Int) + 1 + 1) - 2) = (j : Int) := by rw [IntKind.wrap_i64]; omega
              have a1 : IntKind.i64.wrap (((j : Int) + 1 + 1) - 1) = ((j : Int) + 1) := by rw [IntKind.wrap_i64]; omega
              have a2' : IntKind.i64.wrap ((j : Int)) = (j : Int) := by rw [IntKind.wrap_i64]; omega
              have a1' : IntKind.i64.wrap (((j : Int) + 1)) = ((j : Int) + 1) := by rw [IntKind.wrap_i64]; omega
              have b2 : (j : Int) < ((j : Int) + 1 + 1) := by omega
              have b1 : ((j : Int) + 1) < ((j : Int) + 1 + 1) := by omega
              have b0 : 0 ≤ (j : Int) := by omega
              have b00 : 0 ≤ ((j : Int) + 1) := by omega
              have t1 : ((j : Int)).toNat = j := by omega
              have t2 : (((j : Int) + 1)).toNat = j + 1 := by omega
              have HXX := Lib.hid (And.intro ((HGz.out.xr.cellAt (j) (by omega)).symm.trans o0) ((HGz.out.xr.cellAt (j + 1) (by omega)).symm.trans o1))
              have hnb1 : ∀ q : Nat, (⟨w.heap.size + 1, 0, none⟩ : Addr) ≠ ⟨go, q, none⟩ := fun q e => by have := congrArg Addr.block e; simp at this; omega
              refine wp_region_held_drew (S := (fun w' => w'.cell? ⟨go, j, none⟩ = some (.int .i64 x0) ∧ w'.cell? ⟨go, j + 1, none⟩ = some (.int .i64 x1))) (by kernel_rfl) ⟨o0, o1⟩ (fun hHeld => ?_)
              refine wpAnyH_take (i := 0) (oi := ⟨some 91, _, _, _, _, _⟩) (v := ?_) rfl (by kernel_rfl) (by kernel_rfl) (by kernel_rfl) (fun _ _ _ h => h) (Or.inl ⟨by rfl, ?_⟩) (by assumption) ?_; rotate_left; (focus (intro w hSw; (try dsimp only at hSw); go_simp; (try with_reducible rfl))); (try simp only [Act.put, List.setIfInBounds_toArray, List.set_cons_zero, List.set_cons_succ])
              refine wpAnyH_take (i := 2) (oi := ⟨some 93, _, _, _, _, _⟩) (v := ?_) rfl (by kernel_rfl) (by kernel_rfl) (by kernel_rfl) (fun _ _ _ h => h) (Or.inl ⟨by rfl, ?_⟩) (by assumption) ?_; rotate_left; (focus (intro w hSw; (try dsimp only at hSw); go_simp; (try with_reducible rfl))); (try simp only [Act.put, List.setIfInBounds_toArray, List.set_cons_zero, List.set_cons_succ])
              refine wpAnyH_take (i := 5) (oi := ⟨some 96, _, _, _, _, _⟩) (v := ?_) rfl (by kernel_rfl) (by kernel_rfl) (by kernel_rfl) (fun _ _ _ h => h) (Or.inl ⟨by rfl, ?_⟩) (by assumption) ?_; rotate_left; (focus (intro w hSw; (try dsimp only at hSw); go_simp; (try with_reducible rfl))); (try simp only [Act.put, List.setIfInBounds_toArray, List.set_cons_zero, List.set_cons_succ])
              refine wpAnyH_take (i := 6) (oi := ⟨some 97, _, _, _, _, _⟩) (v := ?_) rfl (by kernel_rfl) (by kernel_rfl) (by kernel_rfl) (fun _ _ _ h => h) (Or.inl ⟨by rfl, ?_⟩) (by assumption) ?_; rotate_left; (focus (intro w hSw; (try dsimp only at hSw); go_simp; (try with_reducible rfl))); (try simp only [Act.put, List.setIfInBounds_toArray, List.set_cons_zero, List.set_cons_succ])
              refine wpAnyH_take (i := 7) (oi := ⟨some 98, _, _, _, _, _⟩) (v := ?_) rfl (by kernel_rfl) (by kernel_rfl) (by kernel_rfl) (fun _ _ _ h => h) (Or.inl ⟨by rfl, ?_⟩) (by assumption) ?_; rotate_left; (focus (intro w hSw; (try dsimp only at hSw); go_simp; (try with_reducible rfl))); (try simp only [Act.put, List.setIfInBounds_toArray, List.set_cons_zero, List.set_cons_succ])
              refine wpAnyH_take (i := 8) (oi := ⟨some 99, _, _, _, _, _⟩) (v := ?_) rfl (by kernel_rfl) (by kernel_rfl) (by kernel_rfl) (fun _ _ _ h => h) (Or.inl ⟨by rfl, ?_⟩) (by assumption) ?_; rotate_left; (focus (intro w hSw; (try dsimp only at hSw); go_simp; (try with_reducible rfl))); (try simp only [Act.put, List.setIfInBounds_toArray, List.set_cons_zero, List.set_cons_succ])
              refine wpAnyH_take (i := 9) (oi := ⟨some 100, _, _, _, _, _⟩) (v := ?_) rfl (by kernel_rfl) (by kernel_rfl) (by kernel_rfl) (fun _ _ _ h => h) (Or.inl ⟨by rfl, ?_⟩) (by assumption) ?_; rotate_left; (focus (intro w hSw; (try dsimp only at hSw); go_simp; (try with_reducible rfl))); (try simp only [Act.put, List.setIfInBounds_toArray, List.set_cons_zero, List.set_cons_succ])
              refine wpAnyH_take (i := 10) (oi := ⟨some 101, _, _, _, _, _⟩) (v := ?_) rfl (by kernel_rfl) (by kernel_rfl) (by kernel_rfl) (fun _ _ _ h => h) (Or.inl ⟨by rfl, ?_⟩) (by assumption) ?_; rotate_left; (focus (intro w hSw; (try dsimp only at hSw); go_simp; (try with_reducible rfl))); (try simp only [Act.put, List.setIfInBounds_toArray, List.set_cons_zero, List.set_cons_succ])
              refine wpAnyH_take (i := 11) (oi := ⟨some 102, _, _, _, _, _⟩) (v := ?_) rfl (by kernel_rfl) (by kernel_rfl) (by kernel_rfl) (fun _ _ _ h => h) (Or.inl ⟨by rfl, ?_⟩) (by assumption) ?_; rotate_left; (focus (intro w hSw; (try dsimp only at hSw); go_simp; (try with_reducible rfl))); (try simp only [Act.put, List.setIfInBounds_toArray, List.set_cons_zero, List.set_cons_succ])
              refine wpAnyH_take (i := 12) (oi := ⟨some 103, _, _, _, _, _⟩) (v := ?_) rfl (by kernel_rfl) (by kernel_rfl) (by kernel_rfl) (fun _ _ _ h => h) (Or.inl ⟨by rfl, ?_⟩) (by assumption) ?_; rotate_left; (focus (intro w hSw; (try dsimp only at hSw); go_simp; (try with_reducible rfl))); (try simp only [Act.put, List.setIfInBounds_toArray, List.set_cons_zero, List.set_cons_succ])
              refine wpAnyH_take (i := 13) (oi := ⟨some 104, _, _, _, _, _⟩) (v := ?_) rfl (by kernel_rfl) (by kernel_rfl) (by kernel_rfl) (fun _ _ _ h => h) (Or.inl ⟨by rfl, ?_⟩) (by assumption) ?_; rotate_left; (focus (intro w hSw; (try dsimp only at hSw); go_simp; (try with_reducible rfl))); (try simp only [Act.put, List.setIfInBounds_toArray, List.set_cons_zero, List.set_cons_succ])
              refine wpAnyH_take (i := 14) (oi := ⟨some 105, _, _, _, _, _⟩) (v := ?_) rfl (by kernel_rfl) (by kernel_rfl) (by kernel_rfl) (fun _ _ _ h => h) (Or.inl ⟨by rfl, ?_⟩) (by assumption) ?_; rotate_left; (focus (intro w hSw; (try dsimp only at hSw); go_simp; (try with_reducible rfl))); (try simp only [Act.put, List.setIfInBounds_toArray, List.set_cons_zero, List.set_cons_succ])
              refine wpAnyH_ready (rs := [1, 3]) (by kernel_rfl) (by simp) ?_; refine AllReadyH.cons (o := ⟨some 92, _, _, _, _, _⟩) rfl (fun K hK => ?_) (AllReadyH.cons (o := ⟨some 94, _, _, _, _, _⟩) rfl (fun K hK => ?_) AllReadyH.nil)
              go_simp
              refine hK.out _ _ ⟨o0, o1⟩ (fun hHeld => ?_); clear hK K; (try simp only [Act.put, List.setIfInBounds_toArray, List.set_cons_zero, List.set_cons_succ])
              refine wpAnyH_ready (rs := [3]) (by kernel_rfl) (by simp) ?_; refine AllReadyH.cons (o := ⟨some 94, _, _, _, _, _⟩) rfl (fun K hK => ?_) AllReadyH.nil; go_simp
              go_at_call 73
              refine (pick_any g A n c bs (P1 + 4) 6 _ ?_ HN.out hby hs ?_ ?_).mono ?_
              (first | exact HGz.out.rd | exact HGz.out.rd.drew)
              omega
              omega
              rintro e w8 ⟨x8, rfl, hx8', _, hr8, ht8'⟩
              have hx8 : (x8 : Int) < 6 := hx8' (by omega)
              have ht8 : Tch g (g + 1) wz w8 := ⟨ht8'.os, ht8'.tape, ht8'.output, ht8'.size, ht8'.block⟩
              have HGP := Lib.hid (HGz.out.pick hr8 ht8)
              have p0 := (HGP.out.xr.cellAt (j) (by omega)).trans HXX.out.1
              have p1 := (HGP.out.xr.cellAt (j + 1) (by omega)).trans HXX.out.2
              have g0 := HGP.out.fb
              have g1 := HGP.out.fz
              have z8 : w.heap.size + 1 < w8.heap.size := HGP.out.lt
              have hgo8 := (HGP.out.xr.lt go rfl).2
              have a8 : IntKind.i64.wrap (2 + (x8 : Int)) = 2 + (x8 : Int) := (by rw [IntKind.wrap_i64]; omega)
              have q0 := (World.cell?_alloc_lt w8 (.cells #[.int .i64 (2 + (x8 : Int)), .int .i64 x0, .int .i64 x1, .int .i64 (-1), .int .i64 0] 105) ⟨go, j, none⟩ hgo8).trans p0
              have q1 := (World.cell?_alloc_lt w8 (.cells #[.int .i64 (2 + (x8 : Int)), .int .i64 x0, .int .i64 x1, .int .i64 (-1), .int .i64 0] 105) ⟨go, j + 1, none⟩ hgo8).trans p1
              have HGc := Lib.hid (HGP.out.alloc (.cells #[.int .i64 (2 + (x8 : Int)), .int .i64 x0, .int .i64 x1, .int .i64 (-1), .int .i64 0] 105))
              clear hx8' hr8 ht8'
              refine hK.out _ _ ⟨p0, p1⟩ (fun hHeld => ?_); clear hK K; (try simp only [Act.put, List.setIfInBounds_toArray, List.set_cons_zero, List.set_cons_succ])
              refine wpAnyH_take (i := 4) (oi := ⟨some 95, _, _, _, _, _⟩) (v := ?_) rfl (by kernel_rfl) (by kernel_rfl) (by kernel_rfl) (fun _ _ _ h => h) (Or.inl ⟨by rfl, ?_⟩) (by assumption) ?_; rotate_left; (focus (intro w hSw; (try dsimp only at hSw); go_simp; (try with_reducible rfl))); (try simp only [Act.put, List.setIfInBounds_toArray, List.set_cons_zero, List.set_cons_succ])
              refine wpAnyH_take (i := 15) (oi := ⟨some 106, _, _, _, _, _⟩) (v := ?_) rfl (by kernel_rfl) (by kernel_rfl) (by kernel_rfl) (fun _ _ _ h => h) (Or.inl ⟨by rfl, ?_⟩) (by assumption) ?_; rotate_left; (focus (intro w hSw; (try dsimp only at hSw); go_simp; (try with_reducible rfl))); (try simp only [Act.put, List.setIfInBounds_toArray, List.set_cons_zero, List.set_cons_succ])
              refine wpAnyH_ready (rs := [16]) (by kernel_rfl) (by simp) ?_; refine AllReadyH.cons (o := ⟨some 107, _, _, _, _, _⟩) rfl (fun K hK => ?_) AllReadyH.nil; go_simp
              refine hK.out _ _ ⟨q0, q1⟩ (fun hHeld => ?_); clear hK K; (try simp only [Act.put, List.setIfInBounds_toArray, List.set_cons_zero, List.set_cons_succ])
              refine wpAnyH_ready (rs := [17]) (by kernel_rfl) (by simp) ?_; refine AllReadyH.cons (o := ⟨some 108, _, _, _, _, _⟩) rfl (fun K hK => ?_) AllReadyH.nil
              refine step_append_lies _ (by rfl) _ _ _ (by rfl) (w.heap.size + 2) 105 i1 _ 5 40 Try.underlying51 hi1 hy0 hy1 hy2 rfl (by omega) (.slice A5 (nf + 1) c5) (nf + 1) _ (by rfl) HGc.out.pr ⟨w8.heap.size, 0, none⟩ 1 1 [.int .i64 (2 + (x8 : Int)), .int .i64 x0, .int .i64 x1, .int .i64 (-1), .int .i64 0] (by rfl) (by rfl) (cells_new _ _ _ _ rfl) (by simp [Value.oneCell']) (by omega) (by unfold maxLen; omega) (by omega) (by simp; omega) (w8.heap.size + 1) (by simp) ?_
              intro gg cap w9 hown9 hgrow9 hat9 hlt9
              have hgr9 : (w8.alloc (.cells #[.int .i64 (2 + (x8 : Int)), .int .i64 x0, .int .i64 x1, .int .i64 (-1), .int .i64 0] 105)).grownBy w9 (Value.slice A5 (nf + 1) c5).ownBlock := ⟨hgrow9.os, hgrow9.tape, hgrow9.output, hgrow9.size, hgrow9.block⟩
              have hfr9 := HGc.out.frame hgr9 fun k hk => (HGc.out.pr.lt k hk).1
              have z9 := hfr9.2.2.1
              have h0 := hfr9.2.2.2.2.2.1
              have h1 := hfr9.2.2.2.2.2.2.1
              clear hfr9
              have hxr9 := HGc.out.xr.kept hgr9 (blocks_ne HGc.out.xr HGc.out.pr int_ne_part)
              have s0 := (hxr9.cellAt (j) (by omega)).trans HXX.out.1
              have s1 := (hxr9.cellAt (j + 1) (by omega)).trans HXX.out.2
              clear hxr9
              refine hK.out _ _ ⟨s0, s1⟩ (fun hHeld => ?_); clear hK K; (try simp only [Act.put, List.setIfInBounds_toArray, List.set_cons_zero, List.set_cons_succ])
              refine wpAnyH_take (i := 18) (oi := ⟨some 109, _, _, _, _, _⟩) (v := ?_) rfl (by kernel_rfl) (by kernel_rfl) (by kernel_rfl) (fun _ _ _ h => h) (Or.inl ⟨by rfl, ?_⟩) (by assumption) ?_; rotate_left; (focus (intro w hSw; (try dsimp only at hSw); go_simp; (try with_reducible rfl))); (try simp only [Act.put, List.setIfInBounds_toArray, List.set_cons_zero, List.set_cons_succ])
              refine wpAnyH_ready (rs := [19]) (by kernel_rfl) (by simp) ?_; refine AllReadyH.cons (o := ⟨none, _, _, _, _, _⟩) rfl (fun K hK => ?_) AllReadyH.nil; go_simp
              refine hK.out _ _ ⟨(World.cell?_setCell_other _ _ _ _ (hnb1 _)).trans s0, (World.cell?_setCell_other _ _ _ _ (hnb1 _)).trans s1⟩ (fun hHeld => ?_); clear hK K; (try simp only [Act.put, List.setIfInBounds_toArray, List.set_cons_zero, List.set_cons_succ])
              refine wpAnyH_done (by kernel_rfl) ?_ _
              rotate_left
              go_simp
              go_at_call 73
              refine (pick_any g A n c bs (P1 + 4) 6 _ ?_ HN.out hby hs ?_ ?_).mono ?_
              (first | exact HGz.out.rd | exact HGz.out.rd.drew)
              omega
              omega
              rintro e w8 ⟨x8, rfl, hx8', _, hr8, ht8'⟩
              have hx8 : (x8 : Int) < 6 := hx8' (by omega)
              have ht8 : Tch g (g + 1) wz w8 := ⟨ht8'.os, ht8'.tape, ht8'.output, ht8'.size, ht8'.block⟩
              have HGP := Lib.hid (HGz.out.pick hr8 ht8)
              have p0 := (HGP.out.xr.cellAt (j) (by omega)).trans HXX.out.1
              have p1 := (HGP.out.xr.cellAt (j + 1) (by omega)).trans HXX.out.2
              have g0 := HGP.out.fb
              have g1 := HGP.out.fz
              have z8 : w.heap.size + 1 < w8.heap.size := HGP.out.lt
              have hgo8 := (HGP.out.xr.lt go rfl).2
              have a8 : IntKind.i64.wrap (2 + (x8 : Int)) = 2 + (x8 : Int) := (by rw [IntKind.wrap_i64]; omega)
              have q0 := (World.cell?_alloc_lt w8 (.cells #[.int .i64 (2 + (x8 : Int)), .int .i64 x0, .int .i64 x1, .int .i64 (-1), .int .i64 0] 105) ⟨go, j, none⟩ hgo8).trans p0
              have q1 := (World.cell?_alloc_lt w8 (.cells #[.int .i64 (2 + (x8 : Int)), .int .i64 x0, .int .i64 x1, .int .i64 (-1), .int .i64 0] 105) ⟨go, j + 1, none⟩ hgo8).trans p1
              have HGc := Lib.hid (HGP.out.alloc (.cells #[.int .i64 (2 + (x8 : Int)), .int .i64 x0, .int .i64 x1, .int .i64 (-1), .int .i64 0] 105))
              clear hx8' hr8 ht8'
              refine hK.out _ _ ⟨p0, p1⟩ (fun hHeld => ?_); clear hK K; (try simp only [Act.put, List.setIfInBounds_toArray, List.set_cons_zero, List.set_cons_succ])
              refine wpAnyH_take (i := 4) (oi := ⟨some 95, _, _, _, _, _⟩) (v := ?_) rfl (by kernel_rfl) (by kernel_rfl) (by kernel_rfl) (fun _ _ _ h => h) (Or.inl ⟨by rfl, ?_⟩) (by assumption) ?_; rotate_left; (focus (intro w hSw; (try dsimp only at hSw); go_simp; (try with_reducible rfl))); (try simp only [Act.put, List.setIfInBounds_toArray, List.set_cons_zero, List.set_cons_succ])
              refine wpAnyH_take (i := 15) (oi := ⟨some 106, _, _, _, _, _⟩) (v := ?_) rfl (by kernel_rfl) (by kernel_rfl) (by kernel_rfl) (fun _ _ _ h => h) (Or.inl ⟨by rfl, ?_⟩) (by assumption) ?_; rotate_left; (focus (intro w hSw; (try dsimp only at hSw); go_simp; (try with_reducible rfl))); (try simp only [Act.put, List.setIfInBounds_toArray, List.set_cons_zero, List.set_cons_succ])
              refine wpAnyH_ready (rs := [1, 16]) (by kernel_rfl) (by simp) ?_; refine AllReadyH.cons (o := ⟨some 92, _, _, _, _, _⟩) rfl (fun K hK => ?_) (AllReadyH.cons (o := ⟨some 107, _, _, _, _, _⟩) rfl (fun K hK => ?_) AllReadyH.nil)
              go_simp
              refine hK.out _ _ ⟨p0, p1⟩ (fun hHeld => ?_); clear hK K; (try simp only [Act.put, List.setIfInBounds_toArray, List.set_cons_zero, List.set_cons_succ])
              refine wpAnyH_ready (rs := [16]) (by kernel_rfl) (by simp) ?_; refine AllReadyH.cons (o := ⟨some 107, _, _, _, _, _⟩) rfl (fun K hK => ?_) AllReadyH.nil; go_simp
              refine hK.out _ _ ⟨q0, q1⟩ (fun hHeld => ?_); clear hK K; (try simp only [Act.put, List.setIfInBounds_toArray, List.set_cons_zero, List.set_cons_succ])
              refine wpAnyH_ready (rs := [17]) (by kernel_rfl) (by simp) ?_; refine AllReadyH.cons (o := ⟨some 108, _, _, _, _, _⟩) rfl (fun K hK => ?_) AllReadyH.nil
              refine step_append_lies _ (by rfl) _ _ _ (by rfl) (w.heap.size + 2) 105 i1 _ 5 40 Try.underlying51 hi1 hy0 hy1 hy2 rfl (by omega) (.slice A5 (nf + 1) c5) (nf + 1) _ (by rfl) HGc.out.pr ⟨w8.heap.size, 0, none⟩ 1 1 [.int .i64 (2 + (x8 : Int)), .int .i64 x0, .int .i64 x1, .int .i64 (-1), .int .i64 0] (by rfl) (by rfl) (cells_new _ _ _ _ rfl) (by simp [Value.oneCell']) (by omega) (by unfold maxLen; omega) (by omega) (by simp; omega) (w8.heap.size + 1) (by simp) ?_
              intro gg cap w9 hown9 hgrow9 hat9 hlt9
              have hgr9 : (w8.alloc (.cells #[.int .i64 (2 + (x8 : Int)), .int .i64 x0, .int .i64 x1, .int .i64 (-1), .int .i64 0] 105)).grownBy w9 (Value.slice A5 (nf + 1) c5).ownBlock := ⟨hgrow9.os, hgrow9.tape, hgrow9.output, hgrow9.size, hgrow9.block⟩
              have hfr9 := HGc.out.frame hgr9 fun k hk => (HGc.out.pr.lt k hk).1
              have z9 := hfr9.2.2.1
              have h0 := hfr9.2.2.2.2.2.1
              have h1 := hfr9.2.2.2.2.2.2.1
              clear hfr9
              have hxr9 := HGc.out.xr.kept hgr9 (blocks_ne HGc.out.xr HGc.out.pr int_ne_part)
              have s0 := (hxr9.cellAt (j) (by omega)).trans HXX.out.1
              have s1 := (hxr9.cellAt (j + 1) (by omega)).trans HXX.out.2
              clear hxr9
              refine hK.out _ _ ⟨s0, s1⟩ (fun hHeld => ?_); clear hK K; (try simp only [Act.put, List.setIfInBounds_toArray, List.set_cons_zero, List.set_cons_succ])
              refine wpAnyH_take (i := 18) (oi := ⟨some 109, _, _, _, _, _⟩) (v := ?_) rfl (by kernel_rfl) (by kernel_rfl) (by kernel_rfl) (fun _ _ _ h => h) (Or.inl ⟨by rfl, ?_⟩) (by assumption) ?_; rotate_left; (focus (intro w hSw; (try dsimp only at hSw); go_simp; (try with_reducible rfl))); (try simp only [Act.put, List.setIfInBounds_toArray, List.set_cons_zero, List.set_cons_succ])
              refine wpAnyH_ready (rs := [19]) (by kernel_rfl) (by simp) ?_; refine AllReadyH.cons (o := ⟨none, _, _, _, _, _⟩) rfl (fun K hK => ?_) AllReadyH.nil; go_simp
              refine hK.out _ _ ⟨(World.cell?_setCell_other _ _ _ _ (hnb1 _)).trans s0, (World.cell?_setCell_other _ _ _ _ (hnb1 _)).trans s1⟩ (fun hHeld => ?_); clear hK K; (try simp only [Act.put, List.setIfInBounds_toArray, List.set_cons_zero, List.set_cons_succ])
              refine wpAnyH_done (by kernel_rfl) ?_ _
              rotate_left
              go_simp
              refine hK.out _ _ ⟨q0, q1⟩ (fun hHeld => ?_); clear hK K; (try simp only [Act.put, List.setIfInBounds_toArray, List.set_cons_zero, List.set_cons_succ])
              refine wpAnyH_ready (rs := [1]) (by kernel_rfl) (by simp) ?_; refine AllReadyH.cons (o := ⟨some 92, _, _, _, _, _⟩) rfl (fun K hK => ?_) AllReadyH.nil; go_simp
              refine hK.out _ _ ⟨q0, q1⟩ (fun hHeld => ?_); clear hK K; (try simp only [Act.put, List.setIfInBounds_toArray, List.set_cons_zero, List.set_cons_succ])
              refine wpAnyH_ready (rs := [17]) (by kernel_rfl) (by simp) ?_; refine AllReadyH.cons (o := ⟨some 108, _, _, _, _, _⟩) rfl (fun K hK => ?_) AllReadyH.nil
              refine step_append_lies _ (by rfl) _ _ _ (by rfl) (w.heap.size + 2) 105 i1 _ 5 40 Try.underlying51 hi1 hy0 hy1 hy2 rfl (by omega) (.slice A5 (nf + 1) c5) (nf + 1) _ (by rfl) HGc.out.pr ⟨w8.heap.size, 0, none⟩ 1 1 [.int .i64 (2 + (x8 : Int)), .int .i64 x0, .int .i64 x1, .int .i64 (-1), .int .i64 0] (by rfl) (by rfl) (cells_new _ _ _ _ rfl) (by simp [Value.oneCell']) (by omega) (by unfold maxLen; omega) (by omega) (by simp; omega) (w8.heap.size + 1) (by simp) ?_
              intro gg cap w9 hown9 hgrow9 hat9 hlt9
              have hgr9 : (w8.alloc (.cells #[.int .i64 (2 + (x8 : Int)), .int .i64 x0, .int .i64 x1, .int .i64 (-1), .int .i64 0] 105)).grownBy w9 (Value.slice A5 (nf + 1) c5).ownBlock := ⟨hgrow9.os, hgrow9.tape, hgrow9.output, hgrow9.size, hgrow9.block⟩
              have hfr9 := HGc.out.frame hgr9 fun k hk => (HGc.out.pr.lt k hk).1
              have z9 := hfr9.2.2.1
              have h0 := hfr9.2.2.2.2.2.1
              have h1 := hfr9.2.2.2.2.2.2.1
              clear hfr9
              have hxr9 := HGc.out.xr.kept hgr9 (blocks_ne HGc.out.xr HGc.out.pr int_ne_part)
              have s0 := (hxr9.cellAt (j) (by omega)).trans HXX.out.1
              have s1 := (hxr9.cellAt (j + 1) (by omega)).trans HXX.out.2
              clear hxr9
              refine hK.out _ _ ⟨s0, s1⟩ (fun hHeld => ?_); clear hK K; (try simp only [Act.put, List.setIfInBounds_toArray, List.set_cons_zero, List.set_cons_succ])
              refine wpAnyH_take (i := 18) (oi := ⟨some 109, _, _, _, _, _⟩) (v := ?_) rfl (by kernel_rfl) (by kernel_rfl) (by kernel_rfl) (fun _ _ _ h => h) (Or.inl ⟨by rfl, ?_⟩) (by assumption) ?_; rotate_left; (focus (intro w hSw; (try dsimp only at hSw); go_simp; (try with_reducible rfl))); (try simp only [Act.put, List.setIfInBounds_toArray, List.set_cons_zero, List.set_cons_succ])
              refine wpAnyH_ready (rs := [19]) (by kernel_rfl) (by simp) ?_; refine AllReadyH.cons (o := ⟨none, _, _, _, _, _⟩) rfl (fun K hK => ?_) AllReadyH.nil; go_simp
              refine hK.out _ _ ⟨(World.cell?_setCell_other _ _ _ _ (hnb1 _)).trans s0, (World.cell?_setCell_other _ _ _ _ (hnb1 _)).trans s1⟩ (fun hHeld => ?_); clear hK K; (try simp only [Act.put, List.setIfInBounds_toArray, List.set_cons_zero, List.set_cons_succ])
              refine wpAnyH_done (by kernel_rfl) ?_ _
              all_goals
                have HG8 := Lib.hid (HGc.out.parted (Af' := some ⟨gg, 0, none⟩) (nf' := nf + 1 + 1) (cf' := cap) (ps' := (ps ++ [q']) ++ [⟨2 + (x8 : Int), x0, x1, -1, 0⟩]) hgr9 (by rw [List.flatMap_append]; exact hown9) (by rw [List.length_append, ← HGc.out.pl]; rfl))
                have HXL8 := Lib.hid (HXL.out)
                clear hown9 hgrow9 hgr9 hat9 hlt9 z9 h0 h1 s0 s1 q0 q1 p0 p1 o0 o1 g0 g1 f0 f1 z1 z8 HGc HGP HGz HXX a8
                go_wp2_with fail
                generalize (w9.setCell ⟨w.heap.size + 1, 0, none⟩ (.slice (some ⟨gg, 0, none⟩) (nf + 1 + 1) cap)) = W8 at *
                have f8 := HG8.out.fb
                have z8 : w.heap.size + 1 < W8.heap.size := HG8.out.lt
                have n1 : IntKind.i64.wrap (((nf : Int) + 1) + 1 - 1) = ((nf : Int) + 1) := by rw [IntKind.wrap_i64]; omega
                have n2 : IntKind.i64.wrap (((nf : Int) + 1)) = ((nf : Int) + 1) := by rw [IntKind.wrap_i64]; omega
                have f8' := (World.cell?_alloc_lt W8 (.cells #[.int .i64 (((nf : Int) + 1))] 3) ⟨w.heap.size + 1, 0, none⟩ z8).trans f8
                have HG9 := Lib.hid (HG8.out.alloc (.cells #[.int .i64 (((nf : Int) + 1))] 3))
                have hcg : j + 1 + 1 ≤ co := by
                  rcases HG8.out.xr.2 with ⟨h', _⟩ | ⟨g', cap', cur, h', _, _, hnc, _⟩
                  · simp at h'
                  · simp at h'
                    omega
                have hcg1 : (j : Int) ≤ (co : Int) := by omega
                go_region_held3 (fun w' => w'.cell? ⟨w.heap.size + 1, 0, none⟩ = some (.slice (some ⟨gg, 0, none⟩) (nf + 1 + 1) cap)) (first | exact f8 | exact f8' | exact f9)
                  (first
                    | (refine step_append_lies _ (by rfl) _ _ _ (by rfl) (w.heap.size + 2) 3 i0 (.int .i64 0) 1 8 Try.underlying26 hi0 hz0 hz1 hz2 rfl (by omega) (.slice (some ⟨go, 0, none⟩) (j) co) (j) _ (by rfl) (own_shrink HG9.out.xr (by omega)) ⟨W8.heap.size, 0, none⟩ 1 1 [.int .i64 (((nf : Int) + 1))] (by rfl) (by rfl) (cell_one_new _ _ _) (by simp [Value.oneCell']) (by omega) (by unfold maxLen; omega) (by omega) (by simp; omega) W8.heap.size.succ (by simp) ?_; intro gh cah w10 hown10 hgrow10' hat10 hlt10; have hgrow10 : (W8.alloc (.cells #[.int .i64 (((nf : Int) + 1))] 3)).grownBy w10 (Value.slice (some ⟨go, 0, none⟩) (j) co).ownBlock := ⟨hgrow10'.os, hgrow10'.tape, hgrow10'.output, hgrow10'.size, hgrow10'.block⟩; have HGA := Lib.hid (HG9.out.opened (xs' := X.take (j) ++ [((nf : Int) + 1)]) (own_shrink HG9.out.xr (by omega : j ≤ j + 1 + 1)) hgrow10 (by first | (simpa using hown10) | (simpa [List.map_take] using hown10) | (rw [List.map_append, List.map_take]; exact hown10)) (by have := HXL8.out; rw [List.length_append, List.length_take]; show _ = _ + 1; omega)); have f9 := HGA.out.fb))
                clear f8 f8' f9 hgrow10 hgrow10' hown10 hat10 hlt10 HG8 HG9 z8 n1 n2 a1 a2 a1' a2' t1 t2
                go_wp2_with fail
                go_roundw
                case rel => exact ⟨k - 1, m + 1, j + 1, nf + 1 + 1, cap, _, _, _, by omega, by go_num, by omega, by omega, (show GI _ _ _ _ _ _ _ _ _ _ _ _ _ _ _ _ _ _ from HGA.out.mono (by have := HP1.out; omega))⟩
                case measure => simp [intOf]; omega
            · go_wp2_with fail
              go_roundw
              case rel => exact ⟨k - 1, m + 1, j + 1 + 1, nf + 1, c5, A5, _, _, by omega, by go_num, by omega, by omega, (show GI _ _ _ _ _ _ _ _ _ _ _ _ _ _ _ _ _ _ from HGz.out.mono (by have := HP1.out; omega))⟩
              case measure => simp [intOf]; omega
          · go_wp2_with fail
            go_roundw
            case rel => exact ⟨k - 1, m + 1, no + 1, nf + 1, c5, A5, _, _, by omega, by go_num, by omega, by omega, (show GI _ _ _ _ _ _ _ _ _ _ _ _ _ _ _ _ _ _ from HG6.out.mono (by have := HP1.out; omega))⟩
            case measure => simp [intOf]; omega
    · obtain ⟨Av0, cv0, hv0⟩ := row_form' HG.out.xr
      have HGs := HG
      subst hv0
      clear HG
      go_wp2_with fail
      go_loopw [6] (fun v wr => ∃ (no nf cf Q : Nat) (Af : Option Addr) (ps : List Pt) (xs : List Int), no ≤ 6 ∧ nf + no ≤ 18 ∧ Q + 2 * no ≤ P + 100 ∧ Hid (GI g w.heap.size A n c bs An nodes w Q Af nf cf ps v no xs wr)) (fun v _ => slcLen v)
      case atStart => exact ⟨no, nf, cf, P + 1 + 10 * m, Af, ps, xs, by omega, by omega, by omega, HGs.out⟩
      case round =>
        obtain ⟨no, nf, cf, Q, Af, ps, xs, hno, hnf, hQ, HG⟩ := hrel
        by_cases hlt : 1 < no
        · obtain ⟨j, rfl⟩ : ∃ j, no = j + 2 := ⟨no - 2, by omega⟩
          obtain ⟨go, cg, hov⟩ := row_pos HG.out.xr (by omega)
          cases hov
          have f0 := HG.out.fb
          have f1 := HG.out.fz
          have z1 : w.heap.size + 1 < wr.heap.size := HG.out.lt
          have hxl := HG.out.xl
          have o0 := HG.out.xr.cellAt (j) (by omega)
          have o1 := HG.out.xr.cellAt (j + 1) (by omega)
          rw [List.getElem?_map] at o0 o1
          generalize hX : xs = X at *
          have HX2 := Lib.hid hX
          clear hX
          rw [List.getElem?_eq_getElem (by omega), Option.map_some] at o0 o1
          generalize X[j]'_ = x0 at o0
          generalize X[j + 1]'_ = x1 at o1
          have HXL := Lib.hid hxl
          clear hxl
          have hgo := (HG.out.xr.lt go rfl).2
          have hgo2 := (HG.out.xr.lt go rfl).1
          go_wp2_with fail
          have a2 : IntKind.i64.wrap (((j : Int) + 2) - 2) = (j : Int) := by rw [IntKind.wrap_i64]; omega
          have a1 : IntKind.i64.wrap (((j : Int) + 2) - 1) = ((j : Int) + 1) := by rw [IntKind.wrap_i64]; omega
          have a2' : IntKind.i64.wrap ((j : Int)) = (j : Int) := by rw [IntKind.wrap_i64]; omega
          have a1' : IntKind.i64.wrap (((j : Int) + 1)) = ((j : Int) + 1) := by rw [IntKind.wrap_i64]; omega
          have b2 : (j : Int) < ((j : Int) + 2) := by omega
          have b1 : ((j : Int) + 1) < ((j : Int) + 2) := by omega
          have b0 : 0 ≤ (j : Int) := by omega
          have b00 : 0 ≤ ((j : Int) + 1) := by omega
          have t1 : ((j : Int)).toNat = j := by omega
          have t2 : (((j : Int) + 1)).toNat = j + 1 := by omega
          have HXX := Lib.hid (And.intro ((HG.out.xr.cellAt (j) (by omega)).symm.trans o0) ((HG.out.xr.cellAt (j + 1) (by omega)).symm.trans o1))
          have hnb1 : ∀ q : Nat, (⟨w.heap.size + 1, 0, none⟩ : Addr) ≠ ⟨go, q, none⟩ := fun q e => by have := congrArg Addr.block e; simp at this; omega
          refine wp_region_held_drew (S := (fun w' => w'.cell? ⟨go, j, none⟩ = some (.int .i64 x0) ∧ w'.cell? ⟨go, j + 1, none⟩ = some (.int .i64 x1))) (by kernel_rfl) ⟨o0, o1⟩ (fun hHeld => ?_)
          refine wpAnyH_take (i := 0) (oi := ⟨some 125, _, _, _, _, _⟩) (v := ?_) rfl (by kernel_rfl) (by kernel_rfl) (by kernel_rfl) (fun _ _ _ h => h) (Or.inl ⟨by rfl, ?_⟩) (by assumption) ?_; rotate_left; (focus (intro w hSw; (try dsimp only at hSw); go_simp; (try with_reducible rfl))); (try simp only [Act.put, List.setIfInBounds_toArray, List.set_cons_zero, List.set_cons_succ])
          refine wpAnyH_take (i := 2) (oi := ⟨some 127, _, _, _, _, _⟩) (v := ?_) rfl (by kernel_rfl) (by kernel_rfl) (by kernel_rfl) (fun _ _ _ h => h) (Or.inl ⟨by rfl, ?_⟩) (by assumption) ?_; rotate_left; (focus (intro w hSw; (try dsimp only at hSw); go_simp; (try with_reducible rfl))); (try simp only [Act.put, List.setIfInBounds_toArray, List.set_cons_zero, List.set_cons_succ])
          refine wpAnyH_take (i := 5) (oi := ⟨some 130, _, _, _, _, _⟩) (v := ?_) rfl (by kernel_rfl) (by kernel_rfl) (by kernel_rfl) (fun _ _ _ h => h) (Or.inl ⟨by rfl, ?_⟩) (by assumption) ?_; rotate_left; (focus (intro w hSw; (try dsimp only at hSw); go_simp; (try with_reducible rfl))); (try simp only [Act.put, List.setIfInBounds_toArray, List.set_cons_zero, List.set_cons_succ])
          refine wpAnyH_take (i := 6) (oi := ⟨some 131, _, _, _, _, _⟩) (v := ?_) rfl (by kernel_rfl) (by kernel_rfl) (by kernel_rfl) (fun _ _ _ h => h) (Or.inl ⟨by rfl, ?_⟩) (by assumption) ?_; rotate_left; (focus (intro w hSw; (try dsimp only at hSw); go_simp; (try with_reducible rfl))); (try simp only [Act.put, List.setIfInBounds_toArray, List.set_cons_zero, List.set_cons_succ])
          refine wpAnyH_take (i := 7) (oi := ⟨some 132, _, _, _, _, _⟩) (v := ?_) rfl (by kernel_rfl) (by kernel_rfl) (by kernel_rfl) (fun _ _ _ h => h) (Or.inl ⟨by rfl, ?_⟩) (by assumption) ?_; rotate_left; (focus (intro w hSw; (try dsimp only at hSw); go_simp; (try with_reducible rfl))); (try simp only [Act.put, List.setIfInBounds_toArray, List.set_cons_zero, List.set_cons_succ])
          refine wpAnyH_take (i := 8) (oi := ⟨some 133, _, _, _, _, _⟩) (v := ?_) rfl (by kernel_rfl) (by kernel_rfl) (by kernel_rfl) (fun _ _ _ h => h) (Or.inl ⟨by rfl, ?_⟩) (by assumption) ?_; rotate_left; (focus (intro w hSw; (try dsimp only at hSw); go_simp; (try with_reducible rfl))); (try simp only [Act.put, List.setIfInBounds_toArray, List.set_cons_zero, List.set_cons_succ])
          refine wpAnyH_take (i := 9) (oi := ⟨some 134, _, _, _, _, _⟩) (v := ?_) rfl (by kernel_rfl) (by kernel_rfl) (by kernel_rfl) (fun _ _ _ h => h) (Or.inl ⟨by rfl, ?_⟩) (by assumption) ?_; rotate_left; (focus (intro w hSw; (try dsimp only at hSw); go_simp; (try with_reducible rfl))); (try simp only [Act.put, List.setIfInBounds_toArray, List.set_cons_zero, List.set_cons_succ])
          refine wpAnyH_take (i := 10) (oi := ⟨some 135, _, _, _, _, _⟩) (v := ?_) rfl (by kernel_rfl) (by kernel_rfl) (by kernel_rfl) (fun _ _ _ h => h) (Or.inl ⟨by rfl, ?_⟩) (by assumption) ?_; rotate_left; (focus (intro w hSw; (try dsimp only at hSw); go_simp; (try with_reducible rfl))); (try simp only [Act.put, List.setIfInBounds_toArray, List.set_cons_zero, List.set_cons_succ])
          refine wpAnyH_take (i := 11) (oi := ⟨some 136, _, _, _, _, _⟩) (v := ?_) rfl (by kernel_rfl) (by kernel_rfl) (by kernel_rfl) (fun _ _ _ h => h) (Or.inl ⟨by rfl, ?_⟩) (by assumption) ?_; rotate_left; (focus (intro w hSw; (try dsimp only at hSw); go_simp; (try with_reducible rfl))); (try simp only [Act.put, List.setIfInBounds_toArray, List.set_cons_zero, List.set_cons_succ])
          refine wpAnyH_take (i := 12) (oi := ⟨some 137, _, _, _, _, _⟩) (v := ?_) rfl (by kernel_rfl) (by kernel_rfl) (by kernel_rfl) (fun _ _ _ h => h) (Or.inl ⟨by rfl, ?_⟩) (by assumption) ?_; rotate_left; (focus (intro w hSw; (try dsimp only at hSw); go_simp; (try with_reducible rfl))); (try simp only [Act.put, List.setIfInBounds_toArray, List.set_cons_zero, List.set_cons_succ])
          refine wpAnyH_take (i := 13) (oi := ⟨some 138, _, _, _, _, _⟩) (v := ?_) rfl (by kernel_rfl) (by kernel_rfl) (by kernel_rfl) (fun _ _ _ h => h) (Or.inl ⟨by rfl, ?_⟩) (by assumption) ?_; rotate_left; (focus (intro w hSw; (try dsimp only at hSw); go_simp; (try with_reducible rfl))); (try simp only [Act.put, List.setIfInBounds_toArray, List.set_cons_zero, List.set_cons_succ])
          refine wpAnyH_take (i := 14) (oi := ⟨some 139, _, _, _, _, _⟩) (v := ?_) rfl (by kernel_rfl) (by kernel_rfl) (by kernel_rfl) (fun _ _ _ h => h) (Or.inl ⟨by rfl, ?_⟩) (by assumption) ?_; rotate_left; (focus (intro w hSw; (try dsimp only at hSw); go_simp; (try with_reducible rfl))); (try simp only [Act.put, List.setIfInBounds_toArray, List.set_cons_zero, List.set_cons_succ])
          refine wpAnyH_ready (rs := [1, 3]) (by kernel_rfl) (by simp) ?_; refine AllReadyH.cons (o := ⟨some 126, _, _, _, _, _⟩) rfl (fun K hK => ?_) (AllReadyH.cons (o := ⟨some 128, _, _, _, _, _⟩) rfl (fun K hK => ?_) AllReadyH.nil)
          go_simp
          refine hK.out _ _ ⟨o0, o1⟩ (fun hHeld => ?_); clear hK K; (try simp only [Act.put, List.setIfInBounds_toArray, List.set_cons_zero, List.set_cons_succ])
          refine wpAnyH_ready (rs := [3]) (by kernel_rfl) (by simp) ?_; refine AllReadyH.cons (o := ⟨some 128, _, _, _, _, _⟩) rfl (fun K hK => ?_) AllReadyH.nil; go_simp
          go_at_call 73
          refine (pick_any g A n c bs (Q) 6 _ ?_ HN.out hby hs ?_ ?_).mono ?_
          (first | exact HG.out.rd | exact HG.out.rd.drew)
          omega
          omega
          rintro e w8 ⟨x8, rfl, hx8', _, hr8, ht8'⟩
          have hx8 : (x8 : Int) < 6 := hx8' (by omega)
          have ht8 : Tch g (g + 1) wr w8 := ⟨ht8'.os, ht8'.tape, ht8'.output, ht8'.size, ht8'.block⟩
          have HGP := Lib.hid (HG.out.pick hr8 ht8)
          have p0 := (HGP.out.xr.cellAt (j) (by omega)).trans HXX.out.1
          have p1 := (HGP.out.xr.cellAt (j + 1) (by omega)).trans HXX.out.2
          have g0 := HGP.out.fb
          have g1 := HGP.out.fz
          have z8 : w.heap.size + 1 < w8.heap.size := HGP.out.lt
          have hgo8 := (HGP.out.xr.lt go rfl).2
          have a8 : IntKind.i64.wrap (2 + (x8 : Int)) = 2 + (x8 : Int) := (by rw [IntKind.wrap_i64]; omega)
          have q0 := (World.cell?_alloc_lt w8 (.cells #[.int .i64 (2 + (x8 : Int)), .int .i64 x0, .int .i64 x1, .int .i64 (-1), .int .i64 0] 105) ⟨go, j, none⟩ hgo8).trans p0
          have q1 := (World.cell?_alloc_lt w8 (.cells #[.int .i64 (2 + (x8 : Int)), .int .i64 x0, .int .i64 x1, .int .i64 (-1), .int .i64 0] 105) ⟨go, j + 1, none⟩ hgo8).trans p1
          have HGc := Lib.hid (HGP.out.alloc (.cells #[.int .i64 (2 + (x8 : Int)), .int .i64 x0, .int .i64 x1, .int .i64 (-1), .int .i64 0] 105))
          clear hx8' hr8 ht8'
          refine hK.out _ _ ⟨p0, p1⟩ (fun hHeld => ?_); clear hK K; (try simp only [Act.put, List.setIfInBounds_toArray, List.set_cons_zero, List.set_cons_succ])
          refine wpAnyH_take (i := 4) (oi := ⟨some 129, _, _, _, _, _⟩) (v := ?_) rfl (by kernel_rfl) (by kernel_rfl) (by kernel_rfl) (fun _ _ _ h => h) (Or.inl ⟨by rfl, ?_⟩) (by assumption) ?_; rotate_left; (focus (intro w hSw; (try dsimp only at hSw); go_simp; (try with_reducible rfl))); (try simp only [Act.put, List.setIfInBounds_toArray, List.set_cons_zero, List.set_cons_succ])
          refine wpAnyH_take (i := 15) (oi := ⟨some 140, _, _, _, _, _⟩) (v := ?_) rfl (by kernel_rfl) (by kernel_rfl) (by kernel_rfl) (fun _ _ _ h => h) (Or.inl ⟨by rfl, ?_⟩) (by assumption) ?_; rotate_left; (focus (intro w hSw; (try dsimp only at hSw); go_simp; (try with_reducible rfl))); (try simp only [Act.put, List.setIfInBounds_toArray, List.set_cons_zero, List.set_cons_succ])
          refine wpAnyH_ready (rs := [16]) (by kernel_rfl) (by simp) ?_; refine AllReadyH.cons (o := ⟨some 141, _, _, _, _, _⟩) rfl (fun K hK => ?_) AllReadyH.nil; go_simp
          refine hK.out _ _ ⟨q0, q1⟩ (fun hHeld => ?_); clear hK K; (try simp only [Act.put, List.setIfInBounds_toArray, List.set_cons_zero, List.set_cons_succ])
          refine wpAnyH_ready (rs := [17]) (by kernel_rfl) (by simp) ?_; refine AllReadyH.cons (o := ⟨some 142, _, _, _, _, _⟩) rfl (fun K hK => ?_) AllReadyH.nil
          refine step_append_lies _ (by rfl) _ _ _ (by rfl) (w.heap.size + 2) 105 i1 _ 5 40 Try.underlying51 hi1 hy0 hy1 hy2 rfl (by omega) (.slice Af (nf) cf) (nf) _ (by rfl) HGc.out.pr ⟨w8.heap.size, 0, none⟩ 1 1 [.int .i64 (2 + (x8 : Int)), .int .i64 x0, .int .i64 x1, .int .i64 (-1), .int .i64 0] (by rfl) (by rfl) (cells_new _ _ _ _ rfl) (by simp [Value.oneCell']) (by omega) (by unfold maxLen; omega) (by omega) (by simp; omega) (w8.heap.size + 1) (by simp) ?_
          intro gg cap w9 hown9 hgrow9 hat9 hlt9
          have hgr9 : (w8.alloc (.cells #[.int .i64 (2 + (x8 : Int)), .int .i64 x0, .int .i64 x1, .int .i64 (-1), .int .i64 0] 105)).grownBy w9 (Value.slice Af (nf) cf).ownBlock := ⟨hgrow9.os, hgrow9.tape, hgrow9.output, hgrow9.size, hgrow9.block⟩
          have hfr9 := HGc.out.frame hgr9 fun k hk => (HGc.out.pr.lt k hk).1
          have z9 := hfr9.2.2.1
          have h0 := hfr9.2.2.2.2.2.1
          have h1 := hfr9.2.2.2.2.2.2.1
          clear hfr9
          have hxr9 := HGc.out.xr.kept hgr9 (blocks_ne HGc.out.xr HGc.out.pr int_ne_part)
          have s0 := (hxr9.cellAt (j) (by omega)).trans HXX.out.1
          have s1 := (hxr9.cellAt (j + 1) (by omega)).trans HXX.out.2
          clear hxr9
          refine hK.out _ _ ⟨s0, s1⟩ (fun hHeld => ?_); clear hK K; (try simp only [Act.put, List.setIfInBounds_toArray, List.set_cons_zero, List.set_cons_succ])
          refine wpAnyH_take (i := 18) (oi := ⟨some 143, _, _, _, _, _⟩) (v := ?_) rfl (by kernel_rfl) (by kernel_rfl) (by kernel_rfl) (fun _ _ _ h => h) (Or.inl ⟨by rfl, ?_⟩) (by assumption) ?_; rotate_left; (focus (intro w hSw; (try dsimp only at hSw); go_simp; (try with_reducible rfl))); (try simp only [Act.put, List.setIfInBounds_toArray, List.set_cons_zero, List.set_cons_succ])
          refine wpAnyH_ready (rs := [19]) (by kernel_rfl) (by simp) ?_; refine AllReadyH.cons (o := ⟨none, _, _, _, _, _⟩) rfl (fun K hK => ?_) AllReadyH.nil; go_simp
          refine hK.out _ _ ⟨(World.cell?_setCell_other _ _ _ _ (hnb1 _)).trans s0, (World.cell?_setCell_other _ _ _ _ (hnb1 _)).trans s1⟩ (fun hHeld => ?_); clear hK K; (try simp only [Act.put, List.setIfInBounds_toArray, List.set_cons_zero, List.set_cons_succ])
          refine wpAnyH_done (by kernel_rfl) ?_ _
          rotate_left
          go_simp
          go_at_call 73
          refine (pick_any g A n c bs (Q) 6 _ ?_ HN.out hby hs ?_ ?_).mono ?_
          (first | exact HG.out.rd | exact HG.out.rd.drew)
          omega
          omega
          rintro e w8 ⟨x8, rfl, hx8', _, hr8, ht8'⟩
          have hx8 : (x8 : Int) < 6 := hx8' (by omega)
          have ht8 : Tch g (g + 1) wr w8 := ⟨ht8'.os, ht8'.tape, ht8'.output, ht8'.size, ht8'.block⟩
          have HGP := Lib.hid (HG.out.pick hr8 ht8)
          have p0 := (HGP.out.xr.cellAt (j) (by omega)).trans HXX.out.1
          have p1 := (HGP.out.xr.cellAt (j + 1) (by omega)).trans HXX.out.2
          have g0 := HGP.out.fb
          have g1 := HGP.out.fz
          have z8 : w.heap.size + 1 < w8.heap.size := HGP.out.lt
          have hgo8 := (HGP.out.xr.lt go rfl).2
          have a8 : IntKind.i64.wrap (2 + (x8 : Int)) = 2 + (x8 : Int) := (by rw [IntKind.wrap_i64]; omega)
          have q0 := (World.cell?_alloc_lt w8 (.cells #[.int .i64 (2 + (x8 : Int)), .int .i64 x0, .int .i64 x1, .int .i64 (-1), .int .i64 0] 105) ⟨go, j, none⟩ hgo8).trans p0
          have q1 := (World.cell?_alloc_lt w8 (.cells #[.int .i64 (2 + (x8 : Int)), .int .i64 x0, .int .i64 x1, .int .i64 (-1), .int .i64 0] 105) ⟨go, j + 1, none⟩ hgo8).trans p1
          have HGc := Lib.hid (HGP.out.alloc (.cells #[.int .i64 (2 + (x8 : Int)), .int .i64 x0, .int .i64 x1, .int .i64 (-1), .int .i64 0] 105))
          clear hx8' hr8 ht8'
          refine hK.out _ _ ⟨p0, p1⟩ (fun hHeld => ?_); clear hK K; (try simp only [Act.put, List.setIfInBounds_toArray, List.set_cons_zero, List.set_cons_succ])
          refine wpAnyH_take (i := 4) (oi := ⟨some 129, _, _, _, _, _⟩) (v := ?_) rfl (by kernel_rfl) (by kernel_rfl) (by kernel_rfl) (fun _ _ _ h => h) (Or.inl ⟨by rfl, ?_⟩) (by assumption) ?_; rotate_left; (focus (intro w hSw; (try dsimp only at hSw); go_simp; (try with_reducible rfl))); (try simp only [Act.put, List.setIfInBounds_toArray, List.set_cons_zero, List.set_cons_succ])
          refine wpAnyH_take (i := 15) (oi := ⟨some 140, _, _, _, _, _⟩) (v := ?_) rfl (by kernel_rfl) (by kernel_rfl) (by kernel_rfl) (fun _ _ _ h => h) (Or.inl ⟨by rfl, ?_⟩) (by assumption) ?_; rotate_left; (focus (intro w hSw; (try dsimp only at hSw); go_simp; (try with_reducible rfl))); (try simp only [Act.put, List.setIfInBounds_toArray, List.set_cons_zero, List.set_cons_succ])
          refine wpAnyH_ready (rs := [1, 16]) (by kernel_rfl) (by simp) ?_; refine AllReadyH.cons (o := ⟨some 126, _, _, _, _, _⟩) rfl (fun K hK => ?_) (AllReadyH.cons (o := ⟨some 141, _, _, _, _, _⟩) rfl (fun K hK => ?_) AllReadyH.nil)
          go_simp
          refine hK.out _ _ ⟨p0, p1⟩ (fun hHeld => ?_); clear hK K; (try simp only [Act.put, List.setIfInBounds_toArray, List.set_cons_zero, List.set_cons_succ])
          refine wpAnyH_ready (rs := [16]) (by kernel_rfl) (by simp) ?_; refine AllReadyH.cons (o := ⟨some 141, _, _, _, _, _⟩) rfl (fun K hK => ?_) AllReadyH.nil; go_simp
          refine hK.out _ _ ⟨q0, q1⟩ (fun hHeld => ?_); clear hK K; (try simp only [Act.put, List.setIfInBounds_toArray, List.set_cons_zero, List.set_cons_succ])
          refine wpAnyH_ready (rs := [17]) (by kernel_rfl) (by simp) ?_; refine AllReadyH.cons (o := ⟨some 142, _, _, _, _, _⟩) rfl (fun K hK => ?_) AllReadyH.nil
          refine step_append_lies _ (by rfl) _ _ _ (by rfl) (w.heap.size + 2) 105 i1 _ 5 40 Try.underlying51 hi1 hy0 hy1 hy2 rfl (by omega) (.slice Af (nf) cf) (nf) _ (by rfl) HGc.out.pr ⟨w8.heap.size, 0, none⟩ 1 1 [.int .i64 (2 + (x8 : Int)), .int .i64 x0, .int .i64 x1, .int .i64 (-1), .int .i64 0] (by rfl) (by rfl) (cells_new _ _ _ _ rfl) (by simp [Value.oneCell']) (by omega) (by unfold maxLen; omega) (by omega) (by simp; omega) (w8.heap.size + 1) (by simp) ?_
          intro gg cap w9 hown9 hgrow9 hat9 hlt9
          have hgr9 : (w8.alloc (.cells #[.int .i64 (2 + (x8 : Int)), .int .i64 x0, .int .i64 x1, .int .i64 (-1), .int .i64 0] 105)).grownBy w9 (Value.slice Af (nf) cf).ownBlock := ⟨hgrow9.os, hgrow9.tape, hgrow9.output, hgrow9.size, hgrow9.block⟩
          have hfr9 := HGc.out.frame hgr9 fun k hk => (HGc.out.pr.lt k hk).1
          have z9 := hfr9.2.2.1
          have h0 := hfr9.2.2.2.2.2.1
          have h1 := hfr9.2.2.2.2.2.2.1
          clear hfr9
          have hxr9 := HGc.out.xr.kept hgr9 (blocks_ne HGc.out.xr HGc.out.pr int_ne_part)
          have s0 := (hxr9.cellAt (j) (by omega)).trans HXX.out.1
          have s1 := (hxr9.cellAt (j + 1) (by omega)).trans HXX.out.2
          clear hxr9
          refine hK.out _ _ ⟨s0, s1⟩ (fun hHeld => ?_); clear hK K; (try simp only [Act.put, List.setIfInBounds_toArray, List.set_cons_zero, List.set_cons_succ])
          refine wpAnyH_take (i := 18) (oi := ⟨some 143, _, _, _, _, _⟩) (v := ?_) rfl (by kernel_rfl) (by kernel_rfl) (by kernel_rfl) (fun _ _ _ h => h) (Or.inl ⟨by rfl, ?_⟩) (by assumption) ?_; rotate_left; (focus (intro w hSw; (try dsimp only at hSw); go_simp; (try with_reducible rfl))); (try simp only [Act.put, List.setIfInBounds_toArray, List.set_cons_zero, List.set_cons_succ])
          refine wpAnyH_ready (rs := [19]) (by kernel_rfl) (by simp) ?_; refine AllReadyH.cons (o := ⟨none, _, _, _, _, _⟩) rfl (fun K hK => ?_) AllReadyH.nil; go_simp
          refine hK.out _ _ ⟨(World.cell?_setCell_other _ _ _ _ (hnb1 _)).trans s0, (World.cell?_setCell_other _ _ _ _ (hnb1 _)).trans s1⟩ (fun hHeld => ?_); clear hK K; (try simp only [Act.put, List.setIfInBounds_toArray, List.set_cons_zero, List.set_cons_succ])
          refine wpAnyH_done (by kernel_rfl) ?_ _
          rotate_left
          go_simp
          refine hK.out _ _ ⟨q0, q1⟩ (fun hHeld => ?_); clear hK K; (try simp only [Act.put, List.setIfInBounds_toArray, List.set_cons_zero, List.set_cons_succ])
          refine wpAnyH_ready (rs := [1]) (by kernel_rfl) (by simp) ?_; refine AllReadyH.cons (o := ⟨some 126, _, _, _, _, _⟩) rfl (fun K hK => ?_) AllReadyH.nil; go_simp
          refine hK.out _ _ ⟨q0, q1⟩ (fun hHeld => ?_); clear hK K; (try simp only [Act.put, List.setIfInBounds_toArray, List.set_cons_zero, List.set_cons_succ])
          refine wpAnyH_ready (rs := [17]) (by kernel_rfl) (by simp) ?_; refine AllReadyH.cons (o := ⟨some 142, _, _, _, _, _⟩) rfl (fun K hK => ?_) AllReadyH.nil
          refine step_append_lies _ (by rfl) _ _ _ (by rfl) (w.heap.size + 2) 105 i1 _ 5 40 Try.underlying51 hi1 hy0 hy1 hy2 rfl (by omega) (.slice Af (nf) cf) (nf) _ (by rfl) HGc.out.pr ⟨w8.heap.size, 0, none⟩ 1 1 [.int .i64 (2 + (x8 : Int)), .int .i64 x0, .int .i64 x1, .int .i64 (-1), .int .i64 0] (by rfl) (by rfl) (cells_new _ _ _ _ rfl) (by simp [Value.oneCell']) (by omega) (by unfold maxLen; omega) (by omega) (by simp; omega) (w8.heap.size + 1) (by simp) ?_
          intro gg cap w9 hown9 hgrow9 hat9 hlt9
          have hgr9 : (w8.alloc (.cells #[.int .i64 (2 + (x8 : Int)), .int .i64 x0, .int .i64 x1, .int .i64 (-1), .int .i64 0] 105)).grownBy w9 (Value.slice Af (nf) cf).ownBlock := ⟨hgrow9.os, hgrow9.tape, hgrow9.output, hgrow9.size, hgrow9.block⟩
          have hfr9 := HGc.out.frame hgr9 fun k hk => (HGc.out.pr.lt k hk).1
          have z9 := hfr9.2.2.1
          have h0 := hfr9.2.2.2.2.2.1
          have h1 := hfr9.2.2.2.2.2.2.1
          clear hfr9
          have hxr9 := HGc.out.xr.kept hgr9 (blocks_ne HGc.out.xr HGc.out.pr int_ne_part)
          have s0 := (hxr9.cellAt (j) (by omega)).trans HXX.out.1
          have s1 := (hxr9.cellAt (j + 1) (by omega)).trans HXX.out.2
          clear hxr9
          refine hK.out _ _ ⟨s0, s1⟩ (fun hHeld => ?_); clear hK K; (try simp only [Act.put, List.setIfInBounds_toArray, List.set_cons_zero, List.set_cons_succ])
          refine wpAnyH_take (i := 18) (oi := ⟨some 143, _, _, _, _, _⟩) (v := ?_) rfl (by kernel_rfl) (by kernel_rfl) (by kernel_rfl) (fun _ _ _ h => h) (Or.inl ⟨by rfl, ?_⟩) (by assumption) ?_; rotate_left; (focus (intro w hSw; (try dsimp only at hSw); go_simp; (try with_reducible rfl))); (try simp only [Act.put, List.setIfInBounds_toArray, List.set_cons_zero, List.set_cons_succ])
          refine wpAnyH_ready (rs := [19]) (by kernel_rfl) (by simp) ?_; refine AllReadyH.cons (o := ⟨none, _, _, _, _, _⟩) rfl (fun K hK => ?_) AllReadyH.nil; go_simp
          refine hK.out _ _ ⟨(World.cell?_setCell_other _ _ _ _ (hnb1 _)).trans s0, (World.cell?_setCell_other _ _ _ _ (hnb1 _)).trans s1⟩ (fun hHeld => ?_); clear hK K; (try simp only [Act.put, List.setIfInBounds_toArray, List.set_cons_zero, List.set_cons_succ])
          refine wpAnyH_done (by kernel_rfl) ?_ _
          all_goals
            have HG8 := Lib.hid (HGc.out.parted (Af' := some ⟨gg, 0, none⟩) (nf' := nf + 1) (cf' := cap) (ps' := ps ++ [⟨2 + (x8 : Int), x0, x1, -1, 0⟩]) hgr9 (by rw [List.flatMap_append]; exact hown9) (by rw [List.length_append, ← HGc.out.pl]; rfl))
            have HXL8 := Lib.hid (HXL.out)
            clear hown9 hgrow9 hgr9 hat9 hlt9 z9 h0 h1 s0 s1 q0 q1 p0 p1 o0 o1 g0 g1 f0 f1 z1 z8 HGc HGP HG HXX a8
            go_wp2_with fail
            generalize (w9.setCell ⟨w.heap.size + 1, 0, none⟩ (.slice (some ⟨gg, 0, none⟩) (nf + 1) cap)) = W8 at *
            have f8 := HG8.out.fb
            have z8 : w.heap.size + 1 < W8.heap.size := HG8.out.lt
            have n1 : IntKind.i64.wrap ((nf : Int) + 1 - 1) = (nf : Int) := by rw [IntKind.wrap_i64]; omega
            have n2 : IntKind.i64.wrap ((nf : Int)) = (nf : Int) := by rw [IntKind.wrap_i64]; omega
            have f8' := (World.cell?_alloc_lt W8 (.cells #[.int .i64 ((nf : Int))] 3) ⟨w.heap.size + 1, 0, none⟩ z8).trans f8
            have HG9 := Lib.hid (HG8.out.alloc (.cells #[.int .i64 ((nf : Int))] 3))
            have hcg : j + 2 ≤ cg := by
              rcases HG8.out.xr.2 with ⟨h', _⟩ | ⟨g', cap', cur, h', _, _, hnc, _⟩
              · simp at h'
              · simp at h'
                omega
            have hcg1 : (j : Int) ≤ (cg : Int) := by omega
            go_region_held3 (fun w' => w'.cell? ⟨w.heap.size + 1, 0, none⟩ = some (.slice (some ⟨gg, 0, none⟩) (nf + 1) cap)) (first | exact f8 | exact f8' | exact f9)
              (first
                | (refine step_append_lies _ (by rfl) _ _ _ (by rfl) (w.heap.size + 2) 3 i0 (.int .i64 0) 1 8 Try.underlying26 hi0 hz0 hz1 hz2 rfl (by omega) (.slice (some ⟨go, 0, none⟩) (j) cg) (j) _ (by rfl) (own_shrink HG9.out.xr (by omega)) ⟨W8.heap.size, 0, none⟩ 1 1 [.int .i64 ((nf : Int))] (by rfl) (by rfl) (cell_one_new _ _ _) (by simp [Value.oneCell']) (by omega) (by unfold maxLen; omega) (by omega) (by simp; omega) W8.heap.size.succ (by simp) ?_; intro gh cah w10 hown10 hgrow10' hat10 hlt10; have hgrow10 : (W8.alloc (.cells #[.int .i64 ((nf : Int))] 3)).grownBy w10 (Value.slice (some ⟨go, 0, none⟩) (j) cg).ownBlock := ⟨hgrow10'.os, hgrow10'.tape, hgrow10'.output, hgrow10'.size, hgrow10'.block⟩; have HGA := Lib.hid (HG9.out.opened (xs' := X.take (j) ++ [(nf : Int)]) (own_shrink HG9.out.xr (by omega : j ≤ j + 2)) hgrow10 (by first | (simpa using hown10) | (simpa [List.map_take] using hown10) | (rw [List.map_append, List.map_take]; exact hown10)) (by have := HXL8.out; rw [List.length_append, List.length_take]; show _ = _ + 1; omega)); have f9 := HGA.out.fb))
            clear f8 f8' f9 hgrow10 hgrow10' hown10 hat10 hlt10 HG8 HG9 z8 n1 n2 a1 a2 a1' a2' t1 t2
            go_wp2_with fail
            go_roundw
            case rel => exact ⟨j + 1, nf + 1, cap, _, _, _, _, by omega, by omega, by omega, HGA.out⟩
            case measure => simp [slcLen]
        · obtain ⟨Avz, cvz, rfl⟩ := row_form' HG.out.xr
          have hgs := HG.out.gs
          have hVF := Lib.hid fun (hv : validF ps = true) => validF_good ps hv
          have HVC := Lib.hid (spec_validFormula Af nf cf ps wr wr.heap.size (Nat.le_refl _) HG.out.pl (PS.of_own HG.out.pr) (by omega))
          have HPL := Lib.hid HG.out.pl
          have f0 := HG.out.fb
          have z1 : w.heap.size + 1 < wr.heap.size := HG.out.lt
          generalize validF ps = bv at *
          go_wp2_with fail
          refine HVC.out.mono ?_
          rintro e w2 ⟨rfl, hb2⟩
          have HG2 := Lib.hid (HG.out.step hb2)
          clear hb2 HVC f0 z1 HG
          cases bv
          · go_wp2_with fail
            refine (readPart_any g A n c bs Q An l c' nodes _ HG2.out.rd HN.out hby hs (by omega) HL.out hl2 (HG2.out.nd.more (by have := HG2.out.lt; omega)) HG2.out.ng).mono ?_
            rintro e w3 ⟨q, rfl, hr3, ht3⟩
            have HG3 := Lib.hid (HG2.out.pick hr3 ht3)
            have z3 : w.heap.size < w3.heap.size := by have := HG3.out.lt; omega
            obtain ⟨V, hV⟩ : ∃ V : Value, V = .slice (some ⟨w3.heap.size, 0, none⟩) 1 1 := ⟨_, rfl⟩
            have hsz : (w3.setCell ⟨w.heap.size, 0, none⟩ V).heap.size = w3.heap.size := by simp [World.setCell]
            have hrow := World.ownsRow_lit (e := 105) (size := 5) (base := w.heap.size + 2) (w3.setCell ⟨w.heap.size, 0, none⟩ V) #[.int .i64 q.k, .int .i64 q.a, .int .i64 q.b, .int .i64 q.c, .int .i64 q.n] 1 (by rw [hsz]; have := HG3.out.lt; omega) (by unfold maxLen; omega) (by simp)
            rw [hsz] at hrow
            have HROW := Lib.hid hrow
            have r0 := HG3.out.rb
            have r1 := HG3.out.rz
            have HZ := Lib.hid ((World.cell?_alloc_lt (w3.setCell ⟨w.heap.size, 0, none⟩ V) (.cells #[.int .i64 q.k, .int .i64 q.a, .int .i64 q.b, .int .i64 q.c, .int .i64 q.n] 105) ⟨w.heap.size, 0, none⟩ (by rw [hsz]; exact z3)).trans (World.cell?_setCell_same _ _ _ r0))
            have HRD := Lib.hid (((HG3.out.rd.mono (show _ ≤ P + 200 by omega)).set1 hgw 0 V).alloc (.cells #[.int .i64 q.k, .int .i64 q.a, .int .i64 q.b, .int .i64 q.c, .int .i64 q.n] 105))
            have HFR := Lib.hid (HG3.out.fr.trans (Frd.of_below (((Below.refl w.heap.size w3).setCell (p := ⟨w.heap.size, 0, none⟩) (Nat.le_refl _) V).alloc (by rw [hsz]; omega) (.cells #[.int .i64 q.k, .int .i64 q.a, .int .i64 q.b, .int .i64 q.c, .int .i64 q.n] 105)) (Nat.le_refl _)))
            rw [hV] at HROW HZ HRD HFR
            clear hr3 ht3 HG2 HG3 hrow hsz hV
            go_wp2
            have hz := HZ.out
            refine bodyPost_ret (v := .agg #[.slice (some ⟨w3.heap.size, 0, none⟩) 1 1]) (by simp [results, Try.results86, go_sem, hz]) rfl ?_
            exact ⟨_, 1, 1, [q], rfl, rfl, by omega, by omega, own_mono HROW.out (by omega), HRD.out, HFR.out.tch⟩
          · obtain ⟨_, hv1, hv12⟩ := hVF.out (by first | rfl | trivial)
            have r0 := HG2.out.rb
            have r1 := HG2.out.rz
            have f0 := HG2.out.fb
            have z1 : w.heap.size + 1 < w2.heap.size := HG2.out.lt
            have z0 : w.heap.size < w2.heap.size := by omega
            have hnf1 : 1 ≤ nf := by have := HPL.out; omega
            clear hv1 hv12
            go_wp2
            refine bodyPost_ret (v := .agg #[.slice Af nf cf]) (by simp [results, Try.results86, go_sem, r0]) rfl ?_
            refine ⟨_, _, _, ps, rfl, HPL.out, hnf1, by omega, ?_, (HG2.out.rd.mono (by omega)).set1 hgw 0 _, (HG2.out.fr.trans (Frd.of_below ((Below.refl w.heap.size _).setCell (p := ⟨w.heap.size, 0, none⟩) (Nat.le_refl _) _) (Nat.le_refl _))).tch⟩
            exact own_mono (own_keep HG2.out.pr fun y hy hy' => Below.heap_setCell _ _ _ _ (by show y ≠ w.heap.size; omega)) (by omega)
end Go.Proofs.Ytgclikdienlhdaa

/- Contracts of the laws' own copies of graphs: toNode, toNodeS, toGraph. -/
namespace Go.Proofs.Ytgclikdienlhdaa
set_option linter.unusedSimpArgs false
set_option linter.unusedVariables false
open Go.RowKit

/-- Returns a node of fresh parts. -/
def RetNd (w : World) (d : Nd) (e : Ending) (w' : World) : Prop := ∃ (A : Option Addr) (n c : Nat), e = .returned (.agg #[.int .i64 d.k, .slice A n c]) ∧ n = d.ps.length ∧ w'.ownsRow w.heap.size 105 5 (.slice A n c) n (d.ps.flatMap Pt.cells) ∧ Below w.heap.size w w'

/-- Two cells written one after the other. -/
def set2 (xs : List Value) (j : Nat) (x y : Value) : List Value := (xs.set j x).set (j + 1) y

theorem set2_get (xs : List Value) (j : Nat) (x y : Value) (h : j + 1 < xs.length) : (set2 xs j x y)[j]? = some x ∧ (set2 xs j x y)[j + 1]? = some y ∧ ∀ i, i ≠ j → i ≠ j + 1 → (set2 xs j x y)[i]? = xs[i]? := by
  unfold set2
  refine ⟨?_, ?_, fun i h1 h2 => ?_⟩
  · rw [List.getElem?_set, if_neg (by omega), List.getElem?_set, if_pos rfl, if_pos (by omega)]
  · rw [List.getElem?_set, if_pos rfl, if_pos (by simpa using h)]
  · rw [List.getElem?_set, if_neg (by omega), List.getElem?_set, if_neg (by omega)]

theorem own_set2 {w : World} {base e size n cap g : Nat} {xs : List Value} (h : w.ownsRow base e size (.slice (some ⟨g, 0, none⟩) n cap) n xs) (j : Nat) (x y : Value) :
    ((w.setCell ⟨g, j, none⟩ x).setCell ⟨g, j + 1, none⟩ y).ownsRow base e size (.slice (some ⟨g, 0, none⟩) n cap) n (set2 xs j x y) :=
  ((h.stored j x).1.stored (j + 1) y).1

theorem NdO.setCell {lo hi : Nat} {d : Nd} {x y : Value} {w : World} (h : NdO lo hi d x y w) {a : Addr} (ha : a.block < lo) (u : Value) : NdO lo hi d x y (w.setCell a u) :=
  h.keep fun k hk _ => Below.heap_setCell _ _ _ _ (by omega)

theorem info_node : (Try.prog.info? 55).map (fun i => (i.zero, i.size, i.bytes)) = some (some (.agg #[.int .i64 0, .slice none 0 0]), 2, 32) := by kernel_rfl

/-- Returns a graph of fresh nodes. -/
def RetGr (w : World) (gs : List Nd) (e : Ending) (w' : World) : Prop := ∃ (A : Option Addr) (n c : Nat), e = .returned (.agg #[.slice A n c]) ∧ n = gs.length ∧ OwG w.heap.size w'.heap.size (.slice A n c) n gs w' ∧ Below w.heap.size w w'

theorem OwG.setCell {lo hi n : Nat} {v : Value} {gs : List Nd} {w : World} (h : OwG lo hi v n gs w) {a : Addr} (ha : a.block < lo) (u : Value) : OwG lo hi v n gs (w.setCell a u) :=
  OwG.loc _ _ _ _ _ _ _ h fun k hk _ => Below.heap_setCell _ _ _ _ (by omega)

end Go.Proofs.Ytgclikdienlhdaa

/- The contract of the laws' own marks on graphs: only blocks of the graph turn. -/
namespace Go.Proofs.Ytgclikdienlhdaa
set_option linter.unusedSimpArgs false
set_option linter.unusedVariables false
open Go.RowKit

/-- What a mark leaves, where the marks do not matter. -/
def MkW (lo hi : Nat) (w : World) (k top : Int) (e : Ending) (w' : World) : Prop := ∃ k' : Int, e = .returned (.int .i64 k') ∧ k ≤ k' ∧ k' ≤ top ∧ Tch lo hi w w'

end Go.Proofs.Ytgclikdienlhdaa
