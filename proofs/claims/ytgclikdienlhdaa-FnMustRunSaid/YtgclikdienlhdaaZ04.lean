/- Texts put together: T10 R0 R2 R4 M4 A18 M5 R5 O1 R3 M11 G5 G6 T1 G8 G9 G10 T2 T4. -/
import Derived.Test.YtgclikdienlhdaaZ03
import Derived.RegionTactic
import Derived.Test.YtgclikdienlhdaaRows
import Derived.WalkKit
import Derived.ProofKit
import Derived.OpenShut
import Derived.ShutString
import Derived.ChangeOld
import Derived.Below
import Derived.Deep.Slices
import Derived.Deep.Fields
import Derived.BigQuiet
import Derived.StillTailTactics
import Derived.Maps.AppendAt
import Derived.Laws.CopyOwn
import Derived.Deep.RegionWith
/- The standing contracts of RunsOf. -/
namespace Go.Proofs.Ytgclikdienlhdaa
set_option linter.unusedSimpArgs false
set_option linter.unusedVariables false
open Go.RowKit

/-- How often a number is in a list. -/
def cnt (xs : List Int) (y : Int) : Nat := xs.countP (fun x => x == y)
def runsF (xs : List Int) (y : Int) : Int := (cnt xs y : Int)

theorem cnt_le (xs : List Int) (y : Int) : cnt xs y ≤ xs.length := List.countP_le_length
theorem cnt_take_yes (xs : List Int) (y : Int) (k : Nat) (h : k < xs.length) (hy : (xs.getD k 0 == y) = true) : cnt (xs.take (k + 1)) y = cnt (xs.take k) y + 1 := by
  have hg : xs[k] = xs.getD k 0 := by simp [List.getD, h]
  unfold cnt
  rw [List.take_succ_eq_append_getElem h, List.countP_append, hg]
  simp only [List.countP_cons, List.countP_nil, hy]
  simp
theorem cnt_take_no (xs : List Int) (y : Int) (k : Nat) (h : k < xs.length) (hy : (xs.getD k 0 == y) = false) : cnt (xs.take (k + 1)) y = cnt (xs.take k) y := by
  have hg : xs[k] = xs.getD k 0 := by simp [List.getD, h]
  unfold cnt
  rw [List.take_succ_eq_append_getElem h, List.countP_append, hg]
  simp only [List.countP_cons, List.countP_nil, hy]
  simp

end Go.Proofs.Ytgclikdienlhdaa

/- Plain facts: runs of all numbers together are as many as the list is long. -/
namespace Go.Proofs.Ytgclikdienlhdaa
set_option linter.unusedSimpArgs false
set_option linter.unusedVariables false

/-- The runs of the numbers that come first among the first i. -/
def sumF (xs : List Int) : Nat → Nat
  | 0 => 0
  | i + 1 => if plc xs (xs.getD i 0) == (i : Int) then sumF xs i + cnt xs (xs.getD i 0) else sumF xs i

theorem countP_lt_succ (f : Nat → Nat) (i : Nat) (l : List Nat) : l.countP (fun t => decide (f t < i + 1)) = l.countP (fun t => decide (f t < i)) + l.countP (fun t => f t == i) := by
  induction l with
  | nil => rfl
  | cons t l ih =>
    simp only [List.countP_cons, ih]
    rcases Nat.lt_trichotomy (f t) i with h | h | h
    · have h1 : decide (f t < i + 1) = true := by simp; omega
      have h2 : decide (f t < i) = true := by simp; omega
      have h3 : (f t == i) = false := by simp; omega
      simp only [h1, h2, h3]; simp; omega
    · have h1 : decide (f t < i + 1) = true := by simp; omega
      have h2 : decide (f t < i) = false := by simp; omega
      have h3 : (f t == i) = true := by simp; omega
      simp only [h1, h2, h3]; simp; omega
    · have h1 : decide (f t < i + 1) = false := by simp; omega
      have h2 : decide (f t < i) = false := by simp; omega
      have h3 : (f t == i) = false := by simp; omega
      simp only [h1, h2, h3]; simp

theorem cnt_range (xs : List Int) (y : Int) : (List.range xs.length).countP (fun t => xs.getD t 0 == y) = cnt xs y := by
  have h : xs = (List.range xs.length).map fun t => xs.getD t 0 := by
    apply List.ext_getElem (by simp)
    intro i h1 h2
    simp [List.getD, h1]
  unfold cnt
  rw [show xs.countP (fun x => x == y) = ((List.range xs.length).map fun t => xs.getD t 0).countP (fun x => x == y) from congrArg _ h, List.countP_map]
  rfl

theorem idx_le (xs : List Int) (t : Nat) (h : t < xs.length) : xs.idxOf (xs.getD t 0) < xs.length := List.idxOf_lt_length_of_mem (by simp [List.getD, h])
theorem idx_get (xs : List Int) (y : Int) (h : xs.idxOf y < xs.length) : xs.getD (xs.idxOf y) 0 = y := by
  simp [List.getD, h]

theorem sumF_eq (xs : List Int) : ∀ i, i ≤ xs.length → sumF xs i = (List.range xs.length).countP (fun t => decide (xs.idxOf (xs.getD t 0) < i)) := by
  intro i
  induction i with
  | zero => intro _; simp [sumF]
  | succ i ih =>
    intro hi
    have hm : xs.getD i 0 ∈ xs := by simp [List.getD, show i < xs.length by omega]
    have hp : plc xs (xs.getD i 0) = (xs.idxOf (xs.getD i 0) : Int) := by unfold plc; rw [if_pos hm]
    rw [countP_lt_succ (fun t => xs.idxOf (xs.getD t 0)) i, ← ih (by omega)]
    show (if plc xs (xs.getD i 0) == (i : Int) then sumF xs i + cnt xs (xs.getD i 0) else sumF xs i) = _
    by_cases h : xs.idxOf (xs.getD i 0) = i
    · have h1 : (plc xs (xs.getD i 0) == (i : Int)) = true := by rw [hp, h]; exact beq_self_eq_true _
      rw [if_pos h1, ← cnt_range]
      congr 1
      apply List.countP_congr
      intro t ht
      have ht' := List.mem_range.1 ht
      simp only [beq_iff_eq]
      constructor
      · intro e; rw [e]; exact h
      · intro e
        have := idx_get xs (xs.getD t 0) (idx_le xs t ht')
        rw [e] at this
        exact this.symm
    · have h1 : ¬ (plc xs (xs.getD i 0) == (i : Int)) = true := by rw [hp, beq_iff_eq]; omega
      rw [if_neg h1]
      have h0 : (List.range xs.length).countP (fun t => xs.idxOf (xs.getD t 0) == i) = 0 := by
        rw [List.countP_eq_zero]
        intro t ht
        have ht' := List.mem_range.1 ht
        simp only [beq_iff_eq]
        intro e
        apply h
        have := idx_get xs (xs.getD t 0) (idx_le xs t ht')
        rw [e] at this
        rw [this]; exact e
      omega

theorem sumF_all (xs : List Int) : sumF xs xs.length = xs.length := by
  rw [sumF_eq xs _ (Nat.le_refl _)]
  have : (List.range xs.length).countP (fun t => decide (xs.idxOf (xs.getD t 0) < xs.length)) = (List.range xs.length).length := by
    rw [List.countP_eq_length]
    intro t ht
    have ht' := List.mem_range.1 ht
    exact decide_eq_true (idx_le xs t ht')
  rw [this]; simp

theorem sumF_le (xs : List Int) (i : Nat) (h : i ≤ xs.length) : sumF xs i ≤ xs.length := by
  rw [sumF_eq xs i h]
  have := List.countP_le_length (p := fun t => decide (xs.idxOf (xs.getD t 0) < i)) (l := List.range xs.length)
  simpa using this

theorem runs_pos (xs : List Int) (y : Int) : decide (runsF xs y > 0) = decide (y ∈ xs) := by
  unfold runsF cnt
  have : 0 < xs.countP (fun x => x == y) ↔ y ∈ xs := by
    rw [List.countP_pos_iff]
    constructor
    · rintro ⟨a, ha, he⟩; simp at he; rw [← he]; exact ha
    · intro h; exact ⟨y, h, by simp⟩
  by_cases h : y ∈ xs
  · have := this.2 h
    rw [decide_eq_true h, decide_eq_true (by omega)]
  · have h2 : ¬ 0 < xs.countP (fun x => x == y) := fun e => h (this.1 e)
    rw [decide_eq_false h, decide_eq_false (by omega)]
end Go.Proofs.Ytgclikdienlhdaa

/- laws.FnRunsOf returns true for all bytes, and writes nothing that was there. -/
namespace Go.Proofs.Ytgclikdienlhdaa
set_option linter.unusedSimpArgs false
set_option linter.unusedVariables false
open Go.RowKit

set_option maxHeartbeats 800000 in
theorem laws_isIn (A : Option Addr) (n c : Nat) (xs : List Int) (x : Int) (w : World) (B : Nat) (hB : B ≤ w.heap.size) (hn : n = xs.length) (h : IS w B A xs) (hs : n ≤ 2000000) :
    Calls Try.prog 30 #[.slice A n c, .int .i64 x] w fun e w' => e = .returned (.bool (decide (x ∈ xs))) ∧ w = w' := by
  have H := Lib.hid h
  have HN := Lib.hid hn
  clear hn h
  go_enter Try.func30, Try.ntmps30
  go_wp2
  go_loop [5] (fun i => ∃ k : Nat, k ≤ n ∧ i = .int .i64 k ∧ Hid (∀ j, j < k → xs.getD j 0 ≠ x)) (fun i => n - (intOf i).toNat)
  case atStart => exact ⟨0, Nat.zero_le _, rfl, fun j hj => by omega⟩
  case round =>
    obtain ⟨k, hk, rfl, HA⟩ := hrel
    by_cases hlt : k < n
    · obtain ⟨b, off, rfl, hbB, hc⟩ := H.out (by have := HN.out; omega)
      have c0 := hc k (by have := HN.out; omega)
      clear hc H
      generalize hp : xs.getD k 0 = p at *
      have HP := Lib.hid hp
      clear hp
      cases hr : (p == x)
      · have HR := Lib.hid hr
        go_wp2
        go_round
        case rel => exact ⟨k + 1, by omega, by go_num, fun j hj => by
          rcases Nat.lt_or_ge j k with h1 | h1
          · exact HA.out j h1
          · obtain rfl : j = k := by omega
            rw [HP.out]; simpa using HR.out⟩
        case measure => simp [intOf]; omega
      · have HR := Lib.hid hr
        go_wp2
        go_ret
        refine ⟨ret_b ?_, rfl⟩
        symm
        apply decide_eq_true
        have h1 : k < xs.length := by have := HN.out; omega
        have h2 := HP.out
        have h3 : p = x := by simpa using HR.out
        rw [← h3, ← h2]
        simp [List.getD, h1]
    · go_wp2
      go_ret
      refine ⟨ret_b ?_, rfl⟩
      symm
      apply decide_eq_false
      intro hm
      obtain ⟨j, hj, he⟩ := List.mem_iff_getElem.1 hm
      exact HA.out j (by have := HN.out; omega) (by simp [List.getD, hj, he])

end Go.Proofs.Ytgclikdienlhdaa

/- What the laws of promises draw: a formula, a formula and values; and the laws' own helpers on lists. -/
namespace Go.Proofs.Ytgclikdienlhdaa
set_option linter.unusedSimpArgs false
set_option linter.unusedVariables false
open Go.RowKit

/-- Returns a formula of some parts that lies in memory. -/
def DrF (w : World) (e : Ending) (w' : World) : Prop :=
  ∃ (A : Option Addr) (n c : Nat) (ps : List Pt), e = .returned (.agg #[.slice A n c]) ∧ n = ps.length ∧ 1 ≤ n ∧ n ≤ 41 ∧ PS w' w'.heap.size A ps ∧ Below w.heap.size w w'
/-- Not in a block that was there. -/
def FA (w : World) (A : Option Addr) : Prop := ∀ b off, A = some ⟨b, off, none⟩ → w.heap.size ≤ b
/-- Returns a formula and values that lie in memory. -/
def DrFV (w : World) (e : Ending) (w' : World) : Prop :=
  ∃ (A : Option Addr) (n c : Nat) (ps : List Pt) (E : Option Addr) (m d : Nat) (xs : List Int), e = .returned (.tuple #[.agg #[.slice A n c], .slice E m d]) ∧ n = ps.length ∧ 1 ≤ n ∧ n ≤ 41 ∧ m = xs.length ∧ 3 ≤ m ∧ m ≤ 10 ∧ PS w' w'.heap.size A ps ∧ IS w' w'.heap.size E xs ∧ FA w A ∧ FA w E ∧ Below w.heap.size w w'

theorem PS.set0 {w : World} {B g : Nat} {A : Option Addr} {ps : List Pt} (h : PS w B A ps) (hne : ∀ b off, A = some ⟨b, off, none⟩ → b ≠ g) (j : Nat) (x : Value) : PS (w.setCell ⟨g, j, none⟩ x) B A ps := by
  intro hn
  obtain ⟨b, off, e, hb, hc⟩ := h hn
  have hbg := hne b off e
  have k : ∀ i : Nat, (w.setCell ⟨g, j, none⟩ x).cell? ⟨b, i, none⟩ = w.cell? ⟨b, i, none⟩ := fun i => World.cell?_setCell_other _ _ _ _ (by intro e; cases e; exact hbg rfl)
  refine ⟨b, off, e, hb, fun i hi => ?_⟩
  obtain ⟨a0, a1, a2, a3, a4⟩ := hc i hi
  exact ⟨(k _).trans a0, (k _).trans a1, (k _).trans a2, (k _).trans a3, (k _).trans a4⟩
theorem IS.set0 {w : World} {B g : Nat} {A : Option Addr} {xs : List Int} (h : IS w B A xs) (hne : ∀ b off, A = some ⟨b, off, none⟩ → b ≠ g) (j : Nat) (x : Value) : IS (w.setCell ⟨g, j, none⟩ x) B A xs := by
  intro hn
  obtain ⟨b, off, e, hb, hc⟩ := h hn
  have hbg := hne b off e
  exact ⟨b, off, e, hb, fun i hi => (World.cell?_setCell_other _ _ _ _ (by intro e; cases e; exact hbg rfl)).trans (hc i hi)⟩
theorem own_far {w : World} {base e size n c g : Nat} {A : Option Addr} {xs : List Value} (h : w.ownsRow base e size (.slice A n c) n xs) (hg : g < base) : ∀ b off, A = some ⟨b, off, none⟩ → b ≠ g := by
  rintro b off rfl
  have := (h.lt b rfl).1
  omega

theorem own_far' {w : World} {base e size n c : Nat} {A : Option Addr} {xs : List Value} (h : w.ownsRow base e size (.slice A n c) n xs) : ∀ b off, A = some ⟨b, off, none⟩ → base ≤ b := by
  rintro b off rfl
  exact (h.lt b rfl).1

end Go.Proofs.Ytgclikdienlhdaa

/- Plain facts on graphs: validity, cells, meaning, heights. -/
namespace Go.Proofs.Ytgclikdienlhdaa
set_option linter.unusedSimpArgs false
set_option linter.unusedVariables false
open Go.RowKit

theorem all_bad (l : List Int) (p : Int → Bool) (k : Nat) (h : k < l.length) (hp : p (l.getD k 0) = false) : l.all p = false := by
  rw [List.all_eq_false]
  exact ⟨l.getD k 0, by simp [List.getD, h], by rw [hp]; simp⟩
theorem all_good (l : List Int) (p : Int → Bool) (h : ∀ k, k < l.length → p (l.getD k 0) = true) : l.all p = true := by
  rw [List.all_eq_true]
  intro x hx
  obtain ⟨k, hk, rfl⟩ := List.mem_iff_getElem.1 hx
  have := h k hk
  simpa [List.getD, hk] using this

/-- A node ahead of the one at i that is no effect. -/
def rdOK (gs : List Nd) (i : Nat) (x : Int) : Bool := decide (x < (i : Int)) && !((gs.getD x.toNat default).k == 2)
def goodRd (gs : List Nd) (i : Nat) : Bool := (mayR (gs.getD i default).ps).all (rdOK gs i)
def nodeOK (gs : List Nd) (i : Nat) : Bool :=
  if (gs.getD i default).k == 0 then decide ((gs.getD i default).ps.length = 0)
  else if (gs.getD i default).k == 1 then validF (gs.getD i default).ps && goodRd gs i
  else if (gs.getD i default).k == 2 then validF (gs.getD i default).ps && goodRd gs i
  else false
def validG (gs : List Nd) : Bool := decide (∀ i, i < gs.length → nodeOK gs i = true) && decide (gs.length ≤ 10)

theorem validG_bad (gs : List Nd) (k : Nat) (h : k < gs.length) (hg : nodeOK gs k = false) : validG gs = false := by
  unfold validG
  rw [decide_eq_false]
  · rfl
  · intro H; rw [H k h] at hg; cases hg
theorem validG_long (gs : List Nd) (h : 10 < gs.length) : validG gs = false := by
  unfold validG
  rw [decide_eq_false (p := gs.length ≤ 10) (by omega), Bool.and_false]
theorem validG_fin (gs : List Nd) (h : ∀ i, i < gs.length → nodeOK gs i = true) : validG gs = decide (gs.length ≤ 10) := by
  unfold validG
  rw [decide_eq_true h, Bool.true_and]
theorem validG_parts (gs : List Nd) (h : validG gs = true) : gs.length ≤ 10 ∧ ∀ i, i < gs.length → nodeOK gs i = true := by
  unfold validG at h
  simp only [Bool.and_eq_true, decide_eq_true_eq] at h
  exact ⟨h.2, h.1⟩

theorem nodeOK_cell (gs : List Nd) (i : Nat) (h : nodeOK gs i = true) (hk : ((gs.getD i default).k == 0) = true) : (gs.getD i default).ps = [] := by
  unfold nodeOK at h
  rw [if_pos hk] at h
  exact List.eq_nil_of_length_eq_zero (by simpa using h)
theorem nodeOK_formula (gs : List Nd) (i : Nat) (h : nodeOK gs i = true) (hk : ((gs.getD i default).k == 0) = false) : validF (gs.getD i default).ps = true ∧ goodRd gs i = true := by
  unfold nodeOK at h
  rw [if_neg (by rw [hk]; decide)] at h
  cases h1 : ((gs.getD i default).k == 1)
  · rw [if_neg (by rw [h1]; decide)] at h
    cases h2 : ((gs.getD i default).k == 2)
    · rw [if_neg (by rw [h2]; decide)] at h; cases h
    · rw [if_pos h2] at h; simpa using h
  · rw [if_pos h1] at h; simpa using h

theorem mayR_nil : mayR [] = [] := by
  unfold mayR hasNode
  simp

theorem mem_mayR_bd (ps : List Pt) (x : Int) (h : x ∈ mayR ps) : 0 ≤ x ∧ x < 10 := by
  obtain ⟨m, hm, _, rfl⟩ := (mem_mayR ps x).1 h
  omega

theorem mayR_getD_bd (ps : List Pt) (j : Nat) (h : j < (mayR ps).length) : 0 ≤ (mayR ps).getD j 0 ∧ (mayR ps).getD j 0 < 10 :=
  mem_mayR_bd ps _ (by simp [List.getD, h])

/-- All nodes that a node of a valid graph may read are ahead of it. -/
theorem mayR_ahead (gs : List Nd) (i : Nat) (h : validG gs = true) (hi : i < gs.length) (x : Int) (hx : x ∈ mayR (gs.getD i default).ps) : 0 ≤ x ∧ x < (i : Int) := by
  obtain ⟨h10, hok⟩ := validG_parts gs h
  have hb := mem_mayR_bd _ _ hx
  cases hk : ((gs.getD i default).k == 0)
  · obtain ⟨_, hg⟩ := nodeOK_formula gs i (hok i hi) hk
    unfold goodRd at hg
    rw [List.all_eq_true] at hg
    have := hg x hx
    unfold rdOK at this
    simp only [Bool.and_eq_true, decide_eq_true_eq] at this
    omega
  · rw [nodeOK_cell gs i (hok i hi) hk, mayR_nil] at hx
    cases hx

/-- Values for all nodes ahead are enough for the formula of a node. -/
theorem each_ahead (gs : List Nd) (i m : Nat) (h : validG gs = true) (hi : i < gs.length) (hk : ((gs.getD i default).k == 0) = false) (hm : i ≤ m) : eachOK (gs.getD i default).ps m = true := by
  obtain ⟨h10, hok⟩ := validG_parts gs h
  obtain ⟨hv, hg⟩ := nodeOK_formula gs i (hok i hi) hk
  unfold eachOK
  rw [List.all_eq_true]
  intro p hp
  cases h1 : (p.k == 1)
  · simp
  · obtain ⟨j, hj, rfl⟩ := List.mem_iff_getElem.1 hp
    have hgd := (validF_good _ hv).1 j hj
    have hah := fun x hx => mayR_ahead gs i h hi x hx
    clear hg hok
    generalize gs.getD i default = d at *
    have e : d.ps.getD j default = d.ps[j] := by simp [List.getD, hj]
    rw [e] at hgd
    have hb := (good_num _ _ hgd).2 (by simpa using h1)
    have hx : (d.ps[j]).n ∈ mayR d.ps := by
      rw [mem_mayR]
      refine ⟨(d.ps[j]).n.toNat, by omega, ?_, by omega⟩
      unfold hasNode
      rw [List.any_eq_true]
      exact ⟨_, hp, by simp only [Bool.and_eq_true]; exact ⟨h1, by simp; omega⟩⟩
    have := hah _ hx
    simp
    omega

/-- A cell is a value, 0 if its node is no cell. -/
def cellOK (gs : List Nd) (cs : List Int) (i : Nat) : Bool := rng (cs.getD i 0) 0 999 && ((gs.getD i default).k == 0 || cs.getD i 0 == 0)
def validC (gs : List Nd) (cs : List Int) : Bool := decide (cs.length = gs.length) && decide (∀ i, i < gs.length → cellOK gs cs i = true)
def okC (gs : List Nd) (cs : List Int) : Bool := validG gs && validC gs cs

theorem validC_len (gs : List Nd) (cs : List Int) (h : cs.length ≠ gs.length) : validC gs cs = false := by
  unfold validC; rw [decide_eq_false h]; rfl
theorem validC_bad (gs : List Nd) (cs : List Int) (k : Nat) (h : k < gs.length) (hc : cellOK gs cs k = false) : validC gs cs = false := by
  unfold validC
  rw [decide_eq_false (p := ∀ i, i < gs.length → cellOK gs cs i = true) (by intro H; rw [H k h] at hc; cases hc), Bool.and_false]
theorem validC_fin (gs : List Nd) (cs : List Int) (hl : cs.length = gs.length) (h : ∀ i, i < gs.length → cellOK gs cs i = true) : validC gs cs = true := by
  unfold validC
  rw [decide_eq_true hl, decide_eq_true h]; rfl
theorem validC_parts (gs : List Nd) (cs : List Int) (h : validC gs cs = true) : cs.length = gs.length ∧ ∀ i, i < gs.length → cellOK gs cs i = true := by
  unfold validC at h
  simpa only [Bool.and_eq_true, decide_eq_true_eq] using h
theorem cellOK_bd (gs : List Nd) (cs : List Int) (i : Nat) (h : cellOK gs cs i = true) : 0 ≤ cs.getD i 0 ∧ cs.getD i 0 ≤ 999 := by
  unfold cellOK rng at h
  simp only [Bool.and_eq_true, decide_eq_true_eq] at h
  exact h.1
theorem validC_VOK (gs : List Nd) (cs : List Int) (h : validC gs cs = true) : VOK cs := by
  obtain ⟨hl, hc⟩ := validC_parts gs cs h
  intro j hj
  exact cellOK_bd gs cs j (hc j (by omega))
theorem validC_allR (gs : List Nd) (cs : List Int) (h : validC gs cs = true) : allR cs 0 999 = true := by
  refine allR_true _ _ _ fun k hk => ?_
  have := validC_VOK gs cs h k hk
  unfold rng
  simpa using this
theorem validC_range (gs : List Nd) (cs : List Int) (h : allR cs 0 999 = false) : validC gs cs = false := by
  cases hv : validC gs cs
  · rfl
  · rw [validC_allR gs cs hv] at h; cases h

/-- The values of the first nodes. -/
def meanTo (gs : List Nd) (cs : List Int) : Nat → List Int
  | 0 => []
  | i + 1 => meanTo gs cs i ++ [if (gs.getD i default).k == 0 then cs.getD i 0 else (whole (gs.getD i default).ps).ev (meanTo gs cs i)]
def mean (gs : List Nd) (cs : List Int) : List Int := meanTo gs cs gs.length
def meanF (gs : List Nd) (cs : List Int) : List Int := if okC gs cs then mean gs cs else []

theorem meanTo_len (gs : List Nd) (cs : List Int) (i : Nat) : (meanTo gs cs i).length = i := by
  induction i with
  | zero => rfl
  | succ i ih => simp [meanTo, ih]

theorem whole_ok (ps : List Pt) (m : Nat) (hv : validF ps = true) (he : eachOK ps m = true) : (whole ps).ok m := by
  obtain ⟨hg, h1, h12⟩ := validF_good ps hv
  exact tmAt_ok ps m hg he ps.length (ps.length - 1) (by omega) (by omega)

theorem meanTo_VOK (gs : List Nd) (cs : List Int) (h : okC gs cs = true) (i : Nat) (hi : i ≤ gs.length) : VOK (meanTo gs cs i) := by
  unfold okC at h
  simp only [Bool.and_eq_true] at h
  obtain ⟨hg, hc⟩ := h
  induction i with
  | zero => intro j hj; simp [meanTo] at hj
  | succ i ih =>
    have ih := ih (by omega)
    have hl := meanTo_len gs cs i
    intro j hj
    rw [meanTo_len] at hj
    rcases Nat.lt_or_ge j i with h1 | h1
    · have := ih j (by omega)
      simpa [meanTo, List.getD, List.getElem?_append, hl, h1] using this
    · obtain rfl : j = i := by omega
      have e : (meanTo gs cs (j + 1)).getD j 0 = (if (gs.getD j default).k == 0 then cs.getD j 0 else (whole (gs.getD j default).ps).ev (meanTo gs cs j)) := by
        simp [meanTo, List.getD, List.getElem?_append, hl]
      rw [e]
      cases hk : ((gs.getD j default).k == 0)
      · simp only [Bool.false_eq_true, if_false]
        refine Tm.ev_bd _ ih _ ?_
        rw [hl]
        exact whole_ok _ _ (nodeOK_formula gs j ((validG_parts gs hg).2 j (by omega)) hk).1 (each_ahead gs j j hg (by omega) hk (Nat.le_refl _))
      · simp only [if_true]
        exact cellOK_bd gs cs j ((validC_parts gs cs hc).2 j (by omega))

theorem canEv_of (ps : List Pt) (vs : List Int) (hv : validF ps = true) (hl : vs.length ≤ 10) (hr : VOK vs) (he : eachOK ps vs.length = true) : canEv ps vs = true := by
  unfold canEv
  rw [hv, he, decide_eq_true hl]
  simp only [Bool.true_and, Bool.and_true]
  refine allR_true _ _ _ fun k hk => ?_
  have := hr k hk
  unfold rng
  simpa using this

/-- The formula of a node can be evaluated with the values of the nodes ahead. -/
theorem mean_canEv (gs : List Nd) (cs : List Int) (h : okC gs cs = true) (i : Nat) (hi : i < gs.length) (hk : ((gs.getD i default).k == 0) = false) : canEv (gs.getD i default).ps (meanTo gs cs i) = true := by
  have hv := meanTo_VOK gs cs h i (by omega)
  unfold okC at h
  simp only [Bool.and_eq_true] at h
  obtain ⟨hg, hc⟩ := h
  have hl := meanTo_len gs cs i
  have h10 := (validG_parts gs hg).1
  refine canEv_of _ _ (nodeOK_formula gs i ((validG_parts gs hg).2 i hi) hk).1 (by omega) hv ?_
  rw [hl]
  exact each_ahead gs i i hg hi hk (Nat.le_refl _)

theorem okC_parts (gs : List Nd) (cs : List Int) (h : okC gs cs = true) : validG gs = true ∧ validC gs cs = true := by
  unfold okC at h
  simpa only [Bool.and_eq_true] using h

/-- The heights of the first nodes. -/
def htTo (gs : List Nd) : Nat → List Int
  | 0 => []
  | i + 1 => htTo gs i ++ [(mayR (gs.getD i default).ps).foldl (fun h x => max h ((htTo gs i).getD x.toNat 0 + 1)) 0]
def htF (gs : List Nd) : List Int := if validG gs then htTo gs gs.length else []

theorem htTo_len (gs : List Nd) (i : Nat) : (htTo gs i).length = i := by
  induction i with
  | zero => rfl
  | succ i ih => simp [htTo, ih]

theorem foldl_max_bd (L : List Int) (f : Int → Int) (a b : Int) (ha : 0 ≤ a) (hab : a ≤ b) (hf : ∀ x ∈ L, f x ≤ b) : 0 ≤ L.foldl (fun h x => max h (f x)) a ∧ L.foldl (fun h x => max h (f x)) a ≤ b := by
  induction L generalizing a with
  | nil => exact ⟨ha, hab⟩
  | cons y L ih =>
    rw [List.foldl_cons]
    have := hf y List.mem_cons_self
    exact ih (max a (f y)) (by omega) (by omega) fun x hx => hf x (List.mem_cons_of_mem _ hx)

theorem htTo_bd (gs : List Nd) (i : Nat) : ∀ j, 0 ≤ (htTo gs i).getD j 0 ∧ (htTo gs i).getD j 0 ≤ i := by
  induction i with
  | zero => intro j; simp [htTo]
  | succ i ih =>
    intro j
    have hl := htTo_len gs i
    rcases Nat.lt_or_ge j i with h1 | h1
    · have := ih j
      have e : (htTo gs (i + 1)).getD j 0 = (htTo gs i).getD j 0 := by simp [htTo, List.getD, List.getElem?_append, hl, h1]
      rw [e]; omega
    · by_cases hj : j = i
      · subst hj
        have e : (htTo gs (j + 1)).getD j 0 = (mayR (gs.getD j default).ps).foldl (fun h x => max h ((htTo gs j).getD x.toNat 0 + 1)) 0 := by simp [htTo, List.getD, List.getElem?_append, hl]
        rw [e]
        have := foldl_max_bd (mayR (gs.getD j default).ps) (fun x => (htTo gs j).getD x.toNat 0 + 1) 0 (j + 1 : Nat) (by omega) (by omega) (fun x _ => by have := ih x.toNat; omega)
        exact this
      · have e : (htTo gs (i + 1)).getD j 0 = 0 := by
          have : (htTo gs (i + 1)).length ≤ j := by rw [htTo_len]; omega
          simp [List.getD, List.getElem?_eq_none this]
        rw [e]; omega

/-- The indices at which two lists differ. -/
def diffTo (a b : List Int) (k : Nat) : List Int := ((List.range k).filter fun i => !(a.getD i 0 == b.getD i 0)).map fun i : Nat => (i : Int)
theorem diffTo_step (a b : List Int) (k : Nat) : diffTo a b (k + 1) = diffTo a b k ++ (if a.getD k 0 == b.getD k 0 then [] else [(k : Int)]) := by
  unfold diffTo
  rw [List.range_succ, List.filter_append, List.map_append]
  congr 1
  cases h : (a.getD k 0 == b.getD k 0) <;> simp [h, -List.getD_eq_getElem?_getD]
theorem diffTo_len (a b : List Int) (k : Nat) : (diffTo a b k).length ≤ k := by
  unfold diffTo
  rw [List.length_map]
  have := List.length_filter_le (fun i => !(a.getD i 0 == b.getD i 0)) (List.range k)
  simpa using this
end Go.Proofs.Ytgclikdienlhdaa

/- ReadsOf: both sides. -/
namespace Go.Proofs.Ytgclikdienlhdaa
set_option linter.unusedSimpArgs false
set_option linter.unusedVariables false
open Go.RowKit

/-- What ReadsOf answers. -/
def readF (ps : List Pt) (vs : List Int) : List Int := if canEv ps vs then firsts ((whole ps).rds vs) else []

theorem rds_whole (ps : List Pt) (vs : List Int) (h : ps.length ≤ 12) : ((whole ps).rds vs).length ≤ 531441 :=
  Nat.le_trans (rds_len ps vs ps.length (ps.length - 1)) (Nat.pow_le_pow_right (by omega) h)

theorem firsts_inv (P : List Int → Prop) (l : List Int) : ∀ acc : List Int, P acc → (∀ acc x, x ∈ l → P acc → P (if x ∈ acc then acc else acc ++ [x])) → P (l.foldl (fun acc x => if x ∈ acc then acc else acc ++ [x]) acc) := by
  induction l with
  | nil => intro acc h _; exact h
  | cons y l ih => intro acc h hs; exact ih _ (hs acc y List.mem_cons_self h) fun a x hx => hs a x (List.mem_cons_of_mem _ hx)

theorem firsts_bd (l : List Int) (m : Nat) (h : ∀ x ∈ l, ∃ q : Nat, q < m ∧ x = (q : Int)) : (firsts l).length ≤ m := by
  have h1 : (firsts l).Nodup ∧ ∀ x ∈ firsts l, ∃ q : Nat, q < m ∧ x = (q : Int) := by
    refine firsts_inv (fun a => a.Nodup ∧ ∀ x ∈ a, ∃ q : Nat, q < m ∧ x = (q : Int)) l [] ⟨List.nodup_nil, fun x hx => by cases hx⟩ ?_
    intro acc x hx ⟨h2, h3⟩
    split
    · exact ⟨h2, h3⟩
    · rename_i hn
      refine ⟨?_, ?_⟩
      · rw [List.nodup_append]
        refine ⟨h2, by simp, ?_⟩
        intro a ha b hb e
        simp at hb
        subst hb; subst e
        exact hn ha
      · intro y hy
        rcases List.mem_append.mp hy with h4 | h4
        · exact h3 y h4
        · simp at h4; subst h4; exact h y hx
  have h2 := sum_counts (firsts l) m fun x hx => by
    obtain ⟨q, hq, rfl⟩ := h1.2 x hx; omega
  rw [← h2]
  exact (sum_ones (fun i : Nat => (firsts l).count (i : Int)) m fun i _ => List.nodup_iff_count.mp h1.1 _).1

set_option maxHeartbeats 800000 in
theorem impl_ReadsOf (A A' : Option Addr) (n c m c' : Nat) (ps : List Pt) (vs : List Int) (B : Nat) (hn : n = ps.length) (hm : m = vs.length) (hs : n ≤ 1999999) (hs' : m ≤ 2000000) (w : World) (hB : B ≤ w.heap.size) (h : PS w B A ps) (h' : IS w B A' vs) :
    Calls Try.prog 41 #[.agg #[.slice A n c], .slice A' m c'] w fun e w' => RetI w (readF ps vs) e w' := by
  have H := Lib.hid h
  have HN := Lib.hid hn
  have H' := Lib.hid h'
  have HM := Lib.hid hm
  clear hn h hm h'
  cases hc : canEv ps vs
  · have hr : readF ps vs = [] := by simp [readF, hc]
    rw [hr]
    have HC := Lib.hid hc
    clear hr hc
    go_enter Try.func41, Try.ntmps41
    go_wp2_with fail
    refine (impl_canEvaluate _ _ _ _ _ _ ps vs _ B (by simp; omega) HN.out HM.out ((H.out.alloc hB _).alloc (by simp; omega) _) ((H'.out.alloc hB _).alloc (by simp; omega) _) (by omega) hs').mono ?_
    rintro e w1 ⟨rfl, hb⟩
    rw [HC.out]
    go_wp2
    go_ret
    exact ⟨_, rfl, World.ownsRow_nil _ _ _ _, (((Below.refl _ _).alloc (Nat.le_refl _) _).alloc (by simp) _).trans (hb.mono (by simp; omega))⟩
  · have hr : readF ps vs = firsts ((whole ps).rds vs) := by simp [readF, hc]
    rw [hr]
    obtain ⟨hv, hvo, hm10, hea⟩ := canEv_parts ps vs hc
    obtain ⟨hg, h1, h12⟩ := validF_good ps hv
    have hok : (whole ps).ok vs.length := tmAt_ok ps vs.length hg hea ps.length (ps.length - 1) (by omega) (by omega)
    have HWH := Lib.hid (fun (w : World) => impl_wholeOf A n c ps B HN.out hg (by omega) (by have := HN.out; omega) w)
    rw [show tmAt ps n (n - 1) = whole ps by rw [HN.out]; rfl] at HWH
    have hrl := rds_whole ps vs h12
    have HC := Lib.hid hc
    have HVO := Lib.hid hvo
    have HOK := Lib.hid hok
    clear hr hc hv hvo hea hg h1 h12 hok
    generalize whole ps = t at *
    go_enter Try.func41, Try.ntmps41
    go_wp2_with fail
    refine (impl_canEvaluate _ _ _ _ _ _ ps vs _ B (by simp; omega) HN.out HM.out ((H.out.alloc hB _).alloc (by simp; omega) _) ((H'.out.alloc hB _).alloc (by simp; omega) _) (by omega) hs').mono ?_
    rintro e w1 ⟨rfl, hb⟩
    rw [HC.out]
    have hz : w.heap.size + 1 + 1 ≤ w1.heap.size := by have := hb.size; simpa using this
    have hz0 : w.heap.size < w1.heap.size := by omega
    have hbox : w1.cell? ⟨w.heap.size, 0, none⟩ = some (.slice A n c) := (hb.cell (p := ⟨w.heap.size, 0, none⟩) (by simp; omega)).trans (by go_simp)
    have hbox2 : w1.cell? ⟨w.heap.size + 1, 0, none⟩ = some (.slice A' m c') := (hb.cell (p := ⟨w.heap.size + 1, 0, none⟩) (by simp)).trans (by go_simp)
    have HP1 := Lib.hid (((H.out.alloc hB (.cells #[.slice A n c] 53)).alloc (by simp; omega) (.cells #[.slice A' m c'] 26)).below hb (by simp; omega))
    have HI1 := Lib.hid (((H'.out.alloc hB (.cells #[.slice A n c] 53)).alloc (by simp; omega) (.cells #[.slice A' m c'] 26)).below hb (by simp; omega))
    have hB1 : Below w.heap.size w w1 := (((Below.refl _ _).alloc (Nat.le_refl _) _).alloc (by simp) _).trans (hb.mono (by simp; omega))
    clear hb
    go_wp2_with fail
    refine (HWH.out _ (by simp; omega) (HP1.out.alloc (by omega) _)).mono ?_
    rintro e w2 ⟨T, x, rfl, hT, hb2⟩
    have HT := Lib.hid hT
    clear hT
    have hz2 : w1.heap.size + 1 ≤ w2.heap.size := by have := hb2.size; simpa using this
    have hbg : Below w1.heap.size w1 w2 := (below_new w1 _).trans (hb2.mono (by simp))
    have hIR : IR w1.heap.size w1 [] w2 := ⟨hbg, by omega, (hb2.frozen (p := ⟨w1.heap.size, 0, none⟩) (by simp)).trans (by go_simp), .slice none 0 0, (hb2.cell (p := ⟨w1.heap.size, 0, none⟩) (by simp)).trans (by go_simp), World.ownsRow_nil _ _ _ _⟩
    have HEV := Lib.hid (impl_evaluate2 72 (.pointer (some ⟨w1.heap.size, 0, none⟩)) (.pointer (some ⟨w.heap.size + 1, 0, none⟩)) vs HVO.out (footR w1.heap.size) (fun acc w' => IR w1.heap.size w1 acc w' ∧ ∀ x ∈ acc, ∃ q : Nat, q < vs.length ∧ x = (q : Int))
      (fun acc w' k h hf => h.1.foot_lt k hf) (fun acc wa wb h1 h2 => ⟨⟨h1.1.step h2, h1.2⟩, fun k hf => h1.1.foot_step h2 k hf⟩) (fun q w => by kernel_rfl)
      (fun q acc wa hq h1 => (look_read A' m c' w1.heap.size (w.heap.size + 1) q vs acc w1 wa B HM.out hs' hq (by omega) (by omega) hbox2 HI1.out h1.1 (by have := firsts_bd acc vs.length h1.2; omega)).mono
        fun e wb ⟨he, hI, hF⟩ => ⟨he, ⟨hI, fun x hx => by
          rcases List.mem_append.mp hx with h4 | h4
          · exact h1.2 x h4
          · simp at h4; exact ⟨q, hq, h4⟩⟩, hF⟩) t)
    have HIR := Lib.hid hIR
    clear hb2 hIR
    go_wp2_with fail
    rw [← HT.out]
    refine (HEV.out [] _ HOK.out ⟨HIR.out, fun x hx => by cases hx⟩).mono ?_
    rintro e w3 ⟨rfl, ⟨hI3, _⟩, _⟩
    obtain ⟨v, hv, ho⟩ := hI3.cell
    obtain ⟨A3, c3, rfl⟩ := own_form ho
    simp only [List.nil_append] at hv ho
    have HO := Lib.hid ho
    have HB3 := Lib.hid hI3.bel
    have hs3 := hI3.lt
    clear ho hI3
    go_wp2
    go_ret
    exact ⟨_, rfl, own_mono HO.out (by omega), hB1.trans (HB3.out.mono (by omega))⟩
end Go.Proofs.Ytgclikdienlhdaa

/- Plain facts for the laws of promises: values that are not read, graphs' first nodes, cells of 0. -/
namespace Go.Proofs.Ytgclikdienlhdaa
set_option linter.unusedSimpArgs false
set_option linter.unusedVariables false
open Go.RowKit

theorem rds_lt (t : Tm) (vs : List Int) (m : Nat) (h : t.ok m) : ∀ x ∈ t.rds vs, ∃ q : Nat, q < m ∧ x = (q : Int) := by
  induction t with
  | num v => intro x hx; simp [Tm.rds] at hx
  | rd v =>
    intro x hx
    simp [Tm.rds] at hx
    simp only [Tm.ok] at h
    exact ⟨v.toNat, by omega, by omega⟩
  | pr k l r ihl ihr =>
    intro x hx
    simp only [Tm.ok] at h
    simp only [Tm.rds, List.mem_append] at hx
    rcases hx with hx | hx
    · exact ihl h.1 x hx
    · exact ihr h.2 x hx
  | ch a b c iha ihb ihc =>
    intro x hx
    simp only [Tm.ok] at h
    simp only [Tm.rds, List.mem_append] at hx
    rcases hx with hx | hx
    · exact iha h.1 x hx
    · split at hx
      · exact ihc h.2.2 x hx
      · exact ihb h.2.1 x hx

/-- What is not read does not matter. -/
theorem ev_agree (t : Tm) (vs vs' : List Int) (m : Nat) (hok : t.ok m) (h : ∀ x ∈ t.rds vs, vs'.getD x.toNat 0 = vs.getD x.toNat 0) : t.ev vs' = t.ev vs ∧ t.rds vs' = t.rds vs := by
  induction t with
  | num v => exact ⟨rfl, rfl⟩
  | rd v =>
    simp only [Tm.ev, Tm.rds] at *
    exact ⟨h v (by simp), trivial⟩
  | pr k l r ihl ihr =>
    simp only [Tm.ok] at hok
    simp only [Tm.ev, Tm.rds] at *
    obtain ⟨l1, l2⟩ := ihl hok.1 fun x hx => h x (List.mem_append_left _ hx)
    obtain ⟨r1, r2⟩ := ihr hok.2 fun x hx => h x (List.mem_append_right _ hx)
    rw [l1, l2, r1, r2]
    exact ⟨rfl, rfl⟩
  | ch a b c iha ihb ihc =>
    simp only [Tm.ok] at hok
    simp only [Tm.ev, Tm.rds] at *
    obtain ⟨a1, a2⟩ := iha hok.1 fun x hx => h x (List.mem_append_left _ hx)
    rw [a1, a2]
    split
    · rename_i h0
      obtain ⟨b1, b2⟩ := ihc hok.2.2 fun x hx => h x (List.mem_append_right _ (by rw [if_pos h0]; exact hx))
      rw [b1, b2]
      exact ⟨rfl, rfl⟩
    · rename_i h0
      obtain ⟨c1, c2⟩ := ihb hok.2.1 fun x hx => h x (List.mem_append_right _ (by rw [if_neg h0]; exact hx))
      rw [c1, c2]
      exact ⟨rfl, rfl⟩

theorem firsts_mem (l : List Int) (x : Int) : x ∈ firsts l ↔ x ∈ l := by
  have : ∀ (l acc : List Int), x ∈ l.foldl (fun acc x => if x ∈ acc then acc else acc ++ [x]) acc ↔ x ∈ acc ∨ x ∈ l := by
    intro l
    induction l with
    | nil => intro acc; simp
    | cons y l ih =>
      intro acc
      rw [List.foldl_cons, ih]
      by_cases hy : y ∈ acc
      · rw [if_pos hy, List.mem_cons]
        constructor
        · rintro (h | h)
          · exact .inl h
          · exact .inr (.inr h)
        · rintro (h | h | h)
          · exact .inl h
          · subst h; exact .inl hy
          · exact .inr h
      · rw [if_neg hy, List.mem_append, List.mem_cons, List.mem_cons]
        simp only [List.not_mem_nil, or_false]
        constructor
        · rintro ((h | h) | h)
          · exact .inl h
          · exact .inr (.inl h)
          · exact .inr (.inr h)
        · rintro (h | h | h)
          · exact .inl (.inl h)
          · exact .inl (.inr h)
          · exact .inr h
  simpa [firsts] using this l []

theorem firsts_nodup (l : List Int) : (firsts l).Nodup :=
  firsts_inv (fun a => a.Nodup) l [] List.nodup_nil fun acc x _ h => by
    by_cases hx : x ∈ acc
    · rw [if_pos hx]; exact h
    · rw [if_neg hx]
      refine List.nodup_append.2 ⟨h, by simp, ?_⟩
      intro a ha b hb e
      simp at hb
      subst hb; subst e
      exact hx ha

theorem canEv_set (ps : List Pt) (vs : List Int) (n : Nat) (y : Int) (h : canEv ps vs = true) (hy : 0 ≤ y) (hy' : y ≤ 999) : canEv ps (vs.set n y) = true := by
  obtain ⟨hv, hvo, hl, he⟩ := canEv_parts ps vs h
  refine canEv_of ps _ hv (by simpa using hl) ?_ (by simpa using he)
  intro j hj
  have hj' : j < vs.length := by simpa using hj
  by_cases e : n = j
  · subst e
    simp [List.getD, hj', hy, hy']
  · have := hvo j hj'
    simpa [List.getD, List.getElem?_set, e] using this

/-- Another value for a node that is not read: the same value, the same reads. -/
theorem unread (ps : List Pt) (vs : List Int) (n : Nat) (y : Int) (h : canEv ps vs = true) (hy : 0 ≤ y) (hy' : y ≤ 999) (hn : (n : Int) ∉ readF ps vs) : canEv ps (vs.set n y) = true ∧ valF ps (vs.set n y) = valF ps vs ∧ readF ps (vs.set n y) = readF ps vs := by
  have hc := canEv_set ps vs n y h hy hy'
  obtain ⟨hv, hvo, hl, he⟩ := canEv_parts ps vs h
  have hok := whole_ok ps vs.length hv he
  have hr : readF ps vs = firsts ((whole ps).rds vs) := by unfold readF; rw [h]; rfl
  have := ev_agree (whole ps) vs (vs.set n y) vs.length hok fun x hx => by
    have hne : x ≠ (n : Int) := by
      rintro rfl
      exact hn (by rw [hr, firsts_mem]; exact hx)
    obtain ⟨q, _, rfl⟩ := rds_lt (whole ps) vs vs.length hok x hx
    have : ¬ n = q := by intro e; exact hne (by rw [e])
    simp [List.getD, List.getElem?_set, this]
  refine ⟨hc, ?_, ?_⟩
  · unfold valF; rw [h, hc]; simpa using this.1
  · unfold readF; rw [h, hc]; simp [this.2]

theorem valF_bd (ps : List Pt) (vs : List Int) (h : canEv ps vs = true) : 0 ≤ valF ps vs ∧ valF ps vs < 1000 := by
  obtain ⟨hv, hvo, hl, he⟩ := canEv_parts ps vs h
  have := Tm.ev_bd vs hvo (whole ps) (whole_ok ps vs.length hv he)
  unfold valF
  rw [h]
  simp only [if_true]
  omega

/-- What is read may be read. -/
theorem rds_node (ps : List Pt) (hg : AllGood ps) (vs : List Int) (f : Nat) : ∀ i, i < f → i < ps.length → ∀ x ∈ (tmAt ps f i).rds vs, ∃ q : Nat, q < 10 ∧ x = (q : Int) ∧ hasNode ps q = true := by
  induction f with
  | zero => intro i hi; omega
  | succ f ih =>
    intro i hi hin x hx
    have hgi := hg i hin
    have hmem : ps.getD i default ∈ ps := by simp [List.getD, hin]
    rw [tmAt_eq] at hx
    have hbn := good_bel_nat _ _ hgi
    have hnum := good_num _ _ hgi
    generalize ps.getD i default = p at *
    rcases good_kind _ _ hgi with h0 | h0 | h0 | h0
    · simp only [h0] at hx
      simp [Tm.rds] at hx
    · have h1 : (p.k == 1) = true := by simp [h0]
      have h00 : (p.k == 0) = false := by simp [h0]
      simp only [h00, h1, if_true, Bool.false_eq_true, if_false, Tm.rds, List.mem_singleton] at hx
      have := hnum.2 h0
      refine ⟨p.n.toNat, by omega, by omega, ?_⟩
      unfold hasNode
      rw [List.any_eq_true]
      exact ⟨_, hmem, by rw [h1, Bool.true_and]; simp only [beq_iff_eq]; omega⟩
    · obtain ⟨a, b, ea, eb, la, lb⟩ := hbn.1 h0
      have k0 : (p.k == 0) = false := by simp; omega
      have k1 : (p.k == 1) = false := by simp; omega
      have k8 : (p.k == 8) = false := by simp; omega
      simp only [k0, k1, k8, Bool.false_eq_true, if_false, ea, eb, Int.toNat_natCast, Tm.rds, List.mem_append] at hx
      rcases hx with hx | hx
      · exact ih a (by omega) (by omega) x hx
      · exact ih b (by omega) (by omega) x hx
    · obtain ⟨a, b, c, ea, eb, ec, la, lb, lc⟩ := hbn.2 h0
      have k0 : (p.k == 0) = false := by simp [h0]
      have k1 : (p.k == 1) = false := by simp [h0]
      have k8 : (p.k == 8) = true := by simp [h0]
      simp only [k0, k1, k8, Bool.false_eq_true, if_false, if_true, ea, eb, ec, Int.toNat_natCast, Tm.rds, List.mem_append] at hx
      rcases hx with hx | hx
      · exact ih a (by omega) (by omega) x hx
      · split at hx
        · exact ih c (by omega) (by omega) x hx
        · exact ih b (by omega) (by omega) x hx

theorem readF_may (ps : List Pt) (vs : List Int) : (readF ps vs).Nodup ∧ ∀ x ∈ readF ps vs, x ∈ mayF ps := by
  unfold readF mayF
  cases h : canEv ps vs
  · simp
  · simp only [if_true]
    obtain ⟨hv, hvo, hl, he⟩ := canEv_parts ps vs h
    obtain ⟨hg, h1, h12⟩ := validF_good ps hv
    rw [hv]
    refine ⟨firsts_nodup _, fun x hx => ?_⟩
    rw [firsts_mem] at hx
    obtain ⟨q, hq, rfl, hq2⟩ := rds_node ps hg vs ps.length (ps.length - 1) (by omega) (by omega) x hx
    simp only [if_true]
    rw [mem_mayR]
    exact ⟨q, hq, hq2, rfl⟩

/-! Graphs. -/
theorem take_getD (gs : List Nd) (k i : Nat) (h : i < k) : (gs.take k).getD i default = gs.getD i default := by
  simp only [List.getD, List.getElem?_take, if_pos h]

theorem nodeOK_take (gs : List Nd) (k i : Nat) (h : i < k) (hk : k ≤ gs.length) : nodeOK (gs.take k) i = nodeOK gs i := by
  unfold nodeOK goodRd
  rw [take_getD gs k i h]
  have e : (mayR (gs.getD i default).ps).all (rdOK (gs.take k) i) = (mayR (gs.getD i default).ps).all (rdOK gs i) := by
    rw [Bool.eq_iff_iff, List.all_eq_true, List.all_eq_true]
    have key : ∀ x ∈ mayR (gs.getD i default).ps, rdOK (gs.take k) i x = rdOK gs i x := fun x hx => by
      unfold rdOK
      by_cases hxi : x < (i : Int)
      · have := (mem_mayR_bd _ _ hx).1
        rw [take_getD gs k x.toNat (by omega)]
      · rw [decide_eq_false hxi]; rfl
    constructor
    · intro h x hx; rw [← key x hx]; exact h x hx
    · intro h x hx; rw [key x hx]; exact h x hx
  rw [e]

theorem validG_take (gs : List Nd) (k : Nat) (h : validG gs = true) (hk : k ≤ gs.length) : validG (gs.take k) = true := by
  obtain ⟨h10, hok⟩ := validG_parts gs h
  rw [validG_fin (gs.take k) fun i hi => by
    have hi' : i < k := by rw [List.length_take] at hi; omega
    rw [nodeOK_take gs k i hi' hk]
    exact hok i (by omega)]
  rw [List.length_take]
  simp
  omega

theorem okC_zero (gs : List Nd) (n : Nat) (h : validG gs = true) (hn : n = gs.length) : okC gs (List.replicate n 0) = true := by
  unfold okC
  rw [h, Bool.true_and]
  refine validC_fin _ _ (by simp [hn]) fun i hi => ?_
  unfold cellOK rng
  simp [List.getD, hn, hi]
end Go.Proofs.Ytgclikdienlhdaa

/- The laws' own helpers on lists, where they answer true. -/
namespace Go.Proofs.Ytgclikdienlhdaa
set_option linter.unusedSimpArgs false
set_option linter.unusedVariables false
open Go.RowKit

set_option maxHeartbeats 800000 in
theorem laws_equalInts (A A' : Option Addr) (n n' c c' : Nat) (a b : List Int) (w : World) (B : Nat) (hB : B ≤ w.heap.size) (hn : n = a.length) (hn' : n' = b.length) (h : IS w B A a) (h' : IS w B A' b) (hs : n ≤ 2000000) (hs' : n' ≤ 2000000) :
    Calls Try.prog 13 #[.slice A n c, .slice A' n' c'] w fun e w' => e = .returned (.bool (decide (a = b))) ∧ Below w.heap.size w w' := by
  by_cases hl : n = n'
  · have hne : ((n : Int) != (n' : Int)) = false := by simp [hl]
    have HL := Lib.hid hl
    have HN := Lib.hid hn
    have HN' := Lib.hid hn'
    have H := Lib.hid h
    have H' := Lib.hid h'
    clear hl hn hn' h h'
    go_enter Try.func13, Try.ntmps13
    go_wp2
    go_loopw [5] (fun i wr => ∃ k : Nat, k ≤ n ∧ i = .int .i64 k ∧ Hid (∀ j, j < k → a.getD j 0 = b.getD j 0) ∧ Below w.heap.size w wr) (fun i _ => n - (intOf i).toNat)
    case atStart => exact ⟨0, Nat.zero_le _, rfl, fun j hj => by omega, Below.refl _ _⟩
    case round =>
      obtain ⟨k, hk, rfl, HT, hb⟩ := hrel
      by_cases hlt : k < n
      · have hlt' : k < n' := by have := HL.out; omega
        obtain ⟨b1, off, rfl, hbB, hc⟩ := H.out (by have := HN.out; omega)
        obtain ⟨b2, off', rfl, hbB', hc'⟩ := H'.out (by have := HN'.out; omega)
        have d1 := hc k (by have := HN.out; omega)
        have d2 := hc' k (by have := HN'.out; omega)
        have e1 := (hb.cell (p := ⟨b1, off + k, none⟩) (by simp; omega)).trans d1
        have e2 := (hb.cell (p := ⟨b2, off' + k, none⟩) (by simp; omega)).trans d2
        clear hc hc' d1 d2 H H'
        have HNE : Hid (a.getD k 0 ≠ b.getD k 0 → decide (a = b) = false) := fun hh => by rw [decide_eq_false_iff_not]; rintro rfl; exact hh rfl
        have HEQ : Hid (a.getD k 0 = b.getD k 0 → ∀ j, j < k + 1 → a.getD j 0 = b.getD j 0) := fun hh j hj => by
          rcases Nat.lt_or_ge j k with h1 | h1
          · exact HT.out j h1
          · obtain rfl : j = k := by omega
            exact hh
        generalize a.getD k 0 = x at *
        generalize b.getD k 0 = y at *
        cases hxy : (x == y)
        · have hne2 : (x != y) = true := by simp [bne, hxy]
          have HF := Lib.hid (HNE.out (by simpa using hxy))
          clear hxy
          go_wp2
          go_region
          go_wp2
          go_ret
          exact ⟨ret_b HF.out.symm, hb.drew⟩
        · have hne2 : (x != y) = false := by simp [bne, hxy]
          have HF := Lib.hid (HEQ.out (by simpa using hxy))
          clear hxy
          go_wp2
          go_region
          go_wp2
          go_roundw
          case rel => exact ⟨k + 1, by omega, by go_num, HF.out, hb.drew⟩
          case measure => simp [intOf]; omega
      · obtain rfl : k = n := by omega
        go_wp2
        go_ret
        refine ⟨ret_b ?_, hb⟩
        symm
        apply decide_eq_true
        have h1 := HN.out
        have h2 := HN'.out
        have h3 := HL.out
        apply List.ext_getElem (by omega)
        intro j hj hj'
        have := HT.out j (by omega)
        simpa [List.getD, hj, hj'] using this
  · have hne : ((n : Int) != (n' : Int)) = true := by simp; omega
    have hf : decide (a = b) = false := by rw [decide_eq_false_iff_not]; rintro rfl; omega
    rw [hf]
    clear hl hn hn' h h' hf
    go_enter Try.func13, Try.ntmps13
    go_wp2
    go_ret
    exact ⟨rfl, Below.refl _ _⟩

theorem nodup_plc (xs : List Int) (h : xs.Nodup) (k : Nat) (hk : k < xs.length) : plc xs (xs.getD k 0) = (k : Int) := by
  refine plc_at xs _ k hk rfl fun j hj => ?_
  have := List.pairwise_iff_getElem.1 h j k (by omega) hk hj
  simpa [List.getD, hk, show j < xs.length by omega] using this

end Go.Proofs.Ytgclikdienlhdaa

/- How the laws' arguments open: a formula, a list of numbers. -/
namespace Go.Proofs.Ytgclikdienlhdaa
set_option linter.unusedSimpArgs false
set_option linter.unusedVariables false
open Go.ChangeShapes Go.WideShapes Go.ChangeAt Go.RowKit Go.Deep

theorem own : ownKnob Try.prog.godebug = none := by kernel_rfl
theorem laidOut : laidOutB Try.prog = true := by kernel_rfl
theorem cells_int : Try.prog.cellsOf 3 = 1 := by kernel_rfl
theorem add_of (b off n : Nat) : (⟨b, off, none⟩ : Addr).add n = ⟨b, off + n, none⟩ := by
  unfold Addr.add
  by_cases h : n = 0 <;> simp [h]

theorem add_add' (a : Addr) (i j : Nat) : (a.add i).add j = a.add (i + j) := by
  unfold Addr.add
  by_cases hi : i = 0 <;> by_cases hj : j = 0 <;> simp [hi, hj, Nat.add_assoc]

theorem one_of_list (cs : List Value) (h : cs.length = 1) : ∃ c, cs = [c] := by
  match cs, h with
  | [c], _ => exact ⟨c, rfl⟩

theorem choose_parts (f : Nat → Nat → Option Value) (len : Nat) (hp : ∀ i, i < len → ∃ p : Pt, ∀ j, j < 5 → f i j = p.cells[j]?) :
    ∃ ps : List Pt, ps.length = len ∧ ∀ i, i < len → ∀ j, j < 5 → f i j = (ps.getD i default).cells[j]? := by
  induction len with
  | zero => exact ⟨[], rfl, fun i hi => by omega⟩
  | succ k ih =>
    obtain ⟨ps, hl, hps⟩ := ih (fun i hi => hp i (by omega))
    obtain ⟨p, hpp⟩ := hp k (by omega)
    refine ⟨ps ++ [p], by simp [hl], fun i hi j hj => ?_⟩
    rcases Nat.lt_or_ge i k with h1 | h1
    · rw [hps i h1 j hj]; simp [List.getD, List.getElem?_append, hl, h1]
    · obtain rfl : i = k := by omega
      rw [hpp j hj]; simp [List.getD, List.getElem?_append, hl]

section
variable {H : Type} {enc : TypeId × Value → H} {w : World} {base : Nat} {spare : Nat → Bool} {held : Bool}

set_option maxRecDepth 100000 in
theorem open_list {r : Reach} {b0 : Nat} {v : Value} {d : DataW H} {p : List MemPlace} (hsp : ∀ b, spare b = true) (hv : Value.okWide Try.prog w r b0 26 v) (h : DataW.Trod enc Try.prog w base spare held 26 v d p) :
    ∃ (A : Option Addr) (n c : Nat) (xs : List Int), v = .slice A n c ∧ n = xs.length ∧ n ≤ 9223372036854775807 ∧ IS w w.heap.size A xs := by
  obtain ⟨a0, len0, cap0, rfl⟩ := okWide_slice Try.underlying26 hv
  obtain ⟨fuel, hf⟩ := h
  rcases open_ints Try.underlying26 Try.underlying3 cells_int hf with ⟨hcs, _⟩ | ⟨x, l, c, zs, hcs, _, hl, hm, hz, _, hcell, _⟩
  · simp [Value.cells] at hcs
    obtain ⟨rfl, rfl, rfl⟩ := hcs
    exact ⟨none, 0, 0, [], rfl, rfl, by omega, IS.nil _ _ _⟩
  · simp [Value.cells] at hcs
    obtain ⟨rfl, rfl, rfl⟩ := hcs
    have hzl : len0 ≤ zs.length := by rw [hz]; split <;> omega
    refine ⟨some x, len0, cap0, zs.take len0, rfl, by simp; omega, by unfold maxLen at hm; omega, fun hn => ?_⟩
    have hlen : (zs.take len0).length = len0 := by simp; omega
    have h0 := hcell 0 (by omega)
    obtain ⟨b, off, spot⟩ := x
    have hspot : spot = none := by
      have h1 : w.cell? ⟨b, off, spot⟩ = some (.int .i64 (zs.getD 0 0)) := by simpa [Addr.add] using h0
      exact World.cell?_spot h1
    subst hspot
    have hblk : b < w.heap.size := by
      have h1 : w.cell? ⟨b, off, none⟩ = some (.int .i64 (zs.getD 0 0)) := by simpa [Addr.add] using h0
      exact World.block_lt_of_cell? w _ h1
    refine ⟨b, off, rfl, hblk, fun j hj => ?_⟩
    have g := hcell j (by omega)
    rw [add_of] at g
    rw [g]
    congr 2
    simp only [List.getD, List.getElem?_take, if_pos (show j < len0 by omega)]
end
end Go.Proofs.Ytgclikdienlhdaa

/- For all bytes the law of RunsOf holds (runs of all numbers together are as many as the list that is drawn is long, and the program's count is the model's), and the bytes stay as they were. Conditions: none. -/
namespace Go.Proofs.Ytgclikdienlhdaa
set_option linter.unusedSimpArgs false
set_option linter.unusedVariables false
open Go.ChangeShapes Go.WideShapes Go.ChangeAt Go.RowKit

theorem cells_u8 : Try.prog.cellsOf 5 = 1 := by kernel_rfl

section
variable {H : Type} {enc : TypeId × Value → H} {w : World} {base : Nat} {spare : Nat → Bool} {held : Bool}

set_option maxRecDepth 100000 in
theorem open_code {r : Reach} {b0 : Nat} {v : Value} {d : DataW H} {p : List MemPlace} (hv : Value.okWide Try.prog w r b0 22 v) (h : DataW.Trod enc Try.prog w base spare held 22 v d p) :
    ∃ (A : Option Addr) (n c : Nat) (bs : List Int), v = .slice A n c ∧ n = bs.length ∧ n ≤ c ∧ n ≤ 9223372036854775807 ∧ BY bs ∧ BS w w.heap.size A bs := by
  obtain ⟨a0, len0, cap0, rfl⟩ := okWide_slice Try.underlying22 hv
  obtain ⟨fuel, hf⟩ := h
  rcases open_ints Try.underlying22 Try.underlying5 cells_u8 hf with ⟨hcs, _⟩ | ⟨x, l, c, zs, hcs, _, hl, hm, hz, _, hcell, hwz⟩
  · simp [Value.cells] at hcs
    obtain ⟨rfl, rfl, rfl⟩ := hcs
    exact ⟨none, 0, 0, [], rfl, rfl, Nat.le_refl _, by omega, fun j => by simp [List.getD], fun h => absurd h (by simp)⟩
  · simp [Value.cells] at hcs
    obtain ⟨rfl, rfl, rfl⟩ := hcs
    have hzl : len0 ≤ zs.length := by rw [hz]; split <;> omega
    have hby : BY (zs.take len0) := by
      intro j
      have hall : ∀ y ∈ zs, 0 ≤ y ∧ y ≤ 255 := by
        intro y hy
        have := hwz y hy
        have this : (decide (IntKind.u8.min ≤ y) && decide (y ≤ IntKind.u8.max)) = true := this
        have e1 : IntKind.u8.min = 0 := by decide
        have e2 : IntKind.u8.max = 255 := by decide
        rw [e1, e2] at this
        simpa using this
      rcases hg : (zs.take len0)[j]? with _ | y
      · simp [List.getD, hg]
      · have hm2 : y ∈ zs := List.mem_of_mem_take (List.mem_of_getElem? hg)
        simpa [List.getD, hg] using hall y hm2
    refine ⟨some x, len0, cap0, zs.take len0, rfl, by simp; omega, hl, by unfold maxLen at hm; omega, hby, fun hn => ?_⟩
    have hlen : (zs.take len0).length = len0 := by simp; omega
    have h0 := hcell 0 (by omega)
    obtain ⟨b, off, spot⟩ := x
    have hspot : spot = none := by
      have h1 : w.cell? ⟨b, off, spot⟩ = some (.int .u8 (zs.getD 0 0)) := by simpa [Addr.add] using h0
      exact World.cell?_spot h1
    subst hspot
    have hblk : b < w.heap.size := by
      have h1 : w.cell? ⟨b, off, none⟩ = some (.int .u8 (zs.getD 0 0)) := by simpa [Addr.add] using h0
      exact World.block_lt_of_cell? w _ h1
    refine ⟨b, off, rfl, hblk, fun j hj => ?_⟩
    have g := hcell j (by omega)
    rw [add_of] at g
    rw [g]
    congr 2
    simp only [List.getD, List.getElem?_take, if_pos (show j < len0 by omega)]
end

end Go.Proofs.Ytgclikdienlhdaa

/- Plain facts for the laws of promises on graphs: values of nodes are those of their formulas. -/
namespace Go.Proofs.Ytgclikdienlhdaa
set_option linter.unusedSimpArgs false
set_option linter.unusedVariables false
open Go.RowKit

theorem meanTo_pre (gs : List Nd) (cs : List Int) (i n j : Nat) (h : i ≤ n) (hj : j < i) : (meanTo gs cs n).getD j 0 = (meanTo gs cs i).getD j 0 := by
  induction n with
  | zero => omega
  | succ n ih =>
    rcases Nat.lt_or_ge n i with h1 | h1
    · have : i = n + 1 := by omega
      subst this
      rfl
    · rw [← ih h1]
      have hl := meanTo_len gs cs n
      show (meanTo gs cs n ++ [_]).getD j 0 = _
      simp [List.getD, List.getElem?_append, hl, show j < n by omega]

theorem meanTo_last (gs : List Nd) (cs : List Int) (i : Nat) : (meanTo gs cs (i + 1)).getD i 0 = if (gs.getD i default).k == 0 then cs.getD i 0 else (whole (gs.getD i default).ps).ev (meanTo gs cs i) := by
  have hl := meanTo_len gs cs i
  show (meanTo gs cs i ++ [_]).getD i 0 = _
  simp [List.getD, List.getElem?_append, hl]

theorem mean_cell (gs : List Nd) (cs : List Int) (i : Nat) (hi : i < gs.length) (hk : ((gs.getD i default).k == 0) = true) : (mean gs cs).getD i 0 = cs.getD i 0 := by
  unfold mean
  rw [meanTo_pre gs cs (i + 1) gs.length i (by omega) (by omega), meanTo_last, hk]
  rfl

theorem mean_node (gs : List Nd) (cs : List Int) (h : okC gs cs = true) (i : Nat) (hi : i < gs.length) (hk : ((gs.getD i default).k == 0) = false) :
    canEv (gs.getD i default).ps (mean gs cs) = true ∧ valF (gs.getD i default).ps (mean gs cs) = (mean gs cs).getD i 0 := by
  obtain ⟨hg, hc⟩ := okC_parts gs cs h
  have h10 := (validG_parts gs hg).1
  have hml : (mean gs cs).length = gs.length := meanTo_len gs cs gs.length
  have hvf := (nodeOK_formula gs i ((validG_parts gs hg).2 i hi) hk).1
  have hce : canEv (gs.getD i default).ps (mean gs cs) = true := canEv_of _ _ hvf (by omega) (meanTo_VOK gs cs h gs.length (Nat.le_refl _)) (by rw [hml]; exact each_ahead gs i gs.length hg hi hk (by omega))
  refine ⟨hce, ?_⟩
  unfold valF
  rw [hce, if_pos rfl]
  have hok : (whole (gs.getD i default).ps).ok i := whole_ok _ i hvf (each_ahead gs i i hg hi hk (Nat.le_refl _))
  have hag := (ev_agree (whole (gs.getD i default).ps) (meanTo gs cs i) (mean gs cs) i hok fun x hx => by
    obtain ⟨q, hq, rfl⟩ := rds_lt _ _ i hok x hx
    unfold mean
    exact meanTo_pre gs cs i gs.length q (by omega) hq).1
  rw [hag]
  unfold mean
  rw [meanTo_pre gs cs (i + 1) gs.length i (by omega) (by omega), meanTo_last, hk]
  rfl
end Go.Proofs.Ytgclikdienlhdaa

/- The contracts of both ValidGraph. -/
namespace Go.Proofs.Ytgclikdienlhdaa
set_option linter.unusedSimpArgs false
set_option linter.unusedVariables false
open Go.RowKit

theorem GS.at_ {w : World} {B : Nat} {A : Option Addr} {gs : List Nd} (h : GS w B A gs) (j : Nat) (hj : j < gs.length) : ∃ b off, A = some ⟨b, off, none⟩ ∧ b < B ∧ NdS w B b (off + j * 2) (gs.getD j default) := by
  obtain ⟨b, off, e, hb, hc⟩ := h (by omega)
  exact ⟨b, off, e, hb, hc j hj⟩

theorem drewN_below {B n : Nat} {a w : World} (h : Below B a w) : Below B a (w.drewN n) := ⟨h.os, h.tape, h.output, h.size, h.block⟩

set_option maxRecDepth 100000 in
set_option maxHeartbeats 1600000 in
theorem spec_goodReads (A : Option Addr) (n c : Nat) (gs : List Nd) (i : Nat) (w : World) (B : Nat) (hB : B ≤ w.heap.size) (hn : n = gs.length) (h : GS w B A gs) (hs : GB gs) (hi : i < n) :
    Calls Try.prog 64 #[.agg #[.slice A n c], .int .i64 i] w fun e w' => e = .returned (.bool (goodRd gs i)) ∧ Below w.heap.size w w' := by
  have hn1 : n ≤ 1048576 := by rw [hn]; exact hs.1
  have hs1 := hs.2 i
  obtain ⟨b, off, rfl, hbB, hd⟩ := h.at_ i (by omega)
  obtain ⟨c0, A1, n1, c1, c2, hn1', hps⟩ := hd
  have hgr : goodRd gs i = (mayR (gs.getD i default).ps).all (rdOK gs i) := rfl
  rw [hgr]
  have hbd := mayR_getD_bd (gs.getD i default).ps
  generalize hp : gs.getD i default = d at *
  have hy1 : n1 ≤ 1999999 := by omega
  have H := Lib.hid h
  have HN := Lib.hid hn
  have HN1 := Lib.hid hn1'
  have HPS := Lib.hid hps
  have HBD := Lib.hid hbd
  have hbw : b < w.heap.size := by omega
  have HM := Lib.hid fun (w : World) (hB : B ≤ w.heap.size) (h : PS w B A1 d.ps) => spec_mayRead A1 n1 c1 d.ps w B hB hn1' h (by omega)
  have hml := mayR_len d.ps 10
  rw [mayR_below] at hml
  generalize mayR d.ps = L at *
  generalize hl : L.length = l at *
  have HL := Lib.hid hl
  clear h hn hn1' hps hp hgr hs hs1 hbd hl
  go_enter Try.func64, Try.ntmps64
  go_wp2_with fail
  refine (HM.out _ (by simp; omega) (HPS.out.alloc hB _)).mono ?_
  rintro e w1 ⟨v1, rfl, hown, hb1⟩
  obtain ⟨g, cL, hgv, hbg, hgw⟩ := hown.form
  rw [HL.out] at hgv
  subst hgv
  have hsz1 : w.heap.size < w1.heap.size := by simp at hbg; omega
  have hI : IS w1 w1.heap.size (some ⟨g, 0, none⟩) L := by have := hown.1; rw [HL.out] at this; exact IS.of_own this
  have HI := Lib.hid hI
  have HG := Lib.hid ((H.out.alloc hB (.cells #[.slice (some ⟨b, off, none⟩) n c] 25)).below hb1 (by simp; omega))
  have hbox : w1.cell? ⟨w.heap.size, 0, none⟩ = some (.slice (some ⟨b, off, none⟩) n c) := (hb1.cell (p := ⟨w.heap.size, 0, none⟩) (by simp)).trans (by go_simp)
  have hB1 : Below w.heap.size w w1 := ((Below.refl _ _).alloc (Nat.le_refl _) _).trans (hb1.mono (by simp))
  clear hown hb1 H HPS HM hI
  go_wp2
  go_loopw [6] (fun u wr => ∃ k : Nat, k ≤ l ∧ u = .int .i64 k ∧ Hid (∀ j, j < k → rdOK gs i (L.getD j 0) = true) ∧ Below w1.heap.size w1 wr) (fun u _ => l - (intOf u).toNat)
  case atStart => exact ⟨0, by omega, rfl, by intro j hj; omega, Below.refl _ _⟩
  case round =>
    obtain ⟨k, hk, rfl, HK, hbr⟩ := hrel
    by_cases hlt : k < l
    · obtain ⟨b', off', e', _, hc⟩ := HI.out (by have := HL.out; omega)
      cases e'
      have hx := hc k (by have := HL.out; omega)
      obtain ⟨hx0, hx1⟩ := HBD.out k (by have := HL.out; omega)
      clear hc
      generalize hxx : L.getD k 0 = x at *
      have HX := Lib.hid hxx
      clear hxx
      obtain ⟨t, rfl⟩ : ∃ t : Nat, x = (t : Int) := ⟨x.toNat, by omega⟩
      have e1 : wr.cell? ⟨g, 0 + k, none⟩ = some (.int .i64 t) := (hbr.cell (p := ⟨g, 0 + k, none⟩) hgw).trans hx
      rw [Nat.zero_add] at e1
      have e2 : wr.cell? ⟨w.heap.size, 0, none⟩ = some (.slice (some ⟨b, off, none⟩) n c) := (hbr.cell (p := ⟨w.heap.size, 0, none⟩) hsz1).trans hbox
      by_cases hti : t < i
      · obtain ⟨b', off', e', _, c3, _⟩ := HG.out.at_ t (by have := HN.out; omega)
        cases e'
        have e3 : wr.cell? ⟨b, off + t * 2, none⟩ = some (.int .i64 (gs.getD t default).k) := (hbr.cell (p := ⟨b, off + t * 2, none⟩) (by show b < w1.heap.size; omega)).trans c3
        have hro : rdOK gs i (t : Int) = !((gs.getD t default).k == 2) := by unfold rdOK; rw [decide_eq_true (by omega)]; simp
        clear c3
        generalize gs.getD t default = q at *
        have hd1 : decide ((i : Int) ≤ (t : Int)) = false := by simp; omega
        have htn : t < n := by omega
        cases hq : (q.k == 2)
        all_goals
          have HR := Lib.hid hro
          have HQ := Lib.hid hq
          clear hro
          go_wp2
          go_quiet (fail)
          go_wp2
        · go_roundw
          case rel => exact ⟨k + 1, by omega, by go_num, fun j hj => by
            rcases Nat.lt_or_ge j k with h1 | h1
            · exact HK.out j h1
            · obtain rfl : j = k := by omega
              rw [HX.out, HR.out, HQ.out]; rfl, drewN_below hbr⟩
          case measure => simp [intOf]; omega
        · go_ret
          refine ⟨ret_b ?_, hB1.trans ((drewN_below hbr).mono (by omega))⟩
          exact (all_bad L (rdOK gs i) k (by have := HL.out; omega) (by rw [HX.out, HR.out, HQ.out]; rfl)).symm
      · have hro : rdOK gs i (t : Int) = false := by unfold rdOK; rw [decide_eq_false (by omega)]; rfl
        have HR := Lib.hid hro
        have hd1 : decide ((i : Int) ≤ (t : Int)) = true := by simp; omega
        clear hro
        go_wp2
        go_quiet (fail)
        go_wp2
        go_ret
        refine ⟨ret_b ?_, hB1.trans ((drewN_below hbr).mono (by omega))⟩
        exact (all_bad L (rdOK gs i) k (by have := HL.out; omega) (by rw [HX.out, HR.out])).symm
    · go_wp2
      go_ret
      refine ⟨ret_b ?_, hB1.trans (hbr.mono (by omega))⟩
      exact (all_good L (rdOK gs i) fun j hj => HK.out j (by have := HL.out; omega)).symm

set_option maxRecDepth 100000 in
set_option maxHeartbeats 3200000 in
theorem spec_validGraph (A : Option Addr) (n c : Nat) (gs : List Nd) (w : World) (B : Nat) (hB : B ≤ w.heap.size) (hn : n = gs.length) (h : GS w B A gs) (hs : GB gs) :
    Calls Try.prog 34 #[.agg #[.slice A n c]] w fun e w' => e = .returned (.bool (validG gs)) ∧ Below w.heap.size w w' := by
  have hn1 : n ≤ 1048576 := by rw [hn]; exact hs.1
  have H := Lib.hid h
  have HN := Lib.hid hn
  have HS := Lib.hid hs
  clear h hn hs
  go_enter Try.func34, Try.ntmps34
  go_wp2
  go_loopw [3] (fun u wr => ∃ k : Nat, k ≤ n ∧ u = .int .i64 k ∧ Hid (∀ j, j < k → nodeOK gs j = true) ∧ Below (w.heap.size + 1) (w.alloc (.cells #[.slice A n c] 25)) wr) (fun u _ => n - (intOf u).toNat)
  case atStart => exact ⟨0, by omega, rfl, by intro j hj; omega, Below.refl _ _⟩
  case round =>
    obtain ⟨k, hk, rfl, HK, hbr⟩ := hrel
    have hbox : wr.cell? ⟨w.heap.size, 0, none⟩ = some (.slice A n c) := (hbr.cell (p := ⟨w.heap.size, 0, none⟩) (by simp)).trans (by go_simp)
    have hwr : w.heap.size + 1 ≤ wr.heap.size := by have := hbr.size; simpa using this
    by_cases hlt : k < n
    · obtain ⟨b, off, rfl, hbB, c0, A1, n1, c1, c2, hn1', hps⟩ := H.out.at_ k (by have := HN.out; omega)
      have hx := HS.out.2 k
      have b0 : wr.cell? ⟨b, off + k * 2, none⟩ = _ := ((hbr.cell (p := ⟨b, off + k * 2, none⟩) (by simp; omega)).trans (World.cell?_alloc_lt _ _ _ (by simp; omega))).trans c0
      have b1 : wr.cell? ⟨b, off + k * 2 + 1, none⟩ = _ := ((hbr.cell (p := ⟨b, off + k * 2 + 1, none⟩) (by simp; omega)).trans (World.cell?_alloc_lt _ _ _ (by simp; omega))).trans c2
      have HPS := Lib.hid ((hps.alloc hB (.cells #[.slice (some ⟨b, off, none⟩) n c] 25)).below hbr (by omega))
      have HGS := Lib.hid ((H.out.alloc hB (.cells #[.slice (some ⟨b, off, none⟩) n c] 25)).below hbr (by omega))
      have hok : nodeOK gs k = if (gs.getD k default).k == 0 then decide ((gs.getD k default).ps.length = 0) else if (gs.getD k default).k == 1 then validF (gs.getD k default).ps && goodRd gs k else if (gs.getD k default).k == 2 then validF (gs.getD k default).ps && goodRd gs k else false := rfl
      clear c0 c2 hps
      generalize gs.getD k default = d at *
      have hy1 : n1 ≤ 1999999 := by omega
      have HN1 := Lib.hid hn1'
      have HGR := Lib.hid fun (w : World) (hB : B ≤ w.heap.size) (h : GS w B (some ⟨b, off, none⟩) gs) => spec_goodReads (some ⟨b, off, none⟩) n c gs k w B hB HN.out h HS.out hlt
      have HVF := Lib.hid fun (w : World) (hB : B ≤ w.heap.size) (h : PS w B A1 d.ps) => spec_validFormula A1 n1 c1 d.ps w B hB HN1.out h (by omega)
      generalize goodRd gs k = r at *
      generalize validF d.ps = f at *
      have HOK := Lib.hid hok
      clear hok hx
      cases h0 : (d.k == 0)
      · cases h1 : (d.k == 1)
        · cases h2 : (d.k == 2)
          · clear hn1'
            have H0 := Lib.hid h0
            have H1 := Lib.hid h1
            have H2 := Lib.hid h2
            go_wp2
            go_ret
            refine ⟨ret_b ?_, ((Below.refl _ _).alloc (Nat.le_refl _) _).trans ((hbr.alloc (by omega) _).mono (by omega))⟩
            exact (validG_bad gs k (by have := HN.out; omega) (by rw [HOK.out, H0.out, H1.out, H2.out]; rfl)).symm
          · clear hn1'
            have H0 := Lib.hid h0
            have H1 := Lib.hid h1
            have H2 := Lib.hid h2
            cases f
            · go_wp2_with fail
              refine (HVF.out _ (by simp; omega) (HPS.out.alloc (by omega) _)).mono ?_
              rintro e w1 ⟨rfl, hb1⟩
              have HG1 := Lib.hid ((HGS.out.alloc (by omega) (.cells #[.int .i64 d.k, .slice A1 n1 c1] 55)).below hb1 (by simp; omega))
              have hz1 : w.heap.size + 1 < w1.heap.size := by have := hb1.size; simp at this; omega
              have hB1 := (hbr.alloc (by omega) (.cells #[.int .i64 d.k, .slice A1 n1 c1] 55)).trans (hb1.mono (by simp; omega))
              have hbox1 : w1.cell? ⟨w.heap.size, 0, none⟩ = some (.slice (some ⟨b, off, none⟩) n c) := (hB1.cell (p := ⟨w.heap.size, 0, none⟩) (by simp)).trans (by go_simp)
              go_wp2
              go_ret
              refine ⟨ret_b ?_, ((Below.refl _ _).alloc (Nat.le_refl _) _).trans (hB1.mono (by omega))⟩
              exact (validG_bad gs k (by have := HN.out; omega) (by rw [HOK.out, H0.out, H1.out, H2.out]; rfl)).symm
            · cases r
              · go_wp2_with fail
                refine (HVF.out _ (by simp; omega) (HPS.out.alloc (by omega) _)).mono ?_
                rintro e w1 ⟨rfl, hb1⟩
                have HG1 := Lib.hid ((HGS.out.alloc (by omega) (.cells #[.int .i64 d.k, .slice A1 n1 c1] 55)).below hb1 (by simp; omega))
                have hz1 : w.heap.size + 1 < w1.heap.size := by have := hb1.size; simp at this; omega
                have hB1 := (hbr.alloc (by omega) (.cells #[.int .i64 d.k, .slice A1 n1 c1] 55)).trans (hb1.mono (by simp; omega))
                have hbox1 : w1.cell? ⟨w.heap.size, 0, none⟩ = some (.slice (some ⟨b, off, none⟩) n c) := (hB1.cell (p := ⟨w.heap.size, 0, none⟩) (by simp)).trans (by go_simp)
                go_wp2_with fail
                refine (HGR.out _ (by omega) HG1.out).mono ?_
                rintro e w2 ⟨rfl, hb2⟩
                have hB2 := hB1.trans (hb2.mono (by omega))
                go_wp2
                go_ret
                refine ⟨ret_b ?_, ((Below.refl _ _).alloc (Nat.le_refl _) _).trans (hB2.mono (by omega))⟩
                exact (validG_bad gs k (by have := HN.out; omega) (by rw [HOK.out, H0.out, H1.out, H2.out]; rfl)).symm
              · go_wp2_with fail
                refine (HVF.out _ (by simp; omega) (HPS.out.alloc (by omega) _)).mono ?_
                rintro e w1 ⟨rfl, hb1⟩
                have HG1 := Lib.hid ((HGS.out.alloc (by omega) (.cells #[.int .i64 d.k, .slice A1 n1 c1] 55)).below hb1 (by simp; omega))
                have hz1 : w.heap.size + 1 < w1.heap.size := by have := hb1.size; simp at this; omega
                have hB1 := (hbr.alloc (by omega) (.cells #[.int .i64 d.k, .slice A1 n1 c1] 55)).trans (hb1.mono (by simp; omega))
                have hbox1 : w1.cell? ⟨w.heap.size, 0, none⟩ = some (.slice (some ⟨b, off, none⟩) n c) := (hB1.cell (p := ⟨w.heap.size, 0, none⟩) (by simp)).trans (by go_simp)
                go_wp2_with fail
                refine (HGR.out _ (by omega) HG1.out).mono ?_
                rintro e w2 ⟨rfl, hb2⟩
                have hB2 := hB1.trans (hb2.mono (by omega))
                go_wp2
                go_roundw
                case rel => exact ⟨k + 1, by omega, by go_num, fun j hj => by
                  rcases Nat.lt_or_ge j k with h1 | h1
                  · exact HK.out j h1
                  · obtain rfl : j = k := by omega
                    rw [HOK.out, H0.out, H1.out, H2.out]; rfl, hB2⟩
                case measure => simp [intOf]; omega
        · clear hn1'
          have H0 := Lib.hid h0
          have H1 := Lib.hid h1
          cases f
          · go_wp2_with fail
            refine (HVF.out _ (by simp; omega) (HPS.out.alloc (by omega) _)).mono ?_
            rintro e w1 ⟨rfl, hb1⟩
            have HG1 := Lib.hid ((HGS.out.alloc (by omega) (.cells #[.int .i64 d.k, .slice A1 n1 c1] 55)).below hb1 (by simp; omega))
            have hz1 : w.heap.size + 1 < w1.heap.size := by have := hb1.size; simp at this; omega
            have hB1 := (hbr.alloc (by omega) (.cells #[.int .i64 d.k, .slice A1 n1 c1] 55)).trans (hb1.mono (by simp; omega))
            have hbox1 : w1.cell? ⟨w.heap.size, 0, none⟩ = some (.slice (some ⟨b, off, none⟩) n c) := (hB1.cell (p := ⟨w.heap.size, 0, none⟩) (by simp)).trans (by go_simp)
            go_wp2
            go_ret
            refine ⟨ret_b ?_, ((Below.refl _ _).alloc (Nat.le_refl _) _).trans (hB1.mono (by omega))⟩
            exact (validG_bad gs k (by have := HN.out; omega) (by rw [HOK.out, H0.out, H1.out]; rfl)).symm
          · cases r
            · go_wp2_with fail
              refine (HVF.out _ (by simp; omega) (HPS.out.alloc (by omega) _)).mono ?_
              rintro e w1 ⟨rfl, hb1⟩
              have HG1 := Lib.hid ((HGS.out.alloc (by omega) (.cells #[.int .i64 d.k, .slice A1 n1 c1] 55)).below hb1 (by simp; omega))
              have hz1 : w.heap.size + 1 < w1.heap.size := by have := hb1.size; simp at this; omega
              have hB1 := (hbr.alloc (by omega) (.cells #[.int .i64 d.k, .slice A1 n1 c1] 55)).trans (hb1.mono (by simp; omega))
              have hbox1 : w1.cell? ⟨w.heap.size, 0, none⟩ = some (.slice (some ⟨b, off, none⟩) n c) := (hB1.cell (p := ⟨w.heap.size, 0, none⟩) (by simp)).trans (by go_simp)
              go_wp2_with fail
              refine (HGR.out _ (by omega) HG1.out).mono ?_
              rintro e w2 ⟨rfl, hb2⟩
              have hB2 := hB1.trans (hb2.mono (by omega))
              go_wp2
              go_ret
              refine ⟨ret_b ?_, ((Below.refl _ _).alloc (Nat.le_refl _) _).trans (hB2.mono (by omega))⟩
              exact (validG_bad gs k (by have := HN.out; omega) (by rw [HOK.out, H0.out, H1.out]; rfl)).symm
            · go_wp2_with fail
              refine (HVF.out _ (by simp; omega) (HPS.out.alloc (by omega) _)).mono ?_
              rintro e w1 ⟨rfl, hb1⟩
              have HG1 := Lib.hid ((HGS.out.alloc (by omega) (.cells #[.int .i64 d.k, .slice A1 n1 c1] 55)).below hb1 (by simp; omega))
              have hz1 : w.heap.size + 1 < w1.heap.size := by have := hb1.size; simp at this; omega
              have hB1 := (hbr.alloc (by omega) (.cells #[.int .i64 d.k, .slice A1 n1 c1] 55)).trans (hb1.mono (by simp; omega))
              have hbox1 : w1.cell? ⟨w.heap.size, 0, none⟩ = some (.slice (some ⟨b, off, none⟩) n c) := (hB1.cell (p := ⟨w.heap.size, 0, none⟩) (by simp)).trans (by go_simp)
              go_wp2_with fail
              refine (HGR.out _ (by omega) HG1.out).mono ?_
              rintro e w2 ⟨rfl, hb2⟩
              have hB2 := hB1.trans (hb2.mono (by omega))
              go_wp2
              go_roundw
              case rel => exact ⟨k + 1, by omega, by go_num, fun j hj => by
                rcases Nat.lt_or_ge j k with h1 | h1
                · exact HK.out j h1
                · obtain rfl : j = k := by omega
                  rw [HOK.out, H0.out, H1.out]; rfl, hB2⟩
              case measure => simp [intOf]; omega
      · have H0 := Lib.hid h0
        by_cases hz : 0 < n1
        · clear hn1'
          go_wp2
          go_ret
          refine ⟨ret_b ?_, ((Below.refl _ _).alloc (Nat.le_refl _) _).trans ((hbr.alloc (by omega) _).mono (by omega))⟩
          exact (validG_bad gs k (by have := HN.out; omega) (by rw [HOK.out, H0.out]; exact decide_eq_false (by have := HN1.out; omega))).symm
        · obtain rfl : n1 = 0 := by omega
          clear hn1'
          go_wp2
          go_roundw
          case rel => exact ⟨k + 1, by omega, by go_num, fun j hj => by
            rcases Nat.lt_or_ge j k with h1 | h1
            · exact HK.out j h1
            · obtain rfl : j = k := by omega
              rw [HOK.out, H0.out]; exact decide_eq_true (by have := HN1.out; omega), hbr.alloc (by omega) _⟩
          case measure => simp [intOf]; omega
    · go_wp2
      go_ret
      refine ⟨ret_b ?_, ((Below.refl _ _).alloc (Nat.le_refl _) _).trans (hbr.mono (by omega))⟩
      rw [validG_fin gs fun j hj => HK.out j (by have := HN.out; omega)]
      have := HN.out
      simp
      omega
end Go.Proofs.Ytgclikdienlhdaa

/- The contract of impl.ValidGraph. -/
namespace Go.Proofs.Ytgclikdienlhdaa
set_option linter.unusedSimpArgs false
set_option linter.unusedVariables false
open Go.RowKit

/-- A node of the list ahead that is no effect. -/
def rdA (gs : List Nd) (x : Int) : Bool := decide (x < (gs.length : Int)) && !((gs.getD x.toNat default).k == 2)

theorem rdA_take (gs : List Nd) (i : Nat) (hi : i ≤ gs.length) (x : Int) (hx : 0 ≤ x) : rdA (gs.take i) x = rdOK gs i x := by
  unfold rdA rdOK
  rw [List.length_take, Nat.min_eq_left hi]
  by_cases h : x < (i : Int)
  · have : (gs.take i).getD x.toNat default = gs.getD x.toNat default := by
      simp only [List.getD, List.getElem?_take, if_pos (show x.toNat < i by omega)]
    rw [this]
  · rw [decide_eq_false h]; rfl

theorem GS.take {w : World} {B : Nat} {A : Option Addr} {gs : List Nd} (h : GS w B A gs) (i : Nat) (hi : i ≤ gs.length) : GS w B A (gs.take i) := by
  intro hn
  rw [List.length_take, Nat.min_eq_left hi] at hn
  obtain ⟨b, off, e, hb, hc⟩ := h (by omega)
  refine ⟨b, off, e, hb, fun j hj => ?_⟩
  rw [List.length_take, Nat.min_eq_left hi] at hj
  have : (gs.take i).getD j default = gs.getD j default := by
    simp only [List.getD, List.getElem?_take, if_pos hj]
  rw [this]
  exact hc j (by omega)

set_option maxRecDepth 100000 in
set_option maxHeartbeats 1600000 in
theorem impl_areReadable (A A' : Option Addr) (n c l c' : Nat) (gs : List Nd) (L : List Int) (w : World) (B : Nat) (hB : B ≤ w.heap.size) (hn : n = gs.length) (hl : l = L.length) (h : GS w B A gs) (h' : IS w B A' L) (hs : n ≤ 2000000) (hs' : l ≤ 2000000) (hbd : ∀ j, j < l → 0 ≤ L.getD j 0) :
    Calls Try.prog 92 #[.slice A n c, .slice A' l c'] w fun e w' => e = .returned (.bool (L.all (rdA gs))) ∧ w = w' := by
  have H := Lib.hid h
  have HI := Lib.hid h'
  have HN := Lib.hid hn
  have HL := Lib.hid hl
  have HBD := Lib.hid hbd
  clear h h' hn hl hbd
  go_enter Try.func92, Try.ntmps92
  go_wp2
  go_loop [9] (fun u => ∃ k : Nat, k ≤ l ∧ u = .int .i64 k ∧ Hid (∀ j, j < k → rdA gs (L.getD j 0) = true)) (fun u => l - (intOf u).toNat)
  case atStart => exact ⟨0, by omega, rfl, by intro j hj; omega⟩
  case round =>
    obtain ⟨k, hk, rfl, HK⟩ := hrel
    by_cases hlt : k < l
    · obtain ⟨b', off', rfl, hb', hc⟩ := HI.out (by have := HL.out; omega)
      have hx := hc k (by have := HL.out; omega)
      have hx0 := HBD.out k hlt
      clear hc
      generalize hxx : L.getD k 0 = x at *
      have HX := Lib.hid hxx
      clear hxx
      obtain ⟨t, rfl⟩ : ∃ t : Nat, x = (t : Int) := ⟨x.toNat, by omega⟩
      by_cases htn : t < n
      · obtain ⟨b, off, rfl, hbB, c3, _⟩ := H.out.at_ t (by have := HN.out; omega)
        have hro : rdA gs (t : Int) = !((gs.getD t default).k == 2) := by unfold rdA; rw [decide_eq_true (by have := HN.out; omega)]; simp
        generalize gs.getD t default = q at *
        cases hq : (q.k == 2)
        all_goals
          have HR := Lib.hid hro
          have HQ := Lib.hid hq
          clear hro
          go_wp2
        · go_round
          case rel => exact ⟨k + 1, by omega, by go_num, fun j hj => by
            rcases Nat.lt_or_ge j k with h1 | h1
            · exact HK.out j h1
            · obtain rfl : j = k := by omega
              rw [HX.out, HR.out, HQ.out]; rfl⟩
          case measure => simp [intOf]; omega
        · go_ret
          refine ⟨ret_b ?_, rfl⟩
          exact (all_bad L (rdA gs) k (by have := HL.out; omega) (by rw [HX.out, HR.out, HQ.out]; rfl)).symm
      · have hro : rdA gs (t : Int) = false := by unfold rdA; rw [decide_eq_false (by have := HN.out; omega)]; rfl
        have HR := Lib.hid hro
        clear hro
        go_wp2
        go_ret
        refine ⟨ret_b ?_, rfl⟩
        exact (all_bad L (rdA gs) k (by have := HL.out; omega) (by rw [HX.out, HR.out])).symm
    · go_wp2
      go_ret
      refine ⟨ret_b ?_, rfl⟩
      exact (all_good L (rdA gs) fun j hj => HK.out j (by have := HL.out; omega)).symm

/-- Whether a node fits behind others. -/
def fitsB (gs : List Nd) (d : Nd) : Bool :=
  if d.k == 0 then decide (d.ps.length = 0)
  else if d.k == 1 then validF d.ps && (mayR d.ps).all (rdA gs)
  else if d.k == 2 then validF d.ps && (mayR d.ps).all (rdA gs)
  else false

theorem fits_node (gs : List Nd) (i : Nat) (hi : i ≤ gs.length) : fitsB (gs.take i) (gs.getD i default) = nodeOK gs i := by
  unfold fitsB nodeOK goodRd
  have e : (mayR (gs.getD i default).ps).all (rdA (gs.take i)) = (mayR (gs.getD i default).ps).all (rdOK gs i) := by
    rw [Bool.eq_iff_iff, List.all_eq_true, List.all_eq_true]
    constructor
    · intro h x hx; rw [← rdA_take gs i hi x (mem_mayR_bd _ _ hx).1]; exact h x hx
    · intro h x hx; rw [rdA_take gs i hi x (mem_mayR_bd _ _ hx).1]; exact h x hx
  rw [e]

set_option maxRecDepth 100000 in
set_option maxHeartbeats 1600000 in
theorem impl_fitsBehind (A A1 : Option Addr) (n c n1 c1 : Nat) (gs : List Nd) (k : Int) (ps : List Pt) (w : World) (B : Nat) (hB : B ≤ w.heap.size) (hn : n = gs.length) (hn1 : n1 = ps.length) (h : GS w B A gs) (h1 : PS w B A1 ps) (hs : n ≤ 2000000) (hs1 : n1 ≤ 1999999) :
    Calls Try.prog 66 #[.slice A n c, .agg #[.int .i64 k, .slice A1 n1 c1]] w fun e w' => e = .returned (.bool (fitsB gs ⟨k, ps⟩)) ∧ Below w.heap.size w w' := by
  have H := Lib.hid h
  have H1 := Lib.hid h1
  have HN := Lib.hid hn
  have HN1 := Lib.hid hn1
  have hfe : fitsB gs ⟨k, ps⟩ = if k == 0 then decide (ps.length = 0) else if k == 1 then validF ps && (mayR ps).all (rdA gs) else if k == 2 then validF ps && (mayR ps).all (rdA gs) else false := rfl
  cases h0 : (k == 0)
  · by_cases h12 : (k == 1) = true ∨ (k == 2) = true
    · have hfe2 : fitsB gs ⟨k, ps⟩ = (validF ps && (mayR ps).all (rdA gs)) := by
        rw [hfe, h0]
        rcases h12 with e | e
        · rw [e]; rfl
        · rw [e]; cases (k == 1) <;> rfl
      rw [hfe2]
      have HVF := Lib.hid fun (w : World) (hB : B ≤ w.heap.size) (h : PS w B A1 ps) => impl_ValidFormula A1 n1 c1 ps w B hB hn1 h (by omega)
      have HMR := Lib.hid fun (w : World) (hB : B ≤ w.heap.size) (h : PS w B A1 ps) => impl_MayRead A1 n1 c1 ps w B hB hn1 h (by omega)
      clear h h1 hn hn1 hfe hfe2
      cases hv : validF ps
      · rw [hv] at HVF
        clear hv HMR
        rw [show (false && (mayR ps).all (rdA gs)) = false from rfl]
        cases ha : (k == 1)
        · have hb : (k == 2) = true := by rcases h12 with e | e; rw [ha] at e; cases e; exact e
          clear h12
          go_enter Try.func66, Try.ntmps66
          go_wp2_with fail
          refine (HVF.out _ (by simp; omega) (H1.out.alloc hB _)).mono ?_
          rintro e w1 ⟨rfl, hb1⟩
          go_wp2
          go_ret
          exact ⟨rfl, ((Below.refl _ _).alloc (Nat.le_refl _) _).trans (hb1.mono (by simp))⟩
        · clear h12
          go_enter Try.func66, Try.ntmps66
          go_wp2_with fail
          refine (HVF.out _ (by simp; omega) (H1.out.alloc hB _)).mono ?_
          rintro e w1 ⟨rfl, hb1⟩
          go_wp2
          go_ret
          exact ⟨rfl, ((Below.refl _ _).alloc (Nat.le_refl _) _).trans (hb1.mono (by simp))⟩
      · have hmf : mayF ps = mayR ps := by simp [mayF, hv]
        rw [hv] at HVF
        rw [hmf] at HMR
        have hlen := mayR_len ps 10
        rw [mayR_below] at hlen
        have hbd := mayR_getD_bd ps
        clear hv hmf
        generalize mayR ps = L at *
        generalize hl : L.length = l at *
        have HL := Lib.hid hl
        have HAR := Lib.hid fun (A' : Option Addr) (c' : Nat) (w : World) (B : Nat) (hB : B ≤ w.heap.size) (h : GS w B A gs) (h' : IS w B A' L) => impl_areReadable A A' n c l c' gs L w B hB HN.out hl.symm h h' hs (by omega) (fun j hj => (hbd j hj).1)
        clear hl hbd
        rw [show (true && L.all (rdA gs)) = L.all (rdA gs) from Bool.true_and _]
        generalize L.all (rdA gs) = r at *
        cases ha : (k == 1)
        · have hb : (k == 2) = true := by rcases h12 with e | e; rw [ha] at e; cases e; exact e
          clear h12
          go_enter Try.func66, Try.ntmps66
          go_wp2_with fail
          refine (HVF.out _ (by simp; omega) (H1.out.alloc hB _)).mono ?_
          rintro e w1 ⟨rfl, hb1⟩
          have hz1 : w.heap.size < w1.heap.size := by have := hb1.size; simp at this; omega
          have hbx : w1.cell? ⟨w.heap.size, 1, none⟩ = some (.slice A1 n1 c1) := (hb1.cell (p := ⟨w.heap.size, 1, none⟩) (by simp)).trans (by go_simp)
          have HP1 := Lib.hid ((H1.out.alloc hB (.cells #[.int .i64 k, .slice A1 n1 c1] 55)).below hb1 (by simp; omega))
          have HG1 := Lib.hid ((H.out.alloc hB (.cells #[.int .i64 k, .slice A1 n1 c1] 55)).below hb1 (by simp; omega))
          have hB1 : Below w.heap.size w w1 := ((Below.refl _ _).alloc (Nat.le_refl _) _).trans (hb1.mono (by simp))
          clear hb1
          go_wp2_with fail
          refine (HMR.out _ (by omega) HP1.out).mono ?_
          rintro e w2 ⟨v2, rfl, hown, hb2⟩
          obtain ⟨A2, c2, rfl, hI⟩ := hown.form
          have HI := Lib.hid hI
          have HG2 := Lib.hid ((HG1.out.below hb2 (by omega)).more (B' := w2.heap.size) (by have := hb2.size; omega))
          rw [HL.out]
          clear hI hown
          go_wp2_with fail
          refine (HAR.out _ _ _ _ (Nat.le_refl _) HG2.out HI.out).mono ?_
          rintro e w3 ⟨rfl, rfl⟩
          go_wp2
          go_ret
          exact ⟨rfl, hB1.trans (hb2.mono (by omega))⟩
        · clear h12
          go_enter Try.func66, Try.ntmps66
          go_wp2_with fail
          refine (HVF.out _ (by simp; omega) (H1.out.alloc hB _)).mono ?_
          rintro e w1 ⟨rfl, hb1⟩
          have hz1 : w.heap.size < w1.heap.size := by have := hb1.size; simp at this; omega
          have hbx : w1.cell? ⟨w.heap.size, 1, none⟩ = some (.slice A1 n1 c1) := (hb1.cell (p := ⟨w.heap.size, 1, none⟩) (by simp)).trans (by go_simp)
          have HP1 := Lib.hid ((H1.out.alloc hB (.cells #[.int .i64 k, .slice A1 n1 c1] 55)).below hb1 (by simp; omega))
          have HG1 := Lib.hid ((H.out.alloc hB (.cells #[.int .i64 k, .slice A1 n1 c1] 55)).below hb1 (by simp; omega))
          have hB1 : Below w.heap.size w w1 := ((Below.refl _ _).alloc (Nat.le_refl _) _).trans (hb1.mono (by simp))
          clear hb1
          go_wp2_with fail
          refine (HMR.out _ (by omega) HP1.out).mono ?_
          rintro e w2 ⟨v2, rfl, hown, hb2⟩
          obtain ⟨A2, c2, rfl, hI⟩ := hown.form
          have HI := Lib.hid hI
          have HG2 := Lib.hid ((HG1.out.below hb2 (by omega)).more (B' := w2.heap.size) (by have := hb2.size; omega))
          rw [HL.out]
          clear hI hown
          go_wp2_with fail
          refine (HAR.out _ _ _ _ (Nat.le_refl _) HG2.out HI.out).mono ?_
          rintro e w3 ⟨rfl, rfl⟩
          go_wp2
          go_ret
          exact ⟨rfl, hB1.trans (hb2.mono (by omega))⟩
    · have ha : (k == 1) = false := by cases e : (k == 1); rfl; exact absurd (.inl e) h12
      have hb : (k == 2) = false := by cases e : (k == 2); rfl; exact absurd (.inr e) h12
      rw [hfe, h0, ha, hb]
      clear h h1 hn hn1 hfe h12
      go_enter Try.func66, Try.ntmps66
      go_wp2
      go_ret
      exact ⟨rfl, (Below.refl _ _).alloc (Nat.le_refl _) _⟩
  · rw [hfe, h0]
    clear h h1 hn hn1 hfe
    go_enter Try.func66, Try.ntmps66
    go_wp2
    go_ret
    refine ⟨ret_b ?_, (Below.refl _ _).alloc (Nat.le_refl _) _⟩
    rw [HN1.out]
    cases ps <;> simp
    omega

set_option maxRecDepth 100000 in
set_option maxHeartbeats 1600000 in
theorem impl_ValidGraph (A : Option Addr) (n c : Nat) (gs : List Nd) (w : World) (B : Nat) (hB : B ≤ w.heap.size) (hn : n = gs.length) (h : GS w B A gs) (hs : GB gs) (hnc : n ≤ c) :
    Calls Try.prog 37 #[.agg #[.slice A n c]] w fun e w' => e = .returned (.bool (validG gs)) ∧ Below w.heap.size w w' := by
  have hn1 : n ≤ 1048576 := by rw [hn]; exact hs.1
  by_cases h10 : 10 < n
  · rw [validG_long gs (by omega)]
    clear h hn hs
    go_enter Try.func37, Try.ntmps37
    go_wp2
    go_ret
    exact ⟨rfl, (Below.refl _ _).alloc (Nat.le_refl _) _⟩
  have H := Lib.hid h
  have HN := Lib.hid hn
  have HS := Lib.hid hs
  clear h hn hs
  go_enter Try.func37, Try.ntmps37
  go_wp2
  go_loopw [12] (fun u wr => ∃ k : Nat, k ≤ n ∧ u = .int .i64 k ∧ Hid (∀ j, j < k → nodeOK gs j = true) ∧ Below (w.heap.size + 1) (w.alloc (.cells #[.slice A n c] 25)) wr) (fun u _ => n - (intOf u).toNat)
  case atStart => exact ⟨0, by omega, rfl, by intro j hj; omega, Below.refl _ _⟩
  case round =>
    obtain ⟨k, hk, rfl, HK, hbr⟩ := hrel
    have hbox : wr.cell? ⟨w.heap.size, 0, none⟩ = some (.slice A n c) := (hbr.cell (p := ⟨w.heap.size, 0, none⟩) (by simp)).trans (by go_simp)
    have hwr : w.heap.size + 1 ≤ wr.heap.size := by have := hbr.size; simpa using this
    have hws : w.heap.size < wr.heap.size := by omega
    by_cases hlt : k < n
    · obtain ⟨b, off, rfl, hbB, c0, A1, n1, c1, c2, hn1', hps⟩ := H.out.at_ k (by have := HN.out; omega)
      have hx := HS.out.2 k
      have b0 : wr.cell? ⟨b, off + k * 2, none⟩ = _ := ((hbr.cell (p := ⟨b, off + k * 2, none⟩) (by simp; omega)).trans (World.cell?_alloc_lt _ _ _ (by simp; omega))).trans c0
      have b1 : wr.cell? ⟨b, off + k * 2 + 1, none⟩ = _ := ((hbr.cell (p := ⟨b, off + k * 2 + 1, none⟩) (by simp; omega)).trans (World.cell?_alloc_lt _ _ _ (by simp; omega))).trans c2
      have HPS := Lib.hid ((hps.alloc hB (.cells #[.slice (some ⟨b, off, none⟩) n c] 25)).below hbr (by omega))
      have HGS := Lib.hid (((H.out.take k (by have := HN.out; omega)).alloc hB (.cells #[.slice (some ⟨b, off, none⟩) n c] 25)).below hbr (by omega))
      have hfn := fits_node gs k (by have := HN.out; omega)
      have hlen : k = (gs.take k).length := by rw [List.length_take]; have := HN.out; omega
      clear c0 c2 hps
      generalize gs.getD k default = d at *
      have hy1 : n1 ≤ 1999999 := by omega
      have HFB := Lib.hid fun (w : World) (hB : B ≤ w.heap.size) (h : GS w B (some ⟨b, off, none⟩) (gs.take k)) (h1 : PS w B A1 d.ps) => impl_fitsBehind (some ⟨b, off, none⟩) A1 k c n1 c1 (gs.take k) d.k d.ps w B hB hlen hn1' h h1 (by omega) hy1
      rw [show fitsB (gs.take k) ⟨d.k, d.ps⟩ = nodeOK gs k from hfn] at HFB
      have HNK := Lib.hid fun (h : nodeOK gs k = false) => validG_bad gs k (by have := HN.out; omega) h
      have HNT : Hid (nodeOK gs k = true → ∀ j, j < k + 1 → nodeOK gs j = true) := fun h j hj => by
        rcases Nat.lt_or_ge j k with h1 | h1
        · exact HK.out j h1
        · obtain rfl : j = k := by omega
          exact h
      clear hfn hlen hn1' hx
      generalize nodeOK gs k = r at *
      cases r
      all_goals
        go_wp2
        obtain ⟨W2, hW2⟩ : ∃ W2, W2 = wr.alloc (.cells #[.int .i64 d.k, .slice A1 n1 c1] 55) := ⟨_, rfl⟩
        have q0 : W2.cell? ⟨w.heap.size, 0, none⟩ = some (.slice (some ⟨b, off, none⟩) n c) := by rw [hW2]; exact (World.cell?_alloc_lt _ _ _ hws).trans hbox
        have q1 : W2.cell? ⟨wr.heap.size, 0, none⟩ = some (.int .i64 d.k) := by rw [hW2]; go_simp
        have q2 : W2.cell? ⟨wr.heap.size, 1, none⟩ = some (.slice A1 n1 c1) := by rw [hW2]; go_simp
        have HP2 : Hid (PS W2 B A1 d.ps) := by rw [hW2]; exact HPS.out.alloc (by omega) _
        have HG2 : Hid (GS W2 B (some ⟨b, off, none⟩) (gs.take k)) := by rw [hW2]; exact HGS.out.alloc (by omega) _
        have hb2 : Below (w.heap.size + 1) (w.alloc (.cells #[.slice (some ⟨b, off, none⟩) n c] 25)) W2 := by rw [hW2]; exact hbr.alloc (by omega) _
        have hz2 : w.heap.size + 1 < W2.heap.size := by rw [hW2]; simp; omega
        have hkc : k ≤ c := by omega
        rw [← hW2]
        clear hW2 HPS HGS b0 b1
        go_still_tail 5, (by kernel_rfl)
        go_wp2_with fail
        refine (HFB.out W2.drew (show B ≤ W2.heap.size by omega) HG2.out HP2.out).mono ?_
        rintro e w3 ⟨rfl, hb3⟩
        have hB3 := hb2.drew.trans (hb3.mono (show w.heap.size + 1 ≤ W2.heap.size by omega))
        go_wp2
      · go_ret
        exact ⟨ret_b (HNK.out trivial).symm, ((Below.refl _ _).alloc (Nat.le_refl _) _).trans (hB3.mono (by omega))⟩
      · go_roundw
        case rel => exact ⟨k + 1, by omega, by go_num, HNT.out trivial, hB3⟩
        case measure => simp [intOf]; omega
    · go_wp2
      go_ret
      refine ⟨ret_b ?_, ((Below.refl _ _).alloc (Nat.le_refl _) _).trans (hbr.mono (by omega))⟩
      rw [validG_fin gs fun j hj => HK.out j (by have := HN.out; omega)]
      have := HN.out
      simp
      omega
end Go.Proofs.Ytgclikdienlhdaa

/- The standing contracts of ValidGraph. -/
namespace Go.Proofs.Ytgclikdienlhdaa
set_option linter.unusedSimpArgs false
set_option linter.unusedVariables false
open Go.RowKit

theorem top_impl_ValidGraph (gs : List Nd) (hG : GB gs) : ∀ (A : Option Addr) (n c : Nat) (w : World), n = gs.length → n ≤ c → GS w w.heap.size A gs →
    Calls Try.prog 37 #[.agg #[.slice A n c]] w fun e w' => e = .returned (.bool (validG gs)) ∧ Below w.heap.size w w' :=
  fun A n c w hn hc h => impl_ValidGraph A n c gs w w.heap.size (Nat.le_refl _) hn h hG hc
end Go.Proofs.Ytgclikdienlhdaa

/- The contracts of both ValidCells. -/
namespace Go.Proofs.Ytgclikdienlhdaa
set_option linter.unusedSimpArgs false
set_option linter.unusedVariables false
open Go.RowKit

set_option maxRecDepth 100000 in
set_option maxHeartbeats 1600000 in
theorem spec_validCells (A A' : Option Addr) (n c m c' : Nat) (gs : List Nd) (xs : List Int) (w : World) (B : Nat) (hB : B ≤ w.heap.size) (hn : n = gs.length) (hm : m = xs.length) (h : GS w B A gs) (h' : IS w B A' xs) (hs : n ≤ 2000000) (hs' : m ≤ 2000000) :
    Calls Try.prog 35 #[.agg #[.slice A n c], .slice A' m c'] w fun e w' => e = .returned (.bool (validC gs xs)) ∧ Below w.heap.size w w' := by
  by_cases hl : m = n
  · have hne : ((m : Int) != (n : Int)) = false := by simp [hl]
    have HE := Lib.hid hl
    have H := Lib.hid h
    have HI := Lib.hid h'
    have HN := Lib.hid hn
    have HM := Lib.hid hm
    clear h h' hn hm hl
    go_enter Try.func35, Try.ntmps35
    go_wp2
    go_loopw [5] (fun u wr => ∃ k : Nat, k ≤ m ∧ u = .int .i64 k ∧ Hid (∀ j, j < k → cellOK gs xs j = true) ∧ wr = w.alloc (.cells #[.slice A n c] 25)) (fun u _ => m - (intOf u).toNat)
    case atStart => exact ⟨0, by omega, rfl, by intro j hj; omega, rfl⟩
    case round =>
      obtain ⟨k, hk, rfl, HK, rfl⟩ := hrel
      by_cases hlt : k < m
      · have hkn : k < n := by have := HE.out; omega
        obtain ⟨b, off, rfl, hbB, c0, _⟩ := H.out.at_ k (by have := HN.out; omega)
        obtain ⟨b', off', rfl, hb', hc⟩ := HI.out (by have := HM.out; omega)
        have hx := hc k (by have := HM.out; omega)
        clear hc
        have hbw : b < w.heap.size := by omega
        have hbw' : b' < w.heap.size := by omega
        have hco : cellOK gs xs k = (rng (xs.getD k 0) 0 999 && ((gs.getD k default).k == 0 || xs.getD k 0 == 0)) := rfl
        have HNK := Lib.hid fun (h : cellOK gs xs k = false) => validC_bad gs xs k (by have := HN.out; omega) h
        have HNT : Hid (cellOK gs xs k = true → ∀ j, j < k + 1 → cellOK gs xs j = true) := fun h j hj => by
          rcases Nat.lt_or_ge j k with h1 | h1
          · exact HK.out j h1
          · obtain rfl : j = k := by omega
            exact h
        generalize cellOK gs xs k = r at *
        generalize gs.getD k default = d at *
        generalize xs.getD k 0 = x at *
        subst hco
        cases hr : rng x 0 999
        · go_wp2_with (go_at_call 65; refine (spec_inRange _ _ _ _).mono ?_; rintro e w' ⟨rfl, rfl⟩)
          go_ret
          exact ⟨ret_b (HNK.out (by rw [hr]; rfl)).symm, (Below.refl _ _).alloc (Nat.le_refl _) _⟩
        · cases hd : (d.k == 0)
          · have hd' : (d.k != 0) = true := by simp [bne, hd]
            cases hz : (x == 0)
            · have hz' : (x != 0) = true := by simp [bne, hz]
              go_wp2_with (go_at_call 65; refine (spec_inRange _ _ _ _).mono ?_; rintro e w' ⟨rfl, rfl⟩)
              go_ret
              exact ⟨ret_b (HNK.out (by rw [hd, hz]; simp)).symm, (Below.refl _ _).alloc (Nat.le_refl _) _⟩
            · have hz' : (x != 0) = false := by simp [bne, hz]
              have HR := Lib.hid hr
              have HD := Lib.hid hd
              have HZ := Lib.hid hz
              go_wp2_with (go_at_call 65; refine (spec_inRange _ _ _ _).mono ?_; rintro e w' ⟨rfl, rfl⟩)
              go_roundw
              case rel => exact ⟨k + 1, by omega, by go_num, HNT.out (by rw [HR.out, HD.out, HZ.out]; rfl), by first | rfl | trivial⟩
              case measure => simp [intOf]; omega
          · have hd' : (d.k != 0) = false := by simp [bne, hd]
            have HR := Lib.hid hr
            have HD := Lib.hid hd
            go_wp2_with (go_at_call 65; refine (spec_inRange _ _ _ _).mono ?_; rintro e w' ⟨rfl, rfl⟩)
            go_roundw
            case rel => exact ⟨k + 1, by omega, by go_num, HNT.out (by rw [HR.out, HD.out]; rfl), by first | rfl | trivial⟩
            case measure => simp [intOf]; omega
      · go_wp2
        go_ret
        refine ⟨ret_b ?_, (Below.refl _ _).alloc (Nat.le_refl _) _⟩
        exact (validC_fin gs xs (by have := HN.out; have := HM.out; have := HE.out; omega) fun j hj => HK.out j (by have := HN.out; have := HE.out; omega)).symm
  · have hne : ((m : Int) != (n : Int)) = true := by simp; omega
    rw [validC_len gs xs (by omega)]
    clear hl hn hm h h'
    go_enter Try.func35, Try.ntmps35
    go_wp2
    go_ret
    exact ⟨rfl, (Below.refl _ _).alloc (Nat.le_refl _) _⟩

set_option maxRecDepth 100000 in
set_option maxHeartbeats 1600000 in
theorem impl_ValidCells (A A' : Option Addr) (n c m c' : Nat) (gs : List Nd) (xs : List Int) (w : World) (B : Nat) (hB : B ≤ w.heap.size) (hn : n = gs.length) (hnc : n ≤ c) (hm : m = xs.length) (h : GS w B A gs) (h' : IS w B A' xs) (hs : GB gs) (hs' : m ≤ 2000000) :
    Calls Try.prog 12 #[.agg #[.slice A n c], .slice A' m c'] w fun e w' => e = .returned (.bool (okC gs xs)) ∧ Below w.heap.size w w' := by
  have hn1 : n ≤ 1048576 := by rw [hn]; exact hs.1
  have HVG := Lib.hid fun (w' : World) (hB : B ≤ w'.heap.size) (h : GS w' B A gs) => impl_ValidGraph A n c gs w' B hB hn h hs hnc
  have hok : okC gs xs = (validG gs && validC gs xs) := rfl
  cases hv : validG gs
  · have : okC gs xs = false := by rw [hok, hv]; rfl
    rw [this]
    rw [hv] at HVG
    have H := Lib.hid h
    clear this h h' hn hm hok hv
    go_enter Try.func12, Try.ntmps12
    go_wp2_with fail
    refine (HVG.out _ (by simp; omega) (H.out.alloc hB _)).mono ?_
    rintro e w1 ⟨rfl, hb⟩
    go_wp2
    go_ret
    exact ⟨rfl, ((Below.refl _ _).alloc (Nat.le_refl _) _).trans (hb.mono (by simp))⟩
  have : okC gs xs = validC gs xs := by rw [hok, hv]; rfl
  rw [this]
  rw [hv] at HVG
  have h10 := (validG_parts gs hv).1
  have hn10 : n ≤ 10 := by omega
  clear this hok hv h10
  by_cases hl : m = n
  · have hne : ((m : Int) != (n : Int)) = false := by simp [hl]
    have hlx : xs.length ≤ 10 := by omega
    have hdx : decide (xs.length ≤ 10) = true := by simpa using hlx
    have HAR := Lib.hid fun (w' : World) (hB : B ≤ w'.heap.size) (h : IS w' B A' xs) => impl_allInRange A' m c' xs 999 w' B hB hm h hs'
    rw [hdx] at HAR
    have H := Lib.hid h
    have HI := Lib.hid h'
    have HN := Lib.hid hn
    have HM := Lib.hid hm
    have HE := Lib.hid hl
    clear h h' hn hm hl hlx hdx
    cases ha : allR xs 0 999
    · rw [validC_range gs xs ha]
      rw [ha] at HAR
      clear ha
      go_enter Try.func12, Try.ntmps12
      go_wp2_with fail
      refine (HVG.out _ (by simp; omega) (H.out.alloc hB _)).mono ?_
      rintro e w1 ⟨rfl, hb⟩
      have q : w1.cell? ⟨w.heap.size, 0, none⟩ = some (.slice A n c) := (hb.cell (p := ⟨w.heap.size, 0, none⟩) (by simp)).trans (by go_simp)
      have HI1 := Lib.hid ((HI.out.alloc hB (.cells #[.slice A n c] 25)).below hb (by simp; omega))
      have hz : B ≤ w1.heap.size := by have := hb.size; simp at this; omega
      go_wp2_with fail
      refine (HAR.out _ hz HI1.out).mono ?_
      rintro e w2 ⟨rfl, rfl⟩
      go_wp2
      go_ret
      exact ⟨rfl, ((Below.refl _ _).alloc (Nat.le_refl _) _).trans (hb.mono (by simp))⟩
    · have HALL := Lib.hid ha
      rw [ha] at HAR
      clear ha
      go_enter Try.func12, Try.ntmps12
      go_wp2_with fail
      refine (HVG.out _ (by simp; omega) (H.out.alloc hB _)).mono ?_
      rintro e w1 ⟨rfl, hb⟩
      have q : w1.cell? ⟨w.heap.size, 0, none⟩ = some (.slice A n c) := (hb.cell (p := ⟨w.heap.size, 0, none⟩) (by simp)).trans (by go_simp)
      have HI1 := Lib.hid ((HI.out.alloc hB (.cells #[.slice A n c] 25)).below hb (by simp; omega))
      have HG1 := Lib.hid ((H.out.alloc hB (.cells #[.slice A n c] 25)).below hb (by simp; omega))
      have hz : B ≤ w1.heap.size := by have := hb.size; simp at this; omega
      have hB1 : Below w.heap.size w w1 := ((Below.refl _ _).alloc (Nat.le_refl _) _).trans (hb.mono (by simp))
      clear hb H HI
      go_wp2_with fail
      refine (HAR.out _ hz HI1.out).mono ?_
      rintro e w2 ⟨rfl, rfl⟩
      go_wp2
      go_loopw [26] (fun u wr => ∃ k : Nat, k ≤ n ∧ u = .int .i64 k ∧ Hid (∀ j, j < k → cellOK gs xs j = true) ∧ Below w1.heap.size w1 wr) (fun u _ => n - (intOf u).toNat)
      case atStart => exact ⟨0, by omega, rfl, by intro j hj; omega, Below.refl _ _⟩
      case round =>
        obtain ⟨k, hk, rfl, HK, hbr⟩ := hrel
        by_cases hlt : k < n
        · have hkm : k < m := by have := HE.out; omega
          obtain ⟨b, off, rfl, hbB, c0, A1, n1, c1, c2, _⟩ := HG1.out.at_ k (by have := HN.out; omega)
          obtain ⟨b', off', rfl, hb', hc⟩ := HI1.out (by have := HM.out; omega)
          have hx := hc k (by have := HM.out; omega)
          clear hc
          have e0 := (hbr.cell (p := ⟨b, off + k * 2, none⟩) (by simp; omega)).trans c0
          have e1 := (hbr.cell (p := ⟨b, off + k * 2 + 1, none⟩) (by simp; omega)).trans c2
          have e2 := (hbr.cell (p := ⟨b', off' + k, none⟩) (by simp; omega)).trans hx
          have hbw : b < wr.heap.size := by have := hbr.size; omega
          have hbw' : b' < wr.heap.size := by have := hbr.size; omega
          have hco : cellOK gs xs k = (rng (xs.getD k 0) 0 999 && ((gs.getD k default).k == 0 || xs.getD k 0 == 0)) := rfl
          have hrg : rng (xs.getD k 0) 0 999 = true := by
            have := HALL.out
            unfold allR at this
            rw [List.all_eq_true] at this
            exact this _ (by have := HM.out; have h2 : k < xs.length := by omega
                             simp [List.getD, h2])
          have HNK := Lib.hid fun (h : cellOK gs xs k = false) => validC_bad gs xs k (by have := HN.out; omega) h
          have HNT : Hid (cellOK gs xs k = true → ∀ j, j < k + 1 → cellOK gs xs j = true) := fun h j hj => by
            rcases Nat.lt_or_ge j k with h1 | h1
            · exact HK.out j h1
            · obtain rfl : j = k := by omega
              exact h
          generalize cellOK gs xs k = r at *
          generalize gs.getD k default = d at *
          generalize xs.getD k 0 = x at *
          subst hco
          have HR := Lib.hid hrg
          clear c0 c2 hx hrg
          cases hd : (d.k == 0)
          · have hd' : (d.k != 0) = true := by simp [bne, hd]
            have HD := Lib.hid hd
            cases hz' : (x == 0)
            · have hz2 : (x != 0) = true := by simp [bne, hz']
              have HZ := Lib.hid hz'
              go_wp2
              go_ret
              exact ⟨ret_b (HNK.out (by rw [HR.out, HD.out, HZ.out]; rfl)).symm, hB1.trans ((hbr.alloc (by have := hbr.size; omega) _).mono hB1.size)⟩
            · have hz2 : (x != 0) = false := by simp [bne, hz']
              have HZ := Lib.hid hz'
              go_wp2
              go_roundw
              case rel => exact ⟨k + 1, by omega, by go_num, HNT.out (by rw [HR.out, HD.out, HZ.out]; rfl), hbr.alloc (by have := hbr.size; omega) _⟩
              case measure => simp [intOf]; omega
          · have hd' : (d.k != 0) = false := by simp [bne, hd]
            have HD := Lib.hid hd
            go_wp2
            go_roundw
            case rel => exact ⟨k + 1, by omega, by go_num, HNT.out (by rw [HR.out, HD.out]; rfl), hbr.alloc (by have := hbr.size; omega) _⟩
            case measure => simp [intOf]; omega
        · go_wp2
          go_ret
          refine ⟨ret_b ?_, hB1.trans (hbr.mono hB1.size)⟩
          exact (validC_fin gs xs (by have := HN.out; have := HM.out; have := HE.out; omega) fun j hj => HK.out j (by have := HN.out; omega)).symm
  · have hne : ((m : Int) != (n : Int)) = true := by simp; omega
    rw [validC_len gs xs (by omega)]
    have H := Lib.hid h
    clear hl hn hm h h'
    go_enter Try.func12, Try.ntmps12
    go_wp2_with fail
    refine (HVG.out _ (by simp; omega) (H.out.alloc hB _)).mono ?_
    rintro e w1 ⟨rfl, hb⟩
    have q : w1.cell? ⟨w.heap.size, 0, none⟩ = some (.slice A n c) := (hb.cell (p := ⟨w.heap.size, 0, none⟩) (by simp)).trans (by go_simp)
    go_wp2
    go_ret
    exact ⟨rfl, ((Below.refl _ _).alloc (Nat.le_refl _) _).trans (hb.mono (by simp))⟩

theorem top_impl_ValidCells (gs : List Nd) (xs : List Int) (hG : GB gs) (hL : xs.length ≤ 1048576) : ∀ (A : Option Addr) (n c : Nat) (A' : Option Addr) (m c' : Nat) (w : World), n = gs.length → n ≤ c → GS w w.heap.size A gs → m = xs.length → IS w w.heap.size A' xs →
    Calls Try.prog 12 #[.agg #[.slice A n c], .slice A' m c'] w fun e w' => e = .returned (.bool (okC gs xs)) ∧ Below w.heap.size w w' :=
  fun A n c A' m c' w hn hc h hm h' => impl_ValidCells A A' n c m c' gs xs w w.heap.size (Nat.le_refl _) hn hc hm h h' hG (by omega)
end Go.Proofs.Ytgclikdienlhdaa

/- The contracts of both MeaningOf. -/
namespace Go.Proofs.Ytgclikdienlhdaa
set_option linter.unusedSimpArgs false
set_option linter.unusedVariables false
open Go.RowKit

theorem OwnI.at_ {w : World} {base n : Nat} {v : Value} {xs : List Int} (h : OwnI w base v xs) (hn : xs.length = n) : ∃ A c, v = .slice A n c ∧ IS w w.heap.size A xs := by
  subst hn
  exact h.form

theorem mean_step (gs : List Nd) (xs : List Int) (k : Nat) : meanTo gs xs (k + 1) = meanTo gs xs k ++ [if (gs.getD k default).k == 0 then xs.getD k 0 else (whole (gs.getD k default).ps).ev (meanTo gs xs k)] := rfl

set_option maxRecDepth 100000 in
set_option maxHeartbeats 3200000 in
theorem spec_meaning (A A' : Option Addr) (n c m c' : Nat) (gs : List Nd) (xs : List Int) (w : World) (B : Nat) (hB : B ≤ w.heap.size) (hn : n = gs.length) (hm : m = xs.length) (h : GS w B A gs) (h' : IS w B A' xs) (hok : okC gs xs = true) :
    Calls Try.prog 56 #[.agg #[.slice A n c], .slice A' m c'] w fun e w' => RetI w (mean gs xs) e w' := by
  obtain ⟨i0, hi, hz0, hz1, hz2⟩ := info_parts info_int
  obtain ⟨hvg, hvc⟩ := okC_parts gs xs hok
  have hmn : m = n := by have := (validC_parts gs xs hvc).1; omega
  have hn10 : n ≤ 10 := by have := (validG_parts gs hvg).1; omega
  have H := Lib.hid h
  have HI := Lib.hid h'
  have HN := Lib.hid hn
  have HM := Lib.hid hm
  have HMN := Lib.hid hmn
  have HOK := Lib.hid hok
  clear h h' hn hm hmn hok hvg hvc
  go_enter Try.func56, Try.ntmps56
  go_wp2
  go_loopw [5, 6] (fun v i wr => ∃ k : Nat, k ≤ n ∧ i = .int .i64 k ∧ Hid (OwnI wr (w.heap.size + 1) v (meanTo gs xs k)) ∧ Below (w.heap.size + 1) (w.alloc (.cells #[.slice A n c] 25)) wr) (fun _ i _ => n - (intOf i).toNat)
  case atStart =>
    refine ⟨0, Nat.zero_le _, rfl, ?_, (Below.refl _ _).alloc (by simp) _⟩
    have := World.ownsRow_lit (e := 3) (size := 1) (base := w.heap.size + 1) (w.alloc (.cells #[.slice A n c] 25)) #[] 0 (by simp) (by unfold maxLen; omega) rfl
    simpa [OwnI, Hid, meanTo] using this
  case round =>
    obtain ⟨k, hk, rfl, HO, hbr⟩ := hrel
    have hbox : wr.cell? ⟨w.heap.size, 0, none⟩ = some (.slice A n c) := (hbr.cell (p := ⟨w.heap.size, 0, none⟩) (by simp)).trans (by go_simp)
    have hwr : w.heap.size + 1 ≤ wr.heap.size := by have := hbr.size; simpa using this
    by_cases hlt : k < n
    · have hkm : k < m := by have := HMN.out; omega
      have hkg : k < gs.length := by have := HN.out; omega
      obtain ⟨b, off, rfl, hbB, c0, A1, n1, c1, c2, hn1', hps⟩ := H.out.at_ k hkg
      obtain ⟨b', off', rfl, hb', hc⟩ := HI.out (by have := HM.out; omega)
      have hx := hc k (by have := HM.out; omega)
      clear hc
      have e0 : wr.cell? ⟨b, off + k * 2, none⟩ = _ := ((hbr.cell (p := ⟨b, off + k * 2, none⟩) (by simp; omega)).trans (World.cell?_alloc_lt _ _ _ (by simp; omega))).trans c0
      have e1 : wr.cell? ⟨b, off + k * 2 + 1, none⟩ = _ := ((hbr.cell (p := ⟨b, off + k * 2 + 1, none⟩) (by simp; omega)).trans (World.cell?_alloc_lt _ _ _ (by simp; omega))).trans c2
      have e2 : wr.cell? ⟨b', off' + k, none⟩ = _ := ((hbr.cell (p := ⟨b', off' + k, none⟩) (by simp; omega)).trans (World.cell?_alloc_lt _ _ _ (by simp; omega))).trans hx
      have HPS := Lib.hid ((hps.alloc hB (.cells #[.slice (some ⟨b, off, none⟩) n c] 25)).below hbr (by omega))
      have HST := Lib.hid (mean_step gs xs k)
      have hml := meanTo_len gs xs k
      obtain ⟨hvg, hvc⟩ := okC_parts gs xs HOK.out
      have HND := Lib.hid ((validG_parts gs hvg).2 k hkg)
      have hcE : ((gs.getD k default).k == 0) = false → canEv (gs.getD k default).ps (meanTo gs xs k) = true := mean_canEv gs xs HOK.out k hkg
      clear c0 c2 hx hps hvg hvc
      generalize gs.getD k default = d at *
      generalize xs.getD k 0 = x at *
      generalize meanTo gs xs k = M at *
      obtain ⟨A3, c3, rfl, hI3⟩ := HO.out.at_ hml
      have HI3 := Lib.hid hI3
      have HML := Lib.hid hml
      clear hml hI3
      cases hd : (d.k == 0)
      · have hd' : (d.k != 0) = true := by simp [bne, hd]
        obtain ⟨hv1, hvo, hl10, hea⟩ := canEv_parts d.ps M (hcE hd)
        obtain ⟨hg, h1, h12⟩ := validF_good d.ps hv1
        have HRUN := Lib.hid fun (w' : World) (hB : wr.heap.size ≤ w'.heap.size) (h : PS w' wr.heap.size A1 d.ps) (h' : IS w' wr.heap.size A3 M) => spec_run A1 A3 n1 c1 k c3 d.ps M wr.heap.size hn1' HML.out.symm hg (by rw [← HML.out]; exact hea) hvo (by omega) (by omega) (by omega) w' hB h h'
        have HD := Lib.hid hd
        rw [hd] at HST
        generalize hE : (whole d.ps).ev M = E at *
        clear hE hcE hv1 hvo hl10 hea hg h1 h12 hd hn1'
        go_wp2_with fail
        refine (HRUN.out _ (Nat.le_refl _) (HPS.out.more (by omega)) HI3.out).mono ?_
        rintro e w2 ⟨v2, rfl, hown2, hb2⟩
        clear hown2
        have HO2 := Lib.hid (own_below HO.out hb2)
        have hbr2 := hbr.trans (hb2.mono hwr)
        have hw2 : w.heap.size + 1 ≤ w2.heap.size := by have := hb2.size; omega
        go_wp2_with (at_builtin; refine wpList_append_own _ rfl _ _ 26 rfl (w.heap.size + 1) 3 i0 (.int .i64 0) 1 8 Try.underlying26 hi hz0 hz1 hz2 rfl (by decide) _ _ _ rfl (HO2.out.alloc _) ⟨_, 0, none⟩ 1 1 [.int .i64 E] rfl rfl (cell_one_new _ _ _) ?c2 ?c3 ?c4 ?c5 ?_)
        case c2 => first | rfl | (intro u hu; simp at hu; subst hu; rfl)
        case c3 => have := HML.out; unfold maxLen; omega
        case c4 => have := HML.out; omega
        case c5 => first | omega | (simp; omega)
        intro v' w3 hown' hgrow _
        have hpos := (HO2.out.alloc (.cells #[.int .i64 E] 3)).lt
        have HO' : Hid (OwnI w3 (w.heap.size + 1) v' (meanTo gs xs (k + 1))) := by
          rw [HST.out]
          simpa [OwnI, Hid] using hown'
        have HB' := Lib.hid ((hbr2.alloc hw2 (.cells #[.int .i64 E] 3)).grown hgrow (by simp; omega) (fun q hq => (hpos q hq).1))
        clear hown' hgrow hpos
        go_wp2
        go_roundw
        case rel => exact ⟨k + 1, by omega, by go_num, HO'.out, HB'.out⟩
        case measure => simp [intOf]; omega
      · have hd' : (d.k != 0) = false := by simp [bne, hd]
        rw [hd] at HST
        clear hcE hd hn1'
        go_wp2_with (at_builtin; refine wpList_append_own _ rfl _ _ 26 rfl (w.heap.size + 1) 3 i0 (.int .i64 0) 1 8 Try.underlying26 hi hz0 hz1 hz2 rfl (by decide) _ _ _ rfl (HO.out.alloc _) ⟨_, 0, none⟩ 1 1 [.int .i64 x] rfl rfl (cell_one_new _ _ _) ?d2 ?d3 ?d4 ?d5 ?_)
        case d2 => first | rfl | (intro u hu; simp at hu; subst hu; rfl)
        case d3 => have := HML.out; unfold maxLen; omega
        case d4 => have := HML.out; omega
        case d5 => first | omega | (simp; omega)
        intro v' w3 hown' hgrow _
        have hpos := (HO.out.alloc (.cells #[.int .i64 x] 3)).lt
        have HO' : Hid (OwnI w3 (w.heap.size + 1) v' (meanTo gs xs (k + 1))) := by
          rw [HST.out]
          simpa [OwnI, Hid] using hown'
        have HB' := Lib.hid ((hbr.alloc hwr (.cells #[.int .i64 x] 3)).grown hgrow (by simp; omega) (fun q hq => (hpos q hq).1))
        clear hown' hgrow hpos
        go_wp2
        go_roundw
        case rel => exact ⟨k + 1, by omega, by go_num, HO'.out, HB'.out⟩
        case measure => simp [intOf]; omega
    · obtain rfl : k = n := by omega
      go_wp2
      go_ret
      refine ⟨_, rfl, ?_, ((Below.refl _ _).alloc (Nat.le_refl _) _).trans (hbr.mono (by omega))⟩
      have := HO.out
      rw [HN.out] at this
      exact own_mono this (by omega)

theorem own_heap {w : World} {base e n cap g : Nat} {xs : List Value} (h : w.ownsRow base e 1 (.slice (some ⟨g, 0, none⟩) n cap) n xs) : ∃ cur : List Value, w.heap[g]? = some (.cells cur.toArray e (0, 0)) ∧ cur.length = cap ∧ base ≤ g := by
  rcases h.2 with ⟨hv, _⟩ | ⟨g', cap', cur, hv, hb, hh, h1, h2, h3, h4⟩
  · simp at hv
  · simp only [Value.slice.injEq, Option.some.injEq, Addr.mk.injEq, and_true, true_and] at hv
    obtain ⟨rfl, rfl⟩ := hv
    exact ⟨cur.toList, by simpa using hh, by simpa using h3, hb⟩

set_option maxRecDepth 100000 in
set_option maxHeartbeats 1600000 in
theorem impl_copyOf (A : Option Addr) (n c : Nat) (xs : List Int) (w : World) (B : Nat) (hB : B ≤ w.heap.size) (hn : n = xs.length) (h : IS w B A xs) (hs : n ≤ 2000000) :
    Calls Try.prog 39 #[.slice A n c] w fun e w' => e = .returned (.slice (some ⟨w.heap.size, 0, none⟩) n n) ∧ w'.ownsRow w.heap.size 3 1 (.slice (some ⟨w.heap.size, 0, none⟩) n n) n (xs.map (Value.int .i64)) ∧ Below w.heap.size w w' := by
  obtain ⟨i0, hi, hz0, hz1, hz2⟩ := info_parts info_int
  obtain ⟨w0, hmk, hown0, hgr0⟩ := run_make_full (P := Try.prog) w w.heap.size 26 3 i0 _ 1 Try.underlying26 hi hz0 hz1 .i64 .i64 n (by rw [hz2]; omega) (by unfold maxLen; omega) (Nat.le_refl _)
  obtain ⟨cur, hcur, hcl, _⟩ := own_heap hown0
  have hb0 : Below w.heap.size w w0 := ⟨hgr0.os, hgr0.tape, hgr0.output, hgr0.size, fun k hk => hgr0.block k hk (by simp)⟩
  obtain ⟨cs, hcs⟩ : ∃ cs : List Value, cs = xs.map (Value.int .i64) := ⟨_, rfl⟩
  have hsz : (Try.prog.info? 3).map (·.size) = some 1 := by kernel_rfl
  have hcl2 : cs.length = n := by rw [hcs, List.length_map]; exact hn.symm
  have hsrc : 0 < cs.length → some (⟨w.heap.size, 0, none⟩ : Addr) = some ⟨w.heap.size, 0, none⟩ ∧ ∃ ad, A = some ad ∧ ∀ j v, cs[j]? = some v → w0.cell? (ad.add j) = some v := by
    intro hp
    obtain ⟨b, off, e, hb, hc⟩ := h (by omega)
    refine ⟨rfl, _, e, fun j v hv => ?_⟩
    have hj : j < xs.length := by
      rcases Nat.lt_or_ge j cs.length with h1 | h1
      · omega
      · rw [List.getElem?_eq_none h1] at hv; cases hv
    have hadd : (⟨b, off, none⟩ : Addr).add j = ⟨b, off + j, none⟩ := by unfold Addr.add; split <;> simp_all
    rw [hadd, hb0.cell (p := ⟨b, off + j, none⟩) (by simp; omega), hc j hj, ← hv, hcs]
    simp [List.getD, hj]
  have h1 : ∀ v ∈ cs, v.oneCell' = true := by
    intro v hv
    rw [hcs] at hv
    obtain ⟨x, _, rfl⟩ := List.mem_map.1 hv
    rfl
  have HCUR := Lib.hid hcur
  have HCL := Lib.hid hcl
  have HCL2 := Lib.hid hcl2
  have HCS := Lib.hid hcs
  have HSRC := Lib.hid hsrc
  have HONE := Lib.hid h1
  have HB0 := Lib.hid hb0
  have HSZ := Lib.hid hsz
  clear hcur hcl hcl2 hcs hsrc h1 hb0 hsz hown0 hgr0 h hn
  go_enter Try.func39, Try.ntmps39
  go_wp2_with (with_reducible refine wpList_copy_splice rfl (.tmp 7) (.tmp 8) 26 26 rfl 3 Try.underlying26 HSZ.out _ _ _ _ _ _ rfl rfl w.heap.size 0 cur 3 HCUR.out cs ?c1 HSRC.out ?c2 HONE.out w.heap.size w HB0.out (Nat.le_refl _) ?_)
  case c1 => have := HCL2.out; omega
  case c2 => have := HCL2.out; have := HCL.out; omega
  intro w2 HG2 hB2
  go_wp2
  go_ret
  have hsp : splice cur 0 cs = cs := by
    unfold splice
    rw [List.take_zero, List.nil_append, List.drop_of_length_le (by have := HCL2.out; have := HCL.out; omega), List.append_nil]
  have hg2 := HG2.out
  rw [hsp] at hg2
  refine ⟨by simp, ⟨by rw [← HCS.out, HCL2.out]; simp, .inr ⟨w.heap.size, n, cs.toArray, rfl, Nat.le_refl _, hg2, Nat.le_refl _, by unfold maxLen; omega, by simpa using HCL2.out, ?_⟩⟩, hB2⟩
  rw [← HCS.out]
  exact List.take_of_length_le (by have := HCL2.out; simp; omega)
end Go.Proofs.Ytgclikdienlhdaa

/- The contract of impl.MeaningOf. -/
namespace Go.Proofs.Ytgclikdienlhdaa
set_option linter.unusedSimpArgs false
set_option linter.unusedVariables false
open Go.RowKit

/-- The values of the first nodes, and the cells of the others. -/
def mixTo (gs : List Nd) (xs : List Int) (k : Nat) : List Int := meanTo gs xs k ++ xs.drop k

theorem mixTo_zero (gs : List Nd) (xs : List Int) : mixTo gs xs 0 = xs := by simp [mixTo, meanTo]
theorem mixTo_len (gs : List Nd) (xs : List Int) (k : Nat) (h : k ≤ xs.length) : (mixTo gs xs k).length = xs.length := by
  unfold mixTo; rw [List.length_append, meanTo_len, List.length_drop]; omega
theorem mixTo_all (gs : List Nd) (xs : List Int) (k : Nat) (h : k = xs.length) : mixTo gs xs k = meanTo gs xs k := by
  unfold mixTo; rw [h, List.drop_length]; simp
theorem mixTo_take (gs : List Nd) (xs : List Int) (k : Nat) : (mixTo gs xs k).take k = meanTo gs xs k := by
  unfold mixTo
  have := meanTo_len gs xs k
  rw [List.take_append_of_le_length (by omega), List.take_of_length_le (by omega)]
theorem mixTo_step (gs : List Nd) (xs : List Int) (k : Nat) (h : k < xs.length) : mixTo gs xs (k + 1) = if (gs.getD k default).k == 0 then mixTo gs xs k else (mixTo gs xs k).set k ((whole (gs.getD k default).ps).ev (meanTo gs xs k)) := by
  have hl := meanTo_len gs xs k
  have hd : xs.drop k = xs.getD k 0 :: xs.drop (k + 1) := by rw [List.drop_eq_getElem_cons h]; simp [List.getD, h]
  unfold mixTo
  rw [mean_step, hd]
  cases hk : ((gs.getD k default).k == 0)
  · simp only [Bool.false_eq_true, if_false]
    rw [List.set_append_right _ _ (by omega), hl, Nat.sub_self, List.set_cons_zero, List.append_assoc]
    rfl
  · simp only [if_true]
    rw [List.append_assoc]; rfl

theorem IS.take {w : World} {B : Nat} {A : Option Addr} {xs : List Int} (h : IS w B A xs) (k : Nat) : IS w B A (xs.take k) := by
  intro hn
  rw [List.length_take] at hn
  obtain ⟨b, off, e, hb, hc⟩ := h (by omega)
  refine ⟨b, off, e, hb, fun j hj => ?_⟩
  rw [List.length_take] at hj
  have : (xs.take k).getD j 0 = xs.getD j 0 := by simp only [List.getD, List.getElem?_take, if_pos (show j < k by omega)]
  rw [this]
  exact hc j (by omega)

set_option maxRecDepth 100000 in
set_option maxHeartbeats 3200000 in
theorem impl_MeaningOf (A A' : Option Addr) (n c m c' : Nat) (gs : List Nd) (xs : List Int) (w : World) (B : Nat) (hB : B ≤ w.heap.size) (hn : n = gs.length) (hnc : n ≤ c) (hm : m = xs.length) (h : GS w B A gs) (h' : IS w B A' xs) (hs : GB gs) (hs' : m ≤ 2000000) :
    Calls Try.prog 14 #[.agg #[.slice A n c], .slice A' m c'] w fun e w' => RetI w (meanF gs xs) e w' := by
  have HVC := Lib.hid fun (w' : World) (hB : B ≤ w'.heap.size) (h : GS w' B A gs) (h' : IS w' B A' xs) => impl_ValidCells A A' n c m c' gs xs w' B hB hn hnc hm h h' hs hs'
  have H := Lib.hid h
  have HI := Lib.hid h'
  have HN := Lib.hid hn
  have HM := Lib.hid hm
  clear h h' hn hm
  cases hok : okC gs xs
  · have hf : meanF gs xs = [] := by unfold meanF; rw [hok]; rfl
    rw [hf]
    rw [hok] at HVC
    clear hf hok hs
    go_enter Try.func14, Try.ntmps14
    go_wp2_with fail
    refine (HVC.out _ (by simp; omega) (H.out.alloc hB _) (HI.out.alloc hB _)).mono ?_
    rintro e w1 ⟨rfl, hb⟩
    go_wp2
    go_ret
    exact ⟨_, rfl, World.ownsRow_nil _ _ _ _, ((Below.refl _ _).alloc (Nat.le_refl _) _).trans (hb.mono (by simp))⟩
  have hf : meanF gs xs = mean gs xs := by unfold meanF; rw [hok]; rfl
  rw [hf]
  rw [hok] at HVC
  obtain ⟨hvg, hvc⟩ := okC_parts gs xs hok
  have hmn : m = n := by have := (validC_parts gs xs hvc).1; have := HN.out; have := HM.out; omega
  have hn10 : n ≤ 10 := by have := (validG_parts gs hvg).1; have := HN.out; omega
  have HOK := Lib.hid hok
  have HMN := Lib.hid hmn
  have hm10 : m ≤ 10 := by omega
  clear hf hok hvg hvc hmn hs
  go_enter Try.func14, Try.ntmps14
  go_wp2_with fail
  refine (HVC.out _ (by simp; omega) (H.out.alloc hB _) (HI.out.alloc hB _)).mono ?_
  rintro e w1 ⟨rfl, hb⟩
  have q : w1.cell? ⟨w.heap.size, 0, none⟩ = some (.slice A n c) := (hb.cell (p := ⟨w.heap.size, 0, none⟩) (by simp)).trans (by go_simp)
  have HI1 := Lib.hid ((HI.out.alloc hB (.cells #[.slice A n c] 25)).below hb (by simp; omega))
  have HG1 := Lib.hid ((H.out.alloc hB (.cells #[.slice A n c] 25)).below hb (by simp; omega))
  have hz : w.heap.size < w1.heap.size := by have := hb.size; simp at this; omega
  have hB1 : Below w.heap.size w w1 := ((Below.refl _ _).alloc (Nat.le_refl _) _).trans (hb.mono (by simp))
  clear hb H HI
  go_wp2_with fail
  refine (impl_copyOf A' m c' xs w1 B (by omega) HM.out HI1.out (by omega)).mono ?_
  rintro e w2 ⟨rfl, hown2, hb2⟩
  have q2 := (hb2.cell (p := ⟨w.heap.size, 0, none⟩) hz).trans q
  have HG2 := Lib.hid (HG1.out.below hb2 (by omega))
  have HO2 := Lib.hid hown2
  have hgl := (hown2.lt _ rfl).2
  have hB2 := hB1.trans (hb2.mono (by omega))
  clear hown2 hb2 q HG1 HI1 hB1
  go_wp2
  go_loopw [17] (fun u wr => ∃ k : Nat, k ≤ n ∧ u = .int .i64 k ∧ Hid (wr.ownsRow w1.heap.size 3 1 (.slice (some ⟨w1.heap.size, 0, none⟩) m m) m ((mixTo gs xs k).map (Value.int .i64))) ∧ Hid (Below w1.heap.size w2 wr) ∧ w2.heap.size ≤ wr.heap.size) (fun u _ => n - (intOf u).toNat)
  case atStart => exact ⟨0, Nat.zero_le _, rfl, by rw [mixTo_zero]; exact HO2.out, Below.refl _ _, Nat.le_refl _⟩
  case round =>
    obtain ⟨k, hk, rfl, HO, HBR, hwr⟩ := hrel
    by_cases hlt : k < n
    · have hkm : k < m := by have := HMN.out; omega
      have hkg : k < gs.length := by have := HN.out; omega
      have hkx : k < xs.length := by have := HM.out; omega
      obtain ⟨b, off, rfl, hbB, c0, A1, n1, c1, c2, hn1', hps⟩ := HG2.out.at_ k hkg
      have e0 := (HBR.out.cell (p := ⟨b, off + k * 2, none⟩) (by simp; omega)).trans c0
      have e1 := (HBR.out.cell (p := ⟨b, off + k * 2 + 1, none⟩) (by simp; omega)).trans c2
      have HPS := Lib.hid (hps.below HBR.out (by omega))
      have HST := Lib.hid (mixTo_step gs xs k hkx)
      have HIR := Lib.hid ((IS.of_own HO.out).take k)
      rw [mixTo_take] at HIR
      have hml := meanTo_len gs xs k
      have hcE : ((gs.getD k default).k == 0) = false → canEv (gs.getD k default).ps (meanTo gs xs k) = true := mean_canEv gs xs HOK.out k hkg
      clear c0 c2 hps
      generalize gs.getD k default = d at *
      generalize meanTo gs xs k = M at *
      cases hd : (d.k == 0)
      · have hd' : (d.k != 0) = true := by simp [bne, hd]
        have hce := hcE hd
        obtain ⟨hv1, hvo, hl10, hea⟩ := canEv_parts d.ps M hce
        obtain ⟨hg, h1, h12⟩ := validF_good d.ps hv1
        have hvf : valF d.ps M = (whole d.ps).ev M := by unfold valF; rw [hce]; rfl
        have HVAL := Lib.hid fun (w' : World) (B : Nat) (hB : B ≤ w'.heap.size) (h : PS w' B A1 d.ps) (h' : IS w' B (some ⟨w1.heap.size, 0, none⟩) M) => impl_ValueOf A1 (some ⟨w1.heap.size, 0, none⟩) n1 c1 k m d.ps M B hn1' hml.symm (by omega) (by omega) w' hB h h'
        rw [hvf, hce] at HVAL
        rw [hd] at HST
        generalize (whole d.ps).ev M = E at *
        have HD := Lib.hid hd
        clear hcE hce hv1 hvo hl10 hea hg h1 h12 hvf hd hn1' hml
        go_wp2
        obtain ⟨W2, hW2⟩ : ∃ W2, W2 = wr.alloc (.cells #[.int .i64 d.k, .slice A1 n1 c1] 55) := ⟨_, rfl⟩
        have q1 : W2.cell? ⟨wr.heap.size, 0, none⟩ = some (.int .i64 d.k) := by rw [hW2]; go_simp
        have q3 : W2.cell? ⟨wr.heap.size, 1, none⟩ = some (.slice A1 n1 c1) := by rw [hW2]; go_simp
        have HP2 : Hid (PS W2 W2.heap.size A1 d.ps) := by rw [hW2]; exact (HPS.out.alloc (by omega) _).more (by simp; omega)
        have HIR2 : Hid (IS W2 W2.heap.size (some ⟨w1.heap.size, 0, none⟩) M) := by rw [hW2]; exact (HIR.out.alloc (Nat.le_refl _) _).more (by simp)
        have HB2' : Hid (Below w1.heap.size w2 W2) := by rw [hW2]; exact HBR.out.alloc (by omega) _
        have HO2' : Hid (W2.ownsRow w1.heap.size 3 1 (.slice (some ⟨w1.heap.size, 0, none⟩) m m) m ((mixTo gs xs k).map (Value.int .i64))) := by rw [hW2]; exact HO.out.alloc _
        have hz2 : w2.heap.size ≤ W2.heap.size := by rw [hW2]; simp; omega
        rw [← hW2]
        clear hW2 HPS HIR e0 e1
        have hkm2 : k ≤ m := by omega
        have hmx : (mixTo gs xs k).length = m := by rw [mixTo_len gs xs k (by omega)]; have := HM.out; omega
        obtain ⟨y, hy⟩ : ∃ y : Int, (mixTo gs xs k)[k]? = some y := ⟨_, List.getElem?_eq_getElem (by omega)⟩
        have HY := Lib.hid hy
        clear hy hmx
        go_region_with (first | (go_at_call 40; refine (HVAL.out W2.drew W2.heap.size (Nat.le_refl _) HP2.out HIR2.out).mono ?_; rintro e w3 ⟨rfl, hb3⟩; have hgg : w1.heap.size < w3.heap.size := Nat.lt_of_lt_of_le (show w1.heap.size < W2.heap.size by omega) hb3.size; have HO3 := Lib.hid (own_below (w := W2.drew) HO2'.out hb3); have u3 : w3.cell? ⟨w1.heap.size, k, none⟩ = some (.int .i64 y) := (HO3.out.cellAt k (by omega)).trans (by simp [HY.out]); have f3 : w3.frozen? ⟨w1.heap.size, k, none⟩ = false := HO3.out.frozenAt k))
        have HO4 := HO3.out.stored k (.int .i64 E)
        rw [← List.map_set] at HO4
        rw [show (mixTo gs xs k).set k E = mixTo gs xs (k + 1) from HST.out.symm] at HO4
        have HO5 := Lib.hid HO4.1
        have HB5 := Lib.hid (((HB2'.out.drew.trans (hb3.mono (show w1.heap.size ≤ W2.heap.size by omega))).setCell (p := ⟨w1.heap.size, k, none⟩) (Nat.le_refl _) (.int .i64 E)))
        have hz3 : w2.heap.size ≤ w3.heap.size := Nat.le_trans hz2 hb3.size
        clear HO4
        go_wp2
        go_roundw
        case rel => exact ⟨k + 1, by omega, by go_num, HO5.out, HB5.out, by simp [World.setCell]; omega⟩
        case measure => simp [intOf]; omega
      · have hd' : (d.k != 0) = false := by simp [bne, hd]
        rw [hd] at HST
        clear hcE hd hn1' hml
        go_wp2
        go_roundw
        case rel => exact ⟨k + 1, by omega, by go_num, by rw [HST.out]; exact HO.out.alloc _, HBR.out.alloc (by omega) _, by simp; omega⟩
        case measure => simp [intOf]; omega
    · obtain rfl : k = n := by omega
      go_wp2
      go_ret
      have hkx : k = xs.length := by have := HMN.out; have := HM.out; omega
      have hkm : k = m := by have := HMN.out; omega
      have hml : (mean gs xs).length = m := by unfold mean; rw [meanTo_len]; have := HN.out; omega
      refine ⟨_, rfl, ?_, hB2.trans (HBR.out.mono (by omega))⟩
      have := HO.out
      rw [mixTo_all gs xs k hkx, HN.out] at this
      unfold OwnI
      rw [hml]
      exact own_mono this (by omega)
end Go.Proofs.Ytgclikdienlhdaa

/- The standing contracts of MeaningOf. -/
namespace Go.Proofs.Ytgclikdienlhdaa
set_option linter.unusedSimpArgs false
set_option linter.unusedVariables false
open Go.RowKit

theorem meanF_len (gs : List Nd) (xs : List Int) : (meanF gs xs).length ≤ 10 := by
  unfold meanF
  cases h : okC gs xs
  · simp
  · simp only [if_true]
    unfold mean
    rw [meanTo_len]
    exact (validG_parts gs (okC_parts gs xs h).1).1

theorem mean_len (gs : List Nd) (xs : List Int) : (mean gs xs).length = gs.length := meanTo_len _ _ _

theorem RetI.mono {w w0 w' : World} {xs : List Int} {e : Ending} (h : RetI w xs e w') (hb : Below w0.heap.size w0 w) : RetI w0 xs e w' := by
  obtain ⟨v, he, ho, hb'⟩ := h
  exact ⟨v, he, own_mono ho hb.size, hb.trans (hb'.mono hb.size)⟩
theorem RetI.nil {w w' : World} (hb : Below w.heap.size w w') : RetI w [] (.returned (.slice none 0 0)) w' := ⟨_, rfl, World.ownsRow_nil _ _ _ _, hb⟩

theorem top_impl_MeaningOf (gs : List Nd) (xs : List Int) (hG : GB gs) (hL : xs.length ≤ 1048576) : ∀ (A : Option Addr) (n c : Nat) (A' : Option Addr) (m c' : Nat) (w : World), n = gs.length → n ≤ c → GS w w.heap.size A gs → m = xs.length → IS w w.heap.size A' xs →
    Calls Try.prog 14 #[.agg #[.slice A n c], .slice A' m c'] w fun e w' => RetI w (meanF gs xs) e w' :=
  fun A n c A' m c' w hn hc h hm h' => impl_MeaningOf A A' n c m c' gs xs w w.heap.size (Nat.le_refl _) hn hc hm h h' hG (by omega)
end Go.Proofs.Ytgclikdienlhdaa

/- The standing contracts of SetCell. -/
namespace Go.Proofs.Ytgclikdienlhdaa
set_option linter.unusedSimpArgs false
set_option linter.unusedVariables false
open Go.RowKit

/-- Whether there is such a node. -/
def hasN (gs : List Nd) (x : Int) : Bool := rng x 0 ((gs.length : Int) - 1)
/-- Whether a node is a cell. -/
def isC (gs : List Nd) (x : Int) : Bool := hasN gs x && ((gs.getD x.toNat default).k == 0)
def setB (gs : List Nd) (xs : List Int) (x y : Int) : Bool := okC gs xs && isC gs x && rng y 0 999
def setF (gs : List Nd) (xs : List Int) (x y : Int) : List Int := if setB gs xs x y then xs.set x.toNat y else []

theorem setF_len (gs : List Nd) (xs : List Int) (x y : Int) : (setF gs xs x y).length ≤ 10 := by
  unfold setF
  cases h : setB gs xs x y
  · simp
  · simp only [if_true, List.length_set]
    unfold setB at h
    simp only [Bool.and_eq_true] at h
    obtain ⟨hg, hc⟩ := okC_parts gs xs h.1.1
    rw [(validC_parts gs xs hc).1]
    exact (validG_parts gs hg).1

theorem hasN_nat (gs : List Nd) (x : Int) (h : hasN gs x = true) : ∃ t : Nat, x = (t : Int) ∧ t < gs.length := by
  unfold hasN rng at h
  simp only [decide_eq_true_eq] at h
  exact ⟨x.toNat, by omega, by omega⟩

set_option maxHeartbeats 800000 in
theorem spec_isCell (A : Option Addr) (n c : Nat) (gs : List Nd) (x : Int) (w : World) (B : Nat) (hB : B ≤ w.heap.size) (hn : n = gs.length) (h : GS w B A gs) (hs : n ≤ 2000000) :
    Calls Try.prog 81 #[.agg #[.slice A n c], .int .i64 x] w fun e w' => e = .returned (.bool (isC gs x)) ∧ Below w.heap.size w w' := by
  have hr : hasN gs x = rng x 0 ((n : Int) - 1) := by rw [hn]; rfl
  have hi : isC gs x = (hasN gs x && ((gs.getD x.toNat default).k == 0)) := rfl
  cases hh : hasN gs x
  · have hf : isC gs x = false := by rw [hi, hh]; rfl
    rw [hf]
    have hr' : rng x 0 ((n : Int) - 1) = false := by rw [← hr, hh]
    clear h hn hr hi hf hh
    go_enter Try.func81, Try.ntmps81
    go_wp2_with (go_at_call 65; refine (spec_inRange _ _ _ _).mono ?_; rintro e w' ⟨rfl, rfl⟩)
    go_ret
    exact ⟨rfl, (Below.refl _ _).alloc (Nat.le_refl _) _⟩
  · obtain ⟨t, rfl, ht⟩ := hasN_nat gs x hh
    have hr' : rng (t : Int) 0 ((n : Int) - 1) = true := by rw [← hr, hh]
    have hf : isC gs t = ((gs.getD t default).k == 0) := by rw [hi, hh]; simp
    rw [hf]
    obtain ⟨b, off, rfl, hbB, c0, _⟩ := h.at_ t ht
    have htn : t < n := by omega
    have hbw : b < w.heap.size := by omega
    clear h hn hr hi hf hh ht
    generalize gs.getD t default = d at *
    cases hd : (d.k == 0)
    all_goals
      go_enter Try.func81, Try.ntmps81
      go_wp2_with (go_at_call 65; refine (spec_inRange _ _ _ _).mono ?_; rintro e w' ⟨rfl, rfl⟩)
      go_ret
      exact ⟨rfl, (Below.refl _ _).alloc (Nat.le_refl _) _⟩

theorem news_of_ints {w : World} {b off n : Nat} {xs : List Int} (hc : ∀ j, j < xs.length → w.cell? ⟨b, off + j, none⟩ = some (.int .i64 (xs.getD j 0))) : ∀ j u, (xs.map (Value.int .i64))[j]? = some u → w.cell? ((⟨b, off, none⟩ : Addr).add j) = some u := by
  intro j u hu
  have hj : j < xs.length := by
    rcases Nat.lt_or_ge j xs.length with h1 | h1
    · exact h1
    · rw [List.getElem?_eq_none (by simpa using h1)] at hu; cases hu
  have hadd : (⟨b, off, none⟩ : Addr).add j = ⟨b, off + j, none⟩ := by unfold Addr.add; split <;> simp_all
  rw [hadd, hc j hj, ← hu]
  simp [List.getD, hj]
theorem ints_one (xs : List Int) : ∀ u ∈ xs.map (Value.int .i64), u.oneCell' = true := by
  intro u hu
  obtain ⟨x, _, rfl⟩ := List.mem_map.1 hu
  rfl

set_option maxHeartbeats 800000 in
theorem spec_copyInts (A : Option Addr) (n c : Nat) (xs : List Int) (w : World) (B : Nat) (hB : B ≤ w.heap.size) (hn : n = xs.length) (h : IS w B A xs) (hs : n ≤ 2000000) (hp : 0 < n) :
    Calls Try.prog 78 #[.slice A n c] w fun e w' => ∃ g cap, e = .returned (.slice (some ⟨g, 0, none⟩) n cap) ∧ w'.ownsRow w.heap.size 3 1 (.slice (some ⟨g, 0, none⟩) n cap) n (xs.map (Value.int .i64)) ∧ Below w.heap.size w w' := by
  obtain ⟨i0, hi, hz0, hz1, hz2⟩ := info_parts info_int
  obtain ⟨b, off, rfl, hbB, hc⟩ := h (by omega)
  have hnew := World.ownsRow_lit (e := 3) (size := 1) (base := w.heap.size) w #[] 0 (Nat.le_refl _) (by unfold maxLen; omega) (by simp)
  have hnews := news_of_ints (n := n) (fun j hj => (World.cell?_alloc_lt w (.cells #[] 3) ⟨b, off + j, none⟩ (show b < w.heap.size by omega)).trans (hc j hj))
  have HNEW := Lib.hid hnew
  have HNS := Lib.hid hnews
  have HN := Lib.hid hn
  clear hnew hnews hc hn h
  go_enter Try.func78, Try.ntmps78
  go_wp2_with (at_builtin; refine wpList_append_own_at _ rfl _ _ 26 rfl w.heap.size 3 i0 (.int .i64 0) 1 8 Try.underlying26 hi hz0 hz1 hz2 rfl (by decide) _ _ _ rfl HNEW.out ⟨b, off, none⟩ n c (xs.map (Value.int .i64)) rfl ?d1 HNS.out (ints_one xs) ?d3 ?d4 ?d5 ?_)
  case d1 => have := HN.out; first | omega | (simp; omega)
  case d3 => unfold maxLen; omega
  case d4 => omega
  intro v' w3 hown' hgrow _ _
  have hown'' : w3.ownsRow w.heap.size 3 1 v' n (xs.map (Value.int .i64)) := by simpa using hown'
  obtain ⟨g, cap, rfl⟩ : ∃ g cap, v' = .slice (some ⟨g, 0, none⟩) n cap := by
    rcases hown''.2 with ⟨_, h0⟩ | ⟨g, cap, cur, hv, _⟩
    · omega
    · exact ⟨g, cap, hv⟩
  have HO := Lib.hid hown''
  have hb3 : Below w.heap.size w w3 := ((Below.refl _ _).alloc (Nat.le_refl _) (.cells #[] 3)).grown hgrow (by simp) (fun k hk => by simp [Value.ownBlock] at hk; omega)
  clear hown' hown'' hgrow
  go_wp2
  go_ret
  exact ⟨g, cap, rfl, HO.out, hb3⟩

/-- Returns a fresh slice of numbers and a bool, or nothing. -/
theorem RetIB.nil {w w' : World} (hb : Below w.heap.size w w') : RetIB w [] false (.returned (.tuple #[.slice none 0 0, .bool false])) w' := ⟨_, rfl, World.ownsRow_nil _ _ _ _, hb⟩

theorem retIB_own {w w1 w' : World} {n cap g : Nat} {xs : List Int} (hn : n = xs.length) (h : w'.ownsRow w1.heap.size 3 1 (.slice (some ⟨g, 0, none⟩) n cap) n (xs.map (Value.int .i64))) (h1 : w.heap.size ≤ w1.heap.size) (hb : Below w.heap.size w w') : RetIB w xs true (.returned (.tuple #[.slice (some ⟨g, 0, none⟩) n cap, .bool true])) w' := by
  subst hn
  exact ⟨_, rfl, own_mono h h1, hb⟩

end Go.Proofs.Ytgclikdienlhdaa
