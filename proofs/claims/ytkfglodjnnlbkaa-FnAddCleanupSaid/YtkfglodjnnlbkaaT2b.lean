/- Words and contracts for memory that the texts behind use. -/
import Derived.Test.YtkfglodjnnlbkaaT0a
import Derived.Test.YtkfglodjnnlbkaaT1a
import Derived.WalkKit
import Derived.Laws.OwnMore
import Derived.Deep.Draws
import Derived.Test.YtkfglodjnnlbkaaProg
import Derived.WalkSpells
import Derived.WalkLawsBesides
import Derived.Outline
import Derived.Lib.Hide
import Derived.BigQuiet
import Derived.Deep.QuietTactic
import Derived.StillTailTactics
import Derived.Deep.LoopGhost
import Derived.Laws.MakeOwn
import Derived.WalkSmall
import Derived.RegionTactic
import Derived.BigRegion
import Derived.Deep.RegionWith
import Derived.Deep.RegionHeld3
import Derived.Maps.Own
import Derived.Maps.Views
import Derived.Maps.AppendAt
import Derived.Laws.CopyOwn
import Derived.Deep.Cut
import Derived.Laws.Entries
import Derived.Laws.Bits64
import Derived.IntWalk
import Derived.Deep.RegionLaw
import Derived.Deep.AppendLies
import Derived.Deep.DeepCutAuto
import Derived.ArgAppend

namespace Go.Proofs.Ytkfglodjnnlbkaa
set_option linter.unusedSimpArgs false
set_option linter.unusedVariables false
open Go.RowKit
/-- Whether a number is in a range. -/
def rng (n lo hi : Int) : Bool := decide (lo ≤ n ∧ n ≤ hi)
end Go.Proofs.Ytkfglodjnnlbkaa

namespace Go.Proofs.Ytkfglodjnnlbkaa
set_option linter.unusedSimpArgs false
set_option linter.unusedVariables false
open Go.RowKit
def allR (l : List Int) (lo hi : Int) : Bool := l.all fun x => rng x lo hi
end Go.Proofs.Ytkfglodjnnlbkaa

namespace Go.Proofs.Ytkfglodjnnlbkaa
set_option linter.unusedSimpArgs false
set_option linter.unusedVariables false
open Go.RowKit
theorem below_new (wk : World) (o : Obj) : Below wk.heap.size wk (wk.alloc o) := (Below.refl _ _).alloc (Nat.le_refl _) o
end Go.Proofs.Ytkfglodjnnlbkaa

namespace Go.Proofs.Ytkfglodjnnlbkaa
set_option linter.unusedSimpArgs false
set_option linter.unusedVariables false
open Go.RowKit
section
variable {b C g j : Nat} {vs : List Value} {w w' : World}
theorem Bx.drew (h : Bx b vs w) : Bx b vs w.drew := ⟨h.lt, h.c, h.f⟩
end
end Go.Proofs.Ytkfglodjnnlbkaa

namespace Go.Proofs.Ytkfglodjnnlbkaa
set_option linter.unusedSimpArgs false
set_option linter.unusedVariables false
open Go.RowKit
def ctxOK (l : List Int) : Bool := decide (l.length = 3) && allR l (-1) 50
def clOK (l : List Int) : Bool := decide (l.length ≤ 5) && allR l 0 50
/-- The parent of owner i is one that is ahead of it. -/
def parOK (i : Nat) (p : Int) : Bool := if i = 0 then p == -1 else rng p 0 ((i : Int) - 1)
def opn (ds : List On) (p : Int) : Bool := (ds.getD p.toNat default).o
def okD (ds : List On) (i : Nat) (d : On) : Bool := parOK i d.p && ((clOK d.cl && ctxOK d.cx) && ((d.o && (decide (i = 0) || opn ds d.p)) || (!d.o && decide (d.cl.length = 0))))
def okO (ds : List On) (i : Nat) : Bool := okD ds i (ds.getD i default)
def validO (ds : List On) : Bool := (List.range ds.length).all (okO ds) && rng ds.length 1 12
theorem rng_iff (n l m : Int) : rng n l m = true ↔ l ≤ n ∧ n ≤ m := by simp [rng]
theorem okO_all (ds : List On) (h : ∀ k, k < ds.length → okO ds k = true) : validO ds = rng ds.length 1 12 := by
  unfold validO
  rw [show (List.range ds.length).all (okO ds) = true from List.all_eq_true.2 fun k hk => h k (List.mem_range.1 hk)]
  rfl
theorem validO_ok {ds : List On} (h : validO ds = true) : 1 ≤ ds.length ∧ ds.length ≤ 12 ∧ ∀ k, k < ds.length → okO ds k = true := by
  unfold validO at h
  rw [Bool.and_eq_true, rng_iff, List.all_eq_true] at h
  exact ⟨by omega, by omega, fun k hk => h.1 k (List.mem_range.2 hk)⟩
end Go.Proofs.Ytkfglodjnnlbkaa

namespace Go.Proofs.Ytkfglodjnnlbkaa
set_option linter.unusedSimpArgs false
set_option linter.unusedVariables false
open Go.RowKit
theorem okO_par {ds : List On} (h : validO ds = true) (i : Nat) (hi : i < ds.length) : (i = 0 → (ds.getD i default).p = -1) ∧ (0 < i → 0 ≤ (ds.getD i default).p ∧ (ds.getD i default).p < i) := by
  have h1 := (validO_ok h).2.2 i hi
  unfold okO okD parOK at h1
  rw [Bool.and_eq_true] at h1
  by_cases h0 : i = 0
  · rw [if_pos h0] at h1
    exact ⟨fun _ => by simpa using h1.1, fun h => by omega⟩
  · rw [if_neg h0, rng_iff] at h1
    exact ⟨fun h => absurd h h0, fun _ => by omega⟩
end Go.Proofs.Ytkfglodjnnlbkaa

namespace Go.Proofs.Ytkfglodjnnlbkaa
set_option linter.unusedSimpArgs false
set_option linter.unusedVariables false
open Go.RowKit
/-- Each owner has a parent ahead of it. -/
def PO (ds : List On) : Prop := ∀ i, i < ds.length → (i = 0 → (ds.getD i default).p = -1) ∧ (0 < i → 0 ≤ (ds.getD i default).p ∧ (ds.getD i default).p < i)
theorem PO.of_valid {ds : List On} (h : validO ds = true) : PO ds := fun i hi => okO_par h i hi
end Go.Proofs.Ytkfglodjnnlbkaa

namespace Go.Proofs.Ytkfglodjnnlbkaa
set_option linter.unusedSimpArgs false
set_option linter.unusedVariables false
def parN (ds : List On) (i : Nat) : Nat := (ds.getD i default).p.toNat
def isO (ds : List On) (i : Nat) : Bool := (ds.getD i default).o
def clO (ds : List On) (i : Nat) : List Int := (ds.getD i default).cl
/-- Those that are open have open parents, and those that are not have nothing to clean up. -/
structure VO (ds : List On) : Prop where
  up : ∀ i, i < ds.length → 0 < i → isO ds i = true → isO ds (parN ds i) = true
  no : ∀ i, i < ds.length → isO ds i = false → clO ds i = []
end Go.Proofs.Ytkfglodjnnlbkaa

namespace Go.Proofs.Ytkfglodjnnlbkaa
set_option linter.unusedSimpArgs false
set_option linter.unusedVariables false
theorem validO_iff (ds : List On) : validO ds = true ↔ 1 ≤ ds.length ∧ ds.length ≤ 12 ∧ PO ds ∧ VO ds ∧ ∀ i, i < ds.length → clOK (clO ds i) = true ∧ ctxOK (ds.getD i default).cx = true := by
  constructor
  · intro h
    obtain ⟨h1, h2, h3⟩ := validO_ok h
    have hp := PO.of_valid h
    refine ⟨h1, h2, hp, ⟨fun i hi h0 ho => ?_, fun i hi ho => ?_⟩, fun i hi => ?_⟩
    · have h4 := h3 i hi
      unfold okO okD at h4
      unfold isO at ho
      simp only [Bool.and_eq_true, ho, Bool.true_and, Bool.not_true, Bool.false_and, Bool.or_false, Bool.or_eq_true, decide_eq_true_eq] at h4
      rcases h4.2.2 with e | e
      · omega
      · exact e
    · have h4 := h3 i hi
      unfold okO okD at h4
      unfold isO at ho
      simp only [Bool.and_eq_true, ho, Bool.false_and, Bool.not_false, Bool.true_and, Bool.false_or, decide_eq_true_eq] at h4
      exact List.eq_nil_of_length_eq_zero h4.2.2
    · have h4 := h3 i hi
      unfold okO okD at h4
      simp only [Bool.and_eq_true] at h4
      exact ⟨h4.2.1.1, h4.2.1.2⟩
  · rintro ⟨h1, h2, hp, hv, hc⟩
    rw [okO_all ds fun i hi => ?_]
    · rw [rng_iff]; omega
    · unfold okO okD
      simp only [Bool.and_eq_true]
      refine ⟨?_, hc i hi, ?_⟩
      · unfold parOK
        by_cases h0 : i = 0
        · rw [if_pos h0, beq_iff_eq]; exact (hp i hi).1 h0
        · rw [if_neg h0, rng_iff]
          have := (hp i hi).2 (by omega)
          omega
      · cases ho : (ds.getD i default).o
        · have := hv.no i hi ho
          unfold clO at this
          rw [this]; rfl
        · simp only [Bool.true_and, Bool.not_true, Bool.false_and, Bool.or_false, Bool.or_eq_true, decide_eq_true_eq]
          rcases Nat.eq_zero_or_pos i with h0 | h0
          · exact .inl h0
          · exact .inr (hv.up i hi h0 ho)
end Go.Proofs.Ytkfglodjnnlbkaa
