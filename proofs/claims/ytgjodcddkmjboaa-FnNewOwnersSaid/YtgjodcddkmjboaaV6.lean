/- Owners: what is valid, as the model has it: spec.validOwner, validOwners. -/
import Derived.Test.YtgjodcddkmjboaaV1
import Derived.Test.YtgjodcddkmjboaaS0

namespace Go.Proofs.Ytgjodcddkmjboaa
set_option linter.unusedSimpArgs false
set_option linter.unusedVariables false
open Go.RowKit

def ctxOK (l : List Int) : Bool := decide (l.length = 3) && allR l (-1) 50
def clOK (l : List Int) : Bool := decide (l.length ≤ 5) && allR l 0 50
/-- The parent of owner i is one that is ahead of it. -/
def parOK (i : Nat) (p : Int) : Bool := if i = 0 then p == -1 else rng p 0 ((i : Int) - 1)
def opn (ds : List On) (p : Int) : Bool := (ds.getD p.toNat default).o
def okD (ds : List On) (i : Nat) (d : On) : Bool := parOK i d.p && ((clOK d.cl && ctxOK d.cx) && ((d.o && (decide (i = 0) || opn ds d.p)) || (!d.o && decide (d.cl.length = 0))))
def okO (ds : List On) (i : Nat) : Bool := okD ds i (ds.getD i default)
def validO (ds : List On) : Bool := (List.range ds.length).all (okO ds) && rng ds.length 1 12

theorem rng_iff (n l m : Int) : rng n l m = true ↔ l ≤ n ∧ n ≤ m := by simp [rng]

theorem okO_false (ds : List On) (k : Nat) (hk : k < ds.length) (h : okO ds k = false) : validO ds = false := by
  unfold validO
  rw [show (List.range ds.length).all (okO ds) = false from List.all_eq_false.2 ⟨k, List.mem_range.2 hk, by rw [h]; simp⟩]
  rfl
theorem okO_all (ds : List On) (h : ∀ k, k < ds.length → okO ds k = true) : validO ds = rng ds.length 1 12 := by
  unfold validO
  rw [show (List.range ds.length).all (okO ds) = true from List.all_eq_true.2 fun k hk => h k (List.mem_range.1 hk)]
  rfl
theorem validO_ok {ds : List On} (h : validO ds = true) : 1 ≤ ds.length ∧ ds.length ≤ 12 ∧ ∀ k, k < ds.length → okO ds k = true := by
  unfold validO at h
  rw [Bool.and_eq_true, rng_iff, List.all_eq_true] at h
  exact ⟨by omega, by omega, fun k hk => h.1 k (List.mem_range.2 hk)⟩

end Go.Proofs.Ytgjodcddkmjboaa
