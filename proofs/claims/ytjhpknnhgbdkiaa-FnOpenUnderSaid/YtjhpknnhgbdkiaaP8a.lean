/- Words and contracts for memory that the texts behind use. -/
import Derived.Test.YtjhpknnhgbdkiaaP0a
import Derived.Test.YtjhpknnhgbdkiaaP1a
import Derived.Test.YtjhpknnhgbdkiaaP2a
import Derived.Test.YtjhpknnhgbdkiaaP3a
import Derived.Test.YtjhpknnhgbdkiaaP4a
import Derived.Test.YtjhpknnhgbdkiaaP5a
import Derived.Test.YtjhpknnhgbdkiaaP6a
import Derived.Test.YtjhpknnhgbdkiaaP7a
import Derived.WalkKit
import Derived.Laws.OwnMore
import Derived.Deep.Draws
import Derived.Test.YtjhpknnhgbdkiaaProg
import Derived.WalkSpells
import Derived.WalkLawsBesides
import Derived.Outline
import Derived.Lib.Hide
import Derived.BigQuiet
import Derived.Deep.QuietTactic
import Derived.StillTailTactics
import Derived.Deep.LoopGhost
import Derived.Laws.MakeOwn
import Derived.WalkSmall
import Derived.RegionTactic
import Derived.BigRegion
import Derived.Deep.RegionWith
import Derived.Deep.RegionHeld3
import Derived.Maps.AppendAt
import Derived.Laws.CopyOwn
import Derived.Deep.Cut
import Derived.Laws.Entries
import Derived.Laws.Bits64
import Derived.IntWalk
import Derived.Deep.RegionLaw
import Derived.Deep.AppendLies
import Derived.Deep.DeepCutAuto
import Derived.ArgAppend

namespace Go.Proofs.Ytjhpknnhgbdkiaa
set_option linter.unusedSimpArgs false
set_option linter.unusedVariables false
open Go.RowKit
-- WANT nwTo nwTo_step nwTo_len nwTo_zero RetI nil mono cell_one_new info_parts info_int
def liveB (ds : List On) (i : Nat) : Bool := (ds.getD i default).o
def liveF (ds : List On) : List Int := if validO ds then nwTo (liveB ds) ds.length else []
end Go.Proofs.Ytjhpknnhgbdkiaa

namespace Go.Proofs.Ytjhpknnhgbdkiaa
set_option linter.unusedSimpArgs false
set_option linter.unusedVariables false
open Go.RowKit
def kidsF (ds : List On) (o : Int) : List Int := if hasO ds o then nwTo (kidB ds o) ds.length else []
def aboveF (ds : List On) (o : Int) : List Int := if hasO ds o then upF ds ds.length o else []
end Go.Proofs.Ytjhpknnhgbdkiaa

namespace Go.Proofs.Ytjhpknnhgbdkiaa
set_option linter.unusedSimpArgs false
set_option linter.unusedVariables false
open Go.RowKit
def ctxV (ds : List On) (k : Nat) (x : Int) : Int := (ds.getD x.toNat default).cx.getD k 0
def lookG (ds : List On) (k : Nat) : List Int → Option Int
  | [] => none
  | x :: xs => if 0 ≤ ctxV ds k x then some (ctxV ds k x) else lookG ds k xs
def lookO (ds : List On) (o key : Int) : Option Int := if rng key 0 2 then lookG ds key.toNat (aboveF ds o) else none
theorem okO_ctx {ds : List On} (h : validO ds = true) (i : Nat) (hi : i < ds.length) : (ds.getD i default).cx.length = 3 ∧ ∀ k, k < 3 → -1 ≤ (ds.getD i default).cx.getD k 0 := by
  have h1 := (validO_ok h).2.2 i hi
  unfold okO okD ctxOK at h1
  simp only [Bool.and_eq_true, decide_eq_true_eq] at h1
  obtain ⟨_, ⟨_, h3, h4⟩, _⟩ := h1
  refine ⟨h3, fun k hk => ?_⟩
  unfold allR at h4
  rw [List.all_eq_true] at h4
  generalize (ds.getD i default).cx = l at *
  have hkl : k < l.length := by omega
  have e : l.getD k 0 = l[k] := by simp [List.getD, hkl]
  rw [e]
  have := h4 l[k] (List.getElem_mem hkl)
  rw [rng_iff] at this
  exact this.1
theorem upF_mem {ds : List On} (h : validO ds = true) (f : Nat) (o : Int) (ho : o < ds.length) : ∀ x ∈ upF ds f o, 0 ≤ x ∧ x < ds.length := by
  induction f generalizing o with
  | zero => intro x hx; simp [upF] at hx
  | succ f ih =>
    intro x hx
    by_cases h0 : o < 0
    · rw [upF_neg _ _ _ h0] at hx; cases hx
    · obtain ⟨k, rfl⟩ : ∃ k : Nat, o = k := ⟨o.toNat, by omega⟩
      rw [upF_step] at hx
      rcases List.mem_cons.1 hx with rfl | hx
      · omega
      · have hp := okO_par h k (by omega)
        refine ih _ ?_ x hx
        by_cases hk : k = 0
        · have := hp.1 hk; omega
        · have := hp.2 (by omega); omega
theorem aboveF_mem (ds : List On) (o : Int) : ∀ x ∈ aboveF ds o, ∃ k : Nat, x = k ∧ k < ds.length ∧ validO ds = true := by
  intro x hx
  unfold aboveF at hx
  cases h : hasO ds o
  · rw [h] at hx; simp at hx
  · rw [h] at hx
    simp only [if_true] at hx
    obtain ⟨k, rfl, hk, hv⟩ := hasO_at h
    have := upF_mem hv ds.length k (by omega) x hx
    exact ⟨x.toNat, by omega, by omega, hv⟩
end Go.Proofs.Ytjhpknnhgbdkiaa

namespace Go.Proofs.Ytjhpknnhgbdkiaa
set_option linter.unusedSimpArgs false
set_option linter.unusedVariables false
open Go.RowKit
theorem nwTo_asc (P : Nat → Bool) (n j : Nat) (h : j + 1 < (nwTo P n).length) : (nwTo P n).getD j 0 < (nwTo P n).getD (j + 1) 0 := by
  have hp : (nwTo P n).Pairwise (· < ·) := by
    unfold nwTo
    rw [List.pairwise_map]
    refine List.Pairwise.imp ?_ (List.Pairwise.filter _ List.pairwise_lt_range)
    intro a b hab
    omega
  have := List.pairwise_iff_getElem.1 hp j (j + 1) (by omega) h (by omega)
  simpa [List.getD, h, show j < (nwTo P n).length by omega] using this
end Go.Proofs.Ytjhpknnhgbdkiaa

namespace Go.Proofs.Ytjhpknnhgbdkiaa
set_option linter.unusedSimpArgs false
set_option linter.unusedVariables false
open Go.RowKit
theorem OwR.of_own {w : World} {lo n : Nat} {A : Option Addr} {c : Nat} {xs : List Int} (h : OwnI w lo (.slice A n c) xs) (hn : n = xs.length) : OwR lo w.heap.size 3 1 (.slice A n c) n (xs.map (Value.int .i64)) w := by
  subst hn
  exact OwR.start h
end Go.Proofs.Ytjhpknnhgbdkiaa

namespace Go.Proofs.Ytjhpknnhgbdkiaa
set_option linter.unusedSimpArgs false
set_option linter.unusedVariables false
open Go.RowKit
theorem nwTo_mem (P : Nat → Bool) (n i : Nat) : ((i : Int) ∈ nwTo P n) ↔ i < n ∧ P i = true := by
  unfold nwTo
  simp only [List.mem_map, List.mem_filter, List.mem_range]
  constructor
  · rintro ⟨a, ⟨h1, h2⟩, h3⟩
    obtain rfl : a = i := by omega
    exact ⟨h1, h2⟩
  · rintro ⟨h1, h2⟩
    exact ⟨i, ⟨h1, h2⟩, rfl⟩
end Go.Proofs.Ytjhpknnhgbdkiaa
