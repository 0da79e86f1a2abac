/- Words and contracts for memory that the texts behind use. -/
import Derived.Test.YtjhpknnhgbdkiaaP0a
import Derived.Test.YtjhpknnhgbdkiaaP1a
import Derived.Test.YtjhpknnhgbdkiaaP2a
import Derived.WalkKit
import Derived.Laws.OwnMore
import Derived.Deep.Draws
import Derived.Test.YtjhpknnhgbdkiaaProg
import Derived.WalkSpells
import Derived.WalkLawsBesides
import Derived.Outline
import Derived.Lib.Hide
import Derived.BigQuiet
import Derived.Deep.QuietTactic
import Derived.StillTailTactics
import Derived.Deep.LoopGhost
import Derived.Laws.MakeOwn
import Derived.WalkSmall
import Derived.RegionTactic
import Derived.BigRegion
import Derived.Deep.RegionWith
import Derived.Deep.RegionHeld3
import Derived.Maps.AppendAt
import Derived.Laws.CopyOwn
import Derived.Deep.Cut
import Derived.Laws.Entries
import Derived.Laws.Bits64
import Derived.IntWalk
import Derived.Deep.RegionLaw
import Derived.Deep.AppendLies
import Derived.Deep.DeepCutAuto
import Derived.ArgAppend

namespace Go.Proofs.Ytjhpknnhgbdkiaa
set_option linter.unusedSimpArgs false
set_option linter.unusedVariables false
open Go.RowKit
theorem SSk.two {lo mid top : Nat} {w : World} {A A' : Option Addr} {m c m' c' : Nat} {lens : Nat → Nat} {cont : Nat → List Value} (h1 : OwR lo mid 3 1 (.slice A m c) m (cont 0) w) (h2 : OwR mid top 3 1 (.slice A' m' c') m' (cont 1) w) (hm : m = lens 0) (hm' : m' = lens 1) (hlo : lo ≤ mid) (htop : mid ≤ top) :
    SSk lo top [.slice A m c, .slice A' m' c'] lens cont w := by
  refine ⟨fun j hj => ?_, fun i j v u k hij hi hj hv hu => ?_⟩
  · match j, hj with
    | 0, _ => exact ⟨A, m, c, rfl, hm, h1.mono (Nat.le_refl _) htop⟩
    | 1, _ => exact ⟨A', m', c', rfl, hm', h2.mono hlo (Nat.le_refl _)⟩
  · have b1 : ∀ q, (Value.slice A m c).ownBlock = some q → lo ≤ q ∧ q < mid := fun q hq => ⟨(h1.1.lt q hq).1, h1.2 q hq⟩
    have b2 : ∀ q, (Value.slice A' m' c').ownBlock = some q → mid ≤ q ∧ q < top := fun q hq => ⟨(h2.1.lt q hq).1, h2.2 q hq⟩
    match i, j with
    | 0, 0 => exact absurd rfl hij
    | 1, 1 => exact absurd rfl hij
    | 0, 1 => cases hi; cases hj; have := b1 k hv; have := b2 k hu; omega
    | 1, 0 => cases hi; cases hj; have := b2 k hv; have := b1 k hu; omega
    | i + 2, _ => simp at hi
    | 0, j + 2 => simp at hj
    | 1, j + 2 => simp at hj
end Go.Proofs.Ytjhpknnhgbdkiaa

namespace Go.Proofs.Ytjhpknnhgbdkiaa
set_option linter.unusedSimpArgs false
set_option linter.unusedVariables false
open Go.RowKit
/-- An owner and all above it. -/
def upF (ds : List On) : Nat → Int → List Int
  | 0, _ => []
  | f + 1, o => if o < 0 then [] else o :: upF ds f (ds.getD o.toNat default).p
theorem upF_neg (ds : List On) (f : Nat) (o : Int) (h : o < 0) : upF ds f o = [] := by
  cases f with
  | zero => rfl
  | succ f => unfold upF; rw [if_pos h]
theorem upF_step (ds : List On) (f k : Nat) : upF ds (f + 1) (k : Int) = (k : Int) :: upF ds f (ds.getD k default).p := by
  rw [upF, if_neg (by omega)]; simp
end Go.Proofs.Ytjhpknnhgbdkiaa
