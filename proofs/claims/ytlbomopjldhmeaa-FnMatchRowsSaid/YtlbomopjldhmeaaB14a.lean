/- Words and contracts for memory that the texts behind use. -/
import Derived.Test.YtlbomopjldhmeaaB0a
import Derived.Test.YtlbomopjldhmeaaB1a
import Derived.Test.YtlbomopjldhmeaaB2a
import Derived.Test.YtlbomopjldhmeaaB3a
import Derived.Test.YtlbomopjldhmeaaB4a
import Derived.Test.YtlbomopjldhmeaaB5a
import Derived.Test.YtlbomopjldhmeaaB6a
import Derived.Test.YtlbomopjldhmeaaB7a
import Derived.Test.YtlbomopjldhmeaaB8a
import Derived.Test.YtlbomopjldhmeaaB9a
import Derived.Test.YtlbomopjldhmeaaB10a
import Derived.Test.YtlbomopjldhmeaaB11a
import Derived.Test.YtlbomopjldhmeaaB12a
import Derived.Test.YtlbomopjldhmeaaB13a
import Derived.WalkKit
import Derived.Laws.OwnMore
import Derived.Deep.Draws
import Derived.Test.YtlbomopjldhmeaaProg
import Derived.WalkSpells
import Derived.WalkLawsBesides
import Derived.Outline
import Derived.Lib.Hide
import Derived.BigQuiet
import Derived.Deep.QuietTactic
import Derived.StillTailTactics
import Derived.Deep.LoopGhost
import Derived.Laws.MakeOwn
import Derived.WalkSmall
import Derived.RegionTactic
import Derived.BigRegion
import Derived.Deep.RegionWith
import Derived.Deep.RegionHeld3
import Derived.Laws.Entries
import Derived.Laws.Bits64
import Derived.IntWalk
import Derived.Maps.AppendAt
import Derived.Deep.RegionLaw
import Derived.Deep.AppendLies
import Derived.Deep.Cut
import Derived.Deep.DeepCutAuto
import Derived.Laws.CopyOwn
import Derived.ArgAppend
import Derived.RangeFuncNested
import Derived.RangeFuncBound
import Derived.RangeFuncCalls
import Derived.RangeFuncLeaves
import Derived.RangeFuncBox
import Derived.Shelf.Abstract
import Derived.Shelf.RegionOpen
import Derived.OwnWalkIn
import Derived.TacticsInMore
import Derived.LoopNIn
import Derived.LoopIn
import Derived.Sort.QuietIn
import Derived.Sort.QuietTacIn
import Derived.RegionIn
import Derived.Sort.CutIn
import Derived.Test.YtlbomopjldhmeaaRows
import Derived.ProofKit
import Derived.OpenShut
import Derived.ShutString
import Derived.ChangeOld
import Derived.Below
import Derived.Deep.Slices
import Derived.Deep.Fields

namespace Go.Proofs.Ytlbomopjldhmeaa
set_option linter.unusedSimpArgs false
set_option linter.unusedVariables false
open Go.RowKit
/-- The keys and the numbers of rows. -/
def kyW (rs : List Rk) : List Int := rs.map (·.k)
def idW (rs : List Rk) : List Int := rs.map (·.a)
/-- Rows are valid when nx is the next free number. -/
def rowsOK (rs : List Rk) (nx : Int) : Bool := rng nx 0 100 && (validK (kyW rs) && difB (nx - 1) (idW rs))
theorem kyW_get (rs : List Rk) (j : Nat) : (kyW rs).getD j 0 = (rs.getD j default).k := by
  unfold kyW
  rcases Nat.lt_or_ge j rs.length with h | h
  · simp [List.getD, h]
  · simp [List.getD, h]; rfl
theorem idW_get (rs : List Rk) (j : Nat) : (idW rs).getD j 0 = (rs.getD j default).a := by
  unfold idW
  rcases Nat.lt_or_ge j rs.length with h | h
  · simp [List.getD, h]
  · simp [List.getD, h]; rfl
theorem kyW_len (rs : List Rk) : (kyW rs).length = rs.length := by simp [kyW]
theorem idW_len (rs : List Rk) : (idW rs).length = rs.length := by simp [idW]
end Go.Proofs.Ytlbomopjldhmeaa

namespace Go.Proofs.Ytlbomopjldhmeaa
set_option linter.unusedSimpArgs false
set_option linter.unusedVariables false
open Go.RowKit
/-- The number of the row of a key. -/
def idOf (rs : List Rk) (y : Int) : Int := (rs.getD (plc (kyW rs) y).toNat default).a
/-- The rows for the first k keys, and the next free number then. -/
def mtc (rs : List Rk) (ys : List Int) (nx : Int) : Nat → List Rk × Int
  | 0 => ([], nx)
  | k + 1 => if ys.getD k 0 ∈ kyW rs then ((mtc rs ys nx k).1 ++ [⟨ys.getD k 0, idOf rs (ys.getD k 0)⟩], (mtc rs ys nx k).2) else ((mtc rs ys nx k).1 ++ [⟨ys.getD k 0, (mtc rs ys nx k).2⟩], (mtc rs ys nx k).2 + 1)
theorem mtc_yes (rs : List Rk) (ys : List Int) (nx : Int) (k : Nat) (h : ys.getD k 0 ∈ kyW rs) : mtc rs ys nx (k + 1) = ((mtc rs ys nx k).1 ++ [⟨ys.getD k 0, idOf rs (ys.getD k 0)⟩], (mtc rs ys nx k).2) := by
  show (if _ then _ else _) = _
  rw [if_pos h]
theorem mtc_no (rs : List Rk) (ys : List Int) (nx : Int) (k : Nat) (h : ¬ ys.getD k 0 ∈ kyW rs) : mtc rs ys nx (k + 1) = ((mtc rs ys nx k).1 ++ [⟨ys.getD k 0, (mtc rs ys nx k).2⟩], (mtc rs ys nx k).2 + 1) := by
  show (if _ then _ else _) = _
  rw [if_neg h]
theorem mtc_bd (rs : List Rk) (ys : List Int) (nx : Int) (k : Nat) : (mtc rs ys nx k).1.length = k ∧ nx ≤ (mtc rs ys nx k).2 ∧ (mtc rs ys nx k).2 ≤ nx + k := by
  induction k with
  | zero => exact ⟨rfl, Int.le_refl _, by simp [mtc]⟩
  | succ k ih =>
    by_cases h : ys.getD k 0 ∈ kyW rs
    · rw [mtc_yes _ _ _ _ h]; simp; omega
    · rw [mtc_no _ _ _ _ h]; simp; omega
def matchOK (rs : List Rk) (nx : Int) (ys : List Int) : Bool := rowsOK rs nx && validK ys
def matchB (rs : List Rk) (nx : Int) (ys : List Int) : Bool := matchOK rs nx ys && decide ((mtc rs ys nx ys.length).2 ≤ 100)
def matchF (rs : List Rk) (nx : Int) (ys : List Int) : List Rk := if matchB rs nx ys then (mtc rs ys nx ys.length).1 else []
def matchN (rs : List Rk) (nx : Int) (ys : List Int) : Int := if matchB rs nx ys then (mtc rs ys nx ys.length).2 else -1
/-- The number of the last row of a key among the first k. -/
def lid (rs : List Rk) (y : Int) : Nat → Int
  | 0 => -1
  | k + 1 => if (rs.getD k default).k = y then (rs.getD k default).a else lid rs y k
theorem lid_yes (rs : List Rk) (y : Int) (k : Nat) (h : (rs.getD k default).k = y) : lid rs y (k + 1) = (rs.getD k default).a := by
  show (if _ then _ else _) = _
  rw [if_pos h]
theorem lid_no (rs : List Rk) (y : Int) (k : Nat) (h : ¬ (rs.getD k default).k = y) : lid rs y (k + 1) = lid rs y k := by
  show (if _ then _ else _) = _
  rw [if_neg h]
theorem lid_all (rs : List Rk) (y : Int) (hd : (kyW rs).Nodup) : lid rs y rs.length = if y ∈ kyW rs then idOf rs y else -1 := by
  split
  · rename_i hy
    obtain ⟨p, hp, hpl, hpy⟩ := plc_index _ _ hy
    rw [kyW_len] at hpl
    have hid : idOf rs y = (rs.getD p default).a := by unfold idOf; rw [hp]; rfl
    have key : ∀ k, p < k → k ≤ rs.length → lid rs y k = (rs.getD p default).a := by
      intro k
      induction k with
      | zero => intro h; omega
      | succ k ih =>
        intro h1 h2
        by_cases hk : (rs.getD k default).k = y
        · rw [lid_yes _ _ _ hk]
          have hkp : k = p := by
            have h3 : (kyW rs)[k]'(by rw [kyW_len]; omega) = (kyW rs)[p]'(by rw [kyW_len]; omega) := by
              have e1 := kyW_get rs k
              have e2 := kyW_get rs p
              rw [hk, ← hpy] at e1
              simp only [List.getD] at e1 e2 hpy
              rw [List.getElem?_eq_getElem (by rw [kyW_len]; omega)] at e1
              rw [List.getElem?_eq_getElem (by rw [kyW_len]; omega)] at e1
              simpa using e1
            have hpw := List.pairwise_iff_getElem.1 hd
            rcases Nat.lt_trichotomy k p with h5 | h5 | h5
            · exact absurd h3 (hpw k p _ _ h5)
            · exact h5
            · exact absurd h3.symm (hpw p k _ _ h5)
          rw [hkp]
        · rw [lid_no _ _ _ hk]
          rcases Nat.lt_or_ge p k with h3 | h3
          · exact ih h3 (by omega)
          · have : p = k := by omega
            subst this
            rw [kyW_get] at hpy
            exact absurd hpy hk
    rw [hid]
    exact key rs.length hpl (Nat.le_refl _)
  · rename_i hy
    have key : ∀ k, k ≤ rs.length → lid rs y k = -1 := by
      intro k
      induction k with
      | zero => intro _; rfl
      | succ k ih =>
        intro h
        rw [lid_no _ _ _ fun e => hy ?_]
        · exact ih (by omega)
        · rw [← e, ← kyW_get]
          have : k < (kyW rs).length := by rw [kyW_len]; omega
          simp [List.getD, this]
    exact key rs.length (Nat.le_refl _)
end Go.Proofs.Ytlbomopjldhmeaa
