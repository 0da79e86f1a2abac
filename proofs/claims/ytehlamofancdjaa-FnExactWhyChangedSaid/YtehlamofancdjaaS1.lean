/- Words and contracts for memory that the texts behind use. -/
import Derived.Test.YtehlamofancdjaaS0
import Derived.WalkKit
import Derived.Laws.OwnMore
import Derived.Deep.Draws
import Derived.Test.YtehlamofancdjaaProg
import Derived.WalkSpells
import Derived.WalkLawsBesides
import Derived.Outline
import Derived.Lib.Hide
import Derived.BigQuiet
import Derived.Deep.QuietTactic
import Derived.StillTailTactics
import Derived.Deep.LoopGhost
import Derived.Laws.MakeOwn
import Derived.WalkSmall
import Derived.RegionTactic
import Derived.BigRegion
import Derived.Deep.RegionWith
import Derived.Deep.RegionHeld3
import Derived.Maps.AppendAt
import Derived.Laws.CopyOwn

namespace Go.Proofs.Ytehlamofancdjaa
set_option linter.unusedSimpArgs false
set_option linter.unusedVariables false
open Go.RowKit
/-- The slice at A reads as the numbers xs; it lies below block B. -/
def IS (w : World) (B : Nat) (A : Option Addr) (xs : List Int) : Prop :=
  0 < xs.length → ∃ b off, A = some ⟨b, off, none⟩ ∧ b < B ∧ ∀ j, j < xs.length → w.cell? ⟨b, off + j, none⟩ = some (.int .i64 (xs.getD j 0))
theorem IS.keep {w w' : World} {B : Nat} {A : Option Addr} {xs : List Int} (h : IS w B A xs) (hk : ∀ p : Addr, p.block < B → w'.cell? p = w.cell? p) : IS w' B A xs := by
  intro hn
  obtain ⟨b, off, e, hb, hc⟩ := h hn
  exact ⟨b, off, e, hb, fun j hj => (hk _ hb).trans (hc j hj)⟩
theorem IS.below {w w' : World} {B C : Nat} {A : Option Addr} {xs : List Int} (h : IS w B A xs) (hb : Below C w w') (hC : B ≤ C) : IS w' B A xs :=
  h.keep fun _ hp => hb.cell (Nat.lt_of_lt_of_le hp hC)
end Go.Proofs.Ytehlamofancdjaa

namespace Go.Proofs.Ytehlamofancdjaa
set_option linter.unusedSimpArgs false
set_option linter.unusedVariables false
open Go.RowKit
theorem ret_b {a b : Bool} (h : a = b) : Ending.returned (.bool a) = .returned (.bool b) := by rw [h]
theorem ret_i {a b : Int} (h : a = b) : Ending.returned (.int .i64 a) = .returned (.int .i64 b) := by rw [h]
end Go.Proofs.Ytehlamofancdjaa

namespace Go.Proofs.Ytehlamofancdjaa
set_option linter.unusedSimpArgs false
set_option linter.unusedVariables false
open Go.RowKit
/-- The first index of a number, -1 if it is not there. -/
def plc (l : List Int) (x : Int) : Int := if x ∈ l then (l.idxOf x : Int) else -1
theorem plc_at (l : List Int) (x : Int) (k : Nat) (h : k < l.length) (hx : l.getD k 0 = x) (hn : ∀ j, j < k → l.getD j 0 ≠ x) : plc l x = k := by
  unfold plc
  have hm : x ∈ l := by rw [← hx]; simp [List.getD, h]
  rw [if_pos hm]
  congr 1
  apply Nat.le_antisymm
  · rcases Nat.lt_or_ge k (l.idxOf x) with h1 | h1
    · exfalso
      have h2 := List.not_of_lt_findIdx (p := (· == x)) (xs := l) (i := k) h1
      simp [List.getD, h] at hx
      simp [hx] at h2
    · exact h1
  · rcases Nat.lt_or_ge (l.idxOf x) k with h1 | h1
    · exfalso
      have h2 := List.getElem_idxOf (List.idxOf_lt_length_of_mem hm)
      have h3 := hn _ h1
      simp [List.getD, List.idxOf_lt_length_of_mem hm] at h3
    · exact h1
theorem plc_none (l : List Int) (x : Int) (hn : ∀ j, j < l.length → l.getD j 0 ≠ x) : plc l x = -1 := by
  unfold plc
  rw [if_neg]
  intro hm
  obtain ⟨k, hk, e⟩ := List.mem_iff_getElem.1 hm
  exact hn k hk (by simp [List.getD, hk, e])
end Go.Proofs.Ytehlamofancdjaa

namespace Go.Proofs.Ytehlamofancdjaa
set_option linter.unusedSimpArgs false
set_option linter.unusedVariables false
open Go.RowKit
set_option maxHeartbeats 400000 in
theorem slices_Index (A : Option Addr) (n c : Nat) (xs : List Int) (x : Int) (w : World) (B : Nat) (hB : B ≤ w.heap.size) (hn : n = xs.length) (h : IS w B A xs) (hs : n ≤ 2000000) :
    Calls Try.prog 54 #[.slice A n c, .int .i64 x] w fun e w' => e = .returned (.int .i64 (plc xs x)) ∧ w = w' := by
  have H := Lib.hid h
  have HN := Lib.hid hn
  clear hn h
  go_enter Try.func54, Try.ntmps54
  go_wp2
  go_loop [8] (fun i => ∃ k : Nat, k ≤ n ∧ i = .int .i64 k ∧ Hid (∀ j, j < k → xs.getD j 0 ≠ x)) (fun i => n - (intOf i).toNat)
  case atStart => exact ⟨0, Nat.zero_le _, rfl, fun j hj => by omega⟩
  case round =>
    obtain ⟨k, hk, rfl, HA⟩ := hrel
    by_cases hlt : k < n
    · obtain ⟨b, off, rfl, hbB, hc⟩ := H.out (by have := HN.out; omega)
      have c0 := hc k (by have := HN.out; omega)
      clear hc H
      generalize hp : xs.getD k 0 = p at *
      have HP := Lib.hid hp
      clear hp
      cases hr : (x == p)
      · have HR := Lib.hid hr
        go_wp2
        go_round
        case rel => exact ⟨k + 1, by omega, by go_num, fun j hj => by
          rcases Nat.lt_or_ge j k with h1 | h1
          · exact HA.out j h1
          · obtain rfl : j = k := by omega
            rw [HP.out]; intro e; have := HR.out; rw [e] at this; simp at this⟩
        case measure => simp [intOf]; omega
      · have HR := Lib.hid hr
        go_wp2
        go_ret
        refine ⟨ret_i ?_, rfl⟩
        exact (plc_at xs x k (by have := HN.out; omega) (by rw [HP.out]; have := HR.out; simp at this; exact this.symm) HA.out).symm
    · go_wp2
      go_ret
      refine ⟨ret_i ?_, rfl⟩
      exact (plc_none xs x fun j hj => HA.out j (by have := HN.out; omega)).symm
theorem plc_ge (l : List Int) (x : Int) : decide (0 ≤ plc l x) = decide (x ∈ l) := by
  unfold plc
  by_cases h : x ∈ l
  · simp [h]
  · simp [h]
set_option maxHeartbeats 400000 in
theorem slices_Contains (A : Option Addr) (n c : Nat) (xs : List Int) (x : Int) (w : World) (B : Nat) (hB : B ≤ w.heap.size) (hn : n = xs.length) (h : IS w B A xs) (hs : n ≤ 2000000) :
    Calls Try.prog 33 #[.slice A n c, .int .i64 x] w fun e w' => e = .returned (.bool (decide (x ∈ xs))) ∧ w = w' := by
  have H := Lib.hid h
  have HN := Lib.hid hn
  have HP := Lib.hid (plc_ge xs x)
  clear hn h
  go_enter Try.func33, Try.ntmps33
  go_wp2_with fail
  refine (slices_Index A n c xs x _ B hB HN.out H.out hs).mono ?_
  rintro e w' ⟨rfl, rfl⟩
  go_wp2
  all_goals
    go_ret
    exact ⟨ret_b (by rw [← HP.out]; try simp), rfl⟩
end Go.Proofs.Ytehlamofancdjaa

namespace Go.Proofs.Ytehlamofancdjaa
set_option linter.unusedSimpArgs false
set_option linter.unusedVariables false
open Go.RowKit
theorem IS.take {w : World} {B : Nat} {A : Option Addr} {xs : List Int} (h : IS w B A xs) (k : Nat) : IS w B A (xs.take k) := by
  intro hn
  rw [List.length_take] at hn
  obtain ⟨b, off, e, hb, hc⟩ := h (by omega)
  refine ⟨b, off, e, hb, fun j hj => ?_⟩
  rw [List.length_take] at hj
  have : (xs.take k).getD j 0 = xs.getD j 0 := by simp only [List.getD, List.getElem?_take, if_pos (show j < k by omega)]
  rw [this]
  exact hc j (by omega)
end Go.Proofs.Ytehlamofancdjaa

namespace Go.Proofs.Ytehlamofancdjaa
set_option linter.unusedSimpArgs false
set_option linter.unusedVariables false
open Go.RowKit
/-- The slice at A reads as the lists xss; all of it lies below block B. -/
def SS (w : World) (B : Nat) (A : Option Addr) (xss : List (List Int)) : Prop :=
  0 < xss.length → ∃ b off, A = some ⟨b, off, none⟩ ∧ b < B ∧ ∀ j, j < xss.length → ∃ A' n c, w.cell? ⟨b, off + j, none⟩ = some (.slice A' n c) ∧ n = (xss.getD j []).length ∧ IS w B A' (xss.getD j [])
section
variable {w w' : World} {B B' C : Nat} {A : Option Addr} {xss : List (List Int)}
theorem SS.keep (h : SS w B A xss) (hk : ∀ p : Addr, p.block < B → w'.cell? p = w.cell? p) : SS w' B A xss := by
  intro hn
  obtain ⟨b, off, e, hb, hc⟩ := h hn
  refine ⟨b, off, e, hb, fun j hj => ?_⟩
  obtain ⟨A', n, c, h1, h2, h3⟩ := hc j hj
  exact ⟨A', n, c, (hk _ hb).trans h1, h2, h3.keep hk⟩
theorem SS.below (h : SS w B A xss) (hb : Below C w w') (hC : B ≤ C) : SS w' B A xss := h.keep fun _ hp => hb.cell (Nat.lt_of_lt_of_le hp hC)
end
end Go.Proofs.Ytehlamofancdjaa

namespace Go.Proofs.Ytehlamofancdjaa
set_option linter.unusedSimpArgs false
set_option linter.unusedVariables false
open Go.RowKit
theorem filter_take_step (P : Int → Bool) (xs : List Int) (k : Nat) (h : k < xs.length) : (xs.take (k + 1)).filter P = if P (xs.getD k 0) = true then (xs.take k).filter P ++ [xs.getD k 0] else (xs.take k).filter P := by
  have hg : xs[k] = xs.getD k 0 := by simp [List.getD, h]
  rw [List.take_succ_eq_append_getElem h, List.filter_append, hg]
  generalize xs.getD k 0 = x
  clear hg
  by_cases hp : P x = true
  · rw [if_pos hp]; simp [hp]
  · rw [if_neg hp]; simp [hp]
end Go.Proofs.Ytehlamofancdjaa
