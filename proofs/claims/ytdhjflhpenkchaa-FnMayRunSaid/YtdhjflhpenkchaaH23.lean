/- Words and contracts for memory that the texts behind use. -/
import Derived.Test.YtdhjflhpenkchaaH0a
import Derived.Test.YtdhjflhpenkchaaH0b
import Derived.Test.YtdhjflhpenkchaaH0
import Derived.Test.YtdhjflhpenkchaaH1
import Derived.Test.YtdhjflhpenkchaaH2
import Derived.Test.YtdhjflhpenkchaaH3
import Derived.Test.YtdhjflhpenkchaaH4
import Derived.Test.YtdhjflhpenkchaaH6
import Derived.Test.YtdhjflhpenkchaaH5
import Derived.Test.YtdhjflhpenkchaaH7
import Derived.Test.YtdhjflhpenkchaaH8
import Derived.Test.YtdhjflhpenkchaaH9
import Derived.Test.YtdhjflhpenkchaaH10
import Derived.Test.YtdhjflhpenkchaaH11
import Derived.Test.YtdhjflhpenkchaaH13
import Derived.Test.YtdhjflhpenkchaaH14
import Derived.Test.YtdhjflhpenkchaaH15
import Derived.Test.YtdhjflhpenkchaaH16
import Derived.Test.YtdhjflhpenkchaaH17
import Derived.Test.YtdhjflhpenkchaaH18
import Derived.Test.YtdhjflhpenkchaaH21
import Derived.Test.YtdhjflhpenkchaaH22
import Derived.WalkKit
import Derived.Laws.OwnMore
import Derived.Deep.Draws
import Derived.Test.YtdhjflhpenkchaaProg
import Derived.WalkSpells
import Derived.WalkLawsBesides
import Derived.Outline
import Derived.Lib.Hide
import Derived.BigQuiet
import Derived.Deep.QuietTactic
import Derived.StillTailTactics
import Derived.Deep.LoopGhost
import Derived.Laws.MakeOwn
import Derived.WalkSmall
import Derived.RegionTactic
import Derived.BigRegion
import Derived.Deep.RegionWith
import Derived.Deep.RegionHeld3
import Derived.Laws.Entries
import Derived.Laws.Bits64
import Derived.IntWalk
import Derived.Maps.AppendAt
import Derived.Deep.RegionLaw
import Derived.Deep.AppendLies
import Derived.Deep.Cut
import Derived.Deep.DeepCutAuto
import Derived.Laws.CopyOwn
import Derived.Maps.Own
import Derived.Maps.Views
import Derived.ChangeAlike
import Derived.Lib.SliceRun
import Derived.BigFrame

namespace Go.Proofs.Ytdhjflhpenkchaa
set_option linter.unusedSimpArgs false
set_option linter.unusedVariables false
open Go.RowKit
/-- Different cells of a graph. -/
def wrB (gs : List Nd) (xs : List Int) : Bool := decide (∀ k, k < xs.length → isC gs (xs.getD k 0) = true) && decide xs.Nodup
end Go.Proofs.Ytdhjflhpenkchaa

namespace Go.Proofs.Ytdhjflhpenkchaa
set_option linter.unusedSimpArgs false
set_option linter.unusedVariables false
open Go.RowKit
/-- Nodes that are no cells. -/
def ncB (gs : List Nd) (x : Int) : Bool := !((gs.getD x.toNat default).k == 0)
/-- What MayRun answers. -/
def mrB (gs : List Nd) (xs : List Int) : Bool := validG gs && (decide (xs.length ≤ 10) && wrB gs xs)
def mrF (gs : List Nd) (xs : List Int) : List Int := if mrB gs xs then (reachTo gs xs gs.length).filter (ncB gs) else []
end Go.Proofs.Ytdhjflhpenkchaa

namespace Go.Proofs.Ytdhjflhpenkchaa
set_option linter.unusedSimpArgs false
set_option linter.unusedVariables false
open Go.RowKit
theorem SSk.one {lo hi g m c : Nat} {D : List Int} {w : World} (hd : w.ownsRow lo 3 1 (.slice (some ⟨g, 0, none⟩) m c) m (D.map (Value.int .i64))) (hm : m = D.length) (hg : g < hi) : SSk lo hi [.slice (some ⟨g, 0, none⟩) m c] (lenOf [D]) (rowOf [D]) w := by
  refine ⟨fun j hj => ?_, fun i j v u k hij h1 h2 _ => ?_⟩
  · obtain rfl : j = 0 := by simp at hj; omega
    exact ⟨_, m, c, rfl, by simp [lenOf, List.getD]; exact hm, by simpa [rowOf, List.getD] using hd, fun k hk => by cases hk; exact hg⟩
  · have a1 : i = 0 := by
      rcases i with _ | i
      · rfl
      · simp at h1
    have a2 : j = 0 := by
      rcases j with _ | j
      · rfl
      · simp at h2
    omega
/-- A row of one list that the call has just made. -/
theorem OwSS.one {lo g m c : Nat} {D : List Int} {w : World} (hd : w.ownsRow lo 3 1 (.slice (some ⟨g, 0, none⟩) m c) m (D.map (Value.int .i64))) (hm : m = D.length) (hlo : lo ≤ w.heap.size) : OwSS lo (w.heap.size + 1) (.slice (some ⟨w.heap.size, 0, none⟩) 1 1) 1 [D] (w.alloc (.cells #[.slice (some ⟨g, 0, none⟩) m c] 28)) := by
  have hl := (hd.lt g rfl).2
  refine ⟨by simp, [.slice (some ⟨g, 0, none⟩) m c], ?_, SSk.one (World.ownsRow.alloc hd _) hm (by omega)⟩
  have := OwR.start (World.ownsRow_lit (e := 28) (size := 1) (base := lo) w #[.slice (some ⟨g, 0, none⟩) m c] 1 hlo (by unfold maxLen; omega) rfl)
  simpa using this
/-- A row of one list that was there before. -/
theorem SS.one {w : World} {B m c : Nat} {A : Option Addr} {xs : List Int} (h : IS w B A xs) (hB : B ≤ w.heap.size) (hm : m = xs.length) (t : TypeId) : SS (w.alloc (.cells #[.slice A m c] t)) (w.heap.size + 1) (some ⟨w.heap.size, 0, none⟩) [xs] := by
  intro _
  refine ⟨_, 0, rfl, Nat.lt_succ_self _, fun j hj => ?_⟩
  obtain rfl : j = 0 := by simp at hj; omega
  exact ⟨A, m, c, by go_simp, by simpa [List.getD] using hm, by simpa [List.getD] using (h.alloc hB (.cells #[.slice A m c] t)).more (B' := w.heap.size + 1) (by omega)⟩
end Go.Proofs.Ytdhjflhpenkchaa

namespace Go.Proofs.Ytdhjflhpenkchaa
set_option linter.unusedSimpArgs false
set_option linter.unusedVariables false
open Go.RowKit
theorem nodup_le : ∀ (m : Nat) (L : List Int), L.Nodup → (∀ x ∈ L, 0 ≤ x ∧ x < (m : Int)) → L.length ≤ m := by
  intro m
  induction m with
  | zero =>
    intro L _ h
    cases L with
    | nil => simp
    | cons x r => have := h x (by simp); omega
  | succ m ih =>
    intro L hn h
    have h1 := ih (L.erase (m : Int)) (hn.erase _) (fun x hx => by
      have h2 := (hn.mem_erase_iff).1 hx
      have h3 := h x h2.2
      have h4 := h2.1
      omega)
    rw [List.length_erase] at h1
    split at h1 <;> omega
theorem wrB_parts (gs : List Nd) (xs : List Int) (h : wrB gs xs = true) : xs.Nodup ∧ stOK gs xs := by
  unfold wrB at h
  simp only [Bool.and_eq_true, decide_eq_true_eq] at h
  refine ⟨h.2, fun x hx => ?_⟩
  obtain ⟨k, hk, rfl⟩ := List.getElem_of_mem hx
  have h1 := h.1 k hk
  have e : xs.getD k 0 = xs[k] := by simp [List.getD, hk]
  rw [e] at h1
  unfold isC at h1
  simp only [Bool.and_eq_true] at h1
  obtain ⟨t, ht, htl⟩ := hasN_nat gs _ h1.1
  rw [ht]; omega
theorem wrB_len (gs : List Nd) (xs : List Int) (h : wrB gs xs = true) : xs.length ≤ gs.length := by
  obtain ⟨h1, h2⟩ := wrB_parts gs xs h
  exact nodup_le gs.length xs h1 h2
theorem mrB_eq (gs : List Nd) (xs : List Int) : mrB gs xs = (validG gs && wrB gs xs) := by
  unfold mrB
  cases hv : validG gs
  · rfl
  · cases hw : wrB gs xs
    · simp
    · have := wrB_len gs xs hw
      have := (validG_parts gs hv).1
      rw [decide_eq_true (by omega)]; rfl
end Go.Proofs.Ytdhjflhpenkchaa
