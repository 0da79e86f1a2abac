/- Words and contracts for memory that the texts behind use. -/
import Derived.Test.YtdhjflhpenkchaaH0a
import Derived.Test.YtdhjflhpenkchaaH0b
import Derived.Test.YtdhjflhpenkchaaH0
import Derived.Test.YtdhjflhpenkchaaH1
import Derived.WalkKit
import Derived.Laws.OwnMore
import Derived.Deep.Draws
import Derived.Test.YtdhjflhpenkchaaProg
import Derived.WalkSpells
import Derived.WalkLawsBesides
import Derived.Outline
import Derived.Lib.Hide
import Derived.BigQuiet
import Derived.Deep.QuietTactic
import Derived.StillTailTactics
import Derived.Deep.LoopGhost
import Derived.Laws.MakeOwn
import Derived.WalkSmall
import Derived.RegionTactic
import Derived.BigRegion
import Derived.Deep.RegionWith
import Derived.Deep.RegionHeld3
import Derived.Laws.Entries
import Derived.Laws.Bits64
import Derived.IntWalk
import Derived.Maps.AppendAt
import Derived.Deep.RegionLaw
import Derived.Deep.AppendLies
import Derived.Deep.Cut
import Derived.Deep.DeepCutAuto

namespace Go.Proofs.Ytdhjflhpenkchaa
set_option linter.unusedSimpArgs false
set_option linter.unusedVariables false
open Go.RowKit
/-- What MayRead answers. -/
def mayF (ps : List Pt) : List Int := if validF ps then mayR ps else []
end Go.Proofs.Ytdhjflhpenkchaa

namespace Go.Proofs.Ytdhjflhpenkchaa
set_option linter.unusedSimpArgs false
set_option linter.unusedVariables false
open Go.RowKit
theorem OwG.ncap {lo hi n c : Nat} {A : Option Addr} {gs : List Nd} {w : World} (h : OwG lo hi (.slice A n c) n gs w) : n ≤ c := by
  obtain ⟨_, xs, h1, _⟩ := h
  rcases h1.1.2 with ⟨hv, hz⟩ | ⟨g, cap, cur, hv, _, _, h2, _⟩
  · omega
  · simp only [Value.slice.injEq] at hv
    obtain ⟨_, _, rfl⟩ := hv
    exact h2
end Go.Proofs.Ytdhjflhpenkchaa

namespace Go.Proofs.Ytdhjflhpenkchaa
set_option linter.unusedSimpArgs false
set_option linter.unusedVariables false
open Go.RowKit
/-- Returns a fresh reader that has not picked yet. -/
def RdP (w : World) (e : Ending) (w' : World) : Prop :=
  ∃ (g : Nat) (A : Option Addr) (n c : Nat) (bs : List Int), e = .returned (.pointer (some ⟨g, 0, none⟩)) ∧ n = bs.length ∧ n ≤ 2000 ∧ BY bs ∧ Rdr g A n c bs 0 w' ∧ w.heap.size ≤ g ∧ Below w.heap.size w w'
theorem BY.take {bs : List Int} (h : BY bs) (k : Nat) : BY (bs.take k) := by
  intro j
  by_cases hj : j < k
  · have : (bs.take k).getD j 0 = bs.getD j 0 := by simp only [List.getD, List.getElem?_take, if_pos hj]
    rw [this]; exact h j
  · have : (bs.take k).getD j 0 = 0 := by simp only [List.getD, List.getElem?_take, if_neg hj]; rfl
    rw [this]; omega
theorem BS.take {w : World} {B : Nat} {A : Option Addr} {bs : List Int} (h : BS w B A bs) (k : Nat) : BS w B A (bs.take k) := by
  intro hn
  rw [List.length_take] at hn
  obtain ⟨b, off, e, hb, hc⟩ := h (by omega)
  refine ⟨b, off, e, hb, fun j hj => ?_⟩
  rw [List.length_take] at hj
  have : (bs.take k).getD j 0 = bs.getD j 0 := by simp only [List.getD, List.getElem?_take, if_pos (show j < k by omega)]
  rw [this]
  exact hc j (by omega)
set_option maxHeartbeats 800000 in
theorem spec_newReader (A : Option Addr) (n c : Nat) (bs : List Int) (w : World) (B : Nat) (hB : B ≤ w.heap.size) (hn : n = bs.length) (hnc : n ≤ c) (h : BS w B A bs) (hy : BY bs) (hs : n ≤ 1048576) :
    Calls Try.prog 54 #[.slice A n c] w fun e w' => RdP w e w' := by
  by_cases h2 : 2000 < n
  · have h3 : 2000 ≤ c := by omega
    obtain ⟨b, off, rfl, hb, hc⟩ := h (by omega)
    have H := Lib.hid (BS.take (w := w) (B := B) (A := some ⟨b, off, none⟩) (bs := bs) (fun _ => ⟨b, off, rfl, hb, hc⟩) 2000)
    have HY := Lib.hid (hy.take 2000)
    have HL : Hid ((bs.take 2000).length = 2000) := by show _ = _; rw [List.length_take]; omega
    generalize bs.take 2000 = ds at *
    clear h hy hn hc
    go_enter Try.func54, Try.ntmps54
    go_wp2
    go_ret
    refine ⟨w.heap.size, some ⟨b, off, none⟩, 2000, c, ds, rfl, HL.out.symm, by omega, HY.out, ⟨by simp, by go_simp, ⟨0, Nat.le_refl _, by go_simp⟩, by go_simp, ?_⟩, ?_, ?_⟩
    · exact (H.out.keep fun p hp => World.cell?_alloc_lt w _ p (by omega)).more hB
    · exact Nat.le_refl _
    · exact (Below.refl _ _).alloc (Nat.le_refl _) _
  · have H := Lib.hid h
    have HN := Lib.hid hn
    clear h hn
    go_enter Try.func54, Try.ntmps54
    go_wp2
    go_ret
    refine ⟨w.heap.size, A, n, c, bs, rfl, HN.out, by omega, hy, ⟨by simp, by go_simp, ⟨0, Nat.le_refl _, by go_simp⟩, by go_simp, ?_⟩, ?_, ?_⟩
    · exact (H.out.keep fun p hp => World.cell?_alloc_lt w _ p (by omega)).more hB
    · exact Nat.le_refl _
    · exact (Below.refl _ _).alloc (Nat.le_refl _) _
end Go.Proofs.Ytdhjflhpenkchaa

namespace Go.Proofs.Ytdhjflhpenkchaa
set_option linter.unusedSimpArgs false
set_option linter.unusedVariables false
open Go.RowKit
set_option maxHeartbeats 800000 in
theorem laws_isIn (A : Option Addr) (n c : Nat) (xs : List Int) (x : Int) (w : World) (B : Nat) (hB : B ≤ w.heap.size) (hn : n = xs.length) (h : IS w B A xs) (hs : n ≤ 2000000) :
    Calls Try.prog 18 #[.slice A n c, .int .i64 x] w fun e w' => e = .returned (.bool (decide (x ∈ xs))) ∧ w = w' := by
  have H := Lib.hid h
  have HN := Lib.hid hn
  clear hn h
  go_enter Try.func18, Try.ntmps18
  go_wp2
  go_loop [5] (fun i => ∃ k : Nat, k ≤ n ∧ i = .int .i64 k ∧ Hid (∀ j, j < k → xs.getD j 0 ≠ x)) (fun i => n - (intOf i).toNat)
  case atStart => exact ⟨0, Nat.zero_le _, rfl, fun j hj => by omega⟩
  case round =>
    obtain ⟨k, hk, rfl, HA⟩ := hrel
    by_cases hlt : k < n
    · obtain ⟨b, off, rfl, hbB, hc⟩ := H.out (by have := HN.out; omega)
      have c0 := hc k (by have := HN.out; omega)
      clear hc H
      generalize hp : xs.getD k 0 = p at *
      have HP := Lib.hid hp
      clear hp
      cases hr : (p == x)
      · have HR := Lib.hid hr
        go_wp2
        go_round
        case rel => exact ⟨k + 1, by omega, by go_num, fun j hj => by
          rcases Nat.lt_or_ge j k with h1 | h1
          · exact HA.out j h1
          · obtain rfl : j = k := by omega
            rw [HP.out]; simpa using HR.out⟩
        case measure => simp [intOf]; omega
      · have HR := Lib.hid hr
        go_wp2
        go_ret
        refine ⟨ret_b ?_, rfl⟩
        symm
        apply decide_eq_true
        have h1 : k < xs.length := by have := HN.out; omega
        have h2 := HP.out
        have h3 : p = x := by simpa using HR.out
        rw [← h3, ← h2]
        simp [List.getD, h1]
    · go_wp2
      go_ret
      refine ⟨ret_b ?_, rfl⟩
      symm
      apply decide_eq_false
      intro hm
      obtain ⟨j, hj, he⟩ := List.mem_iff_getElem.1 hm
      exact HA.out j (by have := HN.out; omega) (by simp [List.getD, hj, he])
end Go.Proofs.Ytdhjflhpenkchaa

namespace Go.Proofs.Ytdhjflhpenkchaa
set_option linter.unusedSimpArgs false
set_option linter.unusedVariables false
open Go.RowKit
theorem PS.set0 {w : World} {B g : Nat} {A : Option Addr} {ps : List Pt} (h : PS w B A ps) (hne : ∀ b off, A = some ⟨b, off, none⟩ → b ≠ g) (j : Nat) (x : Value) : PS (w.setCell ⟨g, j, none⟩ x) B A ps := by
  intro hn
  obtain ⟨b, off, e, hb, hc⟩ := h hn
  have hbg := hne b off e
  have k : ∀ i : Nat, (w.setCell ⟨g, j, none⟩ x).cell? ⟨b, i, none⟩ = w.cell? ⟨b, i, none⟩ := fun i => World.cell?_setCell_other _ _ _ _ (by intro e; cases e; exact hbg rfl)
  refine ⟨b, off, e, hb, fun i hi => ?_⟩
  obtain ⟨a0, a1, a2, a3, a4⟩ := hc i hi
  exact ⟨(k _).trans a0, (k _).trans a1, (k _).trans a2, (k _).trans a3, (k _).trans a4⟩
theorem IS.set0 {w : World} {B g : Nat} {A : Option Addr} {xs : List Int} (h : IS w B A xs) (hne : ∀ b off, A = some ⟨b, off, none⟩ → b ≠ g) (j : Nat) (x : Value) : IS (w.setCell ⟨g, j, none⟩ x) B A xs := by
  intro hn
  obtain ⟨b, off, e, hb, hc⟩ := h hn
  have hbg := hne b off e
  exact ⟨b, off, e, hb, fun i hi => (World.cell?_setCell_other _ _ _ _ (by intro e; cases e; exact hbg rfl)).trans (hc i hi)⟩
end Go.Proofs.Ytdhjflhpenkchaa

namespace Go.Proofs.Ytdhjflhpenkchaa
set_option linter.unusedSimpArgs false
set_option linter.unusedVariables false
open Go.RowKit
set_option maxHeartbeats 800000 in
theorem laws_within (A A' : Option Addr) (n c m c' : Nat) (xs ys : List Int) (w : World) (B : Nat) (hB : B ≤ w.heap.size) (hn : n = xs.length) (h : IS w B A xs) (hs : n ≤ 2000000) (hm : m = ys.length) (h' : IS w B A' ys) (hs' : m ≤ 2000000) (hd : ∀ x ∈ xs, x ∈ ys) :
    Calls Try.prog 24 #[.slice A n c, .slice A' m c'] w fun e w' => e = .returned (.bool true) ∧ w = w' := by
  have H := Lib.hid h
  have HN := Lib.hid hn
  have HIN := Lib.hid fun (y : Int) => laws_isIn A' m c' ys y w B hB hm h' hs'
  have HD := Lib.hid hd
  clear hn h hd hm h'
  go_enter Try.func24, Try.ntmps24
  go_wp2
  go_loop [5] (fun i => ∃ k : Nat, k ≤ n ∧ i = .int .i64 k) (fun i => n - (intOf i).toNat)
  case atStart => exact ⟨0, Nat.zero_le _, rfl⟩
  case round =>
    obtain ⟨k, hk, rfl⟩ := hrel
    by_cases hlt : k < n
    · have hkx : k < xs.length := by have := HN.out; omega
      obtain ⟨b, off, rfl, hbB, hc⟩ := H.out (by have := HN.out; omega)
      have c0 := hc k hkx
      have HC := Lib.hid (HIN.out (xs.getD k 0))
      rw [decide_eq_true (HD.out (xs.getD k 0) (by simp [List.getD, hkx]))] at HC
      clear hc
      generalize xs.getD k 0 = x at *
      go_wp2_with fail
      refine HC.out.mono ?_
      rintro e w' ⟨rfl, rfl⟩
      go_wp2
      go_round
      case rel => exact ⟨k + 1, by omega, by go_num⟩
      case measure => simp [intOf]; omega
    · go_wp2
      go_ret
      exact ⟨rfl, rfl⟩
end Go.Proofs.Ytdhjflhpenkchaa
