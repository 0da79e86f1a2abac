/- Words and contracts for memory that the texts behind use. -/
import Derived.Test.YtlbomopjldhmeaaB0a
import Derived.Test.YtlbomopjldhmeaaB1a
import Derived.Test.YtlbomopjldhmeaaB2a
import Derived.Test.YtlbomopjldhmeaaB3a
import Derived.Test.YtlbomopjldhmeaaB4a
import Derived.Test.YtlbomopjldhmeaaB5a
import Derived.Test.YtlbomopjldhmeaaB6a
import Derived.Test.YtlbomopjldhmeaaB7a
import Derived.Test.YtlbomopjldhmeaaB8a
import Derived.Test.YtlbomopjldhmeaaB9a
import Derived.Test.YtlbomopjldhmeaaB10a
import Derived.Test.YtlbomopjldhmeaaB11a
import Derived.Test.YtlbomopjldhmeaaB12a
import Derived.WalkKit
import Derived.Laws.OwnMore
import Derived.Deep.Draws
import Derived.Test.YtlbomopjldhmeaaProg
import Derived.WalkSpells
import Derived.WalkLawsBesides
import Derived.Outline
import Derived.Lib.Hide
import Derived.BigQuiet
import Derived.Deep.QuietTactic
import Derived.StillTailTactics
import Derived.Deep.LoopGhost
import Derived.Laws.MakeOwn
import Derived.WalkSmall
import Derived.RegionTactic
import Derived.BigRegion
import Derived.Deep.RegionWith
import Derived.Deep.RegionHeld3
import Derived.Laws.Entries
import Derived.Laws.Bits64
import Derived.IntWalk
import Derived.Maps.AppendAt
import Derived.Deep.RegionLaw
import Derived.Deep.AppendLies
import Derived.Deep.Cut
import Derived.Deep.DeepCutAuto
import Derived.Laws.CopyOwn
import Derived.ArgAppend
import Derived.RangeFuncNested
import Derived.RangeFuncBound
import Derived.RangeFuncCalls
import Derived.RangeFuncLeaves
import Derived.RangeFuncBox
import Derived.Shelf.Abstract
import Derived.Shelf.RegionOpen
import Derived.OwnWalkIn
import Derived.TacticsInMore
import Derived.LoopNIn
import Derived.LoopIn
import Derived.Sort.QuietIn
import Derived.Sort.QuietTacIn
import Derived.RegionIn
import Derived.Sort.CutIn

namespace Go.Proofs.Ytlbomopjldhmeaa
set_option linter.unusedSimpArgs false
set_option linter.unusedVariables false
open Go.RowKit
set_option maxHeartbeats 800000 in
theorem laws_place (A : Option Addr) (n c : Nat) (xs : List Int) (x : Int) (w : World) (B : Nat) (hB : B ≤ w.heap.size) (hn : n = xs.length) (h : IS w B A xs) (hs : n ≤ 2000000) :
    Calls Try.prog 28 #[.slice A n c, .int .i64 x] w fun e w' => e = .returned (.int .i64 (plc xs x)) ∧ w = w' := by
  have H := Lib.hid h
  have HN := Lib.hid hn
  clear hn h
  go_enter Try.func28, Try.ntmps28
  go_wp2
  go_loop [5] (fun i => ∃ k : Nat, k ≤ n ∧ i = .int .i64 k ∧ Hid (∀ j, j < k → xs.getD j 0 ≠ x)) (fun i => n - (intOf i).toNat)
  case atStart => exact ⟨0, Nat.zero_le _, rfl, fun j hj => by omega⟩
  case round =>
    obtain ⟨k, hk, rfl, HA⟩ := hrel
    by_cases hlt : k < n
    · obtain ⟨b, off, rfl, hbB, hc⟩ := H.out (by have := HN.out; omega)
      have c0 := hc k (by have := HN.out; omega)
      clear hc H
      generalize hp : xs.getD k 0 = p at *
      have HP := Lib.hid hp
      clear hp
      cases hr : (p == x)
      · have HR := Lib.hid hr
        go_wp2
        go_round
        case rel => exact ⟨k + 1, by omega, by go_num, fun j hj => by
          rcases Nat.lt_or_ge j k with h1 | h1
          · exact HA.out j h1
          · obtain rfl : j = k := by omega
            rw [HP.out]; simpa using HR.out⟩
        case measure => simp [intOf]; omega
      · have HR := Lib.hid hr
        go_wp2
        go_ret
        refine ⟨ret_i ?_, rfl⟩
        exact (plc_at xs x k (by have := HN.out; omega) (by rw [HP.out]; simpa using HR.out) HA.out).symm
    · go_wp2
      go_ret
      refine ⟨ret_i ?_, rfl⟩
      exact (plc_none xs x fun j hj => HA.out j (by have := HN.out; omega)).symm
set_option maxHeartbeats 800000 in
theorem laws_isIn (A : Option Addr) (n c : Nat) (xs : List Int) (x : Int) (w : World) (B : Nat) (hB : B ≤ w.heap.size) (hn : n = xs.length) (h : IS w B A xs) (hs : n ≤ 2000000) :
    Calls Try.prog 27 #[.slice A n c, .int .i64 x] w fun e w' => e = .returned (.bool (decide (x ∈ xs))) ∧ w = w' := by
  have H := Lib.hid h
  have HN := Lib.hid hn
  clear hn h
  go_enter Try.func27, Try.ntmps27
  go_wp2
  go_loop [5] (fun i => ∃ k : Nat, k ≤ n ∧ i = .int .i64 k ∧ Hid (∀ j, j < k → xs.getD j 0 ≠ x)) (fun i => n - (intOf i).toNat)
  case atStart => exact ⟨0, Nat.zero_le _, rfl, fun j hj => by omega⟩
  case round =>
    obtain ⟨k, hk, rfl, HA⟩ := hrel
    by_cases hlt : k < n
    · obtain ⟨b, off, rfl, hbB, hc⟩ := H.out (by have := HN.out; omega)
      have c0 := hc k (by have := HN.out; omega)
      clear hc H
      generalize hp : xs.getD k 0 = p at *
      have HP := Lib.hid hp
      clear hp
      cases hr : (p == x)
      · have HR := Lib.hid hr
        go_wp2
        go_round
        case rel => exact ⟨k + 1, by omega, by go_num, fun j hj => by
          rcases Nat.lt_or_ge j k with h1 | h1
          · exact HA.out j h1
          · obtain rfl : j = k := by omega
            rw [HP.out]; simpa using HR.out⟩
        case measure => simp [intOf]; omega
      · have HR := Lib.hid hr
        go_wp2
        go_ret
        refine ⟨ret_b ?_, rfl⟩
        symm
        apply decide_eq_true
        have h1 : k < xs.length := by have := HN.out; omega
        have h2 := HP.out
        have h3 : p = x := by simpa using HR.out
        rw [← h3, ← h2]
        simp [List.getD, h1]
    · go_wp2
      go_ret
      refine ⟨ret_b ?_, rfl⟩
      symm
      apply decide_eq_false
      intro hm
      obtain ⟨j, hj, he⟩ := List.mem_iff_getElem.1 hm
      exact HA.out j (by have := HN.out; omega) (by simp [List.getD, hj, he])
end Go.Proofs.Ytlbomopjldhmeaa

namespace Go.Proofs.Ytlbomopjldhmeaa
set_option linter.unusedSimpArgs false
set_option linter.unusedVariables false
open Go.RowKit
set_option maxHeartbeats 800000 in
theorem laws_within (A A' : Option Addr) (n c m c' : Nat) (xs ys : List Int) (w : World) (B : Nat) (hB : B ≤ w.heap.size) (hn : n = xs.length) (h : IS w B A xs) (hs : n ≤ 2000000) (hm : m = ys.length) (h' : IS w B A' ys) (hs' : m ≤ 2000000) (hd : ∀ x ∈ xs, x ∈ ys) :
    Calls Try.prog 29 #[.slice A n c, .slice A' m c'] w fun e w' => e = .returned (.bool true) ∧ w = w' := by
  have H := Lib.hid h
  have HN := Lib.hid hn
  have HIN := Lib.hid fun (y : Int) => laws_isIn A' m c' ys y w B hB hm h' hs'
  have HD := Lib.hid hd
  clear hn h hd hm h'
  go_enter Try.func29, Try.ntmps29
  go_wp2
  go_loop [5] (fun i => ∃ k : Nat, k ≤ n ∧ i = .int .i64 k) (fun i => n - (intOf i).toNat)
  case atStart => exact ⟨0, Nat.zero_le _, rfl⟩
  case round =>
    obtain ⟨k, hk, rfl⟩ := hrel
    by_cases hlt : k < n
    · have hkx : k < xs.length := by have := HN.out; omega
      obtain ⟨b, off, rfl, hbB, hc⟩ := H.out (by have := HN.out; omega)
      have c0 := hc k hkx
      have HC := Lib.hid (HIN.out (xs.getD k 0))
      rw [decide_eq_true (HD.out (xs.getD k 0) (by simp [List.getD, hkx]))] at HC
      clear hc
      generalize xs.getD k 0 = x at *
      go_wp2_with fail
      refine HC.out.mono ?_
      rintro e w' ⟨rfl, rfl⟩
      go_wp2
      go_round
      case rel => exact ⟨k + 1, by omega, by go_num⟩
      case measure => simp [intOf]; omega
    · go_wp2
      go_ret
      exact ⟨rfl, rfl⟩
end Go.Proofs.Ytlbomopjldhmeaa

namespace Go.Proofs.Ytlbomopjldhmeaa
set_option linter.unusedSimpArgs false
set_option linter.unusedVariables false
open Go.RowKit
theorem cntA_take (ps : List Ac) (k : Int) (i : Nat) (h : i < ps.length) : cntA (ps.take (i + 1)) k = cntA (ps.take i) k + if (ps.getD i default).k = k then 1 else 0 := by
  rw [List.take_succ_eq_append_getElem h, cntA_snoc]; simp [List.getD, h]
set_option maxRecDepth 100000 in
set_option maxHeartbeats 1600000 in
theorem laws_countChanges (A : Option Addr) (n c : Nat) (ps : List Ac) (q : Int) (w : World) (B : Nat) (hB : B ≤ w.heap.size) (hn : n = ps.length) (h : CS w B A ps) (hs : n ≤ 2000000) :
    Calls Try.prog 26 #[.slice A n c, .int .i64 q] w fun e w' => e = .returned (.int .i64 (cntA ps q : Nat)) ∧ w = w' := by
  have HN := Lib.hid hn
  have H := Lib.hid h
  clear hn h
  go_enter Try.func26, Try.ntmps26
  go_wp2
  go_loopw [5, 6] (fun u i wr => ∃ k : Nat, k ≤ n ∧ i = .int .i64 k ∧ u = .int .i64 (cntA (ps.take k) q : Nat) ∧ w = wr) (fun _ i _ => n - (intOf i).toNat)
  case atStart => exact ⟨0, Nat.zero_le _, rfl, by simp [cntA], rfl⟩
  case round =>
    obtain ⟨k, hk, rfl, rfl, rfl⟩ := hrel
    have hcl : cntA (ps.take k) q ≤ 2000000 := by
      unfold cntA
      have := List.length_filter_le (fun c : Ac => c.k == q) (ps.take k)
      have := List.length_take_le k ps
      omega
    by_cases hlt : k < n
    · obtain ⟨b, off, rfl, hbB, hc⟩ := H.out (by have := HN.out; omega)
      obtain ⟨c0, c1, c2⟩ := hc k (by have := HN.out; omega)
      have HST := Lib.hid (cntA_take ps q k (by have := HN.out; omega))
      clear hc H c1 c2
      generalize ps.getD k default = p at *
      generalize p.k = x at *
      obtain ⟨m, hm⟩ : ∃ m, m = cntA (ps.take k) q := ⟨_, rfl⟩
      have HM := Lib.hid hm
      rw [← hm] at hcl ⊢
      clear hm
      by_cases hx : x = q
      · subst hx
        have HS2 : Hid (cntA (ps.take (k + 1)) x = m + 1) := by rw [HST.out, if_pos rfl, ← HM.out]; rfl
        clear HST
        have hxx : (x == x) = true := by simp
        go_wp2
        go_roundw
        case rel => exact ⟨k + 1, by omega, by go_num, by rw [HS2.out]; go_num, by first | rfl | trivial⟩
        case measure => simp [intOf]; omega
      · have HS2 : Hid (cntA (ps.take (k + 1)) q = m) := by rw [HST.out, if_neg hx, ← HM.out]; rfl
        have hxx : (x == q) = false := by simpa using hx
        clear HST hx
        go_wp2
        go_roundw
        case rel => exact ⟨k + 1, by omega, by go_num, by rw [HS2.out], by first | rfl | trivial⟩
        case measure => simp [intOf]; omega
    · obtain rfl : k = n := by omega
      have htk : ps.take k = ps := List.take_of_length_le (by have := HN.out; omega)
      rw [htk] at hcl ⊢
      obtain ⟨m, hm⟩ : ∃ m, m = cntA ps q := ⟨_, rfl⟩
      have HM := Lib.hid hm
      rw [← hm] at hcl ⊢
      clear htk hm
      go_wp2
      go_ret
      exact ⟨ret_i (by rw [HM.out]), by first | rfl | trivial⟩
end Go.Proofs.Ytlbomopjldhmeaa
