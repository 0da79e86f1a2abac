/- Words and contracts for memory that the texts behind use. -/
import Derived.Test.YtcfiondggnbnoaaS0
import Derived.Test.YtcfiondggnbnoaaS1
import Derived.Test.YtcfiondggnbnoaaS2
import Derived.Test.YtcfiondggnbnoaaS3
import Derived.Test.YtcfiondggnbnoaaS4
import Derived.Test.YtcfiondggnbnoaaS5
import Derived.Test.YtcfiondggnbnoaaS6
import Derived.Test.YtcfiondggnbnoaaS7
import Derived.Test.YtcfiondggnbnoaaS8
import Derived.Test.YtcfiondggnbnoaaS9
import Derived.Test.YtcfiondggnbnoaaS10
import Derived.Test.YtcfiondggnbnoaaS11
import Derived.Test.YtcfiondggnbnoaaS12
import Derived.Test.YtcfiondggnbnoaaS13
import Derived.Test.YtcfiondggnbnoaaS14
import Derived.Test.YtcfiondggnbnoaaS15
import Derived.Test.YtcfiondggnbnoaaS16
import Derived.WalkKit
import Derived.Laws.OwnMore
import Derived.Deep.Draws
import Derived.Test.YtcfiondggnbnoaaProg
import Derived.WalkSpells
import Derived.WalkLawsBesides
import Derived.Outline
import Derived.Lib.Hide
import Derived.BigQuiet
import Derived.Deep.QuietTactic
import Derived.StillTailTactics
import Derived.Deep.LoopGhost
import Derived.Laws.MakeOwn
import Derived.WalkSmall
import Derived.RegionTactic
import Derived.BigRegion
import Derived.Deep.RegionWith
import Derived.Deep.RegionHeld3
import Derived.Maps.AppendAt
import Derived.Laws.CopyOwn
import Derived.ChangeAlike
import Derived.Laws.Entries
import Derived.Laws.Bits64
import Derived.IntWalk
import Derived.Deep.RegionLaw
import Derived.Deep.AppendLies
import Derived.Deep.Cut
import Derived.Deep.DeepCutAuto

namespace Go.Proofs.Ytcfiondggnbnoaa
set_option linter.unusedSimpArgs false
set_option linter.unusedVariables false
open Go.RowKit
set_option maxHeartbeats 800000 in
theorem laws_toIntS (A : Option Addr) (n c : Nat) (xs : List Int) (w : World) (B : Nat) (hB : B ≤ w.heap.size) (hn : n = xs.length) (h : IS w B A xs) (hs : n ≤ 2000000) :
    Calls Try.prog 24 #[.slice A n c] w fun e w' => e = .returned (.slice (some ⟨w.heap.size, 0, none⟩) n n) ∧ w'.ownsRow w.heap.size 3 1 (.slice (some ⟨w.heap.size, 0, none⟩) n n) n (xs.map (Value.int .i64)) ∧ Below w.heap.size w w' := by
  obtain ⟨i0, hi, hz0, hz1, hz2⟩ := info_parts info_int
  obtain ⟨w0, hmk, hown0, hgr0⟩ := run_make_full (P := Try.prog) w w.heap.size 26 3 i0 _ 1 Try.underlying26 hi hz0 hz1 .i64 .i64 n (by rw [hz2]; omega) (by unfold maxLen; omega) (Nat.le_refl _)
  have H := Lib.hid h
  have HN := Lib.hid hn
  clear hn h
  go_enter Try.func24, Try.ntmps24
  go_wp2
  go_loopw [4] (fun i wr => ∃ (k : Nat) (vs : List Value), k ≤ n ∧ i = .int .i64 k ∧ Hid (wr.ownsRow w.heap.size 3 1 (.slice (some ⟨w.heap.size, 0, none⟩) n n) n vs) ∧ Hid (vs.take k = (xs.take k).map (Value.int .i64)) ∧ Below w.heap.size w wr) (fun i _ => n - (intOf i).toNat)
  case atStart => exact ⟨0, _, Nat.zero_le _, rfl, hown0, by simp [Hid], ⟨hgr0.os, hgr0.tape, hgr0.output, hgr0.size, fun k hk => hgr0.block k hk (by simp)⟩⟩
  case round =>
    obtain ⟨k, vs, hk, rfl, HO, HT, hb⟩ := hrel
    by_cases hlt : k < n
    · obtain ⟨b, off, rfl, hbB, hc⟩ := H.out (by have := HN.out; omega)
      have c0 := hc k (by have := HN.out; omega)
      clear hc H
      have b0 := (hb.cell (p := ⟨b, off + k, none⟩) (by simp; omega)).trans c0
      clear c0
      generalize hp : xs.getD k 0 = p at *
      have HP := Lib.hid hp
      clear hp
      have hxl : vs.length = n * 1 := HO.out.1
      have u0 := HO.out.cellAt k (by omega)
      rw [List.getElem?_eq_getElem (by omega)] at u0
      have f0 := HO.out.frozenAt k
      generalize vs[k]'(by omega) = v0 at u0
      have HXL := Lib.hid hxl
      clear hxl
      go_wp2
      all_goals try (go_region; go_wp2)
      go_roundw
      case rel =>
        have hx1 : (vs.set k (.int .i64 p)).take (k + 1) = (xs.take (k + 1)).map (Value.int .i64) := by
          rw [take_set1 _ _ _ (by have := HXL.out; omega), HT.out, show xs.take (k + 1) = xs.take k ++ [p] by rw [← HP.out, List.take_succ_eq_append_getElem (by have := HN.out; omega)]; simp [List.getD, show k < xs.length by have := HN.out; omega]]
          simp
        have ho := (HO.out.stored k (.int .i64 p)).1
        exact ⟨k + 1, _, by omega, by go_num, by first | exact ho | exact ho.alloc _, hx1, by first | exact (hb.setCell (p := ⟨w.heap.size, k, none⟩) (Nat.le_refl _) _).drew | exact hb.setCell (p := ⟨w.heap.size, k, none⟩) (Nat.le_refl _) _⟩
      case measure => simp [intOf]; omega
    · go_wp2
      go_ret
      have hkn : k = n := by omega
      have hx : vs = xs.map (Value.int .i64) := by
        have h1 := HT.out
        have h2 : vs.length = n * 1 := HO.out.1
        rw [hkn, List.take_of_length_le (by omega), List.take_of_length_le (by have := HN.out; omega)] at h1
        exact h1
      exact ⟨by simp, by rw [← hx]; exact HO.out, hb⟩
end Go.Proofs.Ytcfiondggnbnoaa

namespace Go.Proofs.Ytcfiondggnbnoaa
set_option linter.unusedSimpArgs false
set_option linter.unusedVariables false
open Go.RowKit
/-- The mark of an argument's copy. -/
theorem markw_ints (lo hi n : Nat) (v : Value) (xs : List Value) (k : Int) (w : World) (h : As lo hi (OwR lo hi 3 1 v n xs) w) (hk : 0 ≤ k) (hk' : k ≤ 562949953421312) (hs : n ≤ 2000000) :
    Calls Try.prog 15 #[v, .int .i64 k] w fun e w' => MkW lo hi w k (k + 6000000000000) e w' := by
  refine (mark_ints lo hi n v xs k w h hk hk' hs).mono ?_
  rintro e w' ⟨he, _, ht⟩
  exact ⟨_, he, by omega, by omega, ht⟩
end Go.Proofs.Ytcfiondggnbnoaa
