/- Words and contracts for memory that the texts behind use. -/
import Derived.Test.YtlbomopjldhmeaaB0a
import Derived.Test.YtlbomopjldhmeaaB1a
import Derived.WalkKit
import Derived.Laws.OwnMore
import Derived.Deep.Draws
import Derived.Test.YtlbomopjldhmeaaProg
import Derived.WalkSpells
import Derived.WalkLawsBesides
import Derived.Outline
import Derived.Lib.Hide
import Derived.BigQuiet
import Derived.Deep.QuietTactic
import Derived.StillTailTactics
import Derived.Deep.LoopGhost
import Derived.Laws.MakeOwn
import Derived.WalkSmall
import Derived.RegionTactic
import Derived.BigRegion
import Derived.Deep.RegionWith
import Derived.Deep.RegionHeld3
import Derived.Laws.Entries
import Derived.Laws.Bits64
import Derived.IntWalk
import Derived.Maps.AppendAt
import Derived.Deep.RegionLaw
import Derived.Deep.AppendLies
import Derived.Deep.Cut
import Derived.Deep.DeepCutAuto
import Derived.Laws.CopyOwn
import Derived.ArgAppend

namespace Go.Proofs.Ytlbomopjldhmeaa
set_option linter.unusedSimpArgs false
set_option linter.unusedVariables false
open Go.RowKit
set_option maxHeartbeats 400000 in
theorem impl_inRange (n m : Int) (w : World) :
    Calls Try.prog 61 #[.int .i64 n, .int .i64 m] w fun e w' => e = .returned (.bool (rng n 0 m)) ∧ w = w' := by
  go_enter Try.func61, Try.ntmps61
  go_wp2
  all_goals
    go_ret
    exact ⟨ret_b (by unfold rng; simp; try omega), rfl⟩
end Go.Proofs.Ytlbomopjldhmeaa

namespace Go.Proofs.Ytlbomopjldhmeaa
set_option linter.unusedSimpArgs false
set_option linter.unusedVariables false
open Go.RowKit
set_option maxHeartbeats 400000 in
theorem slices_Index (A : Option Addr) (n c : Nat) (xs : List Int) (x : Int) (w : World) (B : Nat) (hB : B ≤ w.heap.size) (hn : n = xs.length) (h : IS w B A xs) (hs : n ≤ 2000000) :
    Calls Try.prog 71 #[.slice A n c, .int .i64 x] w fun e w' => e = .returned (.int .i64 (plc xs x)) ∧ w = w' := by
  have H := Lib.hid h
  have HN := Lib.hid hn
  clear hn h
  go_enter Try.func71, Try.ntmps71
  go_wp2
  go_loop [8] (fun i => ∃ k : Nat, k ≤ n ∧ i = .int .i64 k ∧ Hid (∀ j, j < k → xs.getD j 0 ≠ x)) (fun i => n - (intOf i).toNat)
  case atStart => exact ⟨0, Nat.zero_le _, rfl, fun j hj => by omega⟩
  case round =>
    obtain ⟨k, hk, rfl, HA⟩ := hrel
    by_cases hlt : k < n
    · obtain ⟨b, off, rfl, hbB, hc⟩ := H.out (by have := HN.out; omega)
      have c0 := hc k (by have := HN.out; omega)
      clear hc H
      generalize hp : xs.getD k 0 = p at *
      have HP := Lib.hid hp
      clear hp
      cases hr : (x == p)
      · have HR := Lib.hid hr
        go_wp2
        go_round
        case rel => exact ⟨k + 1, by omega, by go_num, fun j hj => by
          rcases Nat.lt_or_ge j k with h1 | h1
          · exact HA.out j h1
          · obtain rfl : j = k := by omega
            rw [HP.out]; intro e; have := HR.out; rw [e] at this; simp at this⟩
        case measure => simp [intOf]; omega
      · have HR := Lib.hid hr
        go_wp2
        go_ret
        refine ⟨ret_i ?_, rfl⟩
        exact (plc_at xs x k (by have := HN.out; omega) (by rw [HP.out]; have := HR.out; simp at this; exact this.symm) HA.out).symm
    · go_wp2
      go_ret
      refine ⟨ret_i ?_, rfl⟩
      exact (plc_none xs x fun j hj => HA.out j (by have := HN.out; omega)).symm
set_option maxHeartbeats 400000 in
theorem slices_Contains (A : Option Addr) (n c : Nat) (xs : List Int) (x : Int) (w : World) (B : Nat) (hB : B ≤ w.heap.size) (hn : n = xs.length) (h : IS w B A xs) (hs : n ≤ 2000000) :
    Calls Try.prog 48 #[.slice A n c, .int .i64 x] w fun e w' => e = .returned (.bool (decide (x ∈ xs))) ∧ w = w' := by
  have H := Lib.hid h
  have HN := Lib.hid hn
  have HP := Lib.hid (plc_ge xs x)
  clear hn h
  go_enter Try.func48, Try.ntmps48
  go_wp2_with fail
  refine (slices_Index A n c xs x _ B hB HN.out H.out hs).mono ?_
  rintro e w' ⟨rfl, rfl⟩
  go_wp2
  all_goals
    go_ret
    exact ⟨ret_b (by rw [← HP.out]; try simp), rfl⟩
end Go.Proofs.Ytlbomopjldhmeaa

namespace Go.Proofs.Ytlbomopjldhmeaa
set_option linter.unusedSimpArgs false
set_option linter.unusedVariables false
open Go.RowKit
theorem own_heap {w : World} {base e n cap g : Nat} {xs : List Value} (h : w.ownsRow base e 1 (.slice (some ⟨g, 0, none⟩) n cap) n xs) : ∃ cur : List Value, w.heap[g]? = some (.cells cur.toArray e (0, 0)) ∧ cur.length = cap ∧ base ≤ g := by
  rcases h.2 with ⟨hv, _⟩ | ⟨g', cap', cur, hv, hb, hh, h1, h2, h3, h4⟩
  · simp at hv
  · simp only [Value.slice.injEq, Option.some.injEq, Addr.mk.injEq, and_true, true_and] at hv
    obtain ⟨rfl, rfl⟩ := hv
    exact ⟨cur.toList, by simpa using hh, by simpa using h3, hb⟩
set_option maxRecDepth 100000 in
set_option maxHeartbeats 1600000 in
theorem impl_copyOf (A : Option Addr) (n c : Nat) (xs : List Int) (w : World) (B : Nat) (hB : B ≤ w.heap.size) (hn : n = xs.length) (h : IS w B A xs) (hs : n ≤ 2000000) :
    Calls Try.prog 39 #[.slice A n c] w fun e w' => e = .returned (.slice (some ⟨w.heap.size, 0, none⟩) n n) ∧ w'.ownsRow w.heap.size 3 1 (.slice (some ⟨w.heap.size, 0, none⟩) n n) n (xs.map (Value.int .i64)) ∧ Below w.heap.size w w' := by
  obtain ⟨i0, hi, hz0, hz1, hz2⟩ := info_parts info_int
  obtain ⟨w0, hmk, hown0, hgr0⟩ := run_make_full (P := Try.prog) w w.heap.size 22 3 i0 _ 1 Try.underlying22 hi hz0 hz1 .i64 .i64 n (by rw [hz2]; omega) (by unfold maxLen; omega) (Nat.le_refl _)
  obtain ⟨cur, hcur, hcl, _⟩ := own_heap hown0
  have hb0 : Below w.heap.size w w0 := ⟨hgr0.os, hgr0.tape, hgr0.output, hgr0.size, fun k hk => hgr0.block k hk (by simp)⟩
  obtain ⟨cs, hcs⟩ : ∃ cs : List Value, cs = xs.map (Value.int .i64) := ⟨_, rfl⟩
  have hsz : (Try.prog.info? 3).map (·.size) = some 1 := by kernel_rfl
  have hcl2 : cs.length = n := by rw [hcs, List.length_map]; exact hn.symm
  have hsrc : 0 < cs.length → some (⟨w.heap.size, 0, none⟩ : Addr) = some ⟨w.heap.size, 0, none⟩ ∧ ∃ ad, A = some ad ∧ ∀ j v, cs[j]? = some v → w0.cell? (ad.add j) = some v := by
    intro hp
    obtain ⟨b, off, e, hb, hc⟩ := h (by omega)
    refine ⟨rfl, _, e, fun j v hv => ?_⟩
    have hj : j < xs.length := by
      rcases Nat.lt_or_ge j cs.length with h1 | h1
      · omega
      · rw [List.getElem?_eq_none h1] at hv; cases hv
    have hadd : (⟨b, off, none⟩ : Addr).add j = ⟨b, off + j, none⟩ := by unfold Addr.add; split <;> simp_all
    rw [hadd, hb0.cell (p := ⟨b, off + j, none⟩) (by simp; omega), hc j hj, ← hv, hcs]
    simp [List.getD, hj]
  have h1 : ∀ v ∈ cs, v.oneCell' = true := by
    intro v hv
    rw [hcs] at hv
    obtain ⟨x, _, rfl⟩ := List.mem_map.1 hv
    rfl
  have HCUR := Lib.hid hcur
  have HCL := Lib.hid hcl
  have HCL2 := Lib.hid hcl2
  have HCS := Lib.hid hcs
  have HSRC := Lib.hid hsrc
  have HONE := Lib.hid h1
  have HB0 := Lib.hid hb0
  have HSZ := Lib.hid hsz
  clear hcur hcl hcl2 hcs hsrc h1 hb0 hsz hown0 hgr0 h hn
  go_enter Try.func39, Try.ntmps39
  go_wp2_with (with_reducible refine wpList_copy_splice rfl (.tmp 7) (.tmp 8) 22 22 rfl 3 Try.underlying22 HSZ.out _ _ _ _ _ _ rfl rfl w.heap.size 0 cur 3 HCUR.out cs ?c1 HSRC.out ?c2 HONE.out w.heap.size w HB0.out (Nat.le_refl _) ?_)
  case c1 => have := HCL2.out; omega
  case c2 => have := HCL2.out; have := HCL.out; omega
  intro w2 HG2 hB2
  go_wp2
  go_ret
  have hsp : splice cur 0 cs = cs := by
    unfold splice
    rw [List.take_zero, List.nil_append, List.drop_of_length_le (by have := HCL2.out; have := HCL.out; omega), List.append_nil]
  have hg2 := HG2.out
  rw [hsp] at hg2
  refine ⟨by simp, ⟨by rw [← HCS.out, HCL2.out]; simp, .inr ⟨w.heap.size, n, cs.toArray, rfl, Nat.le_refl _, hg2, Nat.le_refl _, by unfold maxLen; omega, by simpa using HCL2.out, ?_⟩⟩, hB2⟩
  rw [← HCS.out]
  exact List.take_of_length_le (by have := HCL2.out; simp; omega)
end Go.Proofs.Ytlbomopjldhmeaa

namespace Go.Proofs.Ytlbomopjldhmeaa
set_option linter.unusedSimpArgs false
set_option linter.unusedVariables false
open Go.RowKit
theorem difB_rng_no (m : Int) (xs : List Int) (h : allR xs 0 m = false) : difB m xs = false := by unfold difB; rw [h]; simp
theorem difB_yes (m : Int) (xs : List Int) (h : allR xs 0 m = true) (h2 : xs.Nodup) : difB m xs = true := by unfold difB; rw [h, decide_eq_true h2]; rfl
set_option maxRecDepth 100000 in
set_option maxHeartbeats 1600000 in
theorem impl_areDifferentUpTo (m : Int) (A : Option Addr) (n c : Nat) (xs : List Int) (w : World) (B : Nat) (hB : B ≤ w.heap.size) (hn : n = xs.length) (hnc : n ≤ c) (h : IS w B A xs) (hs : n ≤ 2000000) :
    Calls Try.prog 50 #[.int .i64 m, .slice A n c] w fun e w' => e = .returned (.bool (difB m xs)) ∧ Below w.heap.size w w' := by
  have H := Lib.hid h
  have HN := Lib.hid hn
  clear hn h
  go_enter Try.func50, Try.ntmps50
  go_wp2
  go_loopw [9] (fun i wr => ∃ k : Nat, k ≤ n ∧ i = .int .i64 k ∧ Hid ((xs.take k).Nodup) ∧ Hid (∀ j, j < k → rng (xs.getD j 0) 0 m = true) ∧ Below w.heap.size w wr) (fun i _ => n - (intOf i).toNat)
  case atStart => exact ⟨0, Nat.zero_le _, rfl, by simp [Hid], fun j hj => by omega, Below.refl _ _⟩
  case round =>
    obtain ⟨k, hk, rfl, HD, HA, hb⟩ := hrel
    have hwr : w.heap.size ≤ wr.heap.size := hb.size
    by_cases hlt : k < n
    · have hkx : k < xs.length := by have := HN.out; omega
      have hkc : k ≤ c := by omega
      have HT := Lib.hid (((H.out.take_ k (by omega)).below hb (by omega)))
      obtain ⟨b, off, rfl, hbB, hc⟩ := H.out (by omega)
      have c0 := (hb.cell (p := ⟨b, off + k, none⟩) (by simp; omega)).trans (hc k hkx)
      clear hc H
      have HP := Lib.hid (slices_Contains (some ⟨b, off, none⟩) k c (xs.take k) (xs.getD k 0) wr B (by omega) (by simp; omega) HT.out (by omega))
      have HY := Lib.hid (nodup_take_step xs k hkx)
      have HNO := Lib.hid (nodup_take_no xs k hkx)
      have HAR : Hid (rng (xs.getD k 0) 0 m = false → allR xs 0 m = false) := allR_false xs 0 m k hkx
      have HAS : Hid (rng (xs.getD k 0) 0 m = true → ∀ j, j < k + 1 → rng (xs.getD j 0) 0 m = true) := fun h j hj => by
        rcases Nat.lt_or_ge j k with h1 | h1
        · exact HA.out j h1
        · obtain rfl : j = k := by omega
          exact h
      generalize xs.getD k 0 = x at *
      have HR := Lib.hid (impl_inRange x m wr)
      generalize hr : rng x 0 m = r at *
      clear hr
      cases r
      · have HF := Lib.hid (difB_rng_no m xs (HAR.out rfl))
        clear HAR HAS HY HNO
        go_wp2_with fail
        refine HR.out.mono ?_
        rintro e w2 ⟨rfl, rfl⟩
        go_wp2
        go_ret
        exact ⟨ret_b HF.out.symm, hb⟩
      · have HAS2 := Lib.hid (HAS.out rfl)
        by_cases hm : x ∈ xs.take k
        · rw [decide_eq_true hm] at HP
          have HF := Lib.hid (difB_nodup_no m xs (HNO.out hm))
          clear hm HT HY HNO HAR HAS
          go_wp2_with fail
          refine HR.out.mono ?_
          rintro e w2 ⟨rfl, rfl⟩
          go_wp2_with fail
          refine HP.out.mono ?_
          rintro e w3 ⟨rfl, rfl⟩
          go_wp2
          go_ret
          exact ⟨ret_b HF.out.symm, hb⟩
        · rw [decide_eq_false hm] at HP
          have HT2 := Lib.hid (HY.out HD.out hm)
          clear hm HT HY HNO HAR HAS
          go_wp2_with fail
          refine HR.out.mono ?_
          rintro e w2 ⟨rfl, rfl⟩
          go_wp2_with fail
          refine HP.out.mono ?_
          rintro e w3 ⟨rfl, rfl⟩
          go_wp2
          go_roundw
          case rel => exact ⟨k + 1, by omega, by go_num, HT2.out, HAS2.out, hb⟩
          case measure => simp [intOf]; omega
    · obtain rfl : k = n := by omega
      have hnd : xs.Nodup := by have := HD.out; rwa [HN.out, List.take_of_length_le (Nat.le_refl _)] at this
      have hva : difB m xs = true := difB_yes m xs (allR_true xs 0 m fun j hj => HA.out j (by have := HN.out; omega)) hnd
      have HVA := Lib.hid hva
      clear hnd hva H
      go_wp2
      go_ret
      exact ⟨ret_b HVA.out.symm, hb⟩
set_option maxHeartbeats 800000 in
theorem impl_ValidKeys (A : Option Addr) (n c : Nat) (xs : List Int) (w : World) (B : Nat) (hB : B ≤ w.heap.size) (hn : n = xs.length) (hnc : n ≤ c) (h : IS w B A xs) (hs : n ≤ 2000000) :
    Calls Try.prog 23 #[.slice A n c] w fun e w' => e = .returned (.bool (validK xs)) ∧ Below w.heap.size w w' := by
  have HC := Lib.hid (impl_areDifferentUpTo 30 A n c xs w B hB hn hnc h hs)
  have hva : validK xs = (decide (n ≤ 10) && difB 30 xs) := by unfold validK; rw [hn]
  rw [hva]
  generalize difB 30 xs = r at *
  clear hn h hva
  by_cases h10 : n ≤ 10
  · rw [decide_eq_true h10]
    go_enter Try.func23, Try.ntmps23
    go_wp2_with fail
    refine HC.out.mono ?_
    rintro e w1 ⟨rfl, hb⟩
    go_wp2
    go_ret
    exact ⟨ret_b (by simp), hb⟩
  · rw [decide_eq_false h10]
    go_enter Try.func23, Try.ntmps23
    go_wp2
    go_ret
    exact ⟨ret_b (by simp), Below.refl _ _⟩
end Go.Proofs.Ytlbomopjldhmeaa
