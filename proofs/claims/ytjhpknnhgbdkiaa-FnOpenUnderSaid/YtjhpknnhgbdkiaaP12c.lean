/- Words and contracts for memory that the texts behind use. -/
import Derived.Test.YtjhpknnhgbdkiaaP0a
import Derived.Test.YtjhpknnhgbdkiaaP1a
import Derived.Test.YtjhpknnhgbdkiaaP2a
import Derived.Test.YtjhpknnhgbdkiaaP3a
import Derived.Test.YtjhpknnhgbdkiaaP4a
import Derived.Test.YtjhpknnhgbdkiaaP5a
import Derived.Test.YtjhpknnhgbdkiaaP6a
import Derived.Test.YtjhpknnhgbdkiaaP7a
import Derived.Test.YtjhpknnhgbdkiaaP8a
import Derived.Test.YtjhpknnhgbdkiaaP9a
import Derived.Test.YtjhpknnhgbdkiaaP10a
import Derived.Test.YtjhpknnhgbdkiaaP11a
import Derived.Test.YtjhpknnhgbdkiaaP12b
import Derived.WalkKit
import Derived.Laws.OwnMore
import Derived.Deep.Draws
import Derived.Test.YtjhpknnhgbdkiaaProg
import Derived.WalkSpells
import Derived.WalkLawsBesides
import Derived.Outline
import Derived.Lib.Hide
import Derived.BigQuiet
import Derived.Deep.QuietTactic
import Derived.StillTailTactics
import Derived.Deep.LoopGhost
import Derived.Laws.MakeOwn
import Derived.WalkSmall
import Derived.RegionTactic
import Derived.BigRegion
import Derived.Deep.RegionWith
import Derived.Deep.RegionHeld3
import Derived.Maps.AppendAt
import Derived.Laws.CopyOwn
import Derived.Deep.Cut
import Derived.Laws.Entries
import Derived.Laws.Bits64
import Derived.IntWalk
import Derived.Deep.RegionLaw
import Derived.Deep.AppendLies
import Derived.Deep.DeepCutAuto
import Derived.ArgAppend

namespace Go.Proofs.Ytjhpknnhgbdkiaa
set_option linter.unusedSimpArgs false
set_option linter.unusedVariables false
open Go.RowKit
set_option maxRecDepth 100000 in
set_option maxHeartbeats 1600000 in
theorem top_spec_LookUp (ds : List On) (o key : Int) (hO : OB ds) : ∀ (A : Option Addr) (n c : Nat) (w : World), n = ds.length → n ≤ c → OS w w.heap.size A ds →
    Calls Try.prog 21 #[.slice A n c, .int .i64 o, .int .i64 key] w fun e w' => e = .returned (.tuple #[.int .i64 ((lookO ds o key).getD 0), .bool (lookO ds o key).isSome]) ∧ Below w.heap.size w w' := by
  intro A n c w hn hnc h
  have hnb : n ≤ 1048576 := by rw [hn]; exact hO.1
  have HC := Lib.hid (spec_validOwners A n c ds w w.heap.size (Nat.le_refl _) hn h hO)
  have HS := Lib.hid h
  have HN := Lib.hid hn
  unfold lookO aboveF
  cases hv : validO ds
  · rw [hv] at HC
    have hf : hasO ds o = false := by unfold hasO; rw [hv]; rfl
    rw [hf]
    simp only [Bool.false_eq_true, if_false, lookG, ite_self]
    clear hv hf hn h hO
    go_enter Try.func21, Try.ntmps21
    go_wp2_with fail
    refine HC.out.mono ?_
    rintro e w1 ⟨rfl, hb⟩
    go_wp2
    go_ret2
    exact ⟨rfl, hb⟩
  rw [hv] at HC
  cases hr : rng o 0 ((n : Int) - 1)
  · have hf : hasO ds o = false := by unfold hasO; rw [← hn, hr, Bool.and_false]
    rw [hf]
    simp only [Bool.false_eq_true, if_false, lookG, ite_self]
    clear hv hf hn h hO
    go_enter Try.func21, Try.ntmps21
    go_wp2_with fail
    refine HC.out.mono ?_
    rintro e w1 ⟨rfl, hb⟩
    go_wp2_with fail
    refine (spec_inRange _ _ _ _).mono ?_
    rintro e w' ⟨rfl, rfl⟩
    go_wp2
    go_ret2
    exact ⟨rfl, hb⟩
  have hf : hasO ds o = true := by unfold hasO; rw [hv, ← hn, hr]; rfl
  simp only [hf, if_true]
  cases hk : rng key 0 2
  · simp only [Bool.false_eq_true, if_false]
    clear hv hf hn h hO
    go_enter Try.func21, Try.ntmps21
    go_wp2_with fail
    refine HC.out.mono ?_
    rintro e w1 ⟨rfl, hb⟩
    go_wp2_with fail
    refine (spec_inRange _ _ _ _).mono ?_
    rintro e w' ⟨rfl, rfl⟩
    go_wp2_with fail
    refine (spec_inRange _ _ _ _).mono ?_
    rintro e w' ⟨rfl, rfl⟩
    go_wp2
    go_ret2
    exact ⟨rfl, hb⟩
  obtain ⟨hk0, hk1⟩ := (rng_iff _ _ _).1 hk
  obtain ⟨kn, rfl⟩ : ∃ kn : Nat, key = kn := ⟨key.toNat, by omega⟩
  have hkn : kn < 3 := by omega
  obtain ⟨on, rfl, hon, -⟩ := hasO_at hf
  have HPAR := Lib.hid fun i hi => okO_par hv i hi
  have HCTX := Lib.hid fun i hi => okO_ctx hv i hi
  have hon2 : on < n := by omega
  simp only [if_true, Int.toNat_natCast]
  obtain ⟨T, hT⟩ : ∃ T, T = lookG ds kn (upF ds ds.length on) := ⟨_, rfl⟩
  rw [← hT]
  have HT := Lib.hid hT
  clear hf hn h hO hT hv hon hk0 hk1
  go_enter Try.func21, Try.ntmps21
  go_wp2_with fail
  refine HC.out.mono ?_
  rintro e w1 ⟨rfl, hb⟩
  have HB1 := Lib.hid hb
  have HS1 := Lib.hid (HS.out.step hb)
  clear hb HC
  go_wp2_with fail
  refine (spec_inRange _ _ _ _).mono ?_
  rintro e w' ⟨rfl, rfl⟩
  go_wp2_with fail
  refine (spec_inRange _ _ _ _).mono ?_
  rintro e w' ⟨rfl, rfl⟩
  go_wp2
  go_loopw [1] (fun u wr => ∃ (p : Int) (f : Nat), u = .int .i64 p ∧ -1 ≤ p ∧ p < f ∧ f ≤ n ∧ Hid (lookG ds kn (upF ds f p) = T) ∧ wr = w1) (fun u _ => (intOf u + 1).toNat)
  case atStart => exact ⟨on, n, rfl, by omega, by omega, Nat.le_refl _, by rw [HN.out]; exact HT.out.symm, rfl⟩
  case round =>
    obtain ⟨p, f, rfl, hp0, hp1, hf, HU, rfl⟩ := hrel
    by_cases hlt : 0 ≤ p
    · obtain ⟨k, rfl⟩ : ∃ k : Nat, p = k := ⟨p.toNat, by omega⟩
      obtain ⟨f, rfl⟩ : ∃ f' : Nat, f = f' + 1 := ⟨f - 1, by omega⟩
      have hkn3 : k < n := by omega
      have hkd : k < ds.length := by have := HN.out; omega
      obtain ⟨b, off, rfl, hbB, c0, -, -, A2, n2, d2, c3, hn2, hp2⟩ := HS1.out.at_ k hkd
      obtain ⟨hx3, hxc⟩ := HCTX.out k hkd
      obtain ⟨b2, off2, rfl, hb2, hc2⟩ := hp2 (by omega)
      have d3 := hc2 kn (by omega)
      have hge := hxc kn hkn
      have hkn2 : kn < n2 := by omega
      have hpar := HPAR.out k hkd
      have hcv : ctxV ds kn (k : Int) = (ds.getD k default).cx.getD kn 0 := by simp [ctxV]
      have hkk := HU.out
      rw [upF_step, lookG, hcv] at hkk
      generalize (ds.getD k default).p = q at *
      generalize (ds.getD k default).cx.getD kn 0 = y at *
      have hq1 : -1 ≤ q := by by_cases h0 : k = 0; (have := hpar.1 h0; omega); (have := hpar.2 (by omega); omega)
      have hq2 : q < k := by by_cases h0 : k = 0; (have := hpar.1 h0; omega); (have := hpar.2 (by omega); omega)
      clear hpar HPAR HCTX hc2 hx3 hxc hp2 hn2 hcv HS1 hkd HU hp0
      by_cases hy : 0 ≤ y
      · rw [if_pos hy] at hkk
        subst hkk
        go_wp2
        go_ret2
        exact ⟨rfl, HB1.out⟩
      · rw [if_neg hy] at hkk
        have HKK := Lib.hid hkk
        clear hkk
        go_wp2
        go_roundw
        case rel => exact ⟨q, f, rfl, hq1, by omega, by omega, HKK.out, trivial⟩
        case measure => simp [intOf]; omega
    · obtain rfl : p = -1 := by omega
      have hT : T = none := by rw [← HU.out, upF_neg _ _ _ (by omega)]; rfl
      subst hT
      go_wp2
      go_ret2
      exact ⟨rfl, HB1.out⟩
end Go.Proofs.Ytjhpknnhgbdkiaa
