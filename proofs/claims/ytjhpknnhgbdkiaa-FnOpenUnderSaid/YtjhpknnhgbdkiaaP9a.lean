/- Words and contracts for memory that the texts behind use. -/
import Derived.Test.YtjhpknnhgbdkiaaP0a
import Derived.Test.YtjhpknnhgbdkiaaP1a
import Derived.Test.YtjhpknnhgbdkiaaP2a
import Derived.Test.YtjhpknnhgbdkiaaP3a
import Derived.Test.YtjhpknnhgbdkiaaP4a
import Derived.Test.YtjhpknnhgbdkiaaP5a
import Derived.Test.YtjhpknnhgbdkiaaP6a
import Derived.Test.YtjhpknnhgbdkiaaP7a
import Derived.Test.YtjhpknnhgbdkiaaP8a
import Derived.WalkKit
import Derived.Laws.OwnMore
import Derived.Deep.Draws
import Derived.Test.YtjhpknnhgbdkiaaProg
import Derived.WalkSpells
import Derived.WalkLawsBesides
import Derived.Outline
import Derived.Lib.Hide
import Derived.BigQuiet
import Derived.Deep.QuietTactic
import Derived.StillTailTactics
import Derived.Deep.LoopGhost
import Derived.Laws.MakeOwn
import Derived.WalkSmall
import Derived.RegionTactic
import Derived.BigRegion
import Derived.Deep.RegionWith
import Derived.Deep.RegionHeld3
import Derived.Maps.AppendAt
import Derived.Laws.CopyOwn
import Derived.Deep.Cut
import Derived.Laws.Entries
import Derived.Laws.Bits64
import Derived.IntWalk
import Derived.Deep.RegionLaw
import Derived.Deep.AppendLies
import Derived.Deep.DeepCutAuto
import Derived.ArgAppend

namespace Go.Proofs.Ytjhpknnhgbdkiaa
set_option linter.unusedSimpArgs false
set_option linter.unusedVariables false
open Go.RowKit
set_option maxHeartbeats 400000 in
theorem impl_inRange (n m : Int) (w : World) :
    Calls Try.prog 45 #[.int .i64 n, .int .i64 m] w fun e w' => e = .returned (.bool (rng n 0 m)) ∧ w = w' := by
  go_enter Try.func45, Try.ntmps45
  go_wp2
  all_goals
    go_ret
    exact ⟨ret_b (by unfold rng; simp; try omega), rfl⟩
end Go.Proofs.Ytjhpknnhgbdkiaa

namespace Go.Proofs.Ytjhpknnhgbdkiaa
set_option linter.unusedSimpArgs false
set_option linter.unusedVariables false
open Go.RowKit
set_option maxHeartbeats 400000 in
theorem impl_allInRange (A : Option Addr) (n c : Nat) (xs : List Int) (hi : Int) (w : World) (B : Nat) (hB : B ≤ w.heap.size) (hn : n = xs.length) (h : IS w B A xs) (hs : n ≤ 2000000) :
    Calls Try.prog 56 #[.slice A n c, .int .i64 hi] w fun e w' => e = .returned (.bool (decide (xs.length ≤ 10) && allR xs 0 hi)) ∧ w = w' := by
  by_cases h10 : 10 < n
  · have hf : (decide (xs.length ≤ 10) && allR xs 0 hi) = false := by rw [decide_eq_false (by omega)]; rfl
    rw [hf]
    clear hf hn h
    go_enter Try.func56, Try.ntmps56
    go_wp2
    go_ret
    exact ⟨rfl, rfl⟩
  have hf : (decide (xs.length ≤ 10) && allR xs 0 hi) = allR xs 0 hi := by rw [decide_eq_true (by omega)]; rfl
  rw [hf]
  have H := Lib.hid h
  have HN := Lib.hid hn
  clear hn h hf
  go_enter Try.func56, Try.ntmps56
  go_wp2
  go_loop [12] (fun i => ∃ k : Nat, k ≤ n ∧ i = .int .i64 k ∧ Hid (∀ j, j < k → rng (xs.getD j 0) 0 hi = true)) (fun i => n - (intOf i).toNat)
  case atStart => exact ⟨0, Nat.zero_le _, rfl, fun j hj => by omega⟩
  case round =>
    obtain ⟨k, hk, rfl, HA⟩ := hrel
    by_cases hlt : k < n
    · obtain ⟨b, off, rfl, hbB, hc⟩ := H.out (by have := HN.out; omega)
      have c0 := hc k (by have := HN.out; omega)
      clear hc H
      generalize hp : xs.getD k 0 = p at *
      have HP := Lib.hid hp
      clear hp
      cases hr : rng p 0 hi
      · go_wp2_with (go_at_call 45; refine (impl_inRange _ _ _).mono ?_; rintro e w' ⟨rfl, rfl⟩)
        go_ret
        refine ⟨ret_b ?_, rfl⟩
        rw [allR_false xs 0 hi k (by have := HN.out; omega) (by rw [HP.out]; exact hr)]
        try rfl
      · have HR := Lib.hid hr
        go_wp2_with (go_at_call 45; refine (impl_inRange _ _ _).mono ?_; rintro e w' ⟨rfl, rfl⟩)
        go_round
        case rel => exact ⟨k + 1, by omega, by go_num, fun j hj => by
          rcases Nat.lt_or_ge j k with h1 | h1
          · exact HA.out j h1
          · obtain rfl : j = k := by omega
            rw [HP.out]; exact HR.out⟩
        case measure => simp [intOf]; omega
    · go_wp2
      go_ret
      refine ⟨ret_b ?_, rfl⟩
      rw [allR_true xs 0 hi fun j hj => HA.out j (by have := HN.out; omega)]
      try rfl
end Go.Proofs.Ytjhpknnhgbdkiaa

namespace Go.Proofs.Ytjhpknnhgbdkiaa
set_option linter.unusedSimpArgs false
set_option linter.unusedVariables false
open Go.RowKit
theorem below_of_drew {C : Nat} {w w' : World} (h : Below C w.drew w') : Below C w w' := ⟨h.os, h.tape, h.output, h.size, h.block⟩
end Go.Proofs.Ytjhpknnhgbdkiaa

namespace Go.Proofs.Ytjhpknnhgbdkiaa
set_option linter.unusedSimpArgs false
set_option linter.unusedVariables false
open Go.RowKit
theorem rng_ctx (x : Int) : rng x (-1) 50 = (x == -1 || rng x 0 50) := by
  by_cases h1 : x = -1
  · subst h1; rfl
  · have e : (x == -1) = false := by simp [h1]
    rw [e, Bool.false_or]
    simp only [rng]
    by_cases h2 : 0 ≤ x
    · simp [h2, show -1 ≤ x by omega]
    · simp [h2, show ¬ -1 ≤ x by omega]
set_option maxHeartbeats 800000 in
theorem impl_isContext (A : Option Addr) (n c : Nat) (xs : List Int) (w : World) (B : Nat) (hB : B ≤ w.heap.size) (hn : n = xs.length) (h : IS w B A xs) (hs : n ≤ 2000000) :
    Calls Try.prog 41 #[.slice A n c] w fun e w' => e = .returned (.bool (ctxOK xs)) ∧ w = w' := by
  by_cases h3 : n = 3
  case neg =>
    have hf : ctxOK xs = false := by unfold ctxOK; rw [decide_eq_false (by omega)]; rfl
    have hne : ((n : Int) != 3) = true := by simp; omega
    rw [hf]
    clear hf hn h h3
    go_enter Try.func41, Try.ntmps41
    go_wp2
    go_ret
    exact ⟨rfl, rfl⟩
  have hf : ctxOK xs = allR xs (-1) 50 := by unfold ctxOK; rw [decide_eq_true (by omega)]; rfl
  rw [hf]
  have hne : ((n : Int) != 3) = false := by simp; omega
  have H := Lib.hid h
  have HN := Lib.hid hn
  have H3 := Lib.hid h3
  have hn3 : n ≤ 3 := by omega
  clear hn h hf h3
  go_enter Try.func41, Try.ntmps41
  go_wp2
  go_loop [10] (fun i => ∃ k : Nat, k ≤ n ∧ i = .int .i64 k ∧ Hid (∀ j, j < k → rng (xs.getD j 0) (-1) 50 = true)) (fun i => n - (intOf i).toNat)
  case atStart => exact ⟨0, Nat.zero_le _, rfl, fun j hj => by omega⟩
  case round =>
    obtain ⟨k, hk, rfl, HA⟩ := hrel
    by_cases hlt : k < n
    · obtain ⟨b, off, rfl, hbB, hc⟩ := H.out (by have := HN.out; omega)
      have c0 := hc k (by have := HN.out; omega)
      have hrc := rng_ctx (xs.getD k 0)
      clear hc H
      generalize hp : xs.getD k 0 = p at *
      have HP := Lib.hid hp
      have HRC := Lib.hid hrc
      clear hp hrc
      have hstep (hr : rng p (-1) 50 = true) : ∀ j, j < k + 1 → rng (xs.getD j 0) (-1) 50 = true := fun j hj => by
        rcases Nat.lt_or_ge j k with h1 | h1
        · exact HA.out j h1
        · obtain rfl : j = k := by omega
          rw [HP.out]; exact hr
      have HST := Lib.hid hstep
      clear hstep
      cases h1 : (p == -1)
      · have h1' : (p != -1) = true := by simpa [bne] using h1
        cases hr : rng p 0 50
        · have hv : rng p (-1) 50 = false := by rw [HRC.out, h1, hr]; rfl
          have HV := Lib.hid hv
          clear hv h1
          go_wp2_with (go_at_call 45; refine (impl_inRange _ _ _).mono ?_; rintro e w' ⟨rfl, rfl⟩)
          go_ret
          refine ⟨ret_b ?_, rfl⟩
          rw [allR_false xs (-1) 50 k (by have := HN.out; omega) (by rw [HP.out]; exact HV.out)]
          try rfl
        · have hv : rng p (-1) 50 = true := by rw [HRC.out, h1, hr]; rfl
          have HV := Lib.hid (HST.out hv)
          clear hv h1
          go_wp2_with (go_at_call 45; refine (impl_inRange _ _ _).mono ?_; rintro e w' ⟨rfl, rfl⟩)
          go_round
          case rel => exact ⟨k + 1, by omega, by go_num, HV.out⟩
          case measure => simp [intOf]; omega
      · have h1' : (p != -1) = false := by simpa [bne] using h1
        have hv : rng p (-1) 50 = true := by rw [HRC.out, h1]; rfl
        have HV := Lib.hid (HST.out hv)
        clear hv h1
        go_wp2
        go_round
        case rel => exact ⟨k + 1, by omega, by go_num, HV.out⟩
        case measure => simp [intOf]; omega
    · go_wp2
      go_ret
      refine ⟨ret_b ?_, rfl⟩
      rw [allR_true xs (-1) 50 fun j hj => HA.out j (by have := HN.out; omega)]
      try rfl
set_option maxHeartbeats 400000 in
theorem impl_areCleanups (A : Option Addr) (n c : Nat) (xs : List Int) (w : World) (B : Nat) (hB : B ≤ w.heap.size) (hn : n = xs.length) (h : IS w B A xs) (hs : n ≤ 2000000) :
    Calls Try.prog 42 #[.slice A n c] w fun e w' => e = .returned (.bool (clOK xs)) ∧ w = w' := by
  have HC := Lib.hid (impl_allInRange A n c xs 50 w B hB hn h hs)
  by_cases h5 : n ≤ 5
  · have hf : clOK xs = allR xs 0 50 := by unfold clOK; rw [decide_eq_true (by omega)]; rfl
    have hf2 : (decide (xs.length ≤ 10) && allR xs 0 50) = allR xs 0 50 := by rw [decide_eq_true (by omega)]; rfl
    rw [hf2] at HC
    rw [hf]
    generalize allR xs 0 50 = a at *
    clear hf hf2 hn h
    go_enter Try.func42, Try.ntmps42
    go_wp2_with fail
    refine HC.out.mono ?_
    rintro e w' ⟨rfl, rfl⟩
    go_wp2
    go_ret
    exact ⟨rfl, rfl⟩
  · have hf : clOK xs = false := by unfold clOK; rw [decide_eq_false (by omega)]; rfl
    rw [hf]
    have h5' : 5 < n := by omega
    clear hf hn h HC h5
    go_enter Try.func42, Try.ntmps42
    go_wp2
    go_ret
    exact ⟨rfl, rfl⟩
/-- The owner fits behind i others. -/
def fitI (ds : List On) (i : Nat) (d : On) : Bool := if i = 0 then d.p == -1 else rng d.p 0 ((i : Int) - 1) && (opn ds d.p || !d.o)
theorem okD_impl (ds : List On) (i : Nat) (d : On) : okD ds i d = (ctxOK d.cx && (clOK d.cl && (fitI ds i d && !(!d.o && decide (0 < d.cl.length))))) := by
  have e : decide (0 < d.cl.length) = !decide (d.cl.length = 0) := by
    by_cases hl : d.cl.length = 0
    · simp [hl]
    · simp [hl, Nat.pos_of_ne_zero hl]
  unfold okD fitI parOK
  rw [e]
  generalize decide (d.cl.length = 0) = z
  generalize clOK d.cl = a
  generalize ctxOK d.cx = b
  generalize d.o = o
  by_cases h0 : i = 0
  · simp only [h0, if_true, decide_true, Bool.true_or]
    generalize (d.p == -1) = p
    cases a <;> cases b <;> cases o <;> cases z <;> cases p <;> rfl
  · simp only [if_neg h0, decide_eq_false h0, Bool.false_or]
    generalize rng d.p 0 ((i : Int) - 1) = r
    generalize opn ds d.p = q
    cases a <;> cases b <;> cases o <;> cases z <;> cases r <;> cases q <;> rfl
set_option maxRecDepth 100000 in
set_option maxHeartbeats 800000 in
theorem impl_fitsUnder (A : Option Addr) (i c : Nat) (ds : List On) (d : On) (A1 A2 : Option Addr) (n1 d1 n2 d2 : Nat) (w : World) (B : Nat) (hB : B ≤ w.heap.size) (hi : i ≤ ds.length) (h : OS w B A ds) (hs : i ≤ 2000000) :
    Calls Try.prog 43 #[.slice A i c, .agg #[.int .i64 d.p, .bool d.o, .slice A1 n1 d1, .slice A2 n2 d2]] w fun e w' => e = .returned (.bool (fitI ds i d)) ∧ Below w.heap.size w w' := by
  obtain ⟨p, o, cl, cx⟩ := d
  dsimp only
  unfold fitI
  dsimp only
  have hBB : Below w.heap.size w (w.alloc (.cells #[.int .i64 p, .bool o, .slice A1 n1 d1, .slice A2 n2 d2] 32)) := (Below.refl _ _).alloc (Nat.le_refl _) _
  have HBB := Lib.hid hBB
  clear hBB
  by_cases h0 : i = 0
  · subst h0
    rw [if_pos rfl]
    clear h hi
    cases hp : (p == -1)
    all_goals
      go_enter Try.func43, Try.ntmps43
      go_wp2
      go_ret
      exact ⟨rfl, HBB.out⟩
  · rw [if_neg h0]
    have hz : ((i : Int) == 0) = false := by simp; omega
    cases hpr : rng p 0 ((i : Int) - 1)
    · clear h hi
      go_enter Try.func43, Try.ntmps43
      go_wp2_with fail
      refine (impl_inRange _ _ _).mono ?_
      rintro e w' ⟨rfl, rfl⟩
      go_wp2
      go_ret
      exact ⟨rfl, HBB.out⟩
    · obtain ⟨hp0, hp1⟩ := (rng_iff _ _ _).1 hpr
      obtain ⟨pn, rfl⟩ : ∃ pn : Nat, p = pn := ⟨p.toNat, by omega⟩
      have hpn : pn < i := by omega
      obtain ⟨b, off, rfl, hbB, hc⟩ := h (by omega)
      have e1 := (hc pn (by omega)).2.1
      have hop : opn ds (pn : Int) = (ds.getD pn default).o := by simp [opn]
      rw [hop]
      generalize (ds.getD pn default).o = po at *
      have hbs : b < w.heap.size := by omega
      clear hop hp0 hp1 hc hi
      cases po
      all_goals
        go_enter Try.func43, Try.ntmps43
        go_wp2_with fail
        refine (impl_inRange _ _ _).mono ?_
        rintro e w' ⟨rfl, rfl⟩
        go_wp2
        go_ret
        exact ⟨rfl, HBB.out⟩
set_option maxRecDepth 100000 in
set_option maxHeartbeats 1600000 in
theorem impl_ValidOwners (A : Option Addr) (n c : Nat) (ds : List On) (w : World) (B : Nat) (hB : B ≤ w.heap.size) (hn : n = ds.length) (hnc : n ≤ c) (h : OS w B A ds) (hb : OB ds) :
    Calls Try.prog 13 #[.slice A n c] w fun e w' => e = .returned (.bool (validO ds)) ∧ Below w.heap.size w w' := by
  have hnb : n ≤ 1048576 := by rw [hn]; exact hb.1
  by_cases h0 : n = 0
  · have hf : validO ds = false := by unfold validO rng; rw [← hn, h0]; simp
    have hz : ((n : Int) == 0) = true := by simp; omega
    rw [hf]
    clear hf hn h hb h0
    go_enter Try.func13, Try.ntmps13
    go_wp2
    go_ret
    exact ⟨rfl, Below.refl _ _⟩
  have hz : ((n : Int) == 0) = false := by simp; omega
  by_cases h12 : 12 < n
  · have hf : validO ds = false := by unfold validO rng; rw [← hn]; simp; omega
    rw [hf]
    clear hf hn h hb h0
    go_enter Try.func13, Try.ntmps13
    go_wp2
    go_ret
    exact ⟨rfl, Below.refl _ _⟩
  have hrg : rng ds.length 1 12 = true := by rw [rng_iff]; omega
  have HRG := Lib.hid hrg
  have H := Lib.hid h
  have HN := Lib.hid hn
  have HBD := Lib.hid hb
  have H0 := Lib.hid h0
  clear hn h hb h0 hrg
  go_enter Try.func13, Try.ntmps13
  go_wp2
  go_loopw [15] (fun i wr => ∃ k : Nat, k ≤ n ∧ i = .int .i64 k ∧ Hid (∀ j, j < k → okO ds j = true) ∧ Below w.heap.size w wr) (fun i _ => n - (intOf i).toNat)
  case atStart => exact ⟨0, Nat.zero_le _, rfl, fun j hj => by omega, Below.refl _ _⟩
  case round =>
    obtain ⟨k, hk, rfl, HA, hb⟩ := hrel
    by_cases hlt : k < n
    · obtain ⟨b, off, rfl, hbB, c0, c1, ⟨A1, n1, d1, c2, hn1', hp1⟩, A2, n2, d2, c3, hn2', hp2⟩ := H.out.at_ k (by have := HN.out; omega)
      have hx := HBD.out.2.2 k
      have b0 := (hb.cell (p := ⟨b, off + k * 4, none⟩) (by simp; omega)).trans c0
      have b1 := (hb.cell (p := ⟨b, off + k * 4 + 1, none⟩) (by simp; omega)).trans c1
      have b2 := (hb.cell (p := ⟨b, off + k * 4 + 2, none⟩) (by simp; omega)).trans c2
      have b3 := (hb.cell (p := ⟨b, off + k * 4 + 3, none⟩) (by simp; omega)).trans c3
      have hok := okD_impl ds k (ds.getD k default)
      have hkd : k ≤ ds.length := by have := HN.out; omega
      have HF := Lib.hid fun (w' : World) (hB : B ≤ w'.heap.size) (h : OS w' B (some ⟨b, off, none⟩) ds) => impl_fitsUnder (some ⟨b, off, none⟩) k c ds (ds.getD k default) A1 A2 n1 d1 n2 d2 w' B hB hkd h (by omega)
      have hdf : okO ds k = okD ds k (ds.getD k default) := rfl
      rw [← hdf] at hok
      generalize ds.getD k default = d at *
      obtain ⟨p, o, cl, cx⟩ := d
      dsimp only at *
      have HX1 := Lib.hid fun (w' : World) (hB : B ≤ w'.heap.size) (h : IS w' B A2 cx) => impl_isContext A2 n2 d2 cx w' B hB hn2' h (by omega)
      have HX2 := Lib.hid fun (w' : World) (hB : B ≤ w'.heap.size) (h : IS w' B A1 cl) => impl_areCleanups A1 n1 d1 cl w' B hB hn1' h (by omega)
      rw [← hn1'] at hok
      generalize ctxOK cx = a1 at *
      generalize clOK cl = a2 at *
      generalize fitI ds k ⟨p, o, cl, cx⟩ = a3 at *
      have HOK := Lib.hid hok
      have hx1 : n1 ≤ 1048576 := by omega
      clear c0 c1 c2 c3 hn1' hn2' hx hok hdf hkd
      go_upto_region 6 with fail
      obtain ⟨W2, hW2⟩ : ∃ W2 : World, W2 = wr.alloc (.cells #[.int .i64 p, .bool o, .slice A1 n1 d1, .slice A2 n2 d2] 32) := ⟨_, rfl⟩
      have hkc : k ≤ c := by omega
      have hbW : Below w.heap.size w W2 := by rw [hW2]; exact hb.alloc hb.size _
      have s0 : W2.cell? ⟨wr.heap.size, 0, none⟩ = some (.int .i64 p) := by rw [hW2]; go_simp
      have s1 : W2.cell? ⟨wr.heap.size, 1, none⟩ = some (.bool o) := by rw [hW2]; go_simp
      have s2 : W2.cell? ⟨wr.heap.size, 2, none⟩ = some (.slice A1 n1 d1) := by rw [hW2]; go_simp
      have s3 : W2.cell? ⟨wr.heap.size, 3, none⟩ = some (.slice A2 n2 d2) := by rw [hW2]; go_simp
      have hwz : wr.heap.size < W2.heap.size := by rw [hW2]; simp
      rw [← hW2]
      clear hW2
      have hBW2 : B ≤ W2.heap.size := Nat.le_trans hB hbW.size
      have HI1 := Lib.hid (hp1.below hbW hB)
      have HI2 := Lib.hid (hp2.below hbW hB)
      have HOS := Lib.hid (H.out.below hbW hB)
      clear hp1 hp2 H b0 b1 b2 b3
      cases a1
      · have HOK := Lib.hid (show okO ds k = false from by rw [HOK.out]; rfl)
        refine wp_region_held_drew (S := fun w' => w'.cell? ⟨wr.heap.size, 0, none⟩ = some (.int .i64 p) ∧ w'.cell? ⟨wr.heap.size, 1, none⟩ = some (.bool o) ∧ w'.cell? ⟨wr.heap.size, 2, none⟩ = some (.slice A1 n1 d1) ∧ w'.cell? ⟨wr.heap.size, 3, none⟩ = some (.slice A2 n2 d2)) (by kernel_rfl) ⟨s0, s1, s2, s3⟩ (fun hHeld => ?_)
        refine wpAnyH_take (i := 0) (oi := ⟨some 20, _, _, _, _, _⟩) (v := ?_) rfl (by kernel_rfl) (by kernel_rfl) (by kernel_rfl) (fun _ _ _ h => h) (Or.inl ⟨by rfl, ?_⟩) (by assumption) ?_; rotate_left; (focus (intro w hSw; (try dsimp only at hSw); go_simp; (try with_reducible rfl))); (try simp only [Act.put, List.setIfInBounds_toArray, List.set_cons_zero, List.set_cons_succ])
        refine wpAnyH_take (i := 1) (oi := ⟨some 21, _, _, _, _, _⟩) (v := ?_) rfl (by kernel_rfl) (by kernel_rfl) (by kernel_rfl) (fun _ _ _ h => h) (Or.inl ⟨by rfl, ?_⟩) (by assumption) ?_; rotate_left; (focus (intro w hSw; (try dsimp only at hSw); go_simp; (try with_reducible rfl))); (try simp only [Act.put, List.setIfInBounds_toArray, List.set_cons_zero, List.set_cons_succ])
        refine wpAnyH_ready (rs := [2]) (by kernel_rfl) (by simp) ?_; refine AllReadyH.cons (o := ⟨some 22, _, _, _, _, _⟩) rfl (fun K hK => ?_) AllReadyH.nil; go_simp
        go_at_call 41
        refine (HX1.out W2.drew hBW2 HI2.out).mono ?_
        rintro e w5 ⟨rfl, rfl⟩
        refine hK.out _ _ ⟨s0, s1, s2, s3⟩ (fun hHeld => ?_); clear hK K; (try simp only [Act.put, List.setIfInBounds_toArray, List.set_cons_zero, List.set_cons_succ])
        refine wpAnyH_take (i := 3) (oi := ⟨some 23, _, _, _, _, _⟩) (v := ?_) rfl (by kernel_rfl) (by kernel_rfl) (by kernel_rfl) (fun _ _ _ h => h) (Or.inl ⟨by rfl, ?_⟩) (by assumption) ?_; rotate_left; (focus (intro w hSw; (try dsimp only at hSw); go_simp; (try with_reducible rfl))); (try simp only [Act.put, List.setIfInBounds_toArray, List.set_cons_zero, List.set_cons_succ])
        refine wpAnyH_take (i := 4) (oi := ⟨some 24, _, _, _, _, _⟩) (v := ?_) rfl (by kernel_rfl) (by kernel_rfl) (by kernel_rfl) (fun _ _ _ h => h) (Or.inl ⟨by rfl, ?_⟩) (by assumption) ?_; rotate_left; (focus (intro w hSw; (try dsimp only at hSw); go_simp; (try with_reducible rfl))); (try simp only [Act.put, List.setIfInBounds_toArray, List.set_cons_zero, List.set_cons_succ])
        refine wpAnyH_take (i := 5) (oi := ⟨some 25, _, _, _, _, _⟩) (v := undef) rfl (by kernel_rfl) (by kernel_rfl) (by kernel_rfl) (fun _ _ _ h => h) (Or.inr ⟨by rfl, rfl⟩) (by assumption) ?_; (try simp only [Act.put, List.setIfInBounds_toArray, List.set_cons_zero, List.set_cons_succ])
        refine wpAnyH_take (i := 6) (oi := ⟨some 26, _, _, _, _, _⟩) (v := undef) rfl (by kernel_rfl) (by kernel_rfl) (by kernel_rfl) (fun _ _ _ h => h) (Or.inr ⟨by rfl, rfl⟩) (by assumption) ?_; (try simp only [Act.put, List.setIfInBounds_toArray, List.set_cons_zero, List.set_cons_succ])
        refine wpAnyH_take (i := 7) (oi := ⟨some 27, _, _, _, _, _⟩) (v := undef) rfl (by kernel_rfl) (by kernel_rfl) (by kernel_rfl) (fun _ _ _ h => h) (Or.inr ⟨by rfl, rfl⟩) (by assumption) ?_; (try simp only [Act.put, List.setIfInBounds_toArray, List.set_cons_zero, List.set_cons_succ])
        refine wpAnyH_take (i := 8) (oi := ⟨some 28, _, _, _, _, _⟩) (v := undef) rfl (by kernel_rfl) (by kernel_rfl) (by kernel_rfl) (fun _ _ _ h => h) (Or.inr ⟨by rfl, rfl⟩) (by assumption) ?_; (try simp only [Act.put, List.setIfInBounds_toArray, List.set_cons_zero, List.set_cons_succ])
        refine wpAnyH_take (i := 9) (oi := ⟨some 29, _, _, _, _, _⟩) (v := ?_) rfl (by kernel_rfl) (by kernel_rfl) (by kernel_rfl) (fun _ _ _ h => h) (Or.inl ⟨by rfl, ?_⟩) (by assumption) ?_; rotate_left; (focus (intro w hSw; (try dsimp only at hSw); go_simp; (try with_reducible rfl))); (try simp only [Act.put, List.setIfInBounds_toArray, List.set_cons_zero, List.set_cons_succ])
        refine wpAnyH_take (i := 10) (oi := ⟨some 30, _, _, _, _, _⟩) (v := ?_) rfl (by kernel_rfl) (by kernel_rfl) (by kernel_rfl) (fun _ _ _ h => h) (Or.inl ⟨by rfl, ?_⟩) (by assumption) ?_; rotate_left; (focus (intro w hSw; (try dsimp only at hSw); go_simp; (try with_reducible rfl))); (try simp only [Act.put, List.setIfInBounds_toArray, List.set_cons_zero, List.set_cons_succ])
        refine wpAnyH_take (i := 11) (oi := ⟨some 31, _, _, _, _, _⟩) (v := undef) rfl (by kernel_rfl) (by kernel_rfl) (by kernel_rfl) (fun _ _ _ h => h) (Or.inr ⟨by rfl, rfl⟩) (by assumption) ?_; (try simp only [Act.put, List.setIfInBounds_toArray, List.set_cons_zero, List.set_cons_succ])
        refine wpAnyH_take (i := 12) (oi := ⟨some 32, _, _, _, _, _⟩) (v := undef) rfl (by kernel_rfl) (by kernel_rfl) (by kernel_rfl) (fun _ _ _ h => h) (Or.inr ⟨by rfl, rfl⟩) (by assumption) ?_; (try simp only [Act.put, List.setIfInBounds_toArray, List.set_cons_zero, List.set_cons_succ])
        refine wpAnyH_take (i := 13) (oi := ⟨some 33, _, _, _, _, _⟩) (v := undef) rfl (by kernel_rfl) (by kernel_rfl) (by kernel_rfl) (fun _ _ _ h => h) (Or.inr ⟨by rfl, rfl⟩) (by assumption) ?_; (try simp only [Act.put, List.setIfInBounds_toArray, List.set_cons_zero, List.set_cons_succ])
        refine wpAnyH_take (i := 14) (oi := ⟨some 34, _, _, _, _, _⟩) (v := undef) rfl (by kernel_rfl) (by kernel_rfl) (by kernel_rfl) (fun _ _ _ h => h) (Or.inr ⟨by rfl, rfl⟩) (by assumption) ?_; (try simp only [Act.put, List.setIfInBounds_toArray, List.set_cons_zero, List.set_cons_succ])
        refine wpAnyH_take (i := 15) (oi := ⟨some 35, _, _, _, _, _⟩) (v := undef) rfl (by kernel_rfl) (by kernel_rfl) (by kernel_rfl) (fun _ _ _ h => h) (Or.inr ⟨by rfl, rfl⟩) (by assumption) ?_; (try simp only [Act.put, List.setIfInBounds_toArray, List.set_cons_zero, List.set_cons_succ])
        refine wpAnyH_take (i := 16) (oi := ⟨some 36, _, _, _, _, _⟩) (v := undef) rfl (by kernel_rfl) (by kernel_rfl) (by kernel_rfl) (fun _ _ _ h => h) (Or.inr ⟨by rfl, rfl⟩) (by assumption) ?_; (try simp only [Act.put, List.setIfInBounds_toArray, List.set_cons_zero, List.set_cons_succ])
        refine wpAnyH_take (i := 17) (oi := ⟨some 37, _, _, _, _, _⟩) (v := ?_) rfl (by kernel_rfl) (by kernel_rfl) (by kernel_rfl) (fun _ _ _ h => h) (Or.inl ⟨by rfl, ?_⟩) (by assumption) ?_; rotate_left; (focus (intro w hSw; (try dsimp only at hSw); go_simp; (try with_reducible rfl))); (try simp only [Act.put, List.setIfInBounds_toArray, List.set_cons_zero, List.set_cons_succ])
        refine wpAnyH_done (by kernel_rfl) ?_ _
        go_wp2
        go_ret
        exact ⟨ret_b (okO_false ds k (by have := HN.out; omega) HOK.out).symm, hbW.drew⟩
      cases a2
      · have HOK := Lib.hid (show okO ds k = false from by rw [HOK.out]; rfl)
        refine wp_region_held_drew (S := fun w' => w'.cell? ⟨wr.heap.size, 0, none⟩ = some (.int .i64 p) ∧ w'.cell? ⟨wr.heap.size, 1, none⟩ = some (.bool o) ∧ w'.cell? ⟨wr.heap.size, 2, none⟩ = some (.slice A1 n1 d1) ∧ w'.cell? ⟨wr.heap.size, 3, none⟩ = some (.slice A2 n2 d2)) (by kernel_rfl) ⟨s0, s1, s2, s3⟩ (fun hHeld => ?_)
        refine wpAnyH_take (i := 0) (oi := ⟨some 20, _, _, _, _, _⟩) (v := ?_) rfl (by kernel_rfl) (by kernel_rfl) (by kernel_rfl) (fun _ _ _ h => h) (Or.inl ⟨by rfl, ?_⟩) (by assumption) ?_; rotate_left; (focus (intro w hSw; (try dsimp only at hSw); go_simp; (try with_reducible rfl))); (try simp only [Act.put, List.setIfInBounds_toArray, List.set_cons_zero, List.set_cons_succ])
        refine wpAnyH_take (i := 1) (oi := ⟨some 21, _, _, _, _, _⟩) (v := ?_) rfl (by kernel_rfl) (by kernel_rfl) (by kernel_rfl) (fun _ _ _ h => h) (Or.inl ⟨by rfl, ?_⟩) (by assumption) ?_; rotate_left; (focus (intro w hSw; (try dsimp only at hSw); go_simp; (try with_reducible rfl))); (try simp only [Act.put, List.setIfInBounds_toArray, List.set_cons_zero, List.set_cons_succ])
        refine wpAnyH_ready (rs := [2]) (by kernel_rfl) (by simp) ?_; refine AllReadyH.cons (o := ⟨some 22, _, _, _, _, _⟩) rfl (fun K hK => ?_) AllReadyH.nil; go_simp
        go_at_call 41
        refine (HX1.out W2.drew hBW2 HI2.out).mono ?_
        rintro e w5 ⟨rfl, rfl⟩
        refine hK.out _ _ ⟨s0, s1, s2, s3⟩ (fun hHeld => ?_); clear hK K; (try simp only [Act.put, List.setIfInBounds_toArray, List.set_cons_zero, List.set_cons_succ])
        refine wpAnyH_take (i := 3) (oi := ⟨some 23, _, _, _, _, _⟩) (v := ?_) rfl (by kernel_rfl) (by kernel_rfl) (by kernel_rfl) (fun _ _ _ h => h) (Or.inl ⟨by rfl, ?_⟩) (by assumption) ?_; rotate_left; (focus (intro w hSw; (try dsimp only at hSw); go_simp; (try with_reducible rfl))); (try simp only [Act.put, List.setIfInBounds_toArray, List.set_cons_zero, List.set_cons_succ])
        refine wpAnyH_take (i := 4) (oi := ⟨some 24, _, _, _, _, _⟩) (v := ?_) rfl (by kernel_rfl) (by kernel_rfl) (by kernel_rfl) (fun _ _ _ h => h) (Or.inl ⟨by rfl, ?_⟩) (by assumption) ?_; rotate_left; (focus (intro w hSw; (try dsimp only at hSw); go_simp; (try with_reducible rfl))); (try simp only [Act.put, List.setIfInBounds_toArray, List.set_cons_zero, List.set_cons_succ])
        refine wpAnyH_take (i := 5) (oi := ⟨some 25, _, _, _, _, _⟩) (v := ?_) rfl (by kernel_rfl) (by kernel_rfl) (by kernel_rfl) (fun _ _ _ h => h) (Or.inl ⟨by rfl, ?_⟩) (by assumption) ?_; rotate_left; (focus (intro w hSw; (try dsimp only at hSw); go_simp; (try with_reducible rfl))); (try simp only [Act.put, List.setIfInBounds_toArray, List.set_cons_zero, List.set_cons_succ])
        refine wpAnyH_take (i := 6) (oi := ⟨some 26, _, _, _, _, _⟩) (v := ?_) rfl (by kernel_rfl) (by kernel_rfl) (by kernel_rfl) (fun _ _ _ h => h) (Or.inl ⟨by rfl, ?_⟩) (by assumption) ?_; rotate_left; (focus (intro w hSw; (try dsimp only at hSw); go_simp; (try with_reducible rfl))); (try simp only [Act.put, List.setIfInBounds_toArray, List.set_cons_zero, List.set_cons_succ])
        refine wpAnyH_ready (rs := [7]) (by kernel_rfl) (by simp) ?_; refine AllReadyH.cons (o := ⟨some 27, _, _, _, _, _⟩) rfl (fun K hK => ?_) AllReadyH.nil; go_simp
        go_at_call 42
        refine (HX2.out W2.drew hBW2 HI1.out).mono ?_
        rintro e w5 ⟨rfl, rfl⟩
        refine hK.out _ _ ⟨s0, s1, s2, s3⟩ (fun hHeld => ?_); clear hK K; (try simp only [Act.put, List.setIfInBounds_toArray, List.set_cons_zero, List.set_cons_succ])
        refine wpAnyH_take (i := 8) (oi := ⟨some 28, _, _, _, _, _⟩) (v := ?_) rfl (by kernel_rfl) (by kernel_rfl) (by kernel_rfl) (fun _ _ _ h => h) (Or.inl ⟨by rfl, ?_⟩) (by assumption) ?_; rotate_left; (focus (intro w hSw; (try dsimp only at hSw); go_simp; (try with_reducible rfl))); (try simp only [Act.put, List.setIfInBounds_toArray, List.set_cons_zero, List.set_cons_succ])
        refine wpAnyH_take (i := 9) (oi := ⟨some 29, _, _, _, _, _⟩) (v := ?_) rfl (by kernel_rfl) (by kernel_rfl) (by kernel_rfl) (fun _ _ _ h => h) (Or.inl ⟨by rfl, ?_⟩) (by assumption) ?_; rotate_left; (focus (intro w hSw; (try dsimp only at hSw); go_simp; (try with_reducible rfl))); (try simp only [Act.put, List.setIfInBounds_toArray, List.set_cons_zero, List.set_cons_succ])
        refine wpAnyH_take (i := 10) (oi := ⟨some 30, _, _, _, _, _⟩) (v := ?_) rfl (by kernel_rfl) (by kernel_rfl) (by kernel_rfl) (fun _ _ _ h => h) (Or.inl ⟨by rfl, ?_⟩) (by assumption) ?_; rotate_left; (focus (intro w hSw; (try dsimp only at hSw); go_simp; (try with_reducible rfl))); (try simp only [Act.put, List.setIfInBounds_toArray, List.set_cons_zero, List.set_cons_succ])
        refine wpAnyH_take (i := 11) (oi := ⟨some 31, _, _, _, _, _⟩) (v := undef) rfl (by kernel_rfl) (by kernel_rfl) (by kernel_rfl) (fun _ _ _ h => h) (Or.inr ⟨by rfl, rfl⟩) (by assumption) ?_; (try simp only [Act.put, List.setIfInBounds_toArray, List.set_cons_zero, List.set_cons_succ])
        refine wpAnyH_take (i := 12) (oi := ⟨some 32, _, _, _, _, _⟩) (v := undef) rfl (by kernel_rfl) (by kernel_rfl) (by kernel_rfl) (fun _ _ _ h => h) (Or.inr ⟨by rfl, rfl⟩) (by assumption) ?_; (try simp only [Act.put, List.setIfInBounds_toArray, List.set_cons_zero, List.set_cons_succ])
        refine wpAnyH_take (i := 13) (oi := ⟨some 33, _, _, _, _, _⟩) (v := undef) rfl (by kernel_rfl) (by kernel_rfl) (by kernel_rfl) (fun _ _ _ h => h) (Or.inr ⟨by rfl, rfl⟩) (by assumption) ?_; (try simp only [Act.put, List.setIfInBounds_toArray, List.set_cons_zero, List.set_cons_succ])
        refine wpAnyH_take (i := 14) (oi := ⟨some 34, _, _, _, _, _⟩) (v := undef) rfl (by kernel_rfl) (by kernel_rfl) (by kernel_rfl) (fun _ _ _ h => h) (Or.inr ⟨by rfl, rfl⟩) (by assumption) ?_; (try simp only [Act.put, List.setIfInBounds_toArray, List.set_cons_zero, List.set_cons_succ])
        refine wpAnyH_take (i := 15) (oi := ⟨some 35, _, _, _, _, _⟩) (v := undef) rfl (by kernel_rfl) (by kernel_rfl) (by kernel_rfl) (fun _ _ _ h => h) (Or.inr ⟨by rfl, rfl⟩) (by assumption) ?_; (try simp only [Act.put, List.setIfInBounds_toArray, List.set_cons_zero, List.set_cons_succ])
        refine wpAnyH_take (i := 16) (oi := ⟨some 36, _, _, _, _, _⟩) (v := undef) rfl (by kernel_rfl) (by kernel_rfl) (by kernel_rfl) (fun _ _ _ h => h) (Or.inr ⟨by rfl, rfl⟩) (by assumption) ?_; (try simp only [Act.put, List.setIfInBounds_toArray, List.set_cons_zero, List.set_cons_succ])
        refine wpAnyH_take (i := 17) (oi := ⟨some 37, _, _, _, _, _⟩) (v := ?_) rfl (by kernel_rfl) (by kernel_rfl) (by kernel_rfl) (fun _ _ _ h => h) (Or.inl ⟨by rfl, ?_⟩) (by assumption) ?_; rotate_left; (focus (intro w hSw; (try dsimp only at hSw); go_simp; (try with_reducible rfl))); (try simp only [Act.put, List.setIfInBounds_toArray, List.set_cons_zero, List.set_cons_succ])
        refine wpAnyH_done (by kernel_rfl) ?_ _
        go_wp2
        go_ret
        exact ⟨ret_b (okO_false ds k (by have := HN.out; omega) HOK.out).symm, hbW.drew⟩
      cases a3
      · have HOK := Lib.hid (show okO ds k = false from by rw [HOK.out]; rfl)
        refine wp_region_held_drew (S := fun w' => w'.cell? ⟨wr.heap.size, 0, none⟩ = some (.int .i64 p) ∧ w'.cell? ⟨wr.heap.size, 1, none⟩ = some (.bool o) ∧ w'.cell? ⟨wr.heap.size, 2, none⟩ = some (.slice A1 n1 d1) ∧ w'.cell? ⟨wr.heap.size, 3, none⟩ = some (.slice A2 n2 d2)) (by kernel_rfl) ⟨s0, s1, s2, s3⟩ (fun hHeld => ?_)
        refine wpAnyH_take (i := 0) (oi := ⟨some 20, _, _, _, _, _⟩) (v := ?_) rfl (by kernel_rfl) (by kernel_rfl) (by kernel_rfl) (fun _ _ _ h => h) (Or.inl ⟨by rfl, ?_⟩) (by assumption) ?_; rotate_left; (focus (intro w hSw; (try dsimp only at hSw); go_simp; (try with_reducible rfl))); (try simp only [Act.put, List.setIfInBounds_toArray, List.set_cons_zero, List.set_cons_succ])
        refine wpAnyH_take (i := 1) (oi := ⟨some 21, _, _, _, _, _⟩) (v := ?_) rfl (by kernel_rfl) (by kernel_rfl) (by kernel_rfl) (fun _ _ _ h => h) (Or.inl ⟨by rfl, ?_⟩) (by assumption) ?_; rotate_left; (focus (intro w hSw; (try dsimp only at hSw); go_simp; (try with_reducible rfl))); (try simp only [Act.put, List.setIfInBounds_toArray, List.set_cons_zero, List.set_cons_succ])
        refine wpAnyH_ready (rs := [2]) (by kernel_rfl) (by simp) ?_; refine AllReadyH.cons (o := ⟨some 22, _, _, _, _, _⟩) rfl (fun K hK => ?_) AllReadyH.nil; go_simp
        go_at_call 41
        refine (HX1.out W2.drew hBW2 HI2.out).mono ?_
        rintro e w5 ⟨rfl, rfl⟩
        refine hK.out _ _ ⟨s0, s1, s2, s3⟩ (fun hHeld => ?_); clear hK K; (try simp only [Act.put, List.setIfInBounds_toArray, List.set_cons_zero, List.set_cons_succ])
        refine wpAnyH_take (i := 3) (oi := ⟨some 23, _, _, _, _, _⟩) (v := ?_) rfl (by kernel_rfl) (by kernel_rfl) (by kernel_rfl) (fun _ _ _ h => h) (Or.inl ⟨by rfl, ?_⟩) (by assumption) ?_; rotate_left; (focus (intro w hSw; (try dsimp only at hSw); go_simp; (try with_reducible rfl))); (try simp only [Act.put, List.setIfInBounds_toArray, List.set_cons_zero, List.set_cons_succ])
        refine wpAnyH_take (i := 4) (oi := ⟨some 24, _, _, _, _, _⟩) (v := ?_) rfl (by kernel_rfl) (by kernel_rfl) (by kernel_rfl) (fun _ _ _ h => h) (Or.inl ⟨by rfl, ?_⟩) (by assumption) ?_; rotate_left; (focus (intro w hSw; (try dsimp only at hSw); go_simp; (try with_reducible rfl))); (try simp only [Act.put, List.setIfInBounds_toArray, List.set_cons_zero, List.set_cons_succ])
        refine wpAnyH_take (i := 5) (oi := ⟨some 25, _, _, _, _, _⟩) (v := ?_) rfl (by kernel_rfl) (by kernel_rfl) (by kernel_rfl) (fun _ _ _ h => h) (Or.inl ⟨by rfl, ?_⟩) (by assumption) ?_; rotate_left; (focus (intro w hSw; (try dsimp only at hSw); go_simp; (try with_reducible rfl))); (try simp only [Act.put, List.setIfInBounds_toArray, List.set_cons_zero, List.set_cons_succ])
        refine wpAnyH_take (i := 6) (oi := ⟨some 26, _, _, _, _, _⟩) (v := ?_) rfl (by kernel_rfl) (by kernel_rfl) (by kernel_rfl) (fun _ _ _ h => h) (Or.inl ⟨by rfl, ?_⟩) (by assumption) ?_; rotate_left; (focus (intro w hSw; (try dsimp only at hSw); go_simp; (try with_reducible rfl))); (try simp only [Act.put, List.setIfInBounds_toArray, List.set_cons_zero, List.set_cons_succ])
        refine wpAnyH_ready (rs := [7]) (by kernel_rfl) (by simp) ?_; refine AllReadyH.cons (o := ⟨some 27, _, _, _, _, _⟩) rfl (fun K hK => ?_) AllReadyH.nil; go_simp
        go_at_call 42
        refine (HX2.out W2.drew hBW2 HI1.out).mono ?_
        rintro e w5 ⟨rfl, rfl⟩
        refine hK.out _ _ ⟨s0, s1, s2, s3⟩ (fun hHeld => ?_); clear hK K; (try simp only [Act.put, List.setIfInBounds_toArray, List.set_cons_zero, List.set_cons_succ])
        refine wpAnyH_take (i := 8) (oi := ⟨some 28, _, _, _, _, _⟩) (v := ?_) rfl (by kernel_rfl) (by kernel_rfl) (by kernel_rfl) (fun _ _ _ h => h) (Or.inl ⟨by rfl, ?_⟩) (by assumption) ?_; rotate_left; (focus (intro w hSw; (try dsimp only at hSw); go_simp; (try with_reducible rfl))); (try simp only [Act.put, List.setIfInBounds_toArray, List.set_cons_zero, List.set_cons_succ])
        refine wpAnyH_take (i := 9) (oi := ⟨some 29, _, _, _, _, _⟩) (v := ?_) rfl (by kernel_rfl) (by kernel_rfl) (by kernel_rfl) (fun _ _ _ h => h) (Or.inl ⟨by rfl, ?_⟩) (by assumption) ?_; rotate_left; (focus (intro w hSw; (try dsimp only at hSw); go_simp; (try with_reducible rfl))); (try simp only [Act.put, List.setIfInBounds_toArray, List.set_cons_zero, List.set_cons_succ])
        refine wpAnyH_take (i := 10) (oi := ⟨some 30, _, _, _, _, _⟩) (v := ?_) rfl (by kernel_rfl) (by kernel_rfl) (by kernel_rfl) (fun _ _ _ h => h) (Or.inl ⟨by rfl, ?_⟩) (by assumption) ?_; rotate_left; (focus (intro w hSw; (try dsimp only at hSw); go_simp; (try with_reducible rfl))); (try simp only [Act.put, List.setIfInBounds_toArray, List.set_cons_zero, List.set_cons_succ])
        refine wpAnyH_take (i := 11) (oi := ⟨some 31, _, _, _, _, _⟩) (v := ?_) rfl (by kernel_rfl) (by kernel_rfl) (by kernel_rfl) (fun _ _ _ h => h) (Or.inl ⟨by rfl, ?_⟩) (by assumption) ?_; rotate_left; (focus (intro w hSw; (try dsimp only at hSw); go_simp; (try with_reducible rfl))); (try simp only [Act.put, List.setIfInBounds_toArray, List.set_cons_zero, List.set_cons_succ])
        refine wpAnyH_take (i := 12) (oi := ⟨some 32, _, _, _, _, _⟩) (v := ?_) rfl (by kernel_rfl) (by kernel_rfl) (by kernel_rfl) (fun _ _ _ h => h) (Or.inl ⟨by rfl, ?_⟩) (by assumption) ?_; rotate_left; (focus (intro w hSw; (try dsimp only at hSw); go_simp; (try with_reducible rfl))); (try simp only [Act.put, List.setIfInBounds_toArray, List.set_cons_zero, List.set_cons_succ])
        refine wpAnyH_take (i := 13) (oi := ⟨some 33, _, _, _, _, _⟩) (v := ?_) rfl (by kernel_rfl) (by kernel_rfl) (by kernel_rfl) (fun _ _ _ h => h) (Or.inl ⟨by rfl, ?_⟩) (by assumption) ?_; rotate_left; (focus (intro w hSw; (try dsimp only at hSw); go_simp; (try with_reducible rfl))); (try simp only [Act.put, List.setIfInBounds_toArray, List.set_cons_zero, List.set_cons_succ])
        refine wpAnyH_take (i := 14) (oi := ⟨some 34, _, _, _, _, _⟩) (v := ?_) rfl (by kernel_rfl) (by kernel_rfl) (by kernel_rfl) (fun _ _ _ h => h) (Or.inl ⟨by rfl, ?_⟩) (by assumption) ?_; rotate_left; (focus (intro w hSw; (try dsimp only at hSw); go_simp; (try with_reducible rfl))); (try simp only [Act.put, List.setIfInBounds_toArray, List.set_cons_zero, List.set_cons_succ])
        refine wpAnyH_ready (rs := [15]) (by kernel_rfl) (by simp) ?_; refine AllReadyH.cons (o := ⟨some 35, _, _, _, _, _⟩) rfl (fun K hK => ?_) AllReadyH.nil; go_simp
        go_at_call 43
        refine (HF.out W2.drew hBW2 HOS.out).mono ?_
        rintro e w6 ⟨rfl, hb6'⟩
        have hb6 : Below W2.heap.size W2 w6 := below_of_drew hb6'
        have t0 := (hb6.cell (p := ⟨wr.heap.size, 0, none⟩) hwz).trans s0
        have t1 := (hb6.cell (p := ⟨wr.heap.size, 1, none⟩) hwz).trans s1
        have t2 := (hb6.cell (p := ⟨wr.heap.size, 2, none⟩) hwz).trans s2
        have t3 := (hb6.cell (p := ⟨wr.heap.size, 3, none⟩) hwz).trans s3
        have HB6 := Lib.hid (hbW.trans (hb6.mono hbW.size))
        refine hK.out _ _ ⟨t0, t1, t2, t3⟩ (fun hHeld => ?_); clear hK K; (try simp only [Act.put, List.setIfInBounds_toArray, List.set_cons_zero, List.set_cons_succ])
        clear hb6 hb6' s0 s1 s2 s3
        refine wpAnyH_take (i := 16) (oi := ⟨some 36, _, _, _, _, _⟩) (v := ?_) rfl (by kernel_rfl) (by kernel_rfl) (by kernel_rfl) (fun _ _ _ h => h) (Or.inl ⟨by rfl, ?_⟩) (by assumption) ?_; rotate_left; (focus (intro w hSw; (try dsimp only at hSw); go_simp; (try with_reducible rfl))); (try simp only [Act.put, List.setIfInBounds_toArray, List.set_cons_zero, List.set_cons_succ])
        refine wpAnyH_take (i := 17) (oi := ⟨some 37, _, _, _, _, _⟩) (v := ?_) rfl (by kernel_rfl) (by kernel_rfl) (by kernel_rfl) (fun _ _ _ h => h) (Or.inl ⟨by rfl, ?_⟩) (by assumption) ?_; rotate_left; (focus (intro w hSw; (try dsimp only at hSw); go_simp; (try with_reducible rfl))); (try simp only [Act.put, List.setIfInBounds_toArray, List.set_cons_zero, List.set_cons_succ])
        refine wpAnyH_done (by kernel_rfl) ?_ _
        go_wp2
        go_ret
        exact ⟨ret_b (okO_false ds k (by have := HN.out; omega) HOK.out).symm, HB6.out⟩
      cases o
      · by_cases hl : 0 < n1
        · have HOK := Lib.hid (show okO ds k = false from by rw [HOK.out]; simp [hl])
          refine wp_region_held_drew (S := fun w' => w'.cell? ⟨wr.heap.size, 0, none⟩ = some (.int .i64 p) ∧ w'.cell? ⟨wr.heap.size, 1, none⟩ = some (.bool false) ∧ w'.cell? ⟨wr.heap.size, 2, none⟩ = some (.slice A1 n1 d1) ∧ w'.cell? ⟨wr.heap.size, 3, none⟩ = some (.slice A2 n2 d2)) (by kernel_rfl) ⟨s0, s1, s2, s3⟩ (fun hHeld => ?_)
          refine wpAnyH_take (i := 0) (oi := ⟨some 20, _, _, _, _, _⟩) (v := ?_) rfl (by kernel_rfl) (by kernel_rfl) (by kernel_rfl) (fun _ _ _ h => h) (Or.inl ⟨by rfl, ?_⟩) (by assumption) ?_; rotate_left; (focus (intro w hSw; (try dsimp only at hSw); go_simp; (try with_reducible rfl))); (try simp only [Act.put, List.setIfInBounds_toArray, List.set_cons_zero, List.set_cons_succ])
          refine wpAnyH_take (i := 1) (oi := ⟨some 21, _, _, _, _, _⟩) (v := ?_) rfl (by kernel_rfl) (by kernel_rfl) (by kernel_rfl) (fun _ _ _ h => h) (Or.inl ⟨by rfl, ?_⟩) (by assumption) ?_; rotate_left; (focus (intro w hSw; (try dsimp only at hSw); go_simp; (try with_reducible rfl))); (try simp only [Act.put, List.setIfInBounds_toArray, List.set_cons_zero, List.set_cons_succ])
          refine wpAnyH_ready (rs := [2]) (by kernel_rfl) (by simp) ?_; refine AllReadyH.cons (o := ⟨some 22, _, _, _, _, _⟩) rfl (fun K hK => ?_) AllReadyH.nil; go_simp
          go_at_call 41
          refine (HX1.out W2.drew hBW2 HI2.out).mono ?_
          rintro e w5 ⟨rfl, rfl⟩
          refine hK.out _ _ ⟨s0, s1, s2, s3⟩ (fun hHeld => ?_); clear hK K; (try simp only [Act.put, List.setIfInBounds_toArray, List.set_cons_zero, List.set_cons_succ])
          refine wpAnyH_take (i := 3) (oi := ⟨some 23, _, _, _, _, _⟩) (v := ?_) rfl (by kernel_rfl) (by kernel_rfl) (by kernel_rfl) (fun _ _ _ h => h) (Or.inl ⟨by rfl, ?_⟩) (by assumption) ?_; rotate_left; (focus (intro w hSw; (try dsimp only at hSw); go_simp; (try with_reducible rfl))); (try simp only [Act.put, List.setIfInBounds_toArray, List.set_cons_zero, List.set_cons_succ])
          refine wpAnyH_take (i := 4) (oi := ⟨some 24, _, _, _, _, _⟩) (v := ?_) rfl (by kernel_rfl) (by kernel_rfl) (by kernel_rfl) (fun _ _ _ h => h) (Or.inl ⟨by rfl, ?_⟩) (by assumption) ?_; rotate_left; (focus (intro w hSw; (try dsimp only at hSw); go_simp; (try with_reducible rfl))); (try simp only [Act.put, List.setIfInBounds_toArray, List.set_cons_zero, List.set_cons_succ])
          refine wpAnyH_take (i := 5) (oi := ⟨some 25, _, _, _, _, _⟩) (v := ?_) rfl (by kernel_rfl) (by kernel_rfl) (by kernel_rfl) (fun _ _ _ h => h) (Or.inl ⟨by rfl, ?_⟩) (by assumption) ?_; rotate_left; (focus (intro w hSw; (try dsimp only at hSw); go_simp; (try with_reducible rfl))); (try simp only [Act.put, List.setIfInBounds_toArray, List.set_cons_zero, List.set_cons_succ])
          refine wpAnyH_take (i := 6) (oi := ⟨some 26, _, _, _, _, _⟩) (v := ?_) rfl (by kernel_rfl) (by kernel_rfl) (by kernel_rfl) (fun _ _ _ h => h) (Or.inl ⟨by rfl, ?_⟩) (by assumption) ?_; rotate_left; (focus (intro w hSw; (try dsimp only at hSw); go_simp; (try with_reducible rfl))); (try simp only [Act.put, List.setIfInBounds_toArray, List.set_cons_zero, List.set_cons_succ])
          refine wpAnyH_ready (rs := [7]) (by kernel_rfl) (by simp) ?_; refine AllReadyH.cons (o := ⟨some 27, _, _, _, _, _⟩) rfl (fun K hK => ?_) AllReadyH.nil; go_simp
          go_at_call 42
          refine (HX2.out W2.drew hBW2 HI1.out).mono ?_
          rintro e w5 ⟨rfl, rfl⟩
          refine hK.out _ _ ⟨s0, s1, s2, s3⟩ (fun hHeld => ?_); clear hK K; (try simp only [Act.put, List.setIfInBounds_toArray, List.set_cons_zero, List.set_cons_succ])
          refine wpAnyH_take (i := 8) (oi := ⟨some 28, _, _, _, _, _⟩) (v := ?_) rfl (by kernel_rfl) (by kernel_rfl) (by kernel_rfl) (fun _ _ _ h => h) (Or.inl ⟨by rfl, ?_⟩) (by assumption) ?_; rotate_left; (focus (intro w hSw; (try dsimp only at hSw); go_simp; (try with_reducible rfl))); (try simp only [Act.put, List.setIfInBounds_toArray, List.set_cons_zero, List.set_cons_succ])
          refine wpAnyH_take (i := 9) (oi := ⟨some 29, _, _, _, _, _⟩) (v := ?_) rfl (by kernel_rfl) (by kernel_rfl) (by kernel_rfl) (fun _ _ _ h => h) (Or.inl ⟨by rfl, ?_⟩) (by assumption) ?_; rotate_left; (focus (intro w hSw; (try dsimp only at hSw); go_simp; (try with_reducible rfl))); (try simp only [Act.put, List.setIfInBounds_toArray, List.set_cons_zero, List.set_cons_succ])
          refine wpAnyH_take (i := 10) (oi := ⟨some 30, _, _, _, _, _⟩) (v := ?_) rfl (by kernel_rfl) (by kernel_rfl) (by kernel_rfl) (fun _ _ _ h => h) (Or.inl ⟨by rfl, ?_⟩) (by assumption) ?_; rotate_left; (focus (intro w hSw; (try dsimp only at hSw); go_simp; (try with_reducible rfl))); (try simp only [Act.put, List.setIfInBounds_toArray, List.set_cons_zero, List.set_cons_succ])
          refine wpAnyH_take (i := 11) (oi := ⟨some 31, _, _, _, _, _⟩) (v := ?_) rfl (by kernel_rfl) (by kernel_rfl) (by kernel_rfl) (fun _ _ _ h => h) (Or.inl ⟨by rfl, ?_⟩) (by assumption) ?_; rotate_left; (focus (intro w hSw; (try dsimp only at hSw); go_simp; (try with_reducible rfl))); (try simp only [Act.put, List.setIfInBounds_toArray, List.set_cons_zero, List.set_cons_succ])
          refine wpAnyH_take (i := 12) (oi := ⟨some 32, _, _, _, _, _⟩) (v := ?_) rfl (by kernel_rfl) (by kernel_rfl) (by kernel_rfl) (fun _ _ _ h => h) (Or.inl ⟨by rfl, ?_⟩) (by assumption) ?_; rotate_left; (focus (intro w hSw; (try dsimp only at hSw); go_simp; (try with_reducible rfl))); (try simp only [Act.put, List.setIfInBounds_toArray, List.set_cons_zero, List.set_cons_succ])
          refine wpAnyH_take (i := 13) (oi := ⟨some 33, _, _, _, _, _⟩) (v := ?_) rfl (by kernel_rfl) (by kernel_rfl) (by kernel_rfl) (fun _ _ _ h => h) (Or.inl ⟨by rfl, ?_⟩) (by assumption) ?_; rotate_left; (focus (intro w hSw; (try dsimp only at hSw); go_simp; (try with_reducible rfl))); (try simp only [Act.put, List.setIfInBounds_toArray, List.set_cons_zero, List.set_cons_succ])
          refine wpAnyH_take (i := 14) (oi := ⟨some 34, _, _, _, _, _⟩) (v := ?_) rfl (by kernel_rfl) (by kernel_rfl) (by kernel_rfl) (fun _ _ _ h => h) (Or.inl ⟨by rfl, ?_⟩) (by assumption) ?_; rotate_left; (focus (intro w hSw; (try dsimp only at hSw); go_simp; (try with_reducible rfl))); (try simp only [Act.put, List.setIfInBounds_toArray, List.set_cons_zero, List.set_cons_succ])
          refine wpAnyH_ready (rs := [15]) (by kernel_rfl) (by simp) ?_; refine AllReadyH.cons (o := ⟨some 35, _, _, _, _, _⟩) rfl (fun K hK => ?_) AllReadyH.nil; go_simp
          go_at_call 43
          refine (HF.out W2.drew hBW2 HOS.out).mono ?_
          rintro e w6 ⟨rfl, hb6'⟩
          have hb6 : Below W2.heap.size W2 w6 := below_of_drew hb6'
          have t0 := (hb6.cell (p := ⟨wr.heap.size, 0, none⟩) hwz).trans s0
          have t1 := (hb6.cell (p := ⟨wr.heap.size, 1, none⟩) hwz).trans s1
          have t2 := (hb6.cell (p := ⟨wr.heap.size, 2, none⟩) hwz).trans s2
          have t3 := (hb6.cell (p := ⟨wr.heap.size, 3, none⟩) hwz).trans s3
          have HB6 := Lib.hid (hbW.trans (hb6.mono hbW.size))
          refine hK.out _ _ ⟨t0, t1, t2, t3⟩ (fun hHeld => ?_); clear hK K; (try simp only [Act.put, List.setIfInBounds_toArray, List.set_cons_zero, List.set_cons_succ])
          clear hb6 hb6' s0 s1 s2 s3
          refine wpAnyH_take (i := 16) (oi := ⟨some 36, _, _, _, _, _⟩) (v := ?_) rfl (by kernel_rfl) (by kernel_rfl) (by kernel_rfl) (fun _ _ _ h => h) (Or.inl ⟨by rfl, ?_⟩) (by assumption) ?_; rotate_left; (focus (intro w hSw; (try dsimp only at hSw); go_simp; (try with_reducible rfl))); (try simp only [Act.put, List.setIfInBounds_toArray, List.set_cons_zero, List.set_cons_succ])
          refine wpAnyH_take (i := 17) (oi := ⟨some 37, _, _, _, _, _⟩) (v := ?_) rfl (by kernel_rfl) (by kernel_rfl) (by kernel_rfl) (fun _ _ _ h => h) (Or.inl ⟨by rfl, ?_⟩) (by assumption) ?_; rotate_left; (focus (intro w hSw; (try dsimp only at hSw); go_simp; (try with_reducible rfl))); (try simp only [Act.put, List.setIfInBounds_toArray, List.set_cons_zero, List.set_cons_succ])
          refine wpAnyH_done (by kernel_rfl) ?_ _
          go_wp2
          go_ret
          exact ⟨ret_b (okO_false ds k (by have := HN.out; omega) HOK.out).symm, HB6.out⟩
        · have HOK := Lib.hid (show okO ds k = true from by rw [HOK.out]; simp [hl])
          refine wp_region_held_drew (S := fun w' => w'.cell? ⟨wr.heap.size, 0, none⟩ = some (.int .i64 p) ∧ w'.cell? ⟨wr.heap.size, 1, none⟩ = some (.bool false) ∧ w'.cell? ⟨wr.heap.size, 2, none⟩ = some (.slice A1 n1 d1) ∧ w'.cell? ⟨wr.heap.size, 3, none⟩ = some (.slice A2 n2 d2)) (by kernel_rfl) ⟨s0, s1, s2, s3⟩ (fun hHeld => ?_)
          refine wpAnyH_take (i := 0) (oi := ⟨some 20, _, _, _, _, _⟩) (v := ?_) rfl (by kernel_rfl) (by kernel_rfl) (by kernel_rfl) (fun _ _ _ h => h) (Or.inl ⟨by rfl, ?_⟩) (by assumption) ?_; rotate_left; (focus (intro w hSw; (try dsimp only at hSw); go_simp; (try with_reducible rfl))); (try simp only [Act.put, List.setIfInBounds_toArray, List.set_cons_zero, List.set_cons_succ])
          refine wpAnyH_take (i := 1) (oi := ⟨some 21, _, _, _, _, _⟩) (v := ?_) rfl (by kernel_rfl) (by kernel_rfl) (by kernel_rfl) (fun _ _ _ h => h) (Or.inl ⟨by rfl, ?_⟩) (by assumption) ?_; rotate_left; (focus (intro w hSw; (try dsimp only at hSw); go_simp; (try with_reducible rfl))); (try simp only [Act.put, List.setIfInBounds_toArray, List.set_cons_zero, List.set_cons_succ])
          refine wpAnyH_ready (rs := [2]) (by kernel_rfl) (by simp) ?_; refine AllReadyH.cons (o := ⟨some 22, _, _, _, _, _⟩) rfl (fun K hK => ?_) AllReadyH.nil; go_simp
          go_at_call 41
          refine (HX1.out W2.drew hBW2 HI2.out).mono ?_
          rintro e w5 ⟨rfl, rfl⟩
          refine hK.out _ _ ⟨s0, s1, s2, s3⟩ (fun hHeld => ?_); clear hK K; (try simp only [Act.put, List.setIfInBounds_toArray, List.set_cons_zero, List.set_cons_succ])
          refine wpAnyH_take (i := 3) (oi := ⟨some 23, _, _, _, _, _⟩) (v := ?_) rfl (by kernel_rfl) (by kernel_rfl) (by kernel_rfl) (fun _ _ _ h => h) (Or.inl ⟨by rfl, ?_⟩) (by assumption) ?_; rotate_left; (focus (intro w hSw; (try dsimp only at hSw); go_simp; (try with_reducible rfl))); (try simp only [Act.put, List.setIfInBounds_toArray, List.set_cons_zero, List.set_cons_succ])
          refine wpAnyH_take (i := 4) (oi := ⟨some 24, _, _, _, _, _⟩) (v := ?_) rfl (by kernel_rfl) (by kernel_rfl) (by kernel_rfl) (fun _ _ _ h => h) (Or.inl ⟨by rfl, ?_⟩) (by assumption) ?_; rotate_left; (focus (intro w hSw; (try dsimp only at hSw); go_simp; (try with_reducible rfl))); (try simp only [Act.put, List.setIfInBounds_toArray, List.set_cons_zero, List.set_cons_succ])
          refine wpAnyH_take (i := 5) (oi := ⟨some 25, _, _, _, _, _⟩) (v := ?_) rfl (by kernel_rfl) (by kernel_rfl) (by kernel_rfl) (fun _ _ _ h => h) (Or.inl ⟨by rfl, ?_⟩) (by assumption) ?_; rotate_left; (focus (intro w hSw; (try dsimp only at hSw); go_simp; (try with_reducible rfl))); (try simp only [Act.put, List.setIfInBounds_toArray, List.set_cons_zero, List.set_cons_succ])
          refine wpAnyH_take (i := 6) (oi := ⟨some 26, _, _, _, _, _⟩) (v := ?_) rfl (by kernel_rfl) (by kernel_rfl) (by kernel_rfl) (fun _ _ _ h => h) (Or.inl ⟨by rfl, ?_⟩) (by assumption) ?_; rotate_left; (focus (intro w hSw; (try dsimp only at hSw); go_simp; (try with_reducible rfl))); (try simp only [Act.put, List.setIfInBounds_toArray, List.set_cons_zero, List.set_cons_succ])
          refine wpAnyH_ready (rs := [7]) (by kernel_rfl) (by simp) ?_; refine AllReadyH.cons (o := ⟨some 27, _, _, _, _, _⟩) rfl (fun K hK => ?_) AllReadyH.nil; go_simp
          go_at_call 42
          refine (HX2.out W2.drew hBW2 HI1.out).mono ?_
          rintro e w5 ⟨rfl, rfl⟩
          refine hK.out _ _ ⟨s0, s1, s2, s3⟩ (fun hHeld => ?_); clear hK K; (try simp only [Act.put, List.setIfInBounds_toArray, List.set_cons_zero, List.set_cons_succ])
          refine wpAnyH_take (i := 8) (oi := ⟨some 28, _, _, _, _, _⟩) (v := ?_) rfl (by kernel_rfl) (by kernel_rfl) (by kernel_rfl) (fun _ _ _ h => h) (Or.inl ⟨by rfl, ?_⟩) (by assumption) ?_; rotate_left; (focus (intro w hSw; (try dsimp only at hSw); go_simp; (try with_reducible rfl))); (try simp only [Act.put, List.setIfInBounds_toArray, List.set_cons_zero, List.set_cons_succ])
          refine wpAnyH_take (i := 9) (oi := ⟨some 29, _, _, _, _, _⟩) (v := ?_) rfl (by kernel_rfl) (by kernel_rfl) (by kernel_rfl) (fun _ _ _ h => h) (Or.inl ⟨by rfl, ?_⟩) (by assumption) ?_; rotate_left; (focus (intro w hSw; (try dsimp only at hSw); go_simp; (try with_reducible rfl))); (try simp only [Act.put, List.setIfInBounds_toArray, List.set_cons_zero, List.set_cons_succ])
          refine wpAnyH_take (i := 10) (oi := ⟨some 30, _, _, _, _, _⟩) (v := ?_) rfl (by kernel_rfl) (by kernel_rfl) (by kernel_rfl) (fun _ _ _ h => h) (Or.inl ⟨by rfl, ?_⟩) (by assumption) ?_; rotate_left; (focus (intro w hSw; (try dsimp only at hSw); go_simp; (try with_reducible rfl))); (try simp only [Act.put, List.setIfInBounds_toArray, List.set_cons_zero, List.set_cons_succ])
          refine wpAnyH_take (i := 11) (oi := ⟨some 31, _, _, _, _, _⟩) (v := ?_) rfl (by kernel_rfl) (by kernel_rfl) (by kernel_rfl) (fun _ _ _ h => h) (Or.inl ⟨by rfl, ?_⟩) (by assumption) ?_; rotate_left; (focus (intro w hSw; (try dsimp only at hSw); go_simp; (try with_reducible rfl))); (try simp only [Act.put, List.setIfInBounds_toArray, List.set_cons_zero, List.set_cons_succ])
          refine wpAnyH_take (i := 12) (oi := ⟨some 32, _, _, _, _, _⟩) (v := ?_) rfl (by kernel_rfl) (by kernel_rfl) (by kernel_rfl) (fun _ _ _ h => h) (Or.inl ⟨by rfl, ?_⟩) (by assumption) ?_; rotate_left; (focus (intro w hSw; (try dsimp only at hSw); go_simp; (try with_reducible rfl))); (try simp only [Act.put, List.setIfInBounds_toArray, List.set_cons_zero, List.set_cons_succ])
          refine wpAnyH_take (i := 13) (oi := ⟨some 33, _, _, _, _, _⟩) (v := ?_) rfl (by kernel_rfl) (by kernel_rfl) (by kernel_rfl) (fun _ _ _ h => h) (Or.inl ⟨by rfl, ?_⟩) (by assumption) ?_; rotate_left; (focus (intro w hSw; (try dsimp only at hSw); go_simp; (try with_reducible rfl))); (try simp only [Act.put, List.setIfInBounds_toArray, List.set_cons_zero, List.set_cons_succ])
          refine wpAnyH_take (i := 14) (oi := ⟨some 34, _, _, _, _, _⟩) (v := ?_) rfl (by kernel_rfl) (by kernel_rfl) (by kernel_rfl) (fun _ _ _ h => h) (Or.inl ⟨by rfl, ?_⟩) (by assumption) ?_; rotate_left; (focus (intro w hSw; (try dsimp only at hSw); go_simp; (try with_reducible rfl))); (try simp only [Act.put, List.setIfInBounds_toArray, List.set_cons_zero, List.set_cons_succ])
          refine wpAnyH_ready (rs := [15]) (by kernel_rfl) (by simp) ?_; refine AllReadyH.cons (o := ⟨some 35, _, _, _, _, _⟩) rfl (fun K hK => ?_) AllReadyH.nil; go_simp
          go_at_call 43
          refine (HF.out W2.drew hBW2 HOS.out).mono ?_
          rintro e w6 ⟨rfl, hb6'⟩
          have hb6 : Below W2.heap.size W2 w6 := below_of_drew hb6'
          have t0 := (hb6.cell (p := ⟨wr.heap.size, 0, none⟩) hwz).trans s0
          have t1 := (hb6.cell (p := ⟨wr.heap.size, 1, none⟩) hwz).trans s1
          have t2 := (hb6.cell (p := ⟨wr.heap.size, 2, none⟩) hwz).trans s2
          have t3 := (hb6.cell (p := ⟨wr.heap.size, 3, none⟩) hwz).trans s3
          have HB6 := Lib.hid (hbW.trans (hb6.mono hbW.size))
          refine hK.out _ _ ⟨t0, t1, t2, t3⟩ (fun hHeld => ?_); clear hK K; (try simp only [Act.put, List.setIfInBounds_toArray, List.set_cons_zero, List.set_cons_succ])
          clear hb6 hb6' s0 s1 s2 s3
          refine wpAnyH_take (i := 16) (oi := ⟨some 36, _, _, _, _, _⟩) (v := ?_) rfl (by kernel_rfl) (by kernel_rfl) (by kernel_rfl) (fun _ _ _ h => h) (Or.inl ⟨by rfl, ?_⟩) (by assumption) ?_; rotate_left; (focus (intro w hSw; (try dsimp only at hSw); go_simp; (try with_reducible rfl))); (try simp only [Act.put, List.setIfInBounds_toArray, List.set_cons_zero, List.set_cons_succ])
          refine wpAnyH_take (i := 17) (oi := ⟨some 37, _, _, _, _, _⟩) (v := ?_) rfl (by kernel_rfl) (by kernel_rfl) (by kernel_rfl) (fun _ _ _ h => h) (Or.inl ⟨by rfl, ?_⟩) (by assumption) ?_; rotate_left; (focus (intro w hSw; (try dsimp only at hSw); go_simp; (try with_reducible rfl))); (try simp only [Act.put, List.setIfInBounds_toArray, List.set_cons_zero, List.set_cons_succ])
          refine wpAnyH_done (by kernel_rfl) ?_ _
          go_wp2
          go_roundw
          case rel => exact ⟨k + 1, by omega, by go_num, fun j hj => by
                    rcases Nat.lt_or_ge j k with h1 | h1
                    · exact HA.out j h1
                    · obtain rfl : j = k := by omega
                      exact HOK.out, HB6.out⟩
          case measure => simp [intOf]; omega
      · have HOK := Lib.hid (show okO ds k = true from by rw [HOK.out]; rfl)
        refine wp_region_held_drew (S := fun w' => w'.cell? ⟨wr.heap.size, 0, none⟩ = some (.int .i64 p) ∧ w'.cell? ⟨wr.heap.size, 1, none⟩ = some (.bool true) ∧ w'.cell? ⟨wr.heap.size, 2, none⟩ = some (.slice A1 n1 d1) ∧ w'.cell? ⟨wr.heap.size, 3, none⟩ = some (.slice A2 n2 d2)) (by kernel_rfl) ⟨s0, s1, s2, s3⟩ (fun hHeld => ?_)
        refine wpAnyH_take (i := 0) (oi := ⟨some 20, _, _, _, _, _⟩) (v := ?_) rfl (by kernel_rfl) (by kernel_rfl) (by kernel_rfl) (fun _ _ _ h => h) (Or.inl ⟨by rfl, ?_⟩) (by assumption) ?_; rotate_left; (focus (intro w hSw; (try dsimp only at hSw); go_simp; (try with_reducible rfl))); (try simp only [Act.put, List.setIfInBounds_toArray, List.set_cons_zero, List.set_cons_succ])
        refine wpAnyH_take (i := 1) (oi := ⟨some 21, _, _, _, _, _⟩) (v := ?_) rfl (by kernel_rfl) (by kernel_rfl) (by kernel_rfl) (fun _ _ _ h => h) (Or.inl ⟨by rfl, ?_⟩) (by assumption) ?_; rotate_left; (focus (intro w hSw; (try dsimp only at hSw); go_simp; (try with_reducible rfl))); (try simp only [Act.put, List.setIfInBounds_toArray, List.set_cons_zero, List.set_cons_succ])
        refine wpAnyH_ready (rs := [2]) (by kernel_rfl) (by simp) ?_; refine AllReadyH.cons (o := ⟨some 22, _, _, _, _, _⟩) rfl (fun K hK => ?_) AllReadyH.nil; go_simp
        go_at_call 41
        refine (HX1.out W2.drew hBW2 HI2.out).mono ?_
        rintro e w5 ⟨rfl, rfl⟩
        refine hK.out _ _ ⟨s0, s1, s2, s3⟩ (fun hHeld => ?_); clear hK K; (try simp only [Act.put, List.setIfInBounds_toArray, List.set_cons_zero, List.set_cons_succ])
        refine wpAnyH_take (i := 3) (oi := ⟨some 23, _, _, _, _, _⟩) (v := ?_) rfl (by kernel_rfl) (by kernel_rfl) (by kernel_rfl) (fun _ _ _ h => h) (Or.inl ⟨by rfl, ?_⟩) (by assumption) ?_; rotate_left; (focus (intro w hSw; (try dsimp only at hSw); go_simp; (try with_reducible rfl))); (try simp only [Act.put, List.setIfInBounds_toArray, List.set_cons_zero, List.set_cons_succ])
        refine wpAnyH_take (i := 4) (oi := ⟨some 24, _, _, _, _, _⟩) (v := ?_) rfl (by kernel_rfl) (by kernel_rfl) (by kernel_rfl) (fun _ _ _ h => h) (Or.inl ⟨by rfl, ?_⟩) (by assumption) ?_; rotate_left; (focus (intro w hSw; (try dsimp only at hSw); go_simp; (try with_reducible rfl))); (try simp only [Act.put, List.setIfInBounds_toArray, List.set_cons_zero, List.set_cons_succ])
        refine wpAnyH_take (i := 5) (oi := ⟨some 25, _, _, _, _, _⟩) (v := ?_) rfl (by kernel_rfl) (by kernel_rfl) (by kernel_rfl) (fun _ _ _ h => h) (Or.inl ⟨by rfl, ?_⟩) (by assumption) ?_; rotate_left; (focus (intro w hSw; (try dsimp only at hSw); go_simp; (try with_reducible rfl))); (try simp only [Act.put, List.setIfInBounds_toArray, List.set_cons_zero, List.set_cons_succ])
        refine wpAnyH_take (i := 6) (oi := ⟨some 26, _, _, _, _, _⟩) (v := ?_) rfl (by kernel_rfl) (by kernel_rfl) (by kernel_rfl) (fun _ _ _ h => h) (Or.inl ⟨by rfl, ?_⟩) (by assumption) ?_; rotate_left; (focus (intro w hSw; (try dsimp only at hSw); go_simp; (try with_reducible rfl))); (try simp only [Act.put, List.setIfInBounds_toArray, List.set_cons_zero, List.set_cons_succ])
        refine wpAnyH_ready (rs := [7]) (by kernel_rfl) (by simp) ?_; refine AllReadyH.cons (o := ⟨some 27, _, _, _, _, _⟩) rfl (fun K hK => ?_) AllReadyH.nil; go_simp
        go_at_call 42
        refine (HX2.out W2.drew hBW2 HI1.out).mono ?_
        rintro e w5 ⟨rfl, rfl⟩
        refine hK.out _ _ ⟨s0, s1, s2, s3⟩ (fun hHeld => ?_); clear hK K; (try simp only [Act.put, List.setIfInBounds_toArray, List.set_cons_zero, List.set_cons_succ])
        refine wpAnyH_take (i := 8) (oi := ⟨some 28, _, _, _, _, _⟩) (v := ?_) rfl (by kernel_rfl) (by kernel_rfl) (by kernel_rfl) (fun _ _ _ h => h) (Or.inl ⟨by rfl, ?_⟩) (by assumption) ?_; rotate_left; (focus (intro w hSw; (try dsimp only at hSw); go_simp; (try with_reducible rfl))); (try simp only [Act.put, List.setIfInBounds_toArray, List.set_cons_zero, List.set_cons_succ])
        refine wpAnyH_take (i := 9) (oi := ⟨some 29, _, _, _, _, _⟩) (v := ?_) rfl (by kernel_rfl) (by kernel_rfl) (by kernel_rfl) (fun _ _ _ h => h) (Or.inl ⟨by rfl, ?_⟩) (by assumption) ?_; rotate_left; (focus (intro w hSw; (try dsimp only at hSw); go_simp; (try with_reducible rfl))); (try simp only [Act.put, List.setIfInBounds_toArray, List.set_cons_zero, List.set_cons_succ])
        refine wpAnyH_take (i := 10) (oi := ⟨some 30, _, _, _, _, _⟩) (v := ?_) rfl (by kernel_rfl) (by kernel_rfl) (by kernel_rfl) (fun _ _ _ h => h) (Or.inl ⟨by rfl, ?_⟩) (by assumption) ?_; rotate_left; (focus (intro w hSw; (try dsimp only at hSw); go_simp; (try with_reducible rfl))); (try simp only [Act.put, List.setIfInBounds_toArray, List.set_cons_zero, List.set_cons_succ])
        refine wpAnyH_take (i := 11) (oi := ⟨some 31, _, _, _, _, _⟩) (v := ?_) rfl (by kernel_rfl) (by kernel_rfl) (by kernel_rfl) (fun _ _ _ h => h) (Or.inl ⟨by rfl, ?_⟩) (by assumption) ?_; rotate_left; (focus (intro w hSw; (try dsimp only at hSw); go_simp; (try with_reducible rfl))); (try simp only [Act.put, List.setIfInBounds_toArray, List.set_cons_zero, List.set_cons_succ])
        refine wpAnyH_take (i := 12) (oi := ⟨some 32, _, _, _, _, _⟩) (v := ?_) rfl (by kernel_rfl) (by kernel_rfl) (by kernel_rfl) (fun _ _ _ h => h) (Or.inl ⟨by rfl, ?_⟩) (by assumption) ?_; rotate_left; (focus (intro w hSw; (try dsimp only at hSw); go_simp; (try with_reducible rfl))); (try simp only [Act.put, List.setIfInBounds_toArray, List.set_cons_zero, List.set_cons_succ])
        refine wpAnyH_take (i := 13) (oi := ⟨some 33, _, _, _, _, _⟩) (v := ?_) rfl (by kernel_rfl) (by kernel_rfl) (by kernel_rfl) (fun _ _ _ h => h) (Or.inl ⟨by rfl, ?_⟩) (by assumption) ?_; rotate_left; (focus (intro w hSw; (try dsimp only at hSw); go_simp; (try with_reducible rfl))); (try simp only [Act.put, List.setIfInBounds_toArray, List.set_cons_zero, List.set_cons_succ])
        refine wpAnyH_take (i := 14) (oi := ⟨some 34, _, _, _, _, _⟩) (v := ?_) rfl (by kernel_rfl) (by kernel_rfl) (by kernel_rfl) (fun _ _ _ h => h) (Or.inl ⟨by rfl, ?_⟩) (by assumption) ?_; rotate_left; (focus (intro w hSw; (try dsimp only at hSw); go_simp; (try with_reducible rfl))); (try simp only [Act.put, List.setIfInBounds_toArray, List.set_cons_zero, List.set_cons_succ])
        refine wpAnyH_ready (rs := [15]) (by kernel_rfl) (by simp) ?_; refine AllReadyH.cons (o := ⟨some 35, _, _, _, _, _⟩) rfl (fun K hK => ?_) AllReadyH.nil; go_simp
        go_at_call 43
        refine (HF.out W2.drew hBW2 HOS.out).mono ?_
        rintro e w6 ⟨rfl, hb6'⟩
        have hb6 : Below W2.heap.size W2 w6 := below_of_drew hb6'
        have t0 := (hb6.cell (p := ⟨wr.heap.size, 0, none⟩) hwz).trans s0
        have t1 := (hb6.cell (p := ⟨wr.heap.size, 1, none⟩) hwz).trans s1
        have t2 := (hb6.cell (p := ⟨wr.heap.size, 2, none⟩) hwz).trans s2
        have t3 := (hb6.cell (p := ⟨wr.heap.size, 3, none⟩) hwz).trans s3
        have HB6 := Lib.hid (hbW.trans (hb6.mono hbW.size))
        refine hK.out _ _ ⟨t0, t1, t2, t3⟩ (fun hHeld => ?_); clear hK K; (try simp only [Act.put, List.setIfInBounds_toArray, List.set_cons_zero, List.set_cons_succ])
        clear hb6 hb6' s0 s1 s2 s3
        refine wpAnyH_take (i := 16) (oi := ⟨some 36, _, _, _, _, _⟩) (v := ?_) rfl (by kernel_rfl) (by kernel_rfl) (by kernel_rfl) (fun _ _ _ h => h) (Or.inl ⟨by rfl, ?_⟩) (by assumption) ?_; rotate_left; (focus (intro w hSw; (try dsimp only at hSw); go_simp; (try with_reducible rfl))); (try simp only [Act.put, List.setIfInBounds_toArray, List.set_cons_zero, List.set_cons_succ])
        refine wpAnyH_take (i := 17) (oi := ⟨some 37, _, _, _, _, _⟩) (v := ?_) rfl (by kernel_rfl) (by kernel_rfl) (by kernel_rfl) (fun _ _ _ h => h) (Or.inl ⟨by rfl, ?_⟩) (by assumption) ?_; rotate_left; (focus (intro w hSw; (try dsimp only at hSw); go_simp; (try with_reducible rfl))); (try simp only [Act.put, List.setIfInBounds_toArray, List.set_cons_zero, List.set_cons_succ])
        refine wpAnyH_done (by kernel_rfl) ?_ _
        go_wp2
        go_roundw
        case rel => exact ⟨k + 1, by omega, by go_num, fun j hj => by
                    rcases Nat.lt_or_ge j k with h1 | h1
                    · exact HA.out j h1
                    · obtain rfl : j = k := by omega
                      exact HOK.out, HB6.out⟩
        case measure => simp [intOf]; omega
    · go_wp2
      go_ret
      refine ⟨ret_b ?_, hb⟩
      rw [okO_all ds fun j hj => HA.out j (by have := HN.out; omega), HRG.out]
end Go.Proofs.Ytjhpknnhgbdkiaa

namespace Go.Proofs.Ytjhpknnhgbdkiaa
set_option linter.unusedSimpArgs false
set_option linter.unusedVariables false
open Go.RowKit
-- WANT nwTo nwTo_step nwTo_len nwTo_zero RetI nil mono cell_one_new info_parts info_int
set_option maxRecDepth 100000 in
set_option maxHeartbeats 1600000 in
theorem ownersWhere1 (K : FuncId) (cap : Value) (P : Nat → Bool) (I : World → Prop) (A : Option Addr) (n c : Nat) (ds : List On) (hn : n = ds.length) (hs : n ≤ 2000000)
    (hI : ∀ w w' : World, I w → Below w.heap.size w w' → I w') (hcf : ∀ (v : Value) (w : World), (callFunc K #[v, cap]).run Try.prog w = .ok (.enter K #[v, cap]) w)
    (hP : ∀ (q : Nat) (A1 A2 : Option Addr) (n1 d1 n2 d2 : Nat) (w : World), q < n → I w → Calls Try.prog K #[.agg #[.int .i64 (ds.getD q default).p, .bool (ds.getD q default).o, .slice A1 n1 d1, .slice A2 n2 d2], cap] w fun e w' => e = .returned (.bool (P q)) ∧ Below w.heap.size w w') (w : World) (hO : OS w w.heap.size A ds) (h : I w) :
    Calls Try.prog 36 #[.slice A n c, .func (.func K) #[] #[cap]] w fun e w' => RetI w (nwTo P n) e w' := by
  obtain ⟨i0, hi, hz0, hz1, hz2⟩ := info_parts info_int
  have HI := Lib.hid hI
  have HP := Lib.hid hP
  have H := Lib.hid h
  have HO0 := Lib.hid hO
  have HN := Lib.hid hn
  have HCF := Lib.hid hcf
  clear hI hP h hcf hO hn
  go_enter Try.func36, Try.ntmps36
  go_wp2
  go_loopw [5, 10] (fun v i wr => ∃ k : Nat, k ≤ n ∧ i = .int .i64 k ∧ Hid (OwnI wr w.heap.size v (nwTo P k)) ∧ Below w.heap.size w wr) (fun _ i _ => n - (intOf i).toNat)
  case atStart => exact ⟨0, Nat.zero_le _, rfl, World.ownsRow_nil _ _ _ _, Below.refl _ _⟩
  case round =>
    obtain ⟨k, hk, rfl, HO, hbr⟩ := hrel
    have hwr : w.heap.size ≤ wr.heap.size := hbr.size
    by_cases hlt : k < n
    · have HST := Lib.hid (nwTo_step P k)
      have hdl := nwTo_len P k
      obtain ⟨b, off, rfl, hbB, c0, c1, ⟨A1, n1, d1, c2, hn1', hp1⟩, A2, n2, d2, c3, hn2', hp2⟩ := HO0.out.at_ k (by have := HN.out; omega)
      have b0 := (hbr.cell (p := ⟨b, off + k * 4, none⟩) hbB).trans c0
      have b1 := (hbr.cell (p := ⟨b, off + k * 4 + 1, none⟩) hbB).trans c1
      have b2 := (hbr.cell (p := ⟨b, off + k * 4 + 2, none⟩) hbB).trans c2
      have b3 := (hbr.cell (p := ⟨b, off + k * 4 + 3, none⟩) hbB).trans c3
      have HPK := Lib.hid fun (w' : World) (h : I w') => HP.out k A1 A2 n1 d1 n2 d2 w' hlt h
      have HIR := Lib.hid fun (o : Obj) => HI.out _ _ H.out (hbr.alloc hwr o)
      have hcf := HCF.out
      generalize nwTo P k = D at *
      generalize P k = p at *
      generalize ds.getD k default = d at *
      obtain ⟨dp, dO, dcl, dcx⟩ := d
      dsimp only at *
      clear c0 c1 c2 c3 hn1' hp1 hn2' hp2 HO0
      cases p
      · go_wp2_with fail
        refine (HPK.out _ (HIR.out _)).mono ?_
        rintro e w2 ⟨rfl, hb2⟩
        have hb3 := ((Below.refl wr.heap.size wr).alloc (Nat.le_refl _) (.cells #[.int .i64 dp, .bool dO, .slice A1 n1 d1, .slice A2 n2 d2] 32)).trans (hb2.mono (by simp))
        go_wp2
        go_roundw
        case rel => exact ⟨k + 1, by omega, by go_num, by rw [HST.out]; simpa [OwnI, Hid] using own_below HO.out hb3, hbr.trans (hb3.mono hwr)⟩
        case measure => simp [intOf]; omega
      · go_wp2_with fail
        refine (HPK.out _ (HIR.out _)).mono ?_
        rintro e w2 ⟨rfl, hb2⟩
        have hb3 := ((Below.refl wr.heap.size wr).alloc (Nat.le_refl _) (.cells #[.int .i64 dp, .bool dO, .slice A1 n1 d1, .slice A2 n2 d2] 32)).trans (hb2.mono (by simp))
        have HO2 := Lib.hid (own_below HO.out hb3)
        have hbr2 := hbr.trans (hb3.mono hwr)
        have hw2 : w.heap.size ≤ w2.heap.size := hbr2.size
        clear hcf hb2 hb3 b0 b1 b2 b3
        go_wp2_with (at_builtin; refine wpList_append_own _ rfl _ _ 26 rfl w.heap.size 3 i0 (.int .i64 0) 1 8 Try.underlying26 hi hz0 hz1 hz2 rfl (by decide) _ _ _ rfl (HO2.out.alloc _) ⟨_, 0, none⟩ 1 1 [.int .i64 k] rfl rfl (cell_one_new _ _ _) ?c2 ?c3 ?c4 ?c5 ?_)
        case c2 => first | rfl | (intro u hu; simp at hu; subst hu; rfl)
        case c3 => unfold maxLen; omega
        case c4 => omega
        case c5 => first | omega | (simp; omega)
        intro v' w3 hown' hgrow _
        have hpos := (HO2.out.alloc (.cells #[.int .i64 k] 3)).lt
        have HO' : Hid (OwnI w3 w.heap.size v' (nwTo P (k + 1))) := by
          rw [HST.out]
          simpa [OwnI, Hid] using hown'
        have HB' := Lib.hid ((hbr2.alloc hw2 (.cells #[.int .i64 k] 3)).grown hgrow (by first | (simp; omega) | omega) (fun q hq => (hpos q hq).1))
        clear hown' hgrow hpos
        go_wp2
        go_roundw
        case rel => exact ⟨k + 1, by omega, by go_num, HO'.out, HB'.out⟩
        case measure => simp [intOf]; omega
    · obtain rfl : k = n := by omega
      go_wp2
      go_ret
      exact ⟨_, rfl, HO.out, hbr⟩
set_option maxRecDepth 100000 in
set_option maxHeartbeats 1600000 in
theorem ownersWhere0 (K : FuncId) (P : Nat → Bool) (I : World → Prop) (A : Option Addr) (n c : Nat) (ds : List On) (hn : n = ds.length) (hs : n ≤ 2000000)
    (hI : ∀ w w' : World, I w → Below w.heap.size w w' → I w') (hcf : ∀ (v : Value) (w : World), (callFunc K #[v]).run Try.prog w = .ok (.enter K #[v]) w)
    (hP : ∀ (q : Nat) (A1 A2 : Option Addr) (n1 d1 n2 d2 : Nat) (w : World), q < n → I w → Calls Try.prog K #[.agg #[.int .i64 (ds.getD q default).p, .bool (ds.getD q default).o, .slice A1 n1 d1, .slice A2 n2 d2]] w fun e w' => e = .returned (.bool (P q)) ∧ Below w.heap.size w w') (w : World) (hO : OS w w.heap.size A ds) (h : I w) :
    Calls Try.prog 36 #[.slice A n c, .func (.func K) #[] #[]] w fun e w' => RetI w (nwTo P n) e w' := by
  obtain ⟨i0, hi, hz0, hz1, hz2⟩ := info_parts info_int
  have HI := Lib.hid hI
  have HP := Lib.hid hP
  have H := Lib.hid h
  have HO0 := Lib.hid hO
  have HN := Lib.hid hn
  have HCF := Lib.hid hcf
  clear hI hP h hcf hO hn
  go_enter Try.func36, Try.ntmps36
  go_wp2
  go_loopw [5, 10] (fun v i wr => ∃ k : Nat, k ≤ n ∧ i = .int .i64 k ∧ Hid (OwnI wr w.heap.size v (nwTo P k)) ∧ Below w.heap.size w wr) (fun _ i _ => n - (intOf i).toNat)
  case atStart => exact ⟨0, Nat.zero_le _, rfl, World.ownsRow_nil _ _ _ _, Below.refl _ _⟩
  case round =>
    obtain ⟨k, hk, rfl, HO, hbr⟩ := hrel
    have hwr : w.heap.size ≤ wr.heap.size := hbr.size
    by_cases hlt : k < n
    · have HST := Lib.hid (nwTo_step P k)
      have hdl := nwTo_len P k
      obtain ⟨b, off, rfl, hbB, c0, c1, ⟨A1, n1, d1, c2, hn1', hp1⟩, A2, n2, d2, c3, hn2', hp2⟩ := HO0.out.at_ k (by have := HN.out; omega)
      have b0 := (hbr.cell (p := ⟨b, off + k * 4, none⟩) hbB).trans c0
      have b1 := (hbr.cell (p := ⟨b, off + k * 4 + 1, none⟩) hbB).trans c1
      have b2 := (hbr.cell (p := ⟨b, off + k * 4 + 2, none⟩) hbB).trans c2
      have b3 := (hbr.cell (p := ⟨b, off + k * 4 + 3, none⟩) hbB).trans c3
      have HPK := Lib.hid fun (w' : World) (h : I w') => HP.out k A1 A2 n1 d1 n2 d2 w' hlt h
      have HIR := Lib.hid fun (o : Obj) => HI.out _ _ H.out (hbr.alloc hwr o)
      have hcf := HCF.out
      generalize nwTo P k = D at *
      generalize P k = p at *
      generalize ds.getD k default = d at *
      obtain ⟨dp, dO, dcl, dcx⟩ := d
      dsimp only at *
      clear c0 c1 c2 c3 hn1' hp1 hn2' hp2 HO0
      cases p
      · go_wp2_with fail
        refine (HPK.out _ (HIR.out _)).mono ?_
        rintro e w2 ⟨rfl, hb2⟩
        have hb3 := ((Below.refl wr.heap.size wr).alloc (Nat.le_refl _) (.cells #[.int .i64 dp, .bool dO, .slice A1 n1 d1, .slice A2 n2 d2] 32)).trans (hb2.mono (by simp))
        go_wp2
        go_roundw
        case rel => exact ⟨k + 1, by omega, by go_num, by rw [HST.out]; simpa [OwnI, Hid] using own_below HO.out hb3, hbr.trans (hb3.mono hwr)⟩
        case measure => simp [intOf]; omega
      · go_wp2_with fail
        refine (HPK.out _ (HIR.out _)).mono ?_
        rintro e w2 ⟨rfl, hb2⟩
        have hb3 := ((Below.refl wr.heap.size wr).alloc (Nat.le_refl _) (.cells #[.int .i64 dp, .bool dO, .slice A1 n1 d1, .slice A2 n2 d2] 32)).trans (hb2.mono (by simp))
        have HO2 := Lib.hid (own_below HO.out hb3)
        have hbr2 := hbr.trans (hb3.mono hwr)
        have hw2 : w.heap.size ≤ w2.heap.size := hbr2.size
        clear hcf hb2 hb3 b0 b1 b2 b3
        go_wp2_with (at_builtin; refine wpList_append_own _ rfl _ _ 26 rfl w.heap.size 3 i0 (.int .i64 0) 1 8 Try.underlying26 hi hz0 hz1 hz2 rfl (by decide) _ _ _ rfl (HO2.out.alloc _) ⟨_, 0, none⟩ 1 1 [.int .i64 k] rfl rfl (cell_one_new _ _ _) ?c2 ?c3 ?c4 ?c5 ?_)
        case c2 => first | rfl | (intro u hu; simp at hu; subst hu; rfl)
        case c3 => unfold maxLen; omega
        case c4 => omega
        case c5 => first | omega | (simp; omega)
        intro v' w3 hown' hgrow _
        have hpos := (HO2.out.alloc (.cells #[.int .i64 k] 3)).lt
        have HO' : Hid (OwnI w3 w.heap.size v' (nwTo P (k + 1))) := by
          rw [HST.out]
          simpa [OwnI, Hid] using hown'
        have HB' := Lib.hid ((hbr2.alloc hw2 (.cells #[.int .i64 k] 3)).grown hgrow (by first | (simp; omega) | omega) (fun q hq => (hpos q hq).1))
        clear hown' hgrow hpos
        go_wp2
        go_roundw
        case rel => exact ⟨k + 1, by omega, by go_num, HO'.out, HB'.out⟩
        case measure => simp [intOf]; omega
    · obtain rfl : k = n := by omega
      go_wp2
      go_ret
      exact ⟨_, rfl, HO.out, hbr⟩
theorem top_impl_ValidOwners (ds : List On) (hO : OB ds) : ∀ (A : Option Addr) (n c : Nat) (w : World), n = ds.length → n ≤ c → OS w w.heap.size A ds →
    Calls Try.prog 13 #[.slice A n c] w fun e w' => e = .returned (.bool (validO ds)) ∧ Below w.heap.size w w' :=
  fun A n c w hn hc h => impl_ValidOwners A n c ds w w.heap.size (Nat.le_refl _) hn hc h hO
set_option maxHeartbeats 800000 in
theorem impl_hasOwner (A : Option Addr) (n c : Nat) (ds : List On) (o : Int) (w : World) (B : Nat) (hB : B ≤ w.heap.size) (hn : n = ds.length) (hnc : n ≤ c) (h : OS w B A ds) (hb : OB ds) :
    Calls Try.prog 35 #[.slice A n c, .int .i64 o] w fun e w' => e = .returned (.bool (hasO ds o)) ∧ Below w.heap.size w w' := by
  have hnb : n ≤ 1048576 := by rw [hn]; exact hb.1
  have HC := Lib.hid (impl_ValidOwners A n c ds w B hB hn hnc h hb)
  unfold hasO
  rw [← hn]
  clear hn h hb
  cases hv : validO ds
  · rw [hv] at HC
    clear hv
    go_enter Try.func35, Try.ntmps35
    go_wp2_with fail
    refine HC.out.mono ?_
    rintro e w1 ⟨rfl, hb⟩
    go_wp2
    go_ret
    exact ⟨rfl, hb⟩
  · rw [hv] at HC
    clear hv
    go_enter Try.func35, Try.ntmps35
    go_wp2_with fail
    refine HC.out.mono ?_
    rintro e w1 ⟨rfl, hb⟩
    go_wp2_with fail
    refine (impl_inRange _ _ _).mono ?_
    rintro e w' ⟨rfl, rfl⟩
    go_wp2
    go_ret
    exact ⟨ret_b (by simp), hb⟩
theorem liveF_len (ds : List On) : (liveF ds).length ≤ 12 := by
  unfold liveF
  cases h : validO ds
  · simp
  · simp only [if_true]
    have := nwTo_len (liveB ds) ds.length
    have := (validO_ok h).2.1
    omega
set_option maxHeartbeats 400000 in
theorem live_at (d : On) (A1 A2 : Option Addr) (n1 d1 n2 d2 : Nat) (w : World) :
    Calls Try.prog 47 #[.agg #[.int .i64 d.p, .bool d.o, .slice A1 n1 d1, .slice A2 n2 d2]] w fun e w' => e = .returned (.bool d.o) ∧ Below w.heap.size w w' := by
  obtain ⟨p, o, cl, cx⟩ := d
  dsimp only
  go_enter Try.func47, Try.ntmps47
  go_wp2
  go_ret
  exact ⟨rfl, (Below.refl _ _).alloc (Nat.le_refl _) _⟩
set_option maxRecDepth 100000 in
set_option maxHeartbeats 800000 in
theorem top_impl_LiveOf (ds : List On) (hO : OB ds) : ∀ (A : Option Addr) (n c : Nat) (w : World), n = ds.length → n ≤ c → OS w w.heap.size A ds →
    Calls Try.prog 23 #[.slice A n c] w fun e w' => RetI w (liveF ds) e w' := by
  intro A n c w hn hnc h
  have hnb : n ≤ 1048576 := by rw [hn]; exact hO.1
  have HC := Lib.hid (impl_ValidOwners A n c ds w w.heap.size (Nat.le_refl _) hn hnc h hO)
  have HW := Lib.hid fun (w1 : World) (h1 : OS w1 w1.heap.size A ds) => ownersWhere0 47 (liveB ds) (fun _ => True) A n c ds hn (by omega) (fun _ _ _ _ => trivial) (fun v w => by kernel_rfl) (fun q A1 A2 n1 d1 n2 d2 w' _ _ => live_at (ds.getD q default) A1 A2 n1 d1 n2 d2 w') w1 h1 trivial
  have HS := Lib.hid h
  have hce : liveF ds = if validO ds then nwTo (liveB ds) ds.length else [] := rfl
  rw [← hn] at hce
  rw [hce]
  clear hce hn h hO
  cases hv : validO ds
  · rw [hv] at HC
    clear hv
    simp only [Bool.false_eq_true, if_false]
    go_enter Try.func23, Try.ntmps23
    go_wp2_with fail
    refine HC.out.mono ?_
    rintro e w1 ⟨rfl, hb⟩
    go_wp2
    go_ret
    exact RetI.nil hb
  · rw [hv] at HC
    clear hv
    simp only [if_true]
    go_enter Try.func23, Try.ntmps23
    go_wp2_with fail
    refine HC.out.mono ?_
    rintro e w1 ⟨rfl, hb⟩
    go_wp2_with fail
    refine (HW.out w1 (HS.out.step hb)).mono ?_
    rintro e w2 ⟨v, rfl, ho, hb2⟩
    go_wp2
    go_ret
    exact ⟨v, by simp, own_mono ho hb.size, hb.trans (hb2.mono hb.size)⟩
set_option maxRecDepth 100000 in
set_option maxHeartbeats 1600000 in
theorem top_spec_LiveOf (ds : List On) (hO : OB ds) : ∀ (A : Option Addr) (n c : Nat) (w : World), n = ds.length → n ≤ c → OS w w.heap.size A ds →
    Calls Try.prog 24 #[.slice A n c] w fun e w' => RetI w (liveF ds) e w' := by
  intro A n c w hn hnc h
  obtain ⟨i0, hi, hz0, hz1, hz2⟩ := info_parts info_int
  have hnb : n ≤ 1048576 := by rw [hn]; exact hO.1
  have HC := Lib.hid (spec_validOwners A n c ds w w.heap.size (Nat.le_refl _) hn h hO)
  have HS := Lib.hid h
  have HN := Lib.hid hn
  have hce : liveF ds = if validO ds then nwTo (liveB ds) ds.length else [] := rfl
  rw [← hn] at hce
  rw [hce]
  clear hce hn h hO
  cases hv : validO ds
  · rw [hv] at HC
    clear hv
    simp only [Bool.false_eq_true, if_false]
    go_enter Try.func24, Try.ntmps24
    go_wp2_with fail
    refine HC.out.mono ?_
    rintro e w1 ⟨rfl, hb⟩
    go_wp2
    go_ret
    exact RetI.nil hb
  rw [hv] at HC
  clear hv
  simp only [if_true]
  go_enter Try.func24, Try.ntmps24
  go_wp2_with fail
  refine HC.out.mono ?_
  rintro e w1 ⟨rfl, hb1⟩
  have HB1 := Lib.hid hb1
  have HS1 := Lib.hid (HS.out.step hb1)
  clear hb1 HC
  go_wp2
  go_loopw [3, 4] (fun v u wr => ∃ k : Nat, k ≤ n ∧ u = .int .i64 k ∧ Hid (OwnI wr w1.heap.size v (nwTo (liveB ds) k)) ∧ Hid (Below w1.heap.size w1 wr) ∧ w1.heap.size ≤ wr.heap.size) (fun _ u _ => n - (intOf u).toNat)
  case atStart =>
    refine ⟨0, Nat.zero_le _, rfl, ?_, (Below.refl _ _).alloc (Nat.le_refl _) _, by simp⟩
    have := World.ownsRow_lit (e := 3) (size := 1) (base := w1.heap.size) w1 #[] 0 (Nat.le_refl _) (by unfold maxLen; omega) rfl
    simpa [OwnI, Hid, nwTo] using this
  case round =>
    obtain ⟨k, hk, rfl, HO, HB, hwr⟩ := hrel
    by_cases hlt : k < n
    · obtain ⟨b, off, rfl, hbB, c0, c1, -, -⟩ := HS1.out.at_ k (by have := HN.out; omega)
      have b1 := (HB.out.cell (p := ⟨b, off + k * 4 + 1, none⟩) hbB).trans c1
      have HST := Lib.hid (nwTo_step (liveB ds) k)
      have hsb : liveB ds k = (ds.getD k default).o := rfl
      have hdl := nwTo_len (liveB ds) k
      rw [hsb] at HST
      generalize nwTo (liveB ds) k = D at *
      generalize (ds.getD k default).o = x at *
      clear c0 c1 hsb HS1
      cases x
      · go_wp2
        go_roundw
        case rel => exact ⟨k + 1, by omega, by go_num, by show OwnI _ _ _ _; rw [HST.out]; simpa using HO.out, HB.out, hwr⟩
        case measure => simp [intOf]; omega
      · go_wp2_with (at_builtin; refine wpList_append_own _ rfl _ _ 26 rfl w1.heap.size 3 i0 (.int .i64 0) 1 8 Try.underlying26 hi hz0 hz1 hz2 rfl (by decide) _ _ _ rfl (HO.out.alloc _) ⟨_, 0, none⟩ 1 1 [.int .i64 k] rfl rfl (cell_one_new _ _ _) ?c2 ?c3 ?c4 ?c5 ?_)
        case c2 => first | rfl | (intro u hu; simp at hu; subst hu; rfl)
        case c3 => unfold maxLen; omega
        case c4 => omega
        case c5 => first | omega | (simp; omega)
        intro v' w3 hown' hgrow _
        have hpos := (HO.out.alloc (.cells #[.int .i64 k] 3)).lt
        have HO' : Hid (OwnI w3 w1.heap.size v' (nwTo (liveB ds) (k + 1))) := by
          rw [HST.out]
          simpa [OwnI, Hid] using hown'
        have HB' := Lib.hid ((HB.out.alloc hwr (.cells #[.int .i64 k] 3)).grown hgrow (by first | (simp; omega) | omega) (fun q hq => (hpos q hq).1))
        clear hown' hgrow hpos
        go_wp2
        go_roundw
        case rel => exact ⟨k + 1, by omega, by go_num, HO'.out, HB'.out, HB'.out.size⟩
        case measure => simp [intOf]; omega
    · obtain rfl : k = n := by omega
      go_wp2
      go_ret
      exact ⟨_, rfl, own_mono HO.out HB1.out.size, HB1.out.trans (HB.out.mono HB1.out.size)⟩
end Go.Proofs.Ytjhpknnhgbdkiaa

namespace Go.Proofs.Ytjhpknnhgbdkiaa
set_option linter.unusedSimpArgs false
set_option linter.unusedVariables false
open Go.RowKit
theorem kidsF_len (ds : List On) (o : Int) : (kidsF ds o).length ≤ 12 := by
  unfold kidsF
  cases h : hasO ds o
  · simp
  · simp only [if_true]
    have := nwTo_len (kidB ds o) ds.length
    obtain ⟨_, _, _, hv⟩ := hasO_at h
    have := (validO_ok hv).2.1
    omega
theorem kidB_low {ds : List On} (h : validO ds = true) (o i : Nat) (hi : i ≤ o) (ho : o < ds.length) : kidB ds o i = false := by
  have := okO_par h i (by omega)
  have e : ((ds.getD i default).p == (o : Int)) = false := by
    simp only [beq_eq_false_iff_ne, ne_eq]
    by_cases h0 : i = 0
    · have := this.1 h0; omega
    · have := this.2 (by omega); omega
  unfold kidB
  rw [e, Bool.and_false]
set_option maxRecDepth 100000 in
set_option maxHeartbeats 1600000 in
theorem top_spec_KidsOf (ds : List On) (o : Int) (hO : OB ds) : ∀ (A : Option Addr) (n c : Nat) (w : World), n = ds.length → n ≤ c → OS w w.heap.size A ds →
    Calls Try.prog 12 #[.slice A n c, .int .i64 o] w fun e w' => RetI w (kidsF ds o) e w' := by
  intro A n c w hn hnc h
  have hnb : n ≤ 1048576 := by rw [hn]; exact hO.1
  have HC := Lib.hid (spec_validOwners A n c ds w w.heap.size (Nat.le_refl _) hn h hO)
  have HS := Lib.hid h
  unfold kidsF
  cases hv : validO ds
  · rw [hv] at HC
    have hf : hasO ds o = false := by unfold hasO; rw [hv]; rfl
    rw [hf]
    clear hv hf hn h hO
    simp only [Bool.false_eq_true, if_false]
    go_enter Try.func12, Try.ntmps12
    go_wp2_with fail
    refine HC.out.mono ?_
    rintro e w1 ⟨rfl, hb⟩
    go_wp2
    go_ret
    exact RetI.nil hb
  rw [hv] at HC
  cases hr : rng o 0 ((n : Int) - 1)
  · have hf : hasO ds o = false := by unfold hasO; rw [← hn, hr, Bool.and_false]
    rw [hf]
    clear hv hf hn h hO
    simp only [Bool.false_eq_true, if_false]
    go_enter Try.func12, Try.ntmps12
    go_wp2_with fail
    refine HC.out.mono ?_
    rintro e w1 ⟨rfl, hb⟩
    go_wp2_with fail
    refine (spec_inRange _ _ _ _).mono ?_
    rintro e w' ⟨rfl, rfl⟩
    go_wp2
    go_ret
    exact RetI.nil hb
  have hf : hasO ds o = true := by unfold hasO; rw [hv, ← hn, hr]; rfl
  obtain ⟨ho0, ho1⟩ := (rng_iff _ _ _).1 hr
  obtain ⟨on, rfl⟩ : ∃ on : Nat, o = on := ⟨o.toNat, by omega⟩
  have hon : on < n := by omega
  rw [hf]
  simp only [if_true]
  have HK := Lib.hid fun (w1 : World) (h1 : OS w1 w1.heap.size A ds) => spec_kids A n c ds on w1 w1.heap.size (Nat.le_refl _) hn h1 (by omega) hon fun i hi => kidB_low hv on i hi (by omega)
  rw [← hn]
  clear hv hf hn h hO ho0 ho1
  go_enter Try.func12, Try.ntmps12
  go_wp2_with fail
  refine HC.out.mono ?_
  rintro e w1 ⟨rfl, hb⟩
  have HS1 := Lib.hid (HS.out.step hb)
  go_wp2_with fail
  refine (spec_inRange _ _ _ _).mono ?_
  rintro e w' ⟨rfl, rfl⟩
  go_wp2_with fail
  refine (HK.out _ HS1.out).mono ?_
  rintro e w2 ⟨v, rfl, ho, hb2⟩
  go_wp2
  go_ret
  exact ⟨v, by simp, own_mono ho hb.size, hb.trans (hb2.mono hb.size)⟩
set_option maxHeartbeats 400000 in
theorem kid_at (d : On) (o : Int) (g : Nat) (A1 A2 : Option Addr) (n1 d1 n2 d2 : Nat) (w : World) (hg : g < w.heap.size) (h1 : w.cell? ⟨g, 0, none⟩ = some (.int .i64 o)) :
    Calls Try.prog 37 #[.agg #[.int .i64 d.p, .bool d.o, .slice A1 n1 d1, .slice A2 n2 d2], .pointer (some ⟨g, 0, none⟩)] w fun e w' => e = .returned (.bool (d.o && d.p == o)) ∧ Below w.heap.size w w' := by
  obtain ⟨p, b, cl, cx⟩ := d
  dsimp only
  cases b
  all_goals
    go_enter Try.func37, Try.ntmps37
    go_wp2
    go_ret
    exact ⟨ret_b (by simp), (Below.refl _ _).alloc (Nat.le_refl _) _⟩
set_option maxRecDepth 100000 in
set_option maxHeartbeats 1600000 in
theorem top_impl_KidsOf (ds : List On) (o : Int) (hO : OB ds) : ∀ (A : Option Addr) (n c : Nat) (w : World), n = ds.length → n ≤ c → OS w w.heap.size A ds →
    Calls Try.prog 10 #[.slice A n c, .int .i64 o] w fun e w' => RetI w (kidsF ds o) e w' := by
  intro A n c w hn hnc h
  have hnb : n ≤ 1048576 := by rw [hn]; exact hO.1
  have HC := Lib.hid (impl_hasOwner A n c ds o (w.alloc (.cells #[.int .i64 o] 3)) w.heap.size (by simp) hn hnc (h.alloc (Nat.le_refl _) _) hO)
  have HS := Lib.hid (h.alloc (Nat.le_refl _) (.cells #[.int .i64 o] 3))
  have HW := Lib.hid fun (w1 : World) (h1 : OS w1 w1.heap.size A ds) (hg : w.heap.size < w1.heap.size) (hc : w1.cell? ⟨w.heap.size, 0, none⟩ = some (.int .i64 o)) =>
    ownersWhere1 37 (.pointer (some ⟨w.heap.size, 0, none⟩)) (kidB ds o) (fun w' => w.heap.size < w'.heap.size ∧ w'.cell? ⟨w.heap.size, 0, none⟩ = some (.int .i64 o)) A n c ds hn (by omega)
      (fun wa wb h hb => ⟨Nat.lt_of_lt_of_le h.1 hb.size, (hb.cell (p := ⟨w.heap.size, 0, none⟩) h.1).trans h.2⟩) (fun v w => by kernel_rfl)
      (fun q A1 A2 n1 d1 n2 d2 w' _ hw => kid_at (ds.getD q default) o w.heap.size A1 A2 n1 d1 n2 d2 w' hw.1 hw.2) w1 h1 ⟨hg, hc⟩
  have hce : kidsF ds o = if hasO ds o then nwTo (kidB ds o) ds.length else [] := rfl
  rw [← hn] at hce
  rw [hce]
  clear hce hn h hO
  cases hv : hasO ds o
  · rw [hv] at HC
    clear hv
    simp only [Bool.false_eq_true, if_false]
    go_enter Try.func10, Try.ntmps10
    go_wp2_with fail
    refine HC.out.mono ?_
    rintro e w1 ⟨rfl, hb⟩
    go_wp2
    go_ret
    exact RetI.nil (((Below.refl _ _).alloc (Nat.le_refl _) _).trans (hb.mono (by simp)))
  · rw [hv] at HC
    clear hv
    simp only [if_true]
    go_enter Try.func10, Try.ntmps10
    go_wp2_with fail
    refine HC.out.mono ?_
    rintro e w1 ⟨rfl, hb⟩
    have hw1 : w.heap.size < w1.heap.size := by have := hb.size; simp at this; omega
    have q1 : w1.cell? ⟨w.heap.size, 0, none⟩ = some (.int .i64 o) := (hb.cell (p := ⟨w.heap.size, 0, none⟩) (by simp)).trans (by go_simp)
    have HS1 := Lib.hid ((HS.out.below hb (by simp)).more (B' := w1.heap.size) (by omega))
    have HB1 := Lib.hid (((Below.refl w.heap.size w).alloc (Nat.le_refl _) (.cells #[.int .i64 o] 3)).trans (hb.mono (by simp)))
    clear hb
    go_wp2_with fail
    refine (HW.out w1 HS1.out hw1 q1).mono ?_
    rintro e w2 ⟨v, rfl, ho, hb2⟩
    go_wp2
    go_ret
    exact ⟨v, by simp, own_mono ho HB1.out.size, HB1.out.trans (hb2.mono HB1.out.size)⟩
theorem upF_len (ds : List On) (f : Nat) (o : Int) : (upF ds f o).length ≤ f := by
  induction f generalizing o with
  | zero => simp [upF]
  | succ f ih =>
    rw [upF]
    split
    · simp
    · have := ih (ds.getD o.toNat default).p; simp only [List.length_cons]; omega
theorem aboveF_len (ds : List On) (o : Int) : (aboveF ds o).length ≤ 12 := by
  unfold aboveF
  cases h : hasO ds o
  · simp
  · simp only [if_true]
    have := upF_len ds ds.length o
    obtain ⟨_, _, _, hv⟩ := hasO_at h
    have := (validO_ok hv).2.1
    omega
set_option maxRecDepth 100000 in
set_option maxHeartbeats 1600000 in
theorem top_spec_AboveOf (ds : List On) (o : Int) (hO : OB ds) : ∀ (A : Option Addr) (n c : Nat) (w : World), n = ds.length → n ≤ c → OS w w.heap.size A ds →
    Calls Try.prog 18 #[.slice A n c, .int .i64 o] w fun e w' => RetI w (aboveF ds o) e w' := by
  intro A n c w hn hnc h
  obtain ⟨i0, hi, hz0, hz1, hz2⟩ := info_parts info_int
  have hnb : n ≤ 1048576 := by rw [hn]; exact hO.1
  have HS := Lib.hid h
  unfold aboveF
  have HC := Lib.hid (spec_validOwners A n c ds w w.heap.size (Nat.le_refl _) hn h hO)
  cases hv : validO ds
  · rw [hv] at HC
    have hf : hasO ds o = false := by unfold hasO; rw [hv]; rfl
    rw [hf]
    clear hv hf hn h hO
    simp only [Bool.false_eq_true, if_false]
    go_enter Try.func18, Try.ntmps18
    go_wp2_with fail
    refine HC.out.mono ?_
    rintro e w1 ⟨rfl, hb⟩
    go_wp2
    go_ret
    exact RetI.nil hb
  rw [hv] at HC
  cases hr : rng o 0 ((n : Int) - 1)
  · have hf : hasO ds o = false := by unfold hasO; rw [← hn, hr, Bool.and_false]
    rw [hf]
    clear hv hf hn h hO
    simp only [Bool.false_eq_true, if_false]
    go_enter Try.func18, Try.ntmps18
    go_wp2_with fail
    refine HC.out.mono ?_
    rintro e w1 ⟨rfl, hb⟩
    go_wp2_with fail
    refine (spec_inRange _ _ _ _).mono ?_
    rintro e w' ⟨rfl, rfl⟩
    go_wp2
    go_ret
    exact RetI.nil hb
  have hf : hasO ds o = true := by unfold hasO; rw [hv, ← hn, hr]; rfl
  simp only [hf, if_true]
  obtain ⟨on, rfl, hon, hv⟩ := hasO_at hf
  have HPAR := Lib.hid fun i hi => okO_par hv i hi
  have hon2 : on < n := by omega
  have HN := Lib.hid hn
  obtain ⟨T, hT⟩ : ∃ T, T = upF ds ds.length on := ⟨_, rfl⟩
  rw [← hT]
  have HT := Lib.hid hT
  clear hf hn h hO hT hv hon
  go_enter Try.func18, Try.ntmps18
  go_wp2_with fail
  refine HC.out.mono ?_
  rintro e w1 ⟨rfl, hb⟩
  have HB1 := Lib.hid hb
  have HS1 := Lib.hid (HS.out.step hb)
  clear hb HC
  go_wp2_with fail
  refine (spec_inRange _ _ _ _).mono ?_
  rintro e w' ⟨rfl, rfl⟩
  go_wp2
  go_loopw [5, 1] (fun v u wr => ∃ (p : Int) (f : Nat) (D : List Int), u = .int .i64 p ∧ -1 ≤ p ∧ p < f ∧ f ≤ n ∧ D.length + f ≤ 1048576 ∧ Hid (D ++ upF ds f p = T) ∧ Hid (OwnI wr w1.heap.size v D) ∧ Hid (Below w1.heap.size w1 wr) ∧ w1.heap.size ≤ wr.heap.size) (fun _ u _ => (intOf u + 1).toNat)
  case atStart =>
    refine ⟨on, n, [], rfl, by omega, by omega, Nat.le_refl _, by simpa using hnb, by rw [HN.out]; exact HT.out.symm, ?_, (Below.refl _ _).alloc (Nat.le_refl _) _, by simp⟩
    have := World.ownsRow_lit (e := 3) (size := 1) (base := w1.heap.size) w1 #[] 0 (Nat.le_refl _) (by unfold maxLen; omega) rfl
    simpa [OwnI, Hid] using this
  case round =>
    obtain ⟨p, f, D, rfl, hp0, hp1, hf, hdl, HU, HO, HB, hwr⟩ := hrel
    by_cases hlt : 0 ≤ p
    · obtain ⟨k, rfl⟩ : ∃ k : Nat, p = k := ⟨p.toNat, by omega⟩
      obtain ⟨f, rfl⟩ : ∃ f' : Nat, f = f' + 1 := ⟨f - 1, by omega⟩
      have hkn : k < n := by omega
      obtain ⟨b, off, rfl, hbB, c0, -⟩ := HS1.out.at_ k (by have := HN.out; omega)
      have b0 := (HB.out.cell (p := ⟨b, off + k * 4, none⟩) hbB).trans c0
      have hpar := HPAR.out k (by have := HN.out; omega)
      have HU2 := Lib.hid (HU.out.symm.trans (by rw [upF_step]))
      generalize (ds.getD k default).p = q at *
      have hq1 : -1 ≤ q := by by_cases h0 : k = 0; (have := hpar.1 h0; omega); (have := hpar.2 (by omega); omega)
      have hq2 : q < k := by by_cases h0 : k = 0; (have := hpar.1 h0; omega); (have := hpar.2 (by omega); omega)
      clear c0 HS1 hpar HPAR hp0
      go_wp2_with (at_builtin; refine wpList_append_own _ rfl _ _ 26 rfl w1.heap.size 3 i0 (.int .i64 0) 1 8 Try.underlying26 hi hz0 hz1 hz2 rfl (by decide) _ _ _ rfl (HO.out.alloc _) ⟨_, 0, none⟩ 1 1 [.int .i64 k] rfl rfl (cell_one_new _ _ _) ?c2 ?c3 ?c4 ?c5 ?_)
      case c2 => first | rfl | (intro u hu; simp at hu; subst hu; rfl)
      case c3 => unfold maxLen; omega
      case c4 => omega
      case c5 => first | omega | (simp; omega)
      intro v' w3 hown' hgrow _
      have hpos := (HO.out.alloc (.cells #[.int .i64 k] 3)).lt
      have HO' : Hid (OwnI w3 w1.heap.size v' (D ++ [(k : Int)])) := by simpa [OwnI, Hid] using hown'
      have HB' := Lib.hid ((HB.out.alloc hwr (.cells #[.int .i64 k] 3)).grown hgrow (by first | (simp; omega) | omega) (fun q hq => (hpos q hq).1))
      have hb2 : Below w1.heap.size wr w3 := ((Below.refl w1.heap.size wr).alloc hwr (.cells #[.int .i64 k] 3)).grown hgrow (by first | (simp; omega) | omega) (fun q hq => (hpos q hq).1)
      have b1 := (hb2.cell (p := ⟨b, off + k * 4, none⟩) hbB).trans b0
      clear hown' hgrow hpos b0 hb2
      go_wp2
      go_roundw
      case rel => exact ⟨q, f, D ++ [(k : Int)], rfl, hq1, by omega, by omega, by simp; omega, by rw [HU2.out]; simp [Hid], HO'.out, HB'.out, HB'.out.size⟩
      case measure => simp [intOf]; omega
    · obtain rfl : p = -1 := by omega
      have HD : Hid (D = T) := by rw [← HU.out, upF_neg _ _ _ (by omega)]; simp [Hid]
      go_wp2
      go_ret
      exact ⟨_, rfl, by rw [← HD.out]; exact own_mono HO.out HB1.out.size, HB1.out.trans (HB.out.mono HB1.out.size)⟩
set_option maxRecDepth 100000 in
set_option maxHeartbeats 1600000 in
theorem top_impl_AboveOf (ds : List On) (o : Int) (hO : OB ds) : ∀ (A : Option Addr) (n c : Nat) (w : World), n = ds.length → n ≤ c → OS w w.heap.size A ds →
    Calls Try.prog 17 #[.slice A n c, .int .i64 o] w fun e w' => RetI w (aboveF ds o) e w' := by
  intro A n c w hn hnc h
  obtain ⟨i0, hi, hz0, hz1, hz2⟩ := info_parts info_int
  have hnb : n ≤ 1048576 := by rw [hn]; exact hO.1
  have HS := Lib.hid h
  unfold aboveF
  have HC := Lib.hid (impl_hasOwner A n c ds o w w.heap.size (Nat.le_refl _) hn hnc h hO)
  cases hf : hasO ds o
  · rw [hf] at HC
    clear hf hn h hO
    simp only [Bool.false_eq_true, if_false]
    go_enter Try.func17, Try.ntmps17
    go_wp2_with fail
    refine HC.out.mono ?_
    rintro e w1 ⟨rfl, hb⟩
    go_wp2
    go_ret
    exact RetI.nil hb
  rw [hf] at HC
  simp only [hf, if_true]
  obtain ⟨on, rfl, hon, hv⟩ := hasO_at hf
  have HPAR := Lib.hid fun i hi => okO_par hv i hi
  have hon2 : on < n := by omega
  have HN := Lib.hid hn
  obtain ⟨T, hT⟩ : ∃ T, T = upF ds ds.length on := ⟨_, rfl⟩
  rw [← hT]
  have HT := Lib.hid hT
  clear hf hn h hO hT hv hon
  go_enter Try.func17, Try.ntmps17
  go_wp2_with fail
  refine HC.out.mono ?_
  rintro e w1 ⟨rfl, hb⟩
  have HB1 := Lib.hid hb
  have HS1 := Lib.hid (HS.out.step hb)
  clear hb HC
  go_wp2
  go_loopw [5, 1] (fun v u wr => ∃ (p : Int) (f : Nat) (D : List Int), u = .int .i64 p ∧ -1 ≤ p ∧ p < f ∧ f ≤ n ∧ D.length + f ≤ 1048576 ∧ Hid (D ++ upF ds f p = T) ∧ Hid (OwnI wr w1.heap.size v D) ∧ Hid (Below w1.heap.size w1 wr) ∧ w1.heap.size ≤ wr.heap.size) (fun _ u _ => (intOf u + 1).toNat)
  case atStart =>
    exact ⟨on, n, [], rfl, by omega, by omega, Nat.le_refl _, by simpa using hnb, by rw [HN.out]; exact HT.out.symm, World.ownsRow_nil _ _ _ _, Below.refl _ _, Nat.le_refl _⟩
  case round =>
    obtain ⟨p, f, D, rfl, hp0, hp1, hf, hdl, HU, HO, HB, hwr⟩ := hrel
    by_cases hlt : 0 ≤ p
    · obtain ⟨k, rfl⟩ : ∃ k : Nat, p = k := ⟨p.toNat, by omega⟩
      obtain ⟨f, rfl⟩ : ∃ f' : Nat, f = f' + 1 := ⟨f - 1, by omega⟩
      have hkn : k < n := by omega
      obtain ⟨b, off, rfl, hbB, c0, -⟩ := HS1.out.at_ k (by have := HN.out; omega)
      have b0 := (HB.out.cell (p := ⟨b, off + k * 4, none⟩) hbB).trans c0
      have hpar := HPAR.out k (by have := HN.out; omega)
      have HU2 := Lib.hid (HU.out.symm.trans (by rw [upF_step]))
      generalize (ds.getD k default).p = q at *
      have hq1 : -1 ≤ q := by by_cases h0 : k = 0; (have := hpar.1 h0; omega); (have := hpar.2 (by omega); omega)
      have hq2 : q < k := by by_cases h0 : k = 0; (have := hpar.1 h0; omega); (have := hpar.2 (by omega); omega)
      have hne : ((k : Int) != -1) = true := by simp [bne]; try omega
      clear c0 HS1 hpar HPAR hp0
      go_wp2_with (at_builtin; refine wpList_append_own _ rfl _ _ 26 rfl w1.heap.size 3 i0 (.int .i64 0) 1 8 Try.underlying26 hi hz0 hz1 hz2 rfl (by decide) _ _ _ rfl (HO.out.alloc _) ⟨_, 0, none⟩ 1 1 [.int .i64 k] rfl rfl (cell_one_new _ _ _) ?c2 ?c3 ?c4 ?c5 ?_)
      case c2 => first | rfl | (intro u hu; simp at hu; subst hu; rfl)
      case c3 => unfold maxLen; omega
      case c4 => omega
      case c5 => first | omega | (simp; omega)
      intro v' w3 hown' hgrow _
      have hpos := (HO.out.alloc (.cells #[.int .i64 k] 3)).lt
      have HO' : Hid (OwnI w3 w1.heap.size v' (D ++ [(k : Int)])) := by simpa [OwnI, Hid] using hown'
      have HB' := Lib.hid ((HB.out.alloc hwr (.cells #[.int .i64 k] 3)).grown hgrow (by first | (simp; omega) | omega) (fun q hq => (hpos q hq).1))
      have hb2 : Below w1.heap.size wr w3 := ((Below.refl w1.heap.size wr).alloc hwr (.cells #[.int .i64 k] 3)).grown hgrow (by first | (simp; omega) | omega) (fun q hq => (hpos q hq).1)
      have b1 := (hb2.cell (p := ⟨b, off + k * 4, none⟩) hbB).trans b0
      clear hown' hgrow hpos b0 hb2
      go_wp2
      go_roundw
      case rel => exact ⟨q, f, D ++ [(k : Int)], rfl, hq1, by omega, by omega, by simp; omega, by rw [HU2.out]; simp [Hid], HO'.out, HB'.out, HB'.out.size⟩
      case measure => simp [intOf]; omega
    · obtain rfl : p = -1 := by omega
      have HD : Hid (D = T) := by rw [← HU.out, upF_neg _ _ _ (by omega)]; simp [Hid]
      go_wp2
      go_ret
      exact ⟨_, rfl, by rw [← HD.out]; exact own_mono HO.out HB1.out.size, HB1.out.trans (HB.out.mono HB1.out.size)⟩
end Go.Proofs.Ytjhpknnhgbdkiaa

namespace Go.Proofs.Ytjhpknnhgbdkiaa
set_option linter.unusedSimpArgs false
set_option linter.unusedVariables false
open Go.RowKit
set_option maxHeartbeats 800000 in
theorem laws_isIn (A : Option Addr) (n c : Nat) (xs : List Int) (x : Int) (w : World) (B : Nat) (hB : B ≤ w.heap.size) (hn : n = xs.length) (h : IS w B A xs) (hs : n ≤ 2000000) :
    Calls Try.prog 14 #[.slice A n c, .int .i64 x] w fun e w' => e = .returned (.bool (decide (x ∈ xs))) ∧ w = w' := by
  have H := Lib.hid h
  have HN := Lib.hid hn
  clear hn h
  go_enter Try.func14, Try.ntmps14
  go_wp2
  go_loop [5] (fun i => ∃ k : Nat, k ≤ n ∧ i = .int .i64 k ∧ Hid (∀ j, j < k → xs.getD j 0 ≠ x)) (fun i => n - (intOf i).toNat)
  case atStart => exact ⟨0, Nat.zero_le _, rfl, fun j hj => by omega⟩
  case round =>
    obtain ⟨k, hk, rfl, HA⟩ := hrel
    by_cases hlt : k < n
    · obtain ⟨b, off, rfl, hbB, hc⟩ := H.out (by have := HN.out; omega)
      have c0 := hc k (by have := HN.out; omega)
      clear hc H
      generalize hp : xs.getD k 0 = p at *
      have HP := Lib.hid hp
      clear hp
      cases hr : (p == x)
      · have HR := Lib.hid hr
        go_wp2
        go_round
        case rel => exact ⟨k + 1, by omega, by go_num, fun j hj => by
          rcases Nat.lt_or_ge j k with h1 | h1
          · exact HA.out j h1
          · obtain rfl : j = k := by omega
            rw [HP.out]; simpa using HR.out⟩
        case measure => simp [intOf]; omega
      · have HR := Lib.hid hr
        go_wp2
        go_ret
        refine ⟨ret_b ?_, rfl⟩
        symm
        apply decide_eq_true
        have h1 : k < xs.length := by have := HN.out; omega
        have h2 := HP.out
        have h3 : p = x := by simpa using HR.out
        rw [← h3, ← h2]
        simp [List.getD, h1]
    · go_wp2
      go_ret
      refine ⟨ret_b ?_, rfl⟩
      symm
      apply decide_eq_false
      intro hm
      obtain ⟨j, hj, he⟩ := List.mem_iff_getElem.1 hm
      exact HA.out j (by have := HN.out; omega) (by simp [List.getD, hj, he])
end Go.Proofs.Ytjhpknnhgbdkiaa

namespace Go.Proofs.Ytjhpknnhgbdkiaa
set_option linter.unusedSimpArgs false
set_option linter.unusedVariables false
open Go.RowKit
set_option maxHeartbeats 800000 in
theorem laws_equalInts (A A' : Option Addr) (n n' c c' : Nat) (a b : List Int) (w : World) (B : Nat) (hB : B ≤ w.heap.size) (hn : n = a.length) (hn' : n' = b.length) (h : IS w B A a) (h' : IS w B A' b) (hs : n ≤ 2000000) (hs' : n' ≤ 2000000) :
    Calls Try.prog 11 #[.slice A n c, .slice A' n' c'] w fun e w' => e = .returned (.bool (decide (a = b))) ∧ Below w.heap.size w w' := by
  by_cases hl : n = n'
  · have hne : ((n : Int) != (n' : Int)) = false := by simp [hl]
    have HL := Lib.hid hl
    have HN := Lib.hid hn
    have HN' := Lib.hid hn'
    have H := Lib.hid h
    have H' := Lib.hid h'
    clear hl hn hn' h h'
    go_enter Try.func11, Try.ntmps11
    go_wp2
    go_loopw [5] (fun i wr => ∃ k : Nat, k ≤ n ∧ i = .int .i64 k ∧ Hid (∀ j, j < k → a.getD j 0 = b.getD j 0) ∧ Below w.heap.size w wr) (fun i _ => n - (intOf i).toNat)
    case atStart => exact ⟨0, Nat.zero_le _, rfl, fun j hj => by omega, Below.refl _ _⟩
    case round =>
      obtain ⟨k, hk, rfl, HT, hb⟩ := hrel
      by_cases hlt : k < n
      · have hlt' : k < n' := by have := HL.out; omega
        obtain ⟨b1, off, rfl, hbB, hc⟩ := H.out (by have := HN.out; omega)
        obtain ⟨b2, off', rfl, hbB', hc'⟩ := H'.out (by have := HN'.out; omega)
        have d1 := hc k (by have := HN.out; omega)
        have d2 := hc' k (by have := HN'.out; omega)
        have e1 := (hb.cell (p := ⟨b1, off + k, none⟩) (by simp; omega)).trans d1
        have e2 := (hb.cell (p := ⟨b2, off' + k, none⟩) (by simp; omega)).trans d2
        clear hc hc' d1 d2 H H'
        have HNE : Hid (a.getD k 0 ≠ b.getD k 0 → decide (a = b) = false) := fun hh => by rw [decide_eq_false_iff_not]; rintro rfl; exact hh rfl
        have HEQ : Hid (a.getD k 0 = b.getD k 0 → ∀ j, j < k + 1 → a.getD j 0 = b.getD j 0) := fun hh j hj => by
          rcases Nat.lt_or_ge j k with h1 | h1
          · exact HT.out j h1
          · obtain rfl : j = k := by omega
            exact hh
        generalize a.getD k 0 = x at *
        generalize b.getD k 0 = y at *
        cases hxy : (x == y)
        · have hne2 : (x != y) = true := by simp [bne, hxy]
          have HF := Lib.hid (HNE.out (by simpa using hxy))
          clear hxy
          go_wp2
          go_region
          go_wp2
          go_ret
          exact ⟨ret_b HF.out.symm, hb.drew⟩
        · have hne2 : (x != y) = false := by simp [bne, hxy]
          have HF := Lib.hid (HEQ.out (by simpa using hxy))
          clear hxy
          go_wp2
          go_region
          go_wp2
          go_roundw
          case rel => exact ⟨k + 1, by omega, by go_num, HF.out, hb.drew⟩
          case measure => simp [intOf]; omega
      · obtain rfl : k = n := by omega
        go_wp2
        go_ret
        refine ⟨ret_b ?_, hb⟩
        symm
        apply decide_eq_true
        have h1 := HN.out
        have h2 := HN'.out
        have h3 := HL.out
        apply List.ext_getElem (by omega)
        intro j hj hj'
        have := HT.out j (by omega)
        simpa [List.getD, hj, hj'] using this
  · have hne : ((n : Int) != (n' : Int)) = true := by simp; omega
    have hf : decide (a = b) = false := by rw [decide_eq_false_iff_not]; rintro rfl; omega
    rw [hf]
    clear hl hn hn' h h' hf
    go_enter Try.func11, Try.ntmps11
    go_wp2
    go_ret
    exact ⟨rfl, Below.refl _ _⟩
set_option maxHeartbeats 800000 in
theorem laws_within (A A' : Option Addr) (n c m c' : Nat) (xs ys : List Int) (w : World) (B : Nat) (hB : B ≤ w.heap.size) (hn : n = xs.length) (h : IS w B A xs) (hs : n ≤ 2000000) (hm : m = ys.length) (h' : IS w B A' ys) (hs' : m ≤ 2000000) (hd : ∀ x ∈ xs, x ∈ ys) :
    Calls Try.prog 25 #[.slice A n c, .slice A' m c'] w fun e w' => e = .returned (.bool true) ∧ w = w' := by
  have H := Lib.hid h
  have HN := Lib.hid hn
  have HIN := Lib.hid fun (y : Int) => laws_isIn A' m c' ys y w B hB hm h' hs'
  have HD := Lib.hid hd
  clear hn h hd hm h'
  go_enter Try.func25, Try.ntmps25
  go_wp2
  go_loop [5] (fun i => ∃ k : Nat, k ≤ n ∧ i = .int .i64 k) (fun i => n - (intOf i).toNat)
  case atStart => exact ⟨0, Nat.zero_le _, rfl⟩
  case round =>
    obtain ⟨k, hk, rfl⟩ := hrel
    by_cases hlt : k < n
    · have hkx : k < xs.length := by have := HN.out; omega
      obtain ⟨b, off, rfl, hbB, hc⟩ := H.out (by have := HN.out; omega)
      have c0 := hc k hkx
      have HC := Lib.hid (HIN.out (xs.getD k 0))
      rw [decide_eq_true (HD.out (xs.getD k 0) (by simp [List.getD, hkx]))] at HC
      clear hc
      generalize xs.getD k 0 = x at *
      go_wp2_with fail
      refine HC.out.mono ?_
      rintro e w' ⟨rfl, rfl⟩
      go_wp2
      go_round
      case rel => exact ⟨k + 1, by omega, by go_num⟩
      case measure => simp [intOf]; omega
    · go_wp2
      go_ret
      exact ⟨rfl, rfl⟩
end Go.Proofs.Ytjhpknnhgbdkiaa

namespace Go.Proofs.Ytjhpknnhgbdkiaa
set_option linter.unusedSimpArgs false
set_option linter.unusedVariables false
open Go.RowKit
set_option maxHeartbeats 1600000 in
theorem laws_ascends (A : Option Addr) (n c : Nat) (xs : List Int) (w : World) (B : Nat) (hB : B ≤ w.heap.size) (hn : n = xs.length) (h : IS w B A xs) (hs : n ≤ 2000000) (hd : ∀ j, j + 1 < xs.length → xs.getD j 0 < xs.getD (j + 1) 0) :
    Calls Try.prog 15 #[.slice A n c] w fun e w' => e = .returned (.bool true) ∧ Below w.heap.size w w' := by
  have H := Lib.hid h
  have HN := Lib.hid hn
  have HD := Lib.hid hd
  clear hn h hd
  go_enter Try.func15, Try.ntmps15
  go_wp2
  go_loopw [3] (fun i wr => ∃ j : Nat, i = .int .i64 ((j : Int) + 1) ∧ Hid (Below w.heap.size w wr)) (fun i _ => n - (intOf i).toNat)
  case atStart => exact ⟨0, rfl, Below.refl _ _⟩
  case round =>
    obtain ⟨j, rfl, HB⟩ := hrel
    by_cases hlt : j + 1 < n
    · obtain ⟨b, off, rfl, hbB, hc⟩ := H.out (by have := HN.out; omega)
      have c0 := (HB.out.cell (p := ⟨b, off + j, none⟩) (by show b < w.heap.size; omega)).trans (hc j (by have := HN.out; omega))
      have c1 := (HB.out.cell (p := ⟨b, off + (j + 1), none⟩) (by show b < w.heap.size; omega)).trans (hc (j + 1) (by have := HN.out; omega))
      have hxy := HD.out j (by have := HN.out; omega)
      clear hc H
      generalize xs.getD j 0 = x at *
      generalize xs.getD (j + 1) 0 = y at *
      have hle : ¬ y ≤ x := by omega
      have hw1 : IntKind.i64.wrap ((j : Int) + 1 - 1) = (j : Int) := by rw [IntWalk.i64_in _ (by omega)]; omega
      have hw2 : IntKind.i64.wrap ((j : Int)) = (j : Int) := by rw [IntWalk.i64_in _ (by omega)]
      have ht : ((j : Int) + 1).toNat = j + 1 := by omega
      have hb1 : (j : Int) + 1 < n := by omega
      have hb0 : (0 : Int) ≤ (j : Int) + 1 := by omega
      go_wp2
      go_quiet (fail)
      clear hw1 hw2 ht
      go_wp2
      go_roundw
      case rel => exact ⟨j + 1, by go_num, drewN_below0 HB.out⟩
      case measure => simp [intOf]; omega
    · have hlt' : ¬ (j : Int) + 1 < n := by omega
      go_wp2
      go_ret
      exact ⟨rfl, HB.out⟩
end Go.Proofs.Ytjhpknnhgbdkiaa

namespace Go.Proofs.Ytjhpknnhgbdkiaa
set_option linter.unusedSimpArgs false
set_option linter.unusedVariables false
open Go.RowKit
/-- A cell that lies in memory. -/
def C1 (b o : Nat) (v : Value) (w : World) : Prop := b < w.heap.size ∧ w.cell? ⟨b, o, none⟩ = some v
theorem C1.step {b o : Nat} {v : Value} {w w' : World} (h : C1 b o v w) (hb : Below w.heap.size w w') : C1 b o v w' := ⟨Nat.lt_of_lt_of_le h.1 hb.size, (hb.cell (p := ⟨b, o, none⟩) h.1).trans h.2⟩
theorem isIn_g (A : Option Addr) (n c : Nat) (xs : List Int) (x : Int) (w : World) (hn : n = xs.length) (h : IS w w.heap.size A xs) (hs : n ≤ 2000000) :
    Calls Try.prog 14 #[.slice A n c, .int .i64 x] w fun e w' => e = .returned (.bool (decide (x ∈ xs))) ∧ Below w.heap.size w w' := by
  refine (laws_isIn A n c xs x w w.heap.size (Nat.le_refl _) hn h hs).mono ?_
  rintro e w' ⟨rfl, rfl⟩
  exact ⟨rfl, Below.refl _ _⟩
theorem within_g (A A' : Option Addr) (n c m c' : Nat) (xs ys : List Int) (w : World) (hn : n = xs.length) (h : IS w w.heap.size A xs) (hs : n ≤ 2000000) (hm : m = ys.length) (h' : IS w w.heap.size A' ys) (hs' : m ≤ 2000000) (hd : ∀ x ∈ xs, x ∈ ys) :
    Calls Try.prog 25 #[.slice A n c, .slice A' m c'] w fun e w' => e = .returned (.bool true) ∧ Below w.heap.size w w' := by
  refine (laws_within A A' n c m c' xs ys w w.heap.size (Nat.le_refl _) hn h hs hm h' hs' hd).mono ?_
  rintro e w' ⟨rfl, rfl⟩
  exact ⟨rfl, Below.refl _ _⟩
end Go.Proofs.Ytjhpknnhgbdkiaa
