/- Words and contracts for memory that the texts behind use. -/
import Derived.Test.YtdhjflhpenkchaaH0a
import Derived.Test.YtdhjflhpenkchaaH0b
import Derived.Test.YtdhjflhpenkchaaH0
import Derived.Test.YtdhjflhpenkchaaH1
import Derived.Test.YtdhjflhpenkchaaH2
import Derived.Test.YtdhjflhpenkchaaH3
import Derived.Test.YtdhjflhpenkchaaH4
import Derived.Test.YtdhjflhpenkchaaH6
import Derived.Test.YtdhjflhpenkchaaH5
import Derived.Test.YtdhjflhpenkchaaH7
import Derived.Test.YtdhjflhpenkchaaH8
import Derived.Test.YtdhjflhpenkchaaH9
import Derived.Test.YtdhjflhpenkchaaH10
import Derived.Test.YtdhjflhpenkchaaH11
import Derived.Test.YtdhjflhpenkchaaH13
import Derived.Test.YtdhjflhpenkchaaH14
import Derived.Test.YtdhjflhpenkchaaH15
import Derived.Test.YtdhjflhpenkchaaH16
import Derived.Test.YtdhjflhpenkchaaH17
import Derived.Test.YtdhjflhpenkchaaH18
import Derived.Test.YtdhjflhpenkchaaH21
import Derived.Test.YtdhjflhpenkchaaH22
import Derived.Test.YtdhjflhpenkchaaH23
import Derived.Test.YtdhjflhpenkchaaR19
import Derived.Test.YtdhjflhpenkchaaH20
import Derived.WalkKit
import Derived.Laws.OwnMore
import Derived.Deep.Draws
import Derived.Test.YtdhjflhpenkchaaProg
import Derived.WalkSpells
import Derived.WalkLawsBesides
import Derived.Outline
import Derived.Lib.Hide
import Derived.BigQuiet
import Derived.Deep.QuietTactic
import Derived.StillTailTactics
import Derived.Deep.LoopGhost
import Derived.Laws.MakeOwn
import Derived.WalkSmall
import Derived.RegionTactic
import Derived.BigRegion
import Derived.Deep.RegionWith
import Derived.Deep.RegionHeld3
import Derived.Laws.Entries
import Derived.Laws.Bits64
import Derived.IntWalk
import Derived.Maps.AppendAt
import Derived.Deep.RegionLaw
import Derived.Deep.AppendLies
import Derived.Deep.Cut
import Derived.Deep.DeepCutAuto
import Derived.Maps.Own
import Derived.Maps.Views
import Derived.Laws.CopyOwn
import Derived.ChangeAlike
import Derived.Lib.SliceRun
import Derived.BigFrame

namespace Go.Proofs.Ytdhjflhpenkchaa
set_option linter.unusedSimpArgs false
set_option linter.unusedVariables false
open Go.RowKit
set_option maxHeartbeats 400000 in
theorem spec_allIn (A : Option Addr) (n c : Nat) (xs : List Int) (lo hi : Int) (w : World) (B : Nat) (hB : B ≤ w.heap.size) (hn : n = xs.length) (h : IS w B A xs) (hs : n ≤ 2000000) :
    Calls Try.prog 118 #[.slice A n c, .int .i64 lo, .int .i64 hi] w fun e w' => e = .returned (.bool (allR xs lo hi)) ∧ w = w' := by
  have H := Lib.hid h
  have HN := Lib.hid hn
  clear hn h
  go_enter Try.func118, Try.ntmps118
  go_wp2
  go_loop [7] (fun i => ∃ k : Nat, k ≤ n ∧ i = .int .i64 k ∧ Hid (∀ j, j < k → rng (xs.getD j 0) lo hi = true)) (fun i => n - (intOf i).toNat)
  case atStart => exact ⟨0, Nat.zero_le _, rfl, fun j hj => by omega⟩
  case round =>
    obtain ⟨k, hk, rfl, HA⟩ := hrel
    by_cases hlt : k < n
    · obtain ⟨b, off, rfl, hbB, hc⟩ := H.out (by have := HN.out; omega)
      have c0 := hc k (by have := HN.out; omega)
      clear hc H
      generalize hp : xs.getD k 0 = p at *
      have HP := Lib.hid hp
      clear hp
      cases hr : rng p lo hi
      · go_wp2_with (go_at_call 58; refine (spec_inRange _ _ _ _).mono ?_; rintro e w' ⟨rfl, rfl⟩)
        go_ret
        refine ⟨ret_b ?_, rfl⟩
        rw [allR_false xs lo hi k (by have := HN.out; omega) (by rw [HP.out]; exact hr)]
        try rfl
      · have HR := Lib.hid hr
        go_wp2_with (go_at_call 58; refine (spec_inRange _ _ _ _).mono ?_; rintro e w' ⟨rfl, rfl⟩)
        go_round
        case rel => exact ⟨k + 1, by omega, by go_num, fun j hj => by
          rcases Nat.lt_or_ge j k with h1 | h1
          · exact HA.out j h1
          · obtain rfl : j = k := by omega
            rw [HP.out]; exact HR.out⟩
        case measure => simp [intOf]; omega
    · go_wp2
      go_ret
      refine ⟨ret_b ?_, rfl⟩
      rw [allR_true xs lo hi fun j hj => HA.out j (by have := HN.out; omega)]
      try rfl
end Go.Proofs.Ytdhjflhpenkchaa

namespace Go.Proofs.Ytdhjflhpenkchaa
set_option linter.unusedSimpArgs false
set_option linter.unusedVariables false
open Go.RowKit
theorem getD_take_lt (xs : List Int) (k j : Nat) (h : j < k) (hk : k ≤ xs.length) : (xs.take k).getD j 0 = xs.getD j 0 := by
  simp [List.getD, List.getElem?_take, h]
theorem IS.take_ {w : World} {B : Nat} {A : Option Addr} {xs : List Int} (h : IS w B A xs) (k : Nat) (hk : k ≤ xs.length) : IS w B A (xs.take k) := by
  intro hn
  have hk0 : 0 < k := by
    rcases Nat.eq_zero_or_pos k with rfl | h0
    · simp at hn
    · exact h0
  obtain ⟨b, off, e, hb, hc⟩ := h (by omega)
  refine ⟨b, off, e, hb, fun j hj => ?_⟩
  have hj' : j < k := by simp at hj; omega
  rw [hc j (by omega), getD_take_lt xs k j hj' hk]
theorem nodup_take_step (xs : List Int) (k : Nat) (h : k < xs.length) (hn : (xs.take k).Nodup) (hx : xs.getD k 0 ∉ xs.take k) : (xs.take (k + 1)).Nodup := by
  have hg : xs[k] = xs.getD k 0 := by simp [List.getD, h]
  rw [List.take_succ_eq_append_getElem h, hg, List.nodup_append]
  refine ⟨hn, by simp, ?_⟩
  intro a ha b hb e
  simp at hb
  subst hb; subst e
  exact hx ha
theorem nodup_take_no (xs : List Int) (k : Nat) (h : k < xs.length) (hx : xs.getD k 0 ∈ xs.take k) : ¬ xs.Nodup := by
  intro hn
  have h1 := (List.take_sublist (k + 1) xs).nodup hn
  have hg : xs[k] = xs.getD k 0 := by simp [List.getD, h]
  rw [List.take_succ_eq_append_getElem h, hg, List.nodup_append] at h1
  exact h1.2.2 _ hx _ (by simp) rfl
end Go.Proofs.Ytdhjflhpenkchaa

namespace Go.Proofs.Ytdhjflhpenkchaa
set_option linter.unusedSimpArgs false
set_option linter.unusedVariables false
open Go.RowKit
/-- What spec.goodWrites answers. -/
def gwB (gs : List Nd) (xs vs : List Int) : Bool := decide (xs.length = vs.length) && (decide (xs.length ≤ 10) && (allR vs 0 999 && wrB gs xs))
theorem wrB_cell_no (gs : List Nd) (xs : List Int) (k : Nat) (hk : k < xs.length) (h : isC gs (xs.getD k 0) = false) : wrB gs xs = false := by
  unfold wrB; rw [decide_eq_false (fun hc => by rw [hc k hk] at h; cases h)]; rfl
theorem wrB_dup_no (gs : List Nd) (xs : List Int) (h : ¬ xs.Nodup) : wrB gs xs = false := by unfold wrB; rw [decide_eq_false h]; simp
theorem wrB_yes (gs : List Nd) (xs : List Int) (h : ∀ k, k < xs.length → isC gs (xs.getD k 0) = true) (h2 : xs.Nodup) : wrB gs xs = true := by unfold wrB; rw [decide_eq_true h, decide_eq_true h2]; rfl
theorem gwB_wr (gs : List Nd) (xs vs : List Int) (h1 : xs.length = vs.length) (h2 : xs.length ≤ 10) (h3 : allR vs 0 999 = true) : gwB gs xs vs = wrB gs xs := by unfold gwB; rw [decide_eq_true h1, decide_eq_true h2, h3]; simp
set_option maxRecDepth 100000 in
set_option maxHeartbeats 6400000 in
theorem spec_goodWrites (A1 E1 E2 : Option Addr) (n1 c1 m1 d1 m2 d2 : Nat) (gs : List Nd) (xs vs : List Int) (w1 : World) (hn : n1 = gs.length) (hG : n1 ≤ 2000000) (hm1 : m1 = xs.length) (hmd : m1 ≤ d1) (hm2 : m2 = vs.length) (hs2 : m2 ≤ 2000000) (h : GS w1 w1.heap.size A1 gs) (h1 : IS w1 w1.heap.size E1 xs) (h2 : IS w1 w1.heap.size E2 vs) :
    Calls Try.prog 91 #[.agg #[.slice A1 n1 c1], .slice E1 m1 d1, .slice E2 m2 d2] w1 fun e w' => e = .returned (.bool (gwB gs xs vs)) ∧ Below w1.heap.size w1 w' := by
  have HN1 := Lib.hid hn
  have HM1 := Lib.hid hm1
  have HM2 := Lib.hid hm2
  have P_1 := Lib.hid (h)
  have I_1 := Lib.hid (h1)
  have V_1 := Lib.hid (h2)
  have B_1 := Lib.hid (Below.refl w1.heap.size w1)
  by_cases hmm : m1 = m2
  case' neg =>
    have HF : Hid (gwB gs xs vs = false) := by show _ = _; unfold gwB; rw [decide_eq_false (by omega)]; rfl
    have h0 : ((m1 : Int) != (m2 : Int)) = true := by simp; omega
    clear hn hm1 hm2 h h1 h2 hmm
    go_enter Try.func91, Try.ntmps91
    go_wp2
    go_ret
    exact ⟨ret_b HF.out.symm, (Below.refl _ _).alloc (Nat.le_refl _) _⟩
  case pos =>
    subst hmm
    have h0 : ((m1 : Int) != (m1 : Int)) = false := by simp
    by_cases h10 : 10 < m1
    · have HF : Hid (gwB gs xs vs = false) := by show _ = _; unfold gwB; rw [decide_eq_true (by omega), decide_eq_false (by omega)]; rfl
      clear hn hm1 hm2 h h1 h2
      have h10i : (10 : Int) < (m1 : Int) := by omega
      go_enter Try.func91, Try.ntmps91
      go_wp2
      go_ret
      exact ⟨ret_b HF.out.symm, (Below.refl _ _).alloc (Nat.le_refl _) _⟩
    · have h10i : ¬ (10 : Int) < (m1 : Int) := by omega
      have HGW := Lib.hid fun (ha : allR vs 0 999 = true) => gwB_wr gs xs vs (by omega) (by omega) ha
      have HGN : Hid (allR vs 0 999 = false → gwB gs xs vs = false) := fun ha => by unfold gwB; rw [ha]; simp
      clear hn hm1 hm2 h h1 h2
      have HAI := Lib.hid fun (w' : World) (h : IS w' w'.heap.size E2 vs) => spec_allIn E2 m1 d2 vs 0 999 w' w'.heap.size (Nat.le_refl _) HM2.out h (by omega)
      generalize allR vs 0 999 = a at *
      go_enter Try.func91, Try.ntmps91
      go_wp2_with fail
      obtain ⟨w2, hw2⟩ : ∃ W, W = w1.alloc (.cells #[.slice A1 n1 c1] 25) := ⟨_, rfl⟩
      have hb : Below w1.heap.size w1 w2 := by rw [hw2]; exact (Below.refl _ _).alloc (Nat.le_refl _) _
      have P_2 := Lib.hid (P_1.out.step hb)
      clear P_1
      have I_2 := Lib.hid (I_1.out.step hb)
      clear I_1
      have V_2 := Lib.hid (V_1.out.step hb)
      clear V_1
      have B_2 := Lib.hid (B_1.out.trans (hb.mono B_1.out.size))
      clear B_1
      have F_2 : Hid (As w1.heap.size (w1.heap.size + 1) (fun w' => w'.cell? ⟨w1.heap.size, 0, none⟩ = some (.slice A1 n1 c1)) w2) := by rw [hw2]; exact box_new _ _ _
      clear hb
      rw [← hw2]
      clear hw2
      refine (HAI.out w2 V_2.out).mono ?_
      rintro e w9 ⟨rfl, rfl⟩
      cases a
      · have HF := Lib.hid (HGN.out (by first | rfl | trivial))
        go_wp2
        go_ret
        exact ⟨ret_b HF.out.symm, B_2.out⟩
      · have HF := Lib.hid (HGW.out (by first | rfl | trivial))
        clear HGW HGN HAI
        go_wp2
        go_loopw [7] (fun u wr => ∃ k : Nat, k ≤ m1 ∧ u = .int .i64 k ∧ Hid ((xs.take k).Nodup) ∧ Hid (∀ j, j < k → isC gs (xs.getD j 0) = true) ∧ Hid (Below w2.heap.size w2 wr) ∧ w2.heap.size ≤ wr.heap.size) (fun u _ => m1 - (intOf u).toNat)
        case atStart => exact ⟨0, Nat.zero_le _, rfl, by simp [Hid], fun j hj => by omega, Below.refl _ _, Nat.le_refl _⟩
        case round =>
          obtain ⟨k, hk, rfl, HD, HA, HB, hwr⟩ := hrel
          obtain ⟨w3, hwK⟩ : ∃ W, W = wr := ⟨_, rfl⟩
          rw [← hwK]
          rw [← hwK] at HB hwr
          clear hwK
          have P_3 := Lib.hid (P_2.out.step HB.out)
          have I_3 := Lib.hid (I_2.out.step HB.out)
          have V_3 := Lib.hid (V_2.out.step HB.out)
          have B_3 := Lib.hid (B_2.out.trans (HB.out.mono B_2.out.size))
          have F_3 := Lib.hid (F_2.out.step HB.out)
          have BK_3 := HB
          clear HB
          by_cases hlt : k < m1
          · have hkx : k < xs.length := by have := HM1.out; omega
            obtain ⟨b6, o6, rfl, hb6, e6⟩ := I_3.out (by omega)
            have x6 := e6 k hkx
            clear e6
            have HY := Lib.hid (nodup_take_step xs k hkx)
            have HNO := Lib.hid (nodup_take_no xs k hkx)
            have HCN := Lib.hid (wrB_cell_no gs xs k hkx)
            have HAS : Hid (isC gs (xs.getD k 0) = true → ∀ j, j < k + 1 → isC gs (xs.getD j 0) = true) := fun h j hj => by
              rcases Nat.lt_or_ge j k with h1 | h1
              · exact HA.out j h1
              · obtain rfl : j = k := by omega
                exact h
            have HCE := Lib.hid fun (x : Int) (w' : World) (h : GS w' w'.heap.size A1 gs) => spec_isCell A1 n1 c1 gs x w' w'.heap.size (Nat.le_refl _) HN1.out h (by omega)
            have HPL := Lib.hid fun (w' : World) (h : IS w' w'.heap.size (some ⟨b6, o6, none⟩) xs) => spec_placeIn (some ⟨b6, o6, none⟩) k d1 (xs.take k) (xs.getD k 0) w' w'.heap.size (Nat.le_refl _) (by simp; omega) (h.take_ k (by omega)) (by omega)
            have hpg := plc_ge (xs.take k) (xs.getD k 0)
            generalize xs.getD k 0 = x at *
            have x6_3 : Hid (C1 b6 (o6 + k) (.int .i64 x) w3) := ⟨hb6, x6⟩
            clear x6 HA
            have hkm : (k : Int) < (m1 : Int) := by omega
            have hkd : k ≤ d1 := by omega
            have HCX := Lib.hid (HCE.out x)
            clear HCE
            generalize isC gs x = ic at *
            cases ic
            · have HF2 := Lib.hid (HF.out.trans (HCN.out (by first | rfl | trivial)))
              clear hpg HY HNO HCN HAS
              go_wp2
              refine wp_region_held_drew (S := fun w' => w'.cell? ⟨w1.heap.size, 0, none⟩ = some (.slice A1 n1 c1) ∧ w'.cell? ⟨b6, o6 + k, none⟩ = some (.int .i64 x)) (by kernel_rfl) ⟨F_3.out.it, x6_3.out.2⟩ (fun hHeld => ?_)
              refine wpAnyH_take (i := 0) (oi := ⟨some 29, _, _, _, _, _⟩) (v := ?_) rfl (by kernel_rfl) (by kernel_rfl) (by kernel_rfl) (fun _ _ _ h => h) (Or.inl ⟨by rfl, ?_⟩) (by assumption) ?_; rotate_left; (focus (intro w hSw; (try dsimp only at hSw); go_simp; (try with_reducible rfl))); (try simp only [Act.put, List.setIfInBounds_toArray, List.set_cons_zero, List.set_cons_succ])
              refine wpAnyH_take (i := 1) (oi := ⟨some 30, _, _, _, _, _⟩) (v := ?_) rfl (by kernel_rfl) (by kernel_rfl) (by kernel_rfl) (fun _ _ _ h => h) (Or.inl ⟨by rfl, ?_⟩) (by assumption) ?_; rotate_left; (focus (intro w hSw; (try dsimp only at hSw); go_simp; (try with_reducible rfl))); (try simp only [Act.put, List.setIfInBounds_toArray, List.set_cons_zero, List.set_cons_succ])
              refine wpAnyH_take (i := 2) (oi := ⟨some 31, _, _, _, _, _⟩) (v := ?_) rfl (by kernel_rfl) (by kernel_rfl) (by kernel_rfl) (fun _ _ _ h => h) (Or.inl ⟨by rfl, ?_⟩) (by assumption) ?_; rotate_left; (focus (intro w hSw; (try dsimp only at hSw); go_simp; (try with_reducible rfl))); (try simp only [Act.put, List.setIfInBounds_toArray, List.set_cons_zero, List.set_cons_succ])
              refine wpAnyH_take (i := 3) (oi := ⟨some 32, _, _, _, _, _⟩) (v := ?_) rfl (by kernel_rfl) (by kernel_rfl) (by kernel_rfl) (fun _ _ _ h => h) (Or.inl ⟨by rfl, ?_⟩) (by assumption) ?_; rotate_left; (focus (intro w hSw; (try dsimp only at hSw); go_simp; (try with_reducible rfl))); (try simp only [Act.put, List.setIfInBounds_toArray, List.set_cons_zero, List.set_cons_succ])
              refine wpAnyH_take (i := 4) (oi := ⟨some 33, _, _, _, _, _⟩) (v := ?_) rfl (by kernel_rfl) (by kernel_rfl) (by kernel_rfl) (fun _ _ _ h => h) (Or.inl ⟨by rfl, ?_⟩) (by assumption) ?_; rotate_left; (focus (intro w hSw; (try dsimp only at hSw); go_simp; (try with_reducible rfl))); (try simp only [Act.put, List.setIfInBounds_toArray, List.set_cons_zero, List.set_cons_succ])
              refine wpAnyH_ready (rs := [5]) (by kernel_rfl) (by simp) ?_; refine AllReadyH.cons (o := ⟨some 34, _, _, _, _, _⟩) rfl (fun K hK => ?_) AllReadyH.nil; go_simp
              go_at_call 117
              refine (HCX.out w3.drew P_3.out).mono ?_
              rintro e w4 ⟨rfl, hb'⟩
              have hb : Below w3.heap.size w3 w4 := below_of_drew hb'
              have P_4 := Lib.hid (P_3.out.step hb)
              clear P_3
              have I_4 := Lib.hid (I_3.out.step hb)
              clear I_3
              have V_4 := Lib.hid (V_3.out.step hb)
              clear V_3
              have B_4 := Lib.hid (B_3.out.trans (hb.mono B_3.out.size))
              clear B_3
              have F_4 := Lib.hid (F_3.out.step hb)
              clear F_3
              have BK_4 := Lib.hid (BK_3.out.trans (hb.mono BK_3.out.size))
              clear BK_3
              have x6_4 := Lib.hid (x6_3.out.step hb)
              clear x6_3
              clear hb hb'
              refine hK.out _ _ ⟨F_4.out.it, x6_4.out.2⟩ (fun hHeld => ?_); clear hK K; (try simp only [Act.put, List.setIfInBounds_toArray, List.set_cons_zero, List.set_cons_succ])
              refine wpAnyH_take (i := 6) (oi := ⟨some 35, _, _, _, _, _⟩) (v := ?_) rfl (by kernel_rfl) (by kernel_rfl) (by kernel_rfl) (fun _ _ _ h => h) (Or.inl ⟨by rfl, ?_⟩) (by assumption) ?_; rotate_left; (focus (intro w hSw; (try dsimp only at hSw); go_simp; (try with_reducible rfl))); (try simp only [Act.put, List.setIfInBounds_toArray, List.set_cons_zero, List.set_cons_succ])
              refine wpAnyH_take (i := 7) (oi := ⟨some 36, _, _, _, _, _⟩) (v := ?_) rfl (by kernel_rfl) (by kernel_rfl) (by kernel_rfl) (fun _ _ _ h => h) (Or.inl ⟨by rfl, ?_⟩) (by assumption) ?_; rotate_left; (focus (intro w hSw; (try dsimp only at hSw); go_simp; (try with_reducible rfl))); (try simp only [Act.put, List.setIfInBounds_toArray, List.set_cons_zero, List.set_cons_succ])
              refine wpAnyH_take (i := 8) (oi := ⟨some 37, _, _, _, _, _⟩) (v := undef) rfl (by kernel_rfl) (by kernel_rfl) (by kernel_rfl) (fun _ _ _ h => h) (Or.inr ⟨by rfl, rfl⟩) (by assumption) ?_; (try simp only [Act.put, List.setIfInBounds_toArray, List.set_cons_zero, List.set_cons_succ])
              refine wpAnyH_take (i := 9) (oi := ⟨some 38, _, _, _, _, _⟩) (v := undef) rfl (by kernel_rfl) (by kernel_rfl) (by kernel_rfl) (fun _ _ _ h => h) (Or.inr ⟨by rfl, rfl⟩) (by assumption) ?_; (try simp only [Act.put, List.setIfInBounds_toArray, List.set_cons_zero, List.set_cons_succ])
              refine wpAnyH_take (i := 10) (oi := ⟨some 39, _, _, _, _, _⟩) (v := undef) rfl (by kernel_rfl) (by kernel_rfl) (by kernel_rfl) (fun _ _ _ h => h) (Or.inr ⟨by rfl, rfl⟩) (by assumption) ?_; (try simp only [Act.put, List.setIfInBounds_toArray, List.set_cons_zero, List.set_cons_succ])
              refine wpAnyH_take (i := 11) (oi := ⟨some 40, _, _, _, _, _⟩) (v := undef) rfl (by kernel_rfl) (by kernel_rfl) (by kernel_rfl) (fun _ _ _ h => h) (Or.inr ⟨by rfl, rfl⟩) (by assumption) ?_; (try simp only [Act.put, List.setIfInBounds_toArray, List.set_cons_zero, List.set_cons_succ])
              refine wpAnyH_take (i := 12) (oi := ⟨some 41, _, _, _, _, _⟩) (v := undef) rfl (by kernel_rfl) (by kernel_rfl) (by kernel_rfl) (fun _ _ _ h => h) (Or.inr ⟨by rfl, rfl⟩) (by assumption) ?_; (try simp only [Act.put, List.setIfInBounds_toArray, List.set_cons_zero, List.set_cons_succ])
              refine wpAnyH_take (i := 13) (oi := ⟨some 42, _, _, _, _, _⟩) (v := undef) rfl (by kernel_rfl) (by kernel_rfl) (by kernel_rfl) (fun _ _ _ h => h) (Or.inr ⟨by rfl, rfl⟩) (by assumption) ?_; (try simp only [Act.put, List.setIfInBounds_toArray, List.set_cons_zero, List.set_cons_succ])
              refine wpAnyH_take (i := 14) (oi := ⟨some 43, _, _, _, _, _⟩) (v := undef) rfl (by kernel_rfl) (by kernel_rfl) (by kernel_rfl) (fun _ _ _ h => h) (Or.inr ⟨by rfl, rfl⟩) (by assumption) ?_; (try simp only [Act.put, List.setIfInBounds_toArray, List.set_cons_zero, List.set_cons_succ])
              refine wpAnyH_take (i := 15) (oi := ⟨some 44, _, _, _, _, _⟩) (v := undef) rfl (by kernel_rfl) (by kernel_rfl) (by kernel_rfl) (fun _ _ _ h => h) (Or.inr ⟨by rfl, rfl⟩) (by assumption) ?_; (try simp only [Act.put, List.setIfInBounds_toArray, List.set_cons_zero, List.set_cons_succ])
              refine wpAnyH_take (i := 16) (oi := ⟨some 45, _, _, _, _, _⟩) (v := undef) rfl (by kernel_rfl) (by kernel_rfl) (by kernel_rfl) (fun _ _ _ h => h) (Or.inr ⟨by rfl, rfl⟩) (by assumption) ?_; (try simp only [Act.put, List.setIfInBounds_toArray, List.set_cons_zero, List.set_cons_succ])
              refine wpAnyH_take (i := 17) (oi := ⟨some 46, _, _, _, _, _⟩) (v := ?_) rfl (by kernel_rfl) (by kernel_rfl) (by kernel_rfl) (fun _ _ _ h => h) (Or.inl ⟨by rfl, ?_⟩) (by assumption) ?_; rotate_left; (focus (intro w hSw; (try dsimp only at hSw); go_simp; (try with_reducible rfl))); (try simp only [Act.put, List.setIfInBounds_toArray, List.set_cons_zero, List.set_cons_succ])
              refine wpAnyH_done (by kernel_rfl) ?_ _
              go_wp2
              go_ret
              exact ⟨ret_b HF2.out.symm, B_4.out⟩
            · have HAS2 := Lib.hid (HAS.out (by first | rfl | trivial))
              clear HAS HCN
              generalize plc (xs.take k) x = q at *
              by_cases hm : x ∈ xs.take k
              · have HF2 := Lib.hid (HF.out.trans (wrB_dup_no gs xs (HNO.out hm)))
                have hq : (0 : Int) ≤ q := by rw [decide_eq_true hm] at hpg; exact of_decide_eq_true hpg
                clear hpg HY HNO hm
                go_wp2
                refine wp_region_held_drew (S := fun w' => w'.cell? ⟨w1.heap.size, 0, none⟩ = some (.slice A1 n1 c1) ∧ w'.cell? ⟨b6, o6 + k, none⟩ = some (.int .i64 x)) (by kernel_rfl) ⟨F_3.out.it, x6_3.out.2⟩ (fun hHeld => ?_)
                refine wpAnyH_take (i := 0) (oi := ⟨some 29, _, _, _, _, _⟩) (v := ?_) rfl (by kernel_rfl) (by kernel_rfl) (by kernel_rfl) (fun _ _ _ h => h) (Or.inl ⟨by rfl, ?_⟩) (by assumption) ?_; rotate_left; (focus (intro w hSw; (try dsimp only at hSw); go_simp; (try with_reducible rfl))); (try simp only [Act.put, List.setIfInBounds_toArray, List.set_cons_zero, List.set_cons_succ])
                refine wpAnyH_take (i := 1) (oi := ⟨some 30, _, _, _, _, _⟩) (v := ?_) rfl (by kernel_rfl) (by kernel_rfl) (by kernel_rfl) (fun _ _ _ h => h) (Or.inl ⟨by rfl, ?_⟩) (by assumption) ?_; rotate_left; (focus (intro w hSw; (try dsimp only at hSw); go_simp; (try with_reducible rfl))); (try simp only [Act.put, List.setIfInBounds_toArray, List.set_cons_zero, List.set_cons_succ])
                refine wpAnyH_take (i := 2) (oi := ⟨some 31, _, _, _, _, _⟩) (v := ?_) rfl (by kernel_rfl) (by kernel_rfl) (by kernel_rfl) (fun _ _ _ h => h) (Or.inl ⟨by rfl, ?_⟩) (by assumption) ?_; rotate_left; (focus (intro w hSw; (try dsimp only at hSw); go_simp; (try with_reducible rfl))); (try simp only [Act.put, List.setIfInBounds_toArray, List.set_cons_zero, List.set_cons_succ])
                refine wpAnyH_take (i := 3) (oi := ⟨some 32, _, _, _, _, _⟩) (v := ?_) rfl (by kernel_rfl) (by kernel_rfl) (by kernel_rfl) (fun _ _ _ h => h) (Or.inl ⟨by rfl, ?_⟩) (by assumption) ?_; rotate_left; (focus (intro w hSw; (try dsimp only at hSw); go_simp; (try with_reducible rfl))); (try simp only [Act.put, List.setIfInBounds_toArray, List.set_cons_zero, List.set_cons_succ])
                refine wpAnyH_take (i := 4) (oi := ⟨some 33, _, _, _, _, _⟩) (v := ?_) rfl (by kernel_rfl) (by kernel_rfl) (by kernel_rfl) (fun _ _ _ h => h) (Or.inl ⟨by rfl, ?_⟩) (by assumption) ?_; rotate_left; (focus (intro w hSw; (try dsimp only at hSw); go_simp; (try with_reducible rfl))); (try simp only [Act.put, List.setIfInBounds_toArray, List.set_cons_zero, List.set_cons_succ])
                refine wpAnyH_ready (rs := [5]) (by kernel_rfl) (by simp) ?_; refine AllReadyH.cons (o := ⟨some 34, _, _, _, _, _⟩) rfl (fun K hK => ?_) AllReadyH.nil; go_simp
                go_at_call 117
                refine (HCX.out w3.drew P_3.out).mono ?_
                rintro e w4 ⟨rfl, hb'⟩
                have hb : Below w3.heap.size w3 w4 := below_of_drew hb'
                have P_4 := Lib.hid (P_3.out.step hb)
                clear P_3
                have I_4 := Lib.hid (I_3.out.step hb)
                clear I_3
                have V_4 := Lib.hid (V_3.out.step hb)
                clear V_3
                have B_4 := Lib.hid (B_3.out.trans (hb.mono B_3.out.size))
                clear B_3
                have F_4 := Lib.hid (F_3.out.step hb)
                clear F_3
                have BK_4 := Lib.hid (BK_3.out.trans (hb.mono BK_3.out.size))
                clear BK_3
                have x6_4 := Lib.hid (x6_3.out.step hb)
                clear x6_3
                clear hb hb'
                refine hK.out _ _ ⟨F_4.out.it, x6_4.out.2⟩ (fun hHeld => ?_); clear hK K; (try simp only [Act.put, List.setIfInBounds_toArray, List.set_cons_zero, List.set_cons_succ])
                refine wpAnyH_take (i := 6) (oi := ⟨some 35, _, _, _, _, _⟩) (v := ?_) rfl (by kernel_rfl) (by kernel_rfl) (by kernel_rfl) (fun _ _ _ h => h) (Or.inl ⟨by rfl, ?_⟩) (by assumption) ?_; rotate_left; (focus (intro w hSw; (try dsimp only at hSw); go_simp; (try with_reducible rfl))); (try simp only [Act.put, List.setIfInBounds_toArray, List.set_cons_zero, List.set_cons_succ])
                refine wpAnyH_take (i := 7) (oi := ⟨some 36, _, _, _, _, _⟩) (v := ?_) rfl (by kernel_rfl) (by kernel_rfl) (by kernel_rfl) (fun _ _ _ h => h) (Or.inl ⟨by rfl, ?_⟩) (by assumption) ?_; rotate_left; (focus (intro w hSw; (try dsimp only at hSw); go_simp; (try with_reducible rfl))); (try simp only [Act.put, List.setIfInBounds_toArray, List.set_cons_zero, List.set_cons_succ])
                refine wpAnyH_take (i := 8) (oi := ⟨some 37, _, _, _, _, _⟩) (v := ?_) rfl (by kernel_rfl) (by kernel_rfl) (by kernel_rfl) (fun _ _ _ h => h) (Or.inl ⟨by rfl, ?_⟩) (by assumption) ?_; rotate_left; (focus (intro w hSw; (try dsimp only at hSw); go_simp; (try with_reducible rfl))); (try simp only [Act.put, List.setIfInBounds_toArray, List.set_cons_zero, List.set_cons_succ])
                refine wpAnyH_take (i := 9) (oi := ⟨some 38, _, _, _, _, _⟩) (v := ?_) rfl (by kernel_rfl) (by kernel_rfl) (by kernel_rfl) (fun _ _ _ h => h) (Or.inl ⟨by rfl, ?_⟩) (by assumption) ?_; rotate_left; (focus (intro w hSw; (try dsimp only at hSw); go_simp; (try with_reducible rfl))); (try simp only [Act.put, List.setIfInBounds_toArray, List.set_cons_zero, List.set_cons_succ])
                refine wpAnyH_take (i := 10) (oi := ⟨some 39, _, _, _, _, _⟩) (v := ?_) rfl (by kernel_rfl) (by kernel_rfl) (by kernel_rfl) (fun _ _ _ h => h) (Or.inl ⟨by rfl, ?_⟩) (by assumption) ?_; rotate_left; (focus (intro w hSw; (try dsimp only at hSw); go_simp; (try with_reducible rfl))); (try simp only [Act.put, List.setIfInBounds_toArray, List.set_cons_zero, List.set_cons_succ])
                refine wpAnyH_take (i := 11) (oi := ⟨some 40, _, _, _, _, _⟩) (v := ?_) rfl (by kernel_rfl) (by kernel_rfl) (by kernel_rfl) (fun _ _ _ h => h) (Or.inl ⟨by rfl, ?_⟩) (by assumption) ?_; rotate_left; (focus (intro w hSw; (try dsimp only at hSw); go_simp; (try with_reducible rfl))); (try simp only [Act.put, List.setIfInBounds_toArray, List.set_cons_zero, List.set_cons_succ])
                refine wpAnyH_take (i := 12) (oi := ⟨some 41, _, _, _, _, _⟩) (v := ?_) rfl (by kernel_rfl) (by kernel_rfl) (by kernel_rfl) (fun _ _ _ h => h) (Or.inl ⟨by rfl, ?_⟩) (by assumption) ?_; rotate_left; (focus (intro w hSw; (try dsimp only at hSw); go_simp; (try with_reducible rfl))); (try simp only [Act.put, List.setIfInBounds_toArray, List.set_cons_zero, List.set_cons_succ])
                refine wpAnyH_take (i := 13) (oi := ⟨some 42, _, _, _, _, _⟩) (v := ?_) rfl (by kernel_rfl) (by kernel_rfl) (by kernel_rfl) (fun _ _ _ h => h) (Or.inl ⟨by rfl, ?_⟩) (by assumption) ?_; rotate_left; (focus (intro w hSw; (try dsimp only at hSw); go_simp; (try with_reducible rfl))); (try simp only [Act.put, List.setIfInBounds_toArray, List.set_cons_zero, List.set_cons_succ])
                refine wpAnyH_take (i := 14) (oi := ⟨some 43, _, _, _, _, _⟩) (v := ?_) rfl (by kernel_rfl) (by kernel_rfl) (by kernel_rfl) (fun _ _ _ h => h) (Or.inl ⟨by rfl, ?_⟩) (by assumption) ?_; rotate_left; (focus (intro w hSw; (try dsimp only at hSw); go_simp; (try with_reducible rfl))); (try simp only [Act.put, List.setIfInBounds_toArray, List.set_cons_zero, List.set_cons_succ])
                refine wpAnyH_ready (rs := [15]) (by kernel_rfl) (by simp) ?_; refine AllReadyH.cons (o := ⟨some 44, _, _, _, _, _⟩) rfl (fun K hK => ?_) AllReadyH.nil; go_simp
                go_at_call 97
                refine (HPL.out w4 I_4.out).mono ?_
                rintro e w8 ⟨rfl, rfl⟩
                refine hK.out _ _ ⟨F_4.out.it, x6_4.out.2⟩ (fun hHeld => ?_); clear hK K; (try simp only [Act.put, List.setIfInBounds_toArray, List.set_cons_zero, List.set_cons_succ])
                refine wpAnyH_take (i := 16) (oi := ⟨some 45, _, _, _, _, _⟩) (v := ?_) rfl (by kernel_rfl) (by kernel_rfl) (by kernel_rfl) (fun _ _ _ h => h) (Or.inl ⟨by rfl, ?_⟩) (by assumption) ?_; rotate_left; (focus (intro w hSw; (try dsimp only at hSw); go_simp; (try with_reducible rfl))); (try simp only [Act.put, List.setIfInBounds_toArray, List.set_cons_zero, List.set_cons_succ])
                refine wpAnyH_take (i := 17) (oi := ⟨some 46, _, _, _, _, _⟩) (v := ?_) rfl (by kernel_rfl) (by kernel_rfl) (by kernel_rfl) (fun _ _ _ h => h) (Or.inl ⟨by rfl, ?_⟩) (by assumption) ?_; rotate_left; (focus (intro w hSw; (try dsimp only at hSw); go_simp; (try with_reducible rfl))); (try simp only [Act.put, List.setIfInBounds_toArray, List.set_cons_zero, List.set_cons_succ])
                refine wpAnyH_done (by kernel_rfl) ?_ _
                go_wp2
                go_ret
                exact ⟨ret_b HF2.out.symm, B_4.out⟩
              · have HT2 := Lib.hid (HY.out HD.out hm)
                have hq : ¬ (0 : Int) ≤ q := by rw [decide_eq_false hm] at hpg; exact of_decide_eq_false hpg
                clear hpg HY HNO hm
                go_wp2
                refine wp_region_held_drew (S := fun w' => w'.cell? ⟨w1.heap.size, 0, none⟩ = some (.slice A1 n1 c1) ∧ w'.cell? ⟨b6, o6 + k, none⟩ = some (.int .i64 x)) (by kernel_rfl) ⟨F_3.out.it, x6_3.out.2⟩ (fun hHeld => ?_)
                refine wpAnyH_take (i := 0) (oi := ⟨some 29, _, _, _, _, _⟩) (v := ?_) rfl (by kernel_rfl) (by kernel_rfl) (by kernel_rfl) (fun _ _ _ h => h) (Or.inl ⟨by rfl, ?_⟩) (by assumption) ?_; rotate_left; (focus (intro w hSw; (try dsimp only at hSw); go_simp; (try with_reducible rfl))); (try simp only [Act.put, List.setIfInBounds_toArray, List.set_cons_zero, List.set_cons_succ])
                refine wpAnyH_take (i := 1) (oi := ⟨some 30, _, _, _, _, _⟩) (v := ?_) rfl (by kernel_rfl) (by kernel_rfl) (by kernel_rfl) (fun _ _ _ h => h) (Or.inl ⟨by rfl, ?_⟩) (by assumption) ?_; rotate_left; (focus (intro w hSw; (try dsimp only at hSw); go_simp; (try with_reducible rfl))); (try simp only [Act.put, List.setIfInBounds_toArray, List.set_cons_zero, List.set_cons_succ])
                refine wpAnyH_take (i := 2) (oi := ⟨some 31, _, _, _, _, _⟩) (v := ?_) rfl (by kernel_rfl) (by kernel_rfl) (by kernel_rfl) (fun _ _ _ h => h) (Or.inl ⟨by rfl, ?_⟩) (by assumption) ?_; rotate_left; (focus (intro w hSw; (try dsimp only at hSw); go_simp; (try with_reducible rfl))); (try simp only [Act.put, List.setIfInBounds_toArray, List.set_cons_zero, List.set_cons_succ])
                refine wpAnyH_take (i := 3) (oi := ⟨some 32, _, _, _, _, _⟩) (v := ?_) rfl (by kernel_rfl) (by kernel_rfl) (by kernel_rfl) (fun _ _ _ h => h) (Or.inl ⟨by rfl, ?_⟩) (by assumption) ?_; rotate_left; (focus (intro w hSw; (try dsimp only at hSw); go_simp; (try with_reducible rfl))); (try simp only [Act.put, List.setIfInBounds_toArray, List.set_cons_zero, List.set_cons_succ])
                refine wpAnyH_take (i := 4) (oi := ⟨some 33, _, _, _, _, _⟩) (v := ?_) rfl (by kernel_rfl) (by kernel_rfl) (by kernel_rfl) (fun _ _ _ h => h) (Or.inl ⟨by rfl, ?_⟩) (by assumption) ?_; rotate_left; (focus (intro w hSw; (try dsimp only at hSw); go_simp; (try with_reducible rfl))); (try simp only [Act.put, List.setIfInBounds_toArray, List.set_cons_zero, List.set_cons_succ])
                refine wpAnyH_ready (rs := [5]) (by kernel_rfl) (by simp) ?_; refine AllReadyH.cons (o := ⟨some 34, _, _, _, _, _⟩) rfl (fun K hK => ?_) AllReadyH.nil; go_simp
                go_at_call 117
                refine (HCX.out w3.drew P_3.out).mono ?_
                rintro e w4 ⟨rfl, hb'⟩
                have hb : Below w3.heap.size w3 w4 := below_of_drew hb'
                have P_4 := Lib.hid (P_3.out.step hb)
                clear P_3
                have I_4 := Lib.hid (I_3.out.step hb)
                clear I_3
                have V_4 := Lib.hid (V_3.out.step hb)
                clear V_3
                have B_4 := Lib.hid (B_3.out.trans (hb.mono B_3.out.size))
                clear B_3
                have F_4 := Lib.hid (F_3.out.step hb)
                clear F_3
                have BK_4 := Lib.hid (BK_3.out.trans (hb.mono BK_3.out.size))
                clear BK_3
                have x6_4 := Lib.hid (x6_3.out.step hb)
                clear x6_3
                clear hb hb'
                refine hK.out _ _ ⟨F_4.out.it, x6_4.out.2⟩ (fun hHeld => ?_); clear hK K; (try simp only [Act.put, List.setIfInBounds_toArray, List.set_cons_zero, List.set_cons_succ])
                refine wpAnyH_take (i := 6) (oi := ⟨some 35, _, _, _, _, _⟩) (v := ?_) rfl (by kernel_rfl) (by kernel_rfl) (by kernel_rfl) (fun _ _ _ h => h) (Or.inl ⟨by rfl, ?_⟩) (by assumption) ?_; rotate_left; (focus (intro w hSw; (try dsimp only at hSw); go_simp; (try with_reducible rfl))); (try simp only [Act.put, List.setIfInBounds_toArray, List.set_cons_zero, List.set_cons_succ])
                refine wpAnyH_take (i := 7) (oi := ⟨some 36, _, _, _, _, _⟩) (v := ?_) rfl (by kernel_rfl) (by kernel_rfl) (by kernel_rfl) (fun _ _ _ h => h) (Or.inl ⟨by rfl, ?_⟩) (by assumption) ?_; rotate_left; (focus (intro w hSw; (try dsimp only at hSw); go_simp; (try with_reducible rfl))); (try simp only [Act.put, List.setIfInBounds_toArray, List.set_cons_zero, List.set_cons_succ])
                refine wpAnyH_take (i := 8) (oi := ⟨some 37, _, _, _, _, _⟩) (v := ?_) rfl (by kernel_rfl) (by kernel_rfl) (by kernel_rfl) (fun _ _ _ h => h) (Or.inl ⟨by rfl, ?_⟩) (by assumption) ?_; rotate_left; (focus (intro w hSw; (try dsimp only at hSw); go_simp; (try with_reducible rfl))); (try simp only [Act.put, List.setIfInBounds_toArray, List.set_cons_zero, List.set_cons_succ])
                refine wpAnyH_take (i := 9) (oi := ⟨some 38, _, _, _, _, _⟩) (v := ?_) rfl (by kernel_rfl) (by kernel_rfl) (by kernel_rfl) (fun _ _ _ h => h) (Or.inl ⟨by rfl, ?_⟩) (by assumption) ?_; rotate_left; (focus (intro w hSw; (try dsimp only at hSw); go_simp; (try with_reducible rfl))); (try simp only [Act.put, List.setIfInBounds_toArray, List.set_cons_zero, List.set_cons_succ])
                refine wpAnyH_take (i := 10) (oi := ⟨some 39, _, _, _, _, _⟩) (v := ?_) rfl (by kernel_rfl) (by kernel_rfl) (by kernel_rfl) (fun _ _ _ h => h) (Or.inl ⟨by rfl, ?_⟩) (by assumption) ?_; rotate_left; (focus (intro w hSw; (try dsimp only at hSw); go_simp; (try with_reducible rfl))); (try simp only [Act.put, List.setIfInBounds_toArray, List.set_cons_zero, List.set_cons_succ])
                refine wpAnyH_take (i := 11) (oi := ⟨some 40, _, _, _, _, _⟩) (v := ?_) rfl (by kernel_rfl) (by kernel_rfl) (by kernel_rfl) (fun _ _ _ h => h) (Or.inl ⟨by rfl, ?_⟩) (by assumption) ?_; rotate_left; (focus (intro w hSw; (try dsimp only at hSw); go_simp; (try with_reducible rfl))); (try simp only [Act.put, List.setIfInBounds_toArray, List.set_cons_zero, List.set_cons_succ])
                refine wpAnyH_take (i := 12) (oi := ⟨some 41, _, _, _, _, _⟩) (v := ?_) rfl (by kernel_rfl) (by kernel_rfl) (by kernel_rfl) (fun _ _ _ h => h) (Or.inl ⟨by rfl, ?_⟩) (by assumption) ?_; rotate_left; (focus (intro w hSw; (try dsimp only at hSw); go_simp; (try with_reducible rfl))); (try simp only [Act.put, List.setIfInBounds_toArray, List.set_cons_zero, List.set_cons_succ])
                refine wpAnyH_take (i := 13) (oi := ⟨some 42, _, _, _, _, _⟩) (v := ?_) rfl (by kernel_rfl) (by kernel_rfl) (by kernel_rfl) (fun _ _ _ h => h) (Or.inl ⟨by rfl, ?_⟩) (by assumption) ?_; rotate_left; (focus (intro w hSw; (try dsimp only at hSw); go_simp; (try with_reducible rfl))); (try simp only [Act.put, List.setIfInBounds_toArray, List.set_cons_zero, List.set_cons_succ])
                refine wpAnyH_take (i := 14) (oi := ⟨some 43, _, _, _, _, _⟩) (v := ?_) rfl (by kernel_rfl) (by kernel_rfl) (by kernel_rfl) (fun _ _ _ h => h) (Or.inl ⟨by rfl, ?_⟩) (by assumption) ?_; rotate_left; (focus (intro w hSw; (try dsimp only at hSw); go_simp; (try with_reducible rfl))); (try simp only [Act.put, List.setIfInBounds_toArray, List.set_cons_zero, List.set_cons_succ])
                refine wpAnyH_ready (rs := [15]) (by kernel_rfl) (by simp) ?_; refine AllReadyH.cons (o := ⟨some 44, _, _, _, _, _⟩) rfl (fun K hK => ?_) AllReadyH.nil; go_simp
                go_at_call 97
                refine (HPL.out w4 I_4.out).mono ?_
                rintro e w8 ⟨rfl, rfl⟩
                refine hK.out _ _ ⟨F_4.out.it, x6_4.out.2⟩ (fun hHeld => ?_); clear hK K; (try simp only [Act.put, List.setIfInBounds_toArray, List.set_cons_zero, List.set_cons_succ])
                refine wpAnyH_take (i := 16) (oi := ⟨some 45, _, _, _, _, _⟩) (v := ?_) rfl (by kernel_rfl) (by kernel_rfl) (by kernel_rfl) (fun _ _ _ h => h) (Or.inl ⟨by rfl, ?_⟩) (by assumption) ?_; rotate_left; (focus (intro w hSw; (try dsimp only at hSw); go_simp; (try with_reducible rfl))); (try simp only [Act.put, List.setIfInBounds_toArray, List.set_cons_zero, List.set_cons_succ])
                refine wpAnyH_take (i := 17) (oi := ⟨some 46, _, _, _, _, _⟩) (v := ?_) rfl (by kernel_rfl) (by kernel_rfl) (by kernel_rfl) (fun _ _ _ h => h) (Or.inl ⟨by rfl, ?_⟩) (by assumption) ?_; rotate_left; (focus (intro w hSw; (try dsimp only at hSw); go_simp; (try with_reducible rfl))); (try simp only [Act.put, List.setIfInBounds_toArray, List.set_cons_zero, List.set_cons_succ])
                refine wpAnyH_done (by kernel_rfl) ?_ _
                go_wp2
                go_roundw
                case rel => exact ⟨k + 1, by omega, by go_num, HT2.out, HAS2.out, BK_4.out, BK_4.out.size⟩
                case measure => simp [intOf]; omega
          · obtain rfl : m1 = k := by omega
            have HF2 := Lib.hid (HF.out.trans (wrB_yes gs xs (fun j hj => HA.out j (by have := HM1.out; omega)) (by have := HD.out; rwa [HM1.out, List.take_of_length_le (Nat.le_refl _)] at this)))
            go_wp2
            go_ret
            exact ⟨ret_b HF2.out.symm, B_3.out⟩
end Go.Proofs.Ytdhjflhpenkchaa

namespace Go.Proofs.Ytdhjflhpenkchaa
set_option linter.unusedSimpArgs false
set_option linter.unusedVariables false
open Go.RowKit
theorem RetI_nil {w w' : World} (hb : Below w.heap.size w w') : RetI w [] (.returned (.slice none 0 0)) w' := ⟨_, rfl, World.ownsRow_nil _ _ _ _, hb⟩
end Go.Proofs.Ytdhjflhpenkchaa

namespace Go.Proofs.Ytdhjflhpenkchaa
set_option linter.unusedSimpArgs false
set_option linter.unusedVariables false
open Go.RowKit
def mayTo (gs : List Nd) (L : List Int) (k : Nat) : List Int := (L.take k).filter (ncB gs)
theorem mayTo_step (gs : List Nd) (L : List Int) (k : Nat) (hk : k < L.length) : mayTo gs L (k + 1) = mayTo gs L k ++ (if ncB gs (L.getD k 0) then [L.getD k 0] else []) := by
  unfold mayTo
  rw [List.take_succ_eq_append_getElem hk, List.filter_append]
  have : L.getD k 0 = L[k] := by simp [List.getD, hk]
  rw [this]
  cases h : ncB gs L[k] <;> simp [h]
theorem mayTo_len (gs : List Nd) (L : List Int) (k : Nat) : (mayTo gs L k).length ≤ L.length := by
  unfold mayTo
  exact Nat.le_trans (List.length_filter_le _ _) (by simp; omega)
theorem mrF_len (gs : List Nd) (xs : List Int) : (mrF gs xs).length ≤ 10 := by
  unfold mrF mrB
  split
  · rename_i h
    simp only [Bool.and_eq_true] at h
    have h1 := (validG_parts gs h.1).1
    have h2 := reachTo_len gs xs gs.length
    exact Nat.le_trans (List.length_filter_le _ _) (by omega)
  · simp
theorem gwB_zero (gs : List Nd) (xs : List Int) (m : Nat) (h : m = xs.length) : gwB gs xs (List.replicate m 0) = (decide (xs.length ≤ 10) && wrB gs xs) := by
  have ha : allR (List.replicate m 0) 0 999 = true := allR_true _ _ _ fun k hk => by
    simp at hk
    simp [List.getD, hk, rng]
  unfold gwB
  rw [ha, decide_eq_true (by simp [h])]; simp
theorem reach_ok (gs : List Nd) (st : List Int) (k : Nat) : ∀ x ∈ reachTo gs st k, ∃ q : Nat, q < k ∧ x = (q : Int) := by
  induction k with
  | zero => intro x hx; cases hx
  | succ k ih =>
    intro x hx
    rw [reachTo_step] at hx
    rcases List.mem_append.1 hx with h | h
    · obtain ⟨q, h1, h2⟩ := ih x h
      exact ⟨q, by omega, h2⟩
    · split at h
      · simp at h; exact ⟨k, by omega, h⟩
      · simp at h
/-- The cells of a row that another row grows beside. -/
theorem row_beside {w : World} {base n : Nat} {A : Option Addr} {c : Nat} {xs : List Int} (hn : n = xs.length) (h : w.ownsRow (base + 1) 3 1 (.slice A n c) n (xs.map (Value.int .i64))) :
    ∃ gl ol : Nat, base < gl ∧ (0 < n → gl < w.heap.size ∧ A = some ⟨gl, ol, none⟩) ∧ ∀ j, j < n → w.cell? ⟨gl, ol + j, none⟩ = some (.int .i64 (xs.getD j 0)) := by
  by_cases h0 : 0 < n
  · have hI : IS w w.heap.size A xs := IS.of_own h
    obtain ⟨b, off, hA, hb, hc⟩ := hI (by omega)
    rcases h.2 with ⟨_, hz⟩ | ⟨g, cap, cur, hv, _⟩
    · omega
    · have hg := (h.lt g (by rw [hv]; rfl)).1
      simp only [Value.slice.injEq] at hv
      have e : b = g := by
        have := hv.1; rw [hA] at this
        simpa using congrArg (fun a : Option Addr => (a.map Addr.block).getD 0) this
      exact ⟨b, off, by omega, fun _ => ⟨hb, hA⟩, fun j hj => hc j (by omega)⟩
  · exact ⟨base + 1, 0, by omega, fun h => absurd h h0, fun j hj => by omega⟩
set_option maxRecDepth 100000 in
set_option maxHeartbeats 6400000 in
theorem top_spec_MayRun (gs : List Nd) (xs : List Int) (hG : GB gs) (hL : xs.length ≤ 1048576) : ∀ (A1 : Option Addr) (n1 c1 : Nat) (E1 : Option Addr) (m1 d1 : Nat) (w1 : World), n1 = gs.length → n1 ≤ c1 → GS w1 w1.heap.size A1 gs → m1 = xs.length → m1 ≤ d1 → IS w1 w1.heap.size E1 xs →
    Calls Try.prog 49 #[.agg #[.slice A1 n1 c1], .slice E1 m1 d1] w1 fun e w' => RetI w1 (mrF gs xs) e w' := by
  intro A1 n1 c1 E1 m1 d1 w1 hn hnc h hm1 hmd h1
  obtain ⟨i0, hi, hz0, hz1, hz2⟩ := info_parts info_int
  have HN1 := Lib.hid hn
  have HM1 := Lib.hid hm1
  have HG := Lib.hid hG
  have P_1 := Lib.hid (h)
  have I_1 := Lib.hid (h1)
  have B_1 := Lib.hid (Below.refl w1.heap.size w1)
  have hn1b : n1 ≤ 1048576 := by have := hG.1; omega
  have hm1b : m1 ≤ 1048576 := by omega
  have HVG := Lib.hid fun (w' : World) (h : GS w' w'.heap.size A1 gs) => spec_validGraph A1 n1 c1 gs w' w'.heap.size (Nat.le_refl _) HN1.out h HG.out
  have HGW := Lib.hid fun (E : Option Addr) (w' : World) (h : GS w' w'.heap.size A1 gs) (h1 : IS w' w'.heap.size E1 xs) (h2 : IS w' w'.heap.size E (List.replicate m1 0)) => spec_goodWrites A1 E1 E n1 c1 m1 d1 m1 m1 gs xs (List.replicate m1 0) w' HN1.out (by omega) HM1.out hmd (by simp) (by omega) h h1 h2
  rw [gwB_zero gs xs m1 hm1] at HGW
  have HMR : Hid (mrF gs xs = if validG gs && (decide (xs.length ≤ 10) && wrB gs xs) then (reachTo gs xs gs.length).filter (ncB gs) else []) := rfl
  have HRE := Lib.hid fun (hv : validG gs = true) (w' : World) (h : GS w' w'.heap.size A1 gs) (h1 : IS w' w'.heap.size E1 xs) => spec_reach A1 E1 n1 c1 m1 d1 gs xs w' w'.heap.size (Nat.le_refl _) HN1.out HM1.out h h1 hv HG.out (by omega)
  have HVP := Lib.hid fun (hv : validG gs = true) => (validG_parts gs hv).1
  clear hn hm1 h h1 hG hL
  generalize validG gs = v at *
  generalize (decide (xs.length ≤ 10) && wrB gs xs) = v2 at *
  go_enter Try.func49, Try.ntmps49
  go_wp2
  obtain ⟨w2, hw2⟩ : ∃ W, W = w1.alloc (.cells #[.slice A1 n1 c1] 25) := ⟨_, rfl⟩
  have hb : Below w1.heap.size w1 w2 := by rw [hw2]; exact (Below.refl _ _).alloc (Nat.le_refl _) _
  have P_2 := Lib.hid (P_1.out.step hb)
  clear P_1
  have I_2 := Lib.hid (I_1.out.step hb)
  clear I_1
  have B_2 := Lib.hid (B_1.out.trans (hb.mono B_1.out.size))
  clear B_1
  have F_2 : Hid (As w1.heap.size (w1.heap.size + 1) (fun w' => w'.cell? ⟨w1.heap.size, 0, none⟩ = some (.slice A1 n1 c1)) w2) := by rw [hw2]; exact box_new _ _ _
  clear hb
  rw [← hw2]
  clear hw2
  cases v
  · have HMR2 : Hid (mrF gs xs = []) := HMR.out
    refine wp_region_held_drew (S := fun w' => w'.cell? ⟨w1.heap.size, 0, none⟩ = some (.slice A1 n1 c1)) (by kernel_rfl) F_2.out.it (fun hHeld => ?_)
    refine wpAnyH_take (i := 0) (oi := ⟨some 8, _, _, _, _, _⟩) (v := ?_) rfl (by kernel_rfl) (by kernel_rfl) (by kernel_rfl) (fun _ _ _ h => h) (Or.inl ⟨by rfl, ?_⟩) (by assumption) ?_; rotate_left; (focus (intro w hSw; (try dsimp only at hSw); go_simp; (try with_reducible rfl))); (try simp only [Act.put, List.setIfInBounds_toArray, List.set_cons_zero, List.set_cons_succ])
    refine wpAnyH_ready (rs := [1]) (by kernel_rfl) (by simp) ?_; refine AllReadyH.cons (o := ⟨some 9, _, _, _, _, _⟩) rfl (fun K hK => ?_) AllReadyH.nil; go_simp
    go_at_call 57
    refine (HVG.out w2.drew P_2.out).mono ?_
    rintro e w3 ⟨rfl, hb'⟩
    have hb : Below w2.heap.size w2 w3 := below_of_drew hb'
    have P_3 := Lib.hid (P_2.out.step hb)
    clear P_2
    have I_3 := Lib.hid (I_2.out.step hb)
    clear I_2
    have B_3 := Lib.hid (B_2.out.trans (hb.mono B_2.out.size))
    clear B_2
    have F_3 := Lib.hid (F_2.out.step hb)
    clear F_2
    clear hb hb'
    refine hK.out _ _ F_3.out.it (fun hHeld => ?_); clear hK K; (try simp only [Act.put, List.setIfInBounds_toArray, List.set_cons_zero, List.set_cons_succ])
    refine wpAnyH_take (i := 2) (oi := ⟨some 10, _, _, _, _, _⟩) (v := ?_) rfl (by kernel_rfl) (by kernel_rfl) (by kernel_rfl) (fun _ _ _ h => h) (Or.inl ⟨by rfl, ?_⟩) (by assumption) ?_; rotate_left; (focus (intro w hSw; (try dsimp only at hSw); go_simp; (try with_reducible rfl))); (try simp only [Act.put, List.setIfInBounds_toArray, List.set_cons_zero, List.set_cons_succ])
    refine wpAnyH_take (i := 3) (oi := ⟨some 11, _, _, _, _, _⟩) (v := ?_) rfl (by kernel_rfl) (by kernel_rfl) (by kernel_rfl) (fun _ _ _ h => h) (Or.inl ⟨by rfl, ?_⟩) (by assumption) ?_; rotate_left; (focus (intro w hSw; (try dsimp only at hSw); go_simp; (try with_reducible rfl))); (try simp only [Act.put, List.setIfInBounds_toArray, List.set_cons_zero, List.set_cons_succ])
    refine wpAnyH_take (i := 4) (oi := ⟨some 12, _, _, _, _, _⟩) (v := undef) rfl (by kernel_rfl) (by kernel_rfl) (by kernel_rfl) (fun _ _ _ h => h) (Or.inr ⟨by rfl, rfl⟩) (by assumption) ?_; (try simp only [Act.put, List.setIfInBounds_toArray, List.set_cons_zero, List.set_cons_succ])
    refine wpAnyH_take (i := 5) (oi := ⟨some 13, _, _, _, _, _⟩) (v := undef) rfl (by kernel_rfl) (by kernel_rfl) (by kernel_rfl) (fun _ _ _ h => h) (Or.inr ⟨by rfl, rfl⟩) (by assumption) ?_; (try simp only [Act.put, List.setIfInBounds_toArray, List.set_cons_zero, List.set_cons_succ])
    refine wpAnyH_take (i := 6) (oi := ⟨some 14, _, _, _, _, _⟩) (v := undef) rfl (by kernel_rfl) (by kernel_rfl) (by kernel_rfl) (fun _ _ _ h => h) (Or.inr ⟨by rfl, rfl⟩) (by assumption) ?_; (try simp only [Act.put, List.setIfInBounds_toArray, List.set_cons_zero, List.set_cons_succ])
    refine wpAnyH_take (i := 7) (oi := ⟨some 15, _, _, _, _, _⟩) (v := undef) rfl (by kernel_rfl) (by kernel_rfl) (by kernel_rfl) (fun _ _ _ h => h) (Or.inr ⟨by rfl, rfl⟩) (by assumption) ?_; (try simp only [Act.put, List.setIfInBounds_toArray, List.set_cons_zero, List.set_cons_succ])
    refine wpAnyH_take (i := 8) (oi := ⟨some 16, _, _, _, _, _⟩) (v := undef) rfl (by kernel_rfl) (by kernel_rfl) (by kernel_rfl) (fun _ _ _ h => h) (Or.inr ⟨by rfl, rfl⟩) (by assumption) ?_; (try simp only [Act.put, List.setIfInBounds_toArray, List.set_cons_zero, List.set_cons_succ])
    refine wpAnyH_take (i := 9) (oi := ⟨some 17, _, _, _, _, _⟩) (v := undef) rfl (by kernel_rfl) (by kernel_rfl) (by kernel_rfl) (fun _ _ _ h => h) (Or.inr ⟨by rfl, rfl⟩) (by assumption) ?_; (try simp only [Act.put, List.setIfInBounds_toArray, List.set_cons_zero, List.set_cons_succ])
    refine wpAnyH_take (i := 10) (oi := ⟨some 18, _, _, _, _, _⟩) (v := undef) rfl (by kernel_rfl) (by kernel_rfl) (by kernel_rfl) (fun _ _ _ h => h) (Or.inr ⟨by rfl, rfl⟩) (by assumption) ?_; (try simp only [Act.put, List.setIfInBounds_toArray, List.set_cons_zero, List.set_cons_succ])
    refine wpAnyH_take (i := 11) (oi := ⟨some 19, _, _, _, _, _⟩) (v := ?_) rfl (by kernel_rfl) (by kernel_rfl) (by kernel_rfl) (fun _ _ _ h => h) (Or.inl ⟨by rfl, ?_⟩) (by assumption) ?_; rotate_left; (focus (intro w hSw; (try dsimp only at hSw); go_simp; (try with_reducible rfl))); (try simp only [Act.put, List.setIfInBounds_toArray, List.set_cons_zero, List.set_cons_succ])
    refine wpAnyH_done (by kernel_rfl) ?_ _
    go_wp2
    go_ret
    rw [HMR2.out]
    exact RetI_nil B_3.out
  · skip
    refine wp_region_held_drew (S := fun w' => w'.cell? ⟨w1.heap.size, 0, none⟩ = some (.slice A1 n1 c1)) (by kernel_rfl) F_2.out.it (fun hHeld => ?_)
    refine wpAnyH_take (i := 0) (oi := ⟨some 8, _, _, _, _, _⟩) (v := ?_) rfl (by kernel_rfl) (by kernel_rfl) (by kernel_rfl) (fun _ _ _ h => h) (Or.inl ⟨by rfl, ?_⟩) (by assumption) ?_; rotate_left; (focus (intro w hSw; (try dsimp only at hSw); go_simp; (try with_reducible rfl))); (try simp only [Act.put, List.setIfInBounds_toArray, List.set_cons_zero, List.set_cons_succ])
    refine wpAnyH_ready (rs := [1]) (by kernel_rfl) (by simp) ?_; refine AllReadyH.cons (o := ⟨some 9, _, _, _, _, _⟩) rfl (fun K hK => ?_) AllReadyH.nil; go_simp
    go_at_call 57
    refine (HVG.out w2.drew P_2.out).mono ?_
    rintro e w3 ⟨rfl, hb'⟩
    have hb : Below w2.heap.size w2 w3 := below_of_drew hb'
    have P_3 := Lib.hid (P_2.out.step hb)
    clear P_2
    have I_3 := Lib.hid (I_2.out.step hb)
    clear I_2
    have B_3 := Lib.hid (B_2.out.trans (hb.mono B_2.out.size))
    clear B_2
    have F_3 := Lib.hid (F_2.out.step hb)
    clear F_2
    clear hb hb'
    refine hK.out _ _ F_3.out.it (fun hHeld => ?_); clear hK K; (try simp only [Act.put, List.setIfInBounds_toArray, List.set_cons_zero, List.set_cons_succ])
    refine wpAnyH_take (i := 2) (oi := ⟨some 10, _, _, _, _, _⟩) (v := ?_) rfl (by kernel_rfl) (by kernel_rfl) (by kernel_rfl) (fun _ _ _ h => h) (Or.inl ⟨by rfl, ?_⟩) (by assumption) ?_; rotate_left; (focus (intro w hSw; (try dsimp only at hSw); go_simp; (try with_reducible rfl))); (try simp only [Act.put, List.setIfInBounds_toArray, List.set_cons_zero, List.set_cons_succ])
    refine wpAnyH_take (i := 3) (oi := ⟨some 11, _, _, _, _, _⟩) (v := ?_) rfl (by kernel_rfl) (by kernel_rfl) (by kernel_rfl) (fun _ _ _ h => h) (Or.inl ⟨by rfl, ?_⟩) (by assumption) ?_; rotate_left; (focus (intro w hSw; (try dsimp only at hSw); go_simp; (try with_reducible rfl))); (try simp only [Act.put, List.setIfInBounds_toArray, List.set_cons_zero, List.set_cons_succ])
    refine wpAnyH_take (i := 4) (oi := ⟨some 12, _, _, _, _, _⟩) (v := ?_) rfl (by kernel_rfl) (by kernel_rfl) (by kernel_rfl) (fun _ _ _ h => h) (Or.inl ⟨by rfl, ?_⟩) (by assumption) ?_; rotate_left; (focus (intro w hSw; (try dsimp only at hSw); go_simp; (try with_reducible rfl))); (try simp only [Act.put, List.setIfInBounds_toArray, List.set_cons_zero, List.set_cons_succ])
    refine wpAnyH_take (i := 5) (oi := ⟨some 13, _, _, _, _, _⟩) (v := ?_) rfl (by kernel_rfl) (by kernel_rfl) (by kernel_rfl) (fun _ _ _ h => h) (Or.inl ⟨by rfl, ?_⟩) (by assumption) ?_; rotate_left; (focus (intro w hSw; (try dsimp only at hSw); go_simp; (try with_reducible rfl))); (try simp only [Act.put, List.setIfInBounds_toArray, List.set_cons_zero, List.set_cons_succ])
    refine wpAnyH_take (i := 6) (oi := ⟨some 14, _, _, _, _, _⟩) (v := ?_) rfl (by kernel_rfl) (by kernel_rfl) (by kernel_rfl) (fun _ _ _ h => h) (Or.inl ⟨by rfl, ?_⟩) (by assumption) ?_; rotate_left; (focus (intro w hSw; (try dsimp only at hSw); go_simp; (try with_reducible rfl))); (try simp only [Act.put, List.setIfInBounds_toArray, List.set_cons_zero, List.set_cons_succ])
    refine wpAnyH_take (i := 7) (oi := ⟨some 15, _, _, _, _, _⟩) (v := ?_) rfl (by kernel_rfl) (by kernel_rfl) (by kernel_rfl) (fun _ _ _ h => h) (Or.inl ⟨by rfl, ?_⟩) (by assumption) ?_; rotate_left; (focus (intro w hSw; (try dsimp only at hSw); go_simp; (try with_reducible rfl))); (try simp only [Act.put, List.setIfInBounds_toArray, List.set_cons_zero, List.set_cons_succ])
    obtain ⟨w4, hmk, hown3, hgr3⟩ := run_make_full (P := Try.prog) w3 w3.heap.size 28 3 i0 _ 1 Try.underlying28 hi hz0 hz1 .i64 .i64 m1 (by rw [hz2]; omega) (by unfold maxLen; omega) (Nat.le_refl _)
    have hb : Below w3.heap.size w3 w4 := ⟨hgr3.os, hgr3.tape, hgr3.output, hgr3.size, fun k hk => hgr3.block k hk (by simp)⟩
    have hI9 : IS w4 w4.heap.size (some ⟨w3.heap.size, 0, none⟩) (List.replicate m1 0) := IS.of_own (base := w3.heap.size) (e := 3) (n := m1) (c := m1) (by simpa [Value.cells, toList_madeCells_one] using hown3)
    have P_4 := Lib.hid (P_3.out.step hb)
    clear P_3
    have I_4 := Lib.hid (I_3.out.step hb)
    clear I_3
    have B_4 := Lib.hid (B_3.out.trans (hb.mono B_3.out.size))
    clear B_3
    have F_4 := Lib.hid (F_3.out.step hb)
    clear F_3
    have Z_4 := Lib.hid (hI9)
    refine wpAnyH_ready (rs := [8]) (by kernel_rfl) (by simp) ?_; refine AllReadyH.cons (o := ⟨some 16, _, _, _, _, _⟩) rfl (fun K hK => ?_) AllReadyH.nil; go_simp
    refine hK.out _ _ F_4.out.it (fun hHeld => ?_); clear hK K; (try simp only [Act.put, List.setIfInBounds_toArray, List.set_cons_zero, List.set_cons_succ])
    clear hmk hown3 hgr3 hb hI9
    refine wpAnyH_ready (rs := [9]) (by kernel_rfl) (by simp) ?_; refine AllReadyH.cons (o := ⟨some 17, _, _, _, _, _⟩) rfl (fun K hK => ?_) AllReadyH.nil; go_simp
    go_at_call 91
    refine (HGW.out (some ⟨w3.heap.size, 0, none⟩) w4 P_4.out I_4.out Z_4.out).mono ?_
    rintro e w5 ⟨rfl, hb⟩
    have P_5 := Lib.hid (P_4.out.step hb)
    clear P_4
    have I_5 := Lib.hid (I_4.out.step hb)
    clear I_4
    have B_5 := Lib.hid (B_4.out.trans (hb.mono B_4.out.size))
    clear B_4
    have F_5 := Lib.hid (F_4.out.step hb)
    clear F_4
    have Z_5 := Lib.hid (Z_4.out.step hb)
    clear Z_4
    clear hb
    refine hK.out _ _ F_5.out.it (fun hHeld => ?_); clear hK K; (try simp only [Act.put, List.setIfInBounds_toArray, List.set_cons_zero, List.set_cons_succ])
    refine wpAnyH_take (i := 10) (oi := ⟨some 18, _, _, _, _, _⟩) (v := ?_) rfl (by kernel_rfl) (by kernel_rfl) (by kernel_rfl) (fun _ _ _ h => h) (Or.inl ⟨by rfl, ?_⟩) (by assumption) ?_; rotate_left; (focus (intro w hSw; (try dsimp only at hSw); go_simp; (try with_reducible rfl))); (try simp only [Act.put, List.setIfInBounds_toArray, List.set_cons_zero, List.set_cons_succ])
    refine wpAnyH_take (i := 11) (oi := ⟨some 19, _, _, _, _, _⟩) (v := ?_) rfl (by kernel_rfl) (by kernel_rfl) (by kernel_rfl) (fun _ _ _ h => h) (Or.inl ⟨by rfl, ?_⟩) (by assumption) ?_; rotate_left; (focus (intro w hSw; (try dsimp only at hSw); go_simp; (try with_reducible rfl))); (try simp only [Act.put, List.setIfInBounds_toArray, List.set_cons_zero, List.set_cons_succ])
    refine wpAnyH_done (by kernel_rfl) ?_ _
    cases v2
    · have HMR2 : Hid (mrF gs xs = []) := HMR.out
      go_wp2
      go_ret
      rw [HMR2.out]
      exact RetI_nil B_5.out
    · have HMR2 : Hid (mrF gs xs = (reachTo gs xs gs.length).filter (ncB gs)) := HMR.out
      have hv10 := HVP.out (by first | rfl | trivial)
      have HRR := Lib.hid (HRE.out (by first | rfl | trivial))
      have hll := reachTo_len gs xs n1
      have HLB := Lib.hid (reach_ok gs xs n1)
      obtain ⟨L, hL⟩ : ∃ L, L = reachTo gs xs n1 := ⟨_, rfl⟩
      rw [← HN1.out, ← hL] at HMR2
      rw [← hL] at HRR hll HLB
      have hn10 : n1 ≤ 10 := by have := HN1.out; omega
      clear hL HVP HRE HGW HVG hv10 HMR
      have hnew := World.ownsRow_lit (e := 3) (size := 1) (base := w5.heap.size) w5 #[] 0 (Nat.le_refl _) (by unfold maxLen; omega) rfl
      have HO0 : OwnI (w5.alloc (.cells #[] 3)) w5.heap.size (.slice (some ⟨w5.heap.size, 0, none⟩) 0 0) (mayTo gs L 0) := by simpa [OwnI, mayTo] using hnew
      clear hnew
      have FW := F_5
      have PW := P_5
      have BW := B_5
      obtain ⟨w6, hw6⟩ : ∃ W, W = w5.alloc (.cells #[] 3) := ⟨_, rfl⟩
      have hb : Below w5.heap.size w5 w6 := by rw [hw6]; exact (Below.refl _ _).alloc (Nat.le_refl _) _
      have P_6 := Lib.hid (P_5.out.step hb)
      clear P_5
      have I_6 := Lib.hid (I_5.out.step hb)
      clear I_5
      have B_6 := Lib.hid (B_5.out.trans (hb.mono B_5.out.size))
      clear B_5
      have F_6 := Lib.hid (F_5.out.step hb)
      clear F_5
      have Z_6 := Lib.hid (Z_5.out.step hb)
      clear Z_5
      clear hb
      have q0 := F_6.out.it
      rw [hw6] at q0
      go_wp2_with fail
      rw [← hw6] at HO0
      rw [← hw6]
      clear q0
      have hbn : Below w5.heap.size w5 w6 := by rw [hw6]; exact (Below.refl _ _).alloc (Nat.le_refl _) _
      have hsn : w6.heap.size = w5.heap.size + 1 := by rw [hw6]; simp
      clear hw6
      refine (HRR.out w6 P_6.out I_6.out).mono ?_
      rintro e w7 ⟨v7, rfl, ho, hb⟩
      obtain ⟨AL, cL, rfl, _⟩ := OwnI.form ho
      unfold OwnI at ho
      rw [hsn] at ho
      obtain ⟨ll, hll2⟩ : ∃ l, l = L.length := ⟨_, rfl⟩
      rw [← hll2] at ho hll
      rw [← hll2]
      have HLL := Lib.hid hll2
      clear hll2
      obtain ⟨gl, ol, hgl1, hgl2, hgl3⟩ := row_beside HLL.out ho
      have HO1 := Lib.hid (own_below HO0 hb)
      have HBK := Lib.hid (hbn.trans (hb.mono (by omega)))
      have HG3 := Lib.hid hgl3
      have hl0 : w5.heap.size ≤ w7.heap.size := HBK.out.size
      have hWk : w5.heap.size < w7.heap.size := by have := hb.size; omega
      have P_7 := Lib.hid (P_6.out.step hb)
      clear P_6
      have I_7 := Lib.hid (I_6.out.step hb)
      clear I_6
      have B_7 := Lib.hid (B_6.out.trans (hb.mono B_6.out.size))
      clear B_6
      have F_7 := Lib.hid (F_6.out.step hb)
      clear F_6
      have Z_7 := Lib.hid (Z_6.out.step hb)
      clear Z_6
      clear hb hbn hgl3 ho HO0 HRR
      have HGL := Lib.hid hgl2
      clear hgl2
      have HFB := F_7
      go_wp2
      go_loopw [5, 7] (fun v u wr => ∃ k : Nat, k ≤ ll ∧ u = .int .i64 k ∧ Hid (OwnI wr w5.heap.size v (mayTo gs L k)) ∧ Hid (v.ownBlock ≠ some gl) ∧ Hid (∀ j, j < ll → wr.cell? ⟨gl, ol + j, none⟩ = some (.int .i64 (L.getD j 0))) ∧ Hid (Below w5.heap.size w5 wr) ∧ w7.heap.size ≤ wr.heap.size) (fun _ u _ => ll - (intOf u).toNat)
      case atStart => exact ⟨0, Nat.zero_le _, rfl, HO1, by intro e; simp [Value.ownBlock] at e; omega, HG3, HBK, Nat.le_refl _⟩
      case round =>
        obtain ⟨k, hk, rfl, HO, HNE, HC, HB, hwr⟩ := hrel
        obtain ⟨w8, hwK⟩ : ∃ W, W = wr := ⟨_, rfl⟩
        rw [← hwK]
        rw [← hwK] at HO HC HB hwr
        clear hwK
        have F_8 := Lib.hid (FW.out.step HB.out)
        have P_8 := Lib.hid (PW.out.step HB.out)
        have BR := Lib.hid (BW.out.trans (HB.out.mono BW.out.size))
        by_cases hlt : k < ll
        · obtain ⟨hgs, hAL⟩ := HGL.out (by omega)
          subst hAL
          have hkL : k < L.length := by have := HLL.out; omega
          have x3 := HC.out k hlt
          obtain ⟨q, hq, hqx⟩ := HLB.out (L.getD k 0) (by simp [List.getD, hkL])
          have hst := mayTo_step gs L k hkL
          have hnc9 : ncB gs (q : Int) = !((gs.getD q default).k == 0) := by unfold ncB; simp
          rw [hqx] at x3 hst
          rw [hnc9] at hst
          have hml := mayTo_len gs L k
          clear hnc9 hqx
          obtain ⟨b, off, rfl, hbB, d0, A6, n6, c6, d1, hn6, hps⟩ := P_8.out.at_ q (by have := HN1.out; omega)
          clear d1 hn6 hps
          generalize (gs.getD q default).k = kd at *
          have hgs2 : gl < w8.heap.size := by omega
          have x3_8 : Hid (C1 gl (ol + k) (.int .i64 (q : Int)) w8) := ⟨hgs2, x3⟩
          have d0_8 : Hid (C1 b (off + q * 2) (.int .i64 kd) w8) := ⟨hbB, d0⟩
          clear x3 d0
          have hqn : (q : Int) < (n1 : Int) := by omega
          have hkl : (k : Int) < (ll : Int) := by omega
          have hmk : (mayTo gs L k).length ≤ 10 := by have := HLL.out; omega
          clear hml
          cases hk0 : (kd == 0)
          · have hk1 : (kd != 0) = true := by rw [bne, hk0]; rfl
            have HST : Hid (mayTo gs L (k + 1) = mayTo gs L k ++ [(q : Int)]) := by show _ = _; rw [hst, hk0]; rfl
            clear hst
            go_wp2
            refine wp_region_held_drew (S := fun w' => w'.cell? ⟨w1.heap.size, 0, none⟩ = some (.slice (some ⟨b, off, none⟩) n1 c1) ∧ w'.cell? ⟨b, off + q * 2, none⟩ = some (.int .i64 kd) ∧ w'.cell? ⟨gl, ol + k, none⟩ = some (.int .i64 (q : Int))) (by kernel_rfl) ⟨F_8.out.it, d0_8.out.2, x3_8.out.2⟩ (fun hHeld => ?_)
            refine wpAnyH_take (i := 0) (oi := ⟨some 30, _, _, _, _, _⟩) (v := ?_) rfl (by kernel_rfl) (by kernel_rfl) (by kernel_rfl) (fun _ _ _ h => h) (Or.inl ⟨by rfl, ?_⟩) (by assumption) ?_; rotate_left; (focus (intro w hSw; (try dsimp only at hSw); go_simp; (try with_reducible rfl))); (try simp only [Act.put, List.setIfInBounds_toArray, List.set_cons_zero, List.set_cons_succ])
            refine wpAnyH_take (i := 1) (oi := ⟨some 31, _, _, _, _, _⟩) (v := ?_) rfl (by kernel_rfl) (by kernel_rfl) (by kernel_rfl) (fun _ _ _ h => h) (Or.inl ⟨by rfl, ?_⟩) (by assumption) ?_; rotate_left; (focus (intro w hSw; (try dsimp only at hSw); go_simp; (try with_reducible rfl))); (try simp only [Act.put, List.setIfInBounds_toArray, List.set_cons_zero, List.set_cons_succ])
            refine wpAnyH_take (i := 2) (oi := ⟨some 32, _, _, _, _, _⟩) (v := ?_) rfl (by kernel_rfl) (by kernel_rfl) (by kernel_rfl) (fun _ _ _ h => h) (Or.inl ⟨by rfl, ?_⟩) (by assumption) ?_; rotate_left; (focus (intro w hSw; (try dsimp only at hSw); go_simp; (try with_reducible rfl))); (try simp only [Act.put, List.setIfInBounds_toArray, List.set_cons_zero, List.set_cons_succ])
            refine wpAnyH_take (i := 3) (oi := ⟨some 33, _, _, _, _, _⟩) (v := ?_) rfl (by kernel_rfl) (by kernel_rfl) (by kernel_rfl) (fun _ _ _ h => h) (Or.inl ⟨by rfl, ?_⟩) (by assumption) ?_; rotate_left; (focus (intro w hSw; (try dsimp only at hSw); go_simp; (try with_reducible rfl))); (try simp only [Act.put, List.setIfInBounds_toArray, List.set_cons_zero, List.set_cons_succ])
            refine wpAnyH_take (i := 4) (oi := ⟨some 34, _, _, _, _, _⟩) (v := ?_) rfl (by kernel_rfl) (by kernel_rfl) (by kernel_rfl) (fun _ _ _ h => h) (Or.inl ⟨by rfl, ?_⟩) (by assumption) ?_; rotate_left; (focus (intro w hSw; (try dsimp only at hSw); go_simp; (try with_reducible rfl))); (try simp only [Act.put, List.setIfInBounds_toArray, List.set_cons_zero, List.set_cons_succ])
            refine wpAnyH_take (i := 5) (oi := ⟨some 35, _, _, _, _, _⟩) (v := ?_) rfl (by kernel_rfl) (by kernel_rfl) (by kernel_rfl) (fun _ _ _ h => h) (Or.inl ⟨by rfl, ?_⟩) (by assumption) ?_; rotate_left; (focus (intro w hSw; (try dsimp only at hSw); go_simp; (try with_reducible rfl))); (try simp only [Act.put, List.setIfInBounds_toArray, List.set_cons_zero, List.set_cons_succ])
            refine wpAnyH_take (i := 6) (oi := ⟨some 36, _, _, _, _, _⟩) (v := ?_) rfl (by kernel_rfl) (by kernel_rfl) (by kernel_rfl) (fun _ _ _ h => h) (Or.inl ⟨by rfl, ?_⟩) (by assumption) ?_; rotate_left; (focus (intro w hSw; (try dsimp only at hSw); go_simp; (try with_reducible rfl))); (try simp only [Act.put, List.setIfInBounds_toArray, List.set_cons_zero, List.set_cons_succ])
            refine wpAnyH_take (i := 7) (oi := ⟨some 37, _, _, _, _, _⟩) (v := ?_) rfl (by kernel_rfl) (by kernel_rfl) (by kernel_rfl) (fun _ _ _ h => h) (Or.inl ⟨by rfl, ?_⟩) (by assumption) ?_; rotate_left; (focus (intro w hSw; (try dsimp only at hSw); go_simp; (try with_reducible rfl))); (try simp only [Act.put, List.setIfInBounds_toArray, List.set_cons_zero, List.set_cons_succ])
            refine wpAnyH_take (i := 8) (oi := ⟨some 38, _, _, _, _, _⟩) (v := ?_) rfl (by kernel_rfl) (by kernel_rfl) (by kernel_rfl) (fun _ _ _ h => h) (Or.inl ⟨by rfl, ?_⟩) (by assumption) ?_; rotate_left; (focus (intro w hSw; (try dsimp only at hSw); go_simp; (try with_reducible rfl))); (try simp only [Act.put, List.setIfInBounds_toArray, List.set_cons_zero, List.set_cons_succ])
            refine wpAnyH_take (i := 9) (oi := ⟨some 39, _, _, _, _, _⟩) (v := ?_) rfl (by kernel_rfl) (by kernel_rfl) (by kernel_rfl) (fun _ _ _ h => h) (Or.inl ⟨by rfl, ?_⟩) (by assumption) ?_; rotate_left; (focus (intro w hSw; (try dsimp only at hSw); go_simp; (try with_reducible rfl))); (try simp only [Act.put, List.setIfInBounds_toArray, List.set_cons_zero, List.set_cons_succ])
            refine wpAnyH_done (by kernel_rfl) ?_ _
            obtain ⟨wd, hwd⟩ : ∃ W, W = w8.drew := ⟨_, rfl⟩
            rw [← hwd]
            have hbd : Below w8.heap.size w8 wd := by rw [hwd]; exact (Below.refl _ _).drew
            have hgd : gl < wd.heap.size := by rw [hwd]; exact hgs2
            have hwkd : w7.heap.size ≤ wd.heap.size := by rw [hwd]; exact hwr
            clear hwd
            have q3 : wd.cell? ⟨gl, ol + k, none⟩ = some (.int .i64 (q : Int)) := (hbd.cell (p := ⟨gl, ol + k, none⟩) hgs2).trans x3_8.out.2
            have HCd : Hid (∀ j, j < ll → wd.cell? ⟨gl, ol + j, none⟩ = some (.int .i64 (L.getD j 0))) := fun j hj => (hbd.cell (p := ⟨gl, ol + j, none⟩) hgs2).trans (HC.out j hj)
            have HO2 := Lib.hid (own_below HO.out hbd)
            have HB2 := Lib.hid (HB.out.trans (hbd.mono (by have := HB.out.size; omega)))
            clear hbd
            go_wp2_with (at_builtin; refine wpList_append_own_at _ rfl _ _ 28 rfl w5.heap.size 3 i0 (.int .i64 0) 1 8 Try.underlying28 hi hz0 hz1 hz2 rfl (by decide) _ _ _ rfl (HO2.out.alloc _) ⟨_, 0, none⟩ 1 1 [.int .i64 q] rfl rfl (cell_one_new _ _ _) ?c2 ?c3 ?c4 ?c5 ?_)
            case c2 => first | rfl | (intro u hu; simp at hu; subst hu; rfl)
            case c3 => unfold maxLen; omega
            case c4 => omega
            case c5 => have := HB2.out.size; first | omega | (simp; omega)
            intro v' w4x hown' hgrow _ hblk
            have hpos := (HO2.out.alloc (.cells #[.int .i64 q] 3)).lt
            have HO' : Hid (OwnI w4x w5.heap.size v' (mayTo gs L (k + 1))) := by
              rw [HST.out]
              simpa [OwnI, Hid] using hown'
            have hs2 := HB2.out.size
            have HB' := Lib.hid ((HB2.out.alloc hs2 (.cells #[.int .i64 q] 3)).grown hgrow (by simp; omega) (fun q hq => (hpos q hq).1))
            have HNE' : Hid (v'.ownBlock ≠ some gl) := by
              rcases hblk with e | e
              · intro e2; rw [e] at e2; exact HNE.out e2
              · intro e2; rw [e] at e2; simp at e2; omega
            have HC' : Hid (∀ j, j < ll → w4x.cell? ⟨gl, ol + j, none⟩ = some (.int .i64 (L.getD j 0))) := fun j hj =>
              (World.cell?_of_block (a := ⟨gl, ol + j, none⟩) (hgrow.block gl (by simp; omega) (by first | exact HNE.out | exact fun e => HNE.out e.symm))).trans ((World.cell?_alloc_lt _ _ ⟨gl, ol + j, none⟩ (by show gl < _; omega)).trans (HCd.out j hj))
            have hw4 : w7.heap.size ≤ w4x.heap.size := by have := hgrow.size; simp at this; omega
            clear hown' hgrow hpos hblk q3
            go_wp2
            go_roundw
            case rel => exact ⟨k + 1, by omega, by go_num, HO'.out, HNE'.out, HC'.out, HB'.out, hw4⟩
            case measure => simp [intOf]; omega
          · have hk1 : (kd != 0) = false := by rw [bne, hk0]; rfl
            have HST : Hid (mayTo gs L (k + 1) = mayTo gs L k) := by show _ = _; rw [hst, hk0]; simp
            clear hst
            go_wp2
            refine wp_region_held_drew (S := fun w' => w'.cell? ⟨w1.heap.size, 0, none⟩ = some (.slice (some ⟨b, off, none⟩) n1 c1) ∧ w'.cell? ⟨b, off + q * 2, none⟩ = some (.int .i64 kd) ∧ w'.cell? ⟨gl, ol + k, none⟩ = some (.int .i64 (q : Int))) (by kernel_rfl) ⟨F_8.out.it, d0_8.out.2, x3_8.out.2⟩ (fun hHeld => ?_)
            refine wpAnyH_take (i := 0) (oi := ⟨some 30, _, _, _, _, _⟩) (v := ?_) rfl (by kernel_rfl) (by kernel_rfl) (by kernel_rfl) (fun _ _ _ h => h) (Or.inl ⟨by rfl, ?_⟩) (by assumption) ?_; rotate_left; (focus (intro w hSw; (try dsimp only at hSw); go_simp; (try with_reducible rfl))); (try simp only [Act.put, List.setIfInBounds_toArray, List.set_cons_zero, List.set_cons_succ])
            refine wpAnyH_take (i := 1) (oi := ⟨some 31, _, _, _, _, _⟩) (v := ?_) rfl (by kernel_rfl) (by kernel_rfl) (by kernel_rfl) (fun _ _ _ h => h) (Or.inl ⟨by rfl, ?_⟩) (by assumption) ?_; rotate_left; (focus (intro w hSw; (try dsimp only at hSw); go_simp; (try with_reducible rfl))); (try simp only [Act.put, List.setIfInBounds_toArray, List.set_cons_zero, List.set_cons_succ])
            refine wpAnyH_take (i := 2) (oi := ⟨some 32, _, _, _, _, _⟩) (v := ?_) rfl (by kernel_rfl) (by kernel_rfl) (by kernel_rfl) (fun _ _ _ h => h) (Or.inl ⟨by rfl, ?_⟩) (by assumption) ?_; rotate_left; (focus (intro w hSw; (try dsimp only at hSw); go_simp; (try with_reducible rfl))); (try simp only [Act.put, List.setIfInBounds_toArray, List.set_cons_zero, List.set_cons_succ])
            refine wpAnyH_take (i := 3) (oi := ⟨some 33, _, _, _, _, _⟩) (v := ?_) rfl (by kernel_rfl) (by kernel_rfl) (by kernel_rfl) (fun _ _ _ h => h) (Or.inl ⟨by rfl, ?_⟩) (by assumption) ?_; rotate_left; (focus (intro w hSw; (try dsimp only at hSw); go_simp; (try with_reducible rfl))); (try simp only [Act.put, List.setIfInBounds_toArray, List.set_cons_zero, List.set_cons_succ])
            refine wpAnyH_take (i := 4) (oi := ⟨some 34, _, _, _, _, _⟩) (v := ?_) rfl (by kernel_rfl) (by kernel_rfl) (by kernel_rfl) (fun _ _ _ h => h) (Or.inl ⟨by rfl, ?_⟩) (by assumption) ?_; rotate_left; (focus (intro w hSw; (try dsimp only at hSw); go_simp; (try with_reducible rfl))); (try simp only [Act.put, List.setIfInBounds_toArray, List.set_cons_zero, List.set_cons_succ])
            refine wpAnyH_take (i := 5) (oi := ⟨some 35, _, _, _, _, _⟩) (v := ?_) rfl (by kernel_rfl) (by kernel_rfl) (by kernel_rfl) (fun _ _ _ h => h) (Or.inl ⟨by rfl, ?_⟩) (by assumption) ?_; rotate_left; (focus (intro w hSw; (try dsimp only at hSw); go_simp; (try with_reducible rfl))); (try simp only [Act.put, List.setIfInBounds_toArray, List.set_cons_zero, List.set_cons_succ])
            refine wpAnyH_take (i := 6) (oi := ⟨some 36, _, _, _, _, _⟩) (v := ?_) rfl (by kernel_rfl) (by kernel_rfl) (by kernel_rfl) (fun _ _ _ h => h) (Or.inl ⟨by rfl, ?_⟩) (by assumption) ?_; rotate_left; (focus (intro w hSw; (try dsimp only at hSw); go_simp; (try with_reducible rfl))); (try simp only [Act.put, List.setIfInBounds_toArray, List.set_cons_zero, List.set_cons_succ])
            refine wpAnyH_take (i := 7) (oi := ⟨some 37, _, _, _, _, _⟩) (v := ?_) rfl (by kernel_rfl) (by kernel_rfl) (by kernel_rfl) (fun _ _ _ h => h) (Or.inl ⟨by rfl, ?_⟩) (by assumption) ?_; rotate_left; (focus (intro w hSw; (try dsimp only at hSw); go_simp; (try with_reducible rfl))); (try simp only [Act.put, List.setIfInBounds_toArray, List.set_cons_zero, List.set_cons_succ])
            refine wpAnyH_take (i := 8) (oi := ⟨some 38, _, _, _, _, _⟩) (v := ?_) rfl (by kernel_rfl) (by kernel_rfl) (by kernel_rfl) (fun _ _ _ h => h) (Or.inl ⟨by rfl, ?_⟩) (by assumption) ?_; rotate_left; (focus (intro w hSw; (try dsimp only at hSw); go_simp; (try with_reducible rfl))); (try simp only [Act.put, List.setIfInBounds_toArray, List.set_cons_zero, List.set_cons_succ])
            refine wpAnyH_take (i := 9) (oi := ⟨some 39, _, _, _, _, _⟩) (v := ?_) rfl (by kernel_rfl) (by kernel_rfl) (by kernel_rfl) (fun _ _ _ h => h) (Or.inl ⟨by rfl, ?_⟩) (by assumption) ?_; rotate_left; (focus (intro w hSw; (try dsimp only at hSw); go_simp; (try with_reducible rfl))); (try simp only [Act.put, List.setIfInBounds_toArray, List.set_cons_zero, List.set_cons_succ])
            refine wpAnyH_done (by kernel_rfl) ?_ _
            have hbd : Below w8.heap.size w8 w8.drew := (Below.refl _ _).drew
            have HO2 := Lib.hid (own_below HO.out hbd)
            have HC2 : Hid (∀ j, j < ll → w8.drew.cell? ⟨gl, ol + j, none⟩ = some (.int .i64 (L.getD j 0))) := fun j hj => (hbd.cell (p := ⟨gl, ol + j, none⟩) hgs2).trans (HC.out j hj)
            clear hbd
            go_wp2
            go_roundw
            case rel => exact ⟨k + 1, by omega, by go_num, by rw [HST.out]; exact HO2.out, HNE.out, HC2.out, HB.out.drew, hwr⟩
            case measure => simp [intOf]; omega
        · obtain rfl : ll = k := by omega
          have HE : Hid (mayTo gs L ll = mrF gs xs) := by show _ = _; rw [HMR2.out]; unfold mayTo; rw [List.take_of_length_le (by have := HLL.out; omega)]
          rw [HE.out] at HO
          go_wp2
          go_ret
          exact ⟨_, rfl, own_mono HO.out BW.out.size, BR.out⟩
end Go.Proofs.Ytdhjflhpenkchaa

namespace Go.Proofs.Ytdhjflhpenkchaa
set_option linter.unusedSimpArgs false
set_option linter.unusedVariables false
open Go.RowKit
theorem own_clear {base g cap n : Nat} : ∀ (m i : Nat) (R : List Int) (w : World), w.ownsRow base 3 1 (.slice (some ⟨g, 0, none⟩) n cap) n (R.map (Value.int .i64)) → i + m ≤ n →
    ∃ R' : List Int, (w.setCells g i (List.replicate m (.int .i64 0))).ownsRow base 3 1 (.slice (some ⟨g, 0, none⟩) n cap) n (R'.map (Value.int .i64)) ∧ R'.take i = R.take i ∧ ∀ w0 : World, base ≤ w0.heap.size → Below base w0 w → Below base w0 (w.setCells g i (List.replicate m (.int .i64 0))) := by
  intro m
  induction m with
  | zero => intro i R w h _; exact ⟨R, h, rfl, fun _ _ h => h⟩
  | succ m ih =>
    intro i R w h hi
    have h1 := (h.stored i (.int .i64 0)).1
    rw [← List.map_set] at h1
    obtain ⟨R', h2, h3, h4⟩ := ih (i + 1) (R.set i 0) _ h1 (by omega)
    refine ⟨R', h2, ?_, fun w0 hw0 hb => h4 w0 hw0 (hb.setCell (p := ⟨g, i, none⟩) (h.lt g rfl).1 _)⟩
    have : (R'.take (i + 1)).take i = ((R.set i 0).take (i + 1)).take i := by rw [h3]
    have e : (R.set i 0).take i = R.take i := by
      apply List.ext_getElem?
      intro j
      rw [List.getElem?_take, List.getElem?_take]
      split
      · rw [List.getElem?_set, if_neg (by omega)]
      · rfl
    rw [← e]
    simpa [List.take_take, Nat.min_eq_left (Nat.le_succ i)] using this
set_option maxHeartbeats 1600000 in
theorem slices_IndexFunc1 (K : FuncId) (cap : Value) (P : Int → Bool) (A : Option Addr) (n c : Nat) (xs : List Int) (hs : n ≤ 2000000) (w : World) (hcf : ∀ (q : Int) (w : World), (callFunc K #[.int .i64 q, cap]).run Try.prog w = .ok (.enter K #[.int .i64 q, cap]) w)
    (hP : ∀ q ∈ xs, Calls Try.prog K #[.int .i64 q, cap] w fun e w' => e = .returned (.bool (P q)) ∧ w' = w) (hn : n = xs.length) (B : Nat) (hx : IS w B A xs) :
    Calls Try.prog 94 #[.slice A n c, .func (.func K) #[] #[cap]] w fun e w' => ((∃ i : Nat, e = .returned (.int .i64 i) ∧ i < n ∧ (xs.take i).filter P = [] ∧ P (xs.getD i 0) = true) ∨ (e = .returned (.int .i64 (-1)) ∧ xs.filter P = [])) ∧ w' = w := by
  have HP := Lib.hid hP
  have HCF := Lib.hid hcf
  have HX := Lib.hid hx
  have HN := Lib.hid hn
  clear hP hcf hx hn
  go_enter Try.func94, Try.ntmps94
  go_wp2
  go_loopw [8] (fun i wr => ∃ k : Nat, k ≤ n ∧ i = .int .i64 k ∧ Hid ((xs.take k).filter P = []) ∧ wr = w) (fun i _ => n - (intOf i).toNat)
  case atStart => exact ⟨0, Nat.zero_le _, rfl, by simp [Hid], rfl⟩
  case round =>
    obtain ⟨k, hk, rfl, HA, rfl⟩ := hrel
    by_cases hlt : k < n
    · have hkx : k < xs.length := by have := HN.out; omega
      obtain ⟨b, off, rfl, hbB, hc⟩ := HX.out (by omega)
      have c0 := hc k hkx
      have hst := filter_take_step P xs k hkx
      have HNX : Hid (P (xs.getD k 0) = false → (xs.take (k + 1)).filter P = []) := fun h => by
        rw [hst, if_neg (by rw [h]; simp)]; exact HA.out
      have HPK := Lib.hid (HP.out (xs.getD k 0) (by simp [List.getD, hkx]))
      have hcf := HCF.out (xs.getD k 0)
      have HGX : Hid (∀ p, P (xs.getD k 0) = p → P (xs.getD k 0) = p) := fun _ h => h
      clear hst
      obtain ⟨p, hp⟩ : ∃ p, p = P (xs.getD k 0) := ⟨_, rfl⟩
      rw [← hp] at HPK HNX
      have HPE := Lib.hid hp
      clear hp HGX
      generalize hgx : xs.getD k 0 = x at *
      have HGX := Lib.hid hgx
      clear hgx
      clear hc HX
      cases p
      · have HN2 := Lib.hid (HNX.out (by first | rfl | trivial))
        go_wp2_with fail
        refine HPK.out.mono ?_
        rintro e w2 ⟨rfl, rfl⟩
        go_wp2
        go_roundw
        case rel => exact ⟨k + 1, by omega, by go_num, HN2.out, by first | rfl | trivial⟩
        case measure => simp [intOf]; omega
      · go_wp2_with fail
        refine HPK.out.mono ?_
        rintro e w2 ⟨rfl, rfl⟩
        go_wp2
        go_ret
        exact ⟨.inl ⟨k, rfl, hlt, HA.out, by rw [HGX.out]; exact HPE.out.symm⟩, rfl⟩
    · obtain rfl : n = k := by omega
      have HF : Hid (xs.filter P = []) := by
        have h1 := HA.out
        rw [List.take_of_length_le (by have := HN.out; omega)] at h1
        exact h1
      go_wp2
      go_ret
      exact ⟨.inr ⟨rfl, HF.out⟩, rfl⟩
/-- The row while some are taken away: the first i are those that stay of the first j, and from j on it is as it was. -/
structure DelS (P : Int → Bool) (xs R : List Int) (j i : Nat) : Prop where
  len : R.length = xs.length
  out : R.take i = (xs.take j).filter fun x => !P x
  rest : ∀ t, j ≤ t → t < xs.length → R.getD t 0 = xs.getD t 0
  lt : i < j
theorem DelS.drop {P : Int → Bool} {xs R : List Int} {j i : Nat} (h : DelS P xs R j i) (hj : j < xs.length) (hp : P (xs.getD j 0) = true) : DelS P xs R (j + 1) i :=
  ⟨h.len, by rw [h.out, filter_take_step _ xs j hj, hp]; rfl, fun t ht => h.rest t (by omega), by have := h.lt; omega⟩
theorem DelS.keep {P : Int → Bool} {xs R : List Int} {j i : Nat} (h : DelS P xs R j i) (hj : j < xs.length) (hp : P (xs.getD j 0) = false) : DelS P xs (R.set i (xs.getD j 0)) (j + 1) (i + 1) := by
  have hi := h.lt
  have hl := h.len
  refine ⟨by simp [hl], ?_, fun t ht htl => ?_, by omega⟩
  · rw [filter_take_step _ xs j hj, hp]
    simp only [Bool.not_false, if_true]
    rw [← h.out]
    apply List.ext_getElem?
    intro t
    rw [List.getElem?_take, List.getElem?_set, List.getElem?_append, List.length_take, Nat.min_eq_left (by omega), List.getElem?_take]
    by_cases h1 : t < i
    · rw [if_pos (by omega), if_neg (by omega), if_pos h1, if_pos h1]
    · by_cases h2 : t = i
      · subst h2
        rw [if_pos (by omega), if_pos rfl, if_pos (by omega), if_neg h1]; simp
      · rw [if_neg (by omega), if_neg h1]
        symm
        apply List.getElem?_eq_none
        simp; omega
  · have := h.rest t (by omega) htl
    rw [← this]
    simp only [List.getD, List.getElem?_set]
    rw [if_neg (by omega)]
set_option maxRecDepth 100000 in
set_option maxHeartbeats 6400000 in
theorem slices_DeleteFunc (K : FuncId) (cap1 : Value) (P : Int → Bool) (base n cap : Nat) (A : Option Addr) (xs : List Int) (w : World) (hn : n = xs.length) (hs : n ≤ 2000000) (ho : OwnI w base (.slice A n cap) xs) (hbase : base ≤ w.heap.size)
    (hcf : ∀ (q : Int) (w : World), (callFunc K #[.int .i64 q, cap1]).run Try.prog w = .ok (.enter K #[.int .i64 q, cap1]) w)
    (hP : ∀ q ∈ xs, ∀ w' : World, Below base w w' → Calls Try.prog K #[.int .i64 q, cap1] w' fun e w'' => e = .returned (.bool (P q)) ∧ w'' = w') :
    Calls Try.prog 89 #[.slice A n cap, .func (.func K) #[] #[cap1]] w fun e w' => ∃ v, e = .returned v ∧ OwnI w' base v (xs.filter fun x => !P x) ∧ Below base w w' := by
  have HN := Lib.hid hn
  have ho0 : w.ownsRow base 3 1 (.slice A n cap) n (xs.map (Value.int .i64)) := by have h := ho; unfold OwnI at h; rw [← hn] at h; exact h
  have HI := Lib.hid (slices_IndexFunc1 K cap1 P A n cap xs hs w hcf (fun q hq => hP q hq w (Below.refl _ _)) hn w.heap.size (IS.of_own ho0))
  have HO := Lib.hid ho0
  have HCF := Lib.hid hcf
  have HP := Lib.hid hP
  have HB := Lib.hid hbase
  clear ho ho0 hn hcf hP
  go_enter Try.func89, Try.ntmps89
  go_wp2_with fail
  refine HI.out.mono ?_
  rintro e w2 ⟨hres, rfl⟩
  rcases hres with ⟨i0, rfl, hi0, hf0, hp0⟩ | ⟨rfl, hf0⟩
  · have hx0 : i0 < xs.length := by have := HN.out; omega
    obtain ⟨g, rfl⟩ : ∃ g, A = some ⟨g, 0, none⟩ := by
      rcases HO.out.2 with ⟨_, hz⟩ | ⟨g, cap', cur, hv, _⟩
      · omega
      · simp only [Value.slice.injEq] at hv
        exact ⟨g, hv.1⟩
    have hD : DelS P xs xs (i0 + 1) i0 := by
      refine ⟨rfl, ?_, fun _ _ _ => rfl, by omega⟩
      rw [filter_take_step _ xs i0 hx0, hp0]
      simp only [Bool.not_true, Bool.false_eq_true, if_false]
      symm
      rw [List.filter_eq_self]
      intro x hx
      have := List.filter_eq_nil_iff.1 hf0 x hx
      simpa using this
    have HD0 := Lib.hid hD
    have HP0 := Lib.hid hp0
    have HF0 := Lib.hid hf0
    clear hD hp0 hf0 HI
    have hne : ((i0 : Int) == -1) = false := by first | (simp; done) | (simp; omega)
    go_wp2
    go_loopw [5, 6] (fun u v wr => ∃ (i j : Nat) (R : List Int), j ≤ n ∧ i < j ∧ u = .int .i64 i ∧ v = .int .i64 j ∧ Hid (DelS P xs R j i) ∧ Hid (wr.ownsRow base 3 1 (.slice (some ⟨g, 0, none⟩) n cap) n (R.map (Value.int .i64))) ∧ Hid (Below base w2 wr)) (fun _ v _ => n - (intOf v).toNat)
    case atStart => exact ⟨i0, i0 + 1, xs, by omega, by omega, rfl, by go_num, HD0, HO, Below.refl _ _⟩
    case round =>
      obtain ⟨i, j, R, hj, hij, rfl, rfl, HD, HR, HBR⟩ := hrel
      by_cases hlt : j < n
      · have hjx : j < xs.length := by have := HN.out; omega
        have hl := HD.out.len
        have hrest := HD.out.rest j (Nat.le_refl _) hjx
        have HPX := Lib.hid (HP.out (xs.getD j 0) (by simp [List.getD, hjx]) wr HBR.out)
        have hcf := HCF.out (xs.getD j 0)
        have HDD := Lib.hid (HD.out.drop hjx)
        have HDK := Lib.hid (HD.out.keep hjx)
        have u0 := HR.out.cellAt j (by omega)
        rw [List.getElem?_eq_getElem (by rw [List.length_map]; omega), List.getElem_map] at u0
        have e0 : R[j]'(by omega) = xs.getD j 0 := by rw [← hrest]; simp [List.getD, hl, hjx]
        rw [e0] at u0
        have u1 := HR.out.cellAt i (by omega)
        rw [List.getElem?_eq_getElem (by rw [List.length_map]; omega)] at u1
        have f1 := HR.out.frozenAt i
        have hst := (HR.out.stored i (.int .i64 (xs.getD j 0))).1
        rw [← List.map_set] at hst
        have HST := Lib.hid hst
        have hgg := (HR.out.lt g rfl).1
        have HB4 := Lib.hid (HBR.out.setCell (p := ⟨g, i, none⟩) hgg (.int .i64 (xs.getD j 0)))
        generalize (R.map (Value.int .i64))[i]'_ = vv at u1
        clear hst hrest e0 hl
        obtain ⟨p, hp⟩ : ∃ p, p = P (xs.getD j 0) := ⟨_, rfl⟩
        rw [← hp] at HPX HDD HDK
        clear hp
        generalize xs.getD j 0 = x at *
        have hin : (i : Int) < (n : Int) := by omega
        cases p
        · have HD2 := Lib.hid (HDK.out rfl)
          go_wp2_with fail
          refine HPX.out.mono ?_
          rintro e w3 ⟨rfl, rfl⟩
          go_wp2
          go_roundw
          case rel => exact ⟨i + 1, j + 1, _, by omega, by omega, by go_num, by go_num, HD2.out, HST.out, HB4.out⟩
          case measure => simp [intOf]; omega
        · have HD2 := Lib.hid (HDD.out rfl)
          go_wp2_with fail
          refine HPX.out.mono ?_
          rintro e w3 ⟨rfl, rfl⟩
          go_wp2
          go_roundw
          case rel => exact ⟨i, j + 1, _, by omega, by omega, rfl, by go_num, HD2.out, HR.out, HBR.out⟩
          case measure => simp [intOf]; omega
      · obtain rfl : n = j := by omega
        have hnc := own_ncap HR.out
        have hcl : ∀ ty, (Builtin.clear_ #[28] ty #[.slice (some ⟨g, i, none⟩) (n - i) (cap - i)]).run Try.prog wr = .ok (.tuple #[]) (wr.setCells g i (List.replicate (n - i) (.int .i64 0))) :=
          fun ty => Lib.run_clear_slice wr 28 3 ty (.int .i64 0) Try.underlying28 (fun w => by kernel_rfl) rfl rfl g i (n - i) (cap - i) (by omega) (fun k hk => by
            have u0 := HR.out.cellAt (i + k) (by omega)
            rw [u0, List.getElem?_eq_getElem (by rw [List.length_map, HD.out.len]; have := HN.out; omega)]; rfl) (fun k hk => HR.out.frozenAt (i + k))
        obtain ⟨R', hR1, hR2, hR3⟩ := own_clear (n - i) i R wr HR.out (by omega)
        have HR1 := Lib.hid (own_shrink hR1 (show i ≤ n by omega))
        have HB5 := Lib.hid (hR3 w2 hbase HBR.out)
        have HE : Hid ((R'.map (Value.int .i64)).take i = (xs.filter fun x => !P x).map (Value.int .i64)) := by
          show _ = _
          rw [← List.map_take, hR2, HD.out.out, List.take_of_length_le (by have := HN.out; omega)]
        have HL : Hid (i = (xs.filter fun x => !P x).length) := by
          show _ = _
          rw [show (xs.filter fun x => !P x) = R.take i by rw [HD.out.out, List.take_of_length_le (by have := HN.out; omega)], List.length_take, HD.out.len]
          have := HN.out; omega
        clear hR1 hR2 hR3
        have hin : (i : Int) ≤ (n : Int) := by omega
        have hin2 : i ≤ n := by omega
        go_wp2_with (simp only [hcl])
        go_ret
        refine ⟨_, rfl, ?_, HB5.out⟩
        unfold OwnI
        rw [← HE.out, ← HL.out]
        exact HR1.out
  · have HF : Hid (xs.filter (fun x => !P x) = xs) := by
      show _ = _
      rw [List.filter_eq_self]
      intro x hx
      have := List.filter_eq_nil_iff.1 hf0 x hx
      simpa using this
    clear hf0
    go_wp2
    go_ret
    exact ⟨_, rfl, by rw [HF.out]; unfold OwnI; rw [← HN.out]; exact HO.out, Below.refl _ _⟩
end Go.Proofs.Ytdhjflhpenkchaa

namespace Go.Proofs.Ytdhjflhpenkchaa
set_option linter.unusedSimpArgs false
set_option linter.unusedVariables false
open Go.RowKit
set_option maxRecDepth 100000 in
set_option maxHeartbeats 6400000 in
theorem impl_areCells (A1 E1 : Option Addr) (n1 c1 m1 d1 : Nat) (gs : List Nd) (xs : List Int) (w1 : World) (hn : n1 = gs.length) (h10 : n1 ≤ 10) (hm1 : m1 = xs.length) (hms : m1 ≤ 1048576) (h : GS w1 w1.heap.size A1 gs) (h1 : IS w1 w1.heap.size E1 xs) :
    Calls Try.prog 88 #[.agg #[.slice A1 n1 c1], .slice E1 m1 d1] w1 fun e w' => e = .returned (.bool (wrB gs xs)) ∧ Below w1.heap.size w1 w' := by
  have HN1 := Lib.hid hn
  have HM1 := Lib.hid hm1
  have P_1 := Lib.hid (h)
  have I_1 := Lib.hid (h1)
  have B_1 := Lib.hid (Below.refl w1.heap.size w1)
  clear hn hm1 h h1
  go_enter Try.func88, Try.ntmps88
  go_wp2
  obtain ⟨w2, hw2⟩ : ∃ W, W = w1.alloc (.cells #[.slice A1 n1 c1] 25) := ⟨_, rfl⟩
  have hb : Below w1.heap.size w1 w2 := by rw [hw2]; exact (Below.refl _ _).alloc (Nat.le_refl _) _
  have P_2 := Lib.hid (P_1.out.step hb)
  clear P_1
  have I_2 := Lib.hid (I_1.out.step hb)
  clear I_1
  have B_2 := Lib.hid (B_1.out.trans (hb.mono B_1.out.size))
  clear B_1
  have F_2 : Hid (As w1.heap.size (w1.heap.size + 1) (fun w' => w'.cell? ⟨w1.heap.size, 0, none⟩ = some (.slice A1 n1 c1)) w2) := by rw [hw2]; exact box_new _ _ _
  clear hb
  rw [← hw2]
  have hs2 : w1.heap.size + 1 = w2.heap.size := by rw [hw2]; simp
  clear hw2
  rw [hs2]
  obtain ⟨w3, hw3⟩ : ∃ W, W = w2.alloc (.cells #[.bool false, .bool false, .bool false, .bool false, .bool false, .bool false, .bool false, .bool false, .bool false, .bool false] 71) := ⟨_, rfl⟩
  rw [← hw3]
  have HU0 : Hid (∀ j : Nat, j < 10 → w3.cell? ⟨w2.heap.size, j, none⟩ = some (.bool (decide ((j : Int) ∈ xs.take 0)))) := by
    intro j hj
    rw [hw3]
    have : j = 0 ∨ j = 1 ∨ j = 2 ∨ j = 3 ∨ j = 4 ∨ j = 5 ∨ j = 6 ∨ j = 7 ∨ j = 8 ∨ j = 9 := by omega
    rcases this with rfl | rfl | rfl | rfl | rfl | rfl | rfl | rfl | rfl | rfl <;> simp [go_sem]
  have HZ0 : Hid (∀ j : Nat, j < 10 → w3.frozen? ⟨w2.heap.size, j, none⟩ = false) := by
    intro j hj
    rw [hw3]
    have : j = 0 ∨ j = 1 ∨ j = 2 ∨ j = 3 ∨ j = 4 ∨ j = 5 ∨ j = 6 ∨ j = 7 ∨ j = 8 ∨ j = 9 := by omega
    rcases this with rfl | rfl | rfl | rfl | rfl | rfl | rfl | rfl | rfl | rfl <;> simp [go_sem]
  have HB0 : Hid (Below w2.heap.size w2 w3) := by rw [hw3]; exact (Below.refl _ _).alloc (Nat.le_refl _) _
  have hs3 : w2.heap.size < w3.heap.size := by rw [hw3]; simp
  clear hw3 hs2
  have FW := F_2
  have PW := P_2
  have IW := I_2
  have BW := B_2
  go_loopw [10] (fun u wr => ∃ k : Nat, k ≤ m1 ∧ u = .int .i64 k ∧ Hid ((xs.take k).Nodup) ∧ Hid (∀ j, j < k → isC gs (xs.getD j 0) = true) ∧ Hid (∀ j : Nat, j < 10 → wr.cell? ⟨w2.heap.size, j, none⟩ = some (.bool (decide ((j : Int) ∈ xs.take k)))) ∧ Hid (∀ j : Nat, j < 10 → wr.frozen? ⟨w2.heap.size, j, none⟩ = false) ∧ Hid (Below w2.heap.size w2 wr) ∧ w3.heap.size ≤ wr.heap.size) (fun u _ => m1 - (intOf u).toNat)
  case atStart => exact ⟨0, Nat.zero_le _, rfl, by simp [Hid], fun j hj => by omega, HU0, HZ0, HB0, Nat.le_refl _⟩
  case round =>
    obtain ⟨k, hk, rfl, HD, HA, HU, HZ, HB, hwr⟩ := hrel
    obtain ⟨w4, hwK⟩ : ∃ W, W = wr := ⟨_, rfl⟩
    rw [← hwK]
    rw [← hwK] at HU HZ HB hwr
    clear hwK HU0 HZ0 HB0
    have F_4 := Lib.hid (FW.out.step HB.out)
    have P_4 := Lib.hid (PW.out.step HB.out)
    have I_4 := Lib.hid (IW.out.step HB.out)
    have BR := Lib.hid (BW.out.trans (HB.out.mono BW.out.size))
    by_cases hlt : k < m1
    · have hkx : k < xs.length := by have := HM1.out; omega
      obtain ⟨b6, o6, rfl, hb6, e6⟩ := I_4.out (by omega)
      have x6 := e6 k hkx
      clear e6
      have HY := Lib.hid (nodup_take_step xs k hkx)
      have HNO := Lib.hid (nodup_take_no xs k hkx)
      have HCN := Lib.hid (wrB_cell_no gs xs k hkx)
      have HTK : Hid (xs.take (k + 1) = xs.take k ++ [xs.getD k 0]) := by show _ = _; rw [List.take_succ_eq_append_getElem hkx]; simp [List.getD, hkx]
      have HAS : Hid (isC gs (xs.getD k 0) = true → ∀ j, j < k + 1 → isC gs (xs.getD j 0) = true) := fun h j hj => by
        rcases Nat.lt_or_ge j k with h1 | h1
        · exact HA.out j h1
        · obtain rfl : j = k := by omega
          exact h
      generalize xs.getD k 0 = x at *
      have q0 := F_4.out.it
      have hwn : IntKind.i64.wrap ((n1 : Int) - 1) = (n1 : Int) - 1 := by rw [IntKind.wrap_i64]; omega
      have HR := Lib.hid (impl_inRange x ((n1 : Int) - 1) w4)
      have hkm : (k : Int) < (m1 : Int) := by omega
      have hic : isC gs x = (rng x 0 ((n1 : Int) - 1) && ((gs.getD x.toNat default).k == 0)) := by rw [HN1.out]; rfl
      have HHN := Lib.hid fun (hr : rng x 0 ((n1 : Int) - 1) = true) => hasN_nat gs x (by unfold hasN; rw [← HN1.out]; exact hr)
      generalize rng x 0 ((n1 : Int) - 1) = r at *
      cases r
      · have HF2 := Lib.hid (HCN.out (by rw [hic]; rfl))
        clear hic HY HNO HCN HAS HTK HHN
        go_wp2_with fail
        refine HR.out.mono ?_
        rintro e w9 ⟨rfl, rfl⟩
        go_wp2
        go_ret
        exact ⟨ret_b HF2.out.symm, BR.out⟩
      · obtain ⟨q, rfl, hqg⟩ := HHN.out rfl
        have hqn : q < n1 := by have := HN1.out; omega
        have hqn2 : (q : Int) < (n1 : Int) := by omega
        have hq10 : (q : Int) < 10 := by omega
        obtain ⟨b, off, rfl, hbB, d0, A6, n6, c6, d1, hn6, hps⟩ := P_4.out.at_ q (by have := HN1.out; omega)
        clear d1 hn6 hps
        rw [Int.toNat_natCast] at hic
        generalize (gs.getD q default).k = kd at *
        cases hk0 : (kd == 0)
        · have HF2 := Lib.hid (HCN.out (by rw [hic, hk0]; rfl))
          have hk1 : (kd != 0) = true := by rw [bne, hk0]; rfl
          clear hic HY HNO HCN HAS HTK HHN
          go_wp2_with fail
          refine HR.out.mono ?_
          rintro e w9 ⟨rfl, rfl⟩
          go_wp2
          go_ret
          exact ⟨ret_b HF2.out.symm, BR.out⟩
        · have HAS2 := Lib.hid (HAS.out (by rw [hic, hk0]; rfl))
          have hk1 : (kd != 0) = false := by rw [bne, hk0]; rfl
          have u0 := HU.out q (by omega)
          clear hic HAS HCN HHN
          by_cases hm : (q : Int) ∈ xs.take k
          · rw [decide_eq_true hm] at u0
            have HF2 := Lib.hid (wrB_dup_no gs xs (HNO.out hm))
            clear hm HY HNO HTK
            go_wp2_with fail
            refine HR.out.mono ?_
            rintro e w9 ⟨rfl, rfl⟩
            go_wp2
            go_ret
            exact ⟨ret_b HF2.out.symm, BR.out⟩
          · rw [decide_eq_false hm] at u0
            have HT2 := Lib.hid (HY.out HD.out hm)
            have f0 := HZ.out q (by omega)
            have HU2 : Hid (∀ j : Nat, j < 10 → (w4.setCell ⟨w2.heap.size, q, none⟩ (.bool true)).cell? ⟨w2.heap.size, j, none⟩ = some (.bool (decide ((j : Int) ∈ xs.take (k + 1))))) := by
              intro j hj
              rw [HTK.out]
              by_cases e : j = q
              · subst e
                rw [World.cell?_setCell_same _ _ _ u0]; simp
              · rw [World.cell?_setCell_other _ _ _ _ (by intro e2; have := congrArg Addr.off e2; simp at this; omega), HU.out j hj]
                have : ((j : Int) ∈ xs.take k ++ [(q : Int)]) ↔ (j : Int) ∈ xs.take k := by simp; omega
                simp only [this]
            have HZ2 : Hid (∀ j : Nat, j < 10 → (w4.setCell ⟨w2.heap.size, q, none⟩ (.bool true)).frozen? ⟨w2.heap.size, j, none⟩ = false) := fun j hj => by rw [World.frozen?_setCell]; exact HZ.out j hj
            have HB2 := Lib.hid (HB.out.setCell (p := ⟨w2.heap.size, q, none⟩) (Nat.le_refl _) (.bool true))
            clear hm HY HNO HTK
            go_wp2_with fail
            refine HR.out.mono ?_
            rintro e w9 ⟨rfl, rfl⟩
            go_wp2
            go_roundw
            case rel => exact ⟨k + 1, by omega, by go_num, HT2.out, HAS2.out, HU2.out, HZ2.out, HB2.out, by simpa [World.setCell] using hwr⟩
            case measure => simp [intOf]; omega
    · obtain rfl : m1 = k := by omega
      have HF2 := Lib.hid (wrB_yes gs xs (fun j hj => HA.out j (by have := HM1.out; omega)) (by have := HD.out; rwa [HM1.out, List.take_of_length_le (Nat.le_refl _)] at this))
      go_wp2
      go_ret
      exact ⟨ret_b HF2.out.symm, BR.out⟩
end Go.Proofs.Ytdhjflhpenkchaa

namespace Go.Proofs.Ytdhjflhpenkchaa
set_option linter.unusedSimpArgs false
set_option linter.unusedVariables false
open Go.RowKit
set_option maxHeartbeats 1600000 in
theorem mayRun1_at (A : Option Addr) (n c b : Nat) (gs : List Nd) (q B : Nat) (w : World) (hb : w.cell? ⟨b, 0, none⟩ = some (.slice A n c)) (hn : n = gs.length) (h : GS w B A gs) (hq : q < n) :
    Calls Try.prog 90 #[.int .i64 q, .pointer (some ⟨b, 0, none⟩)] w fun e w' => e = .returned (.bool ((gs.getD q default).k == 0)) ∧ w' = w := by
  obtain ⟨b1, off, rfl, hbB, d0, A6, n6, c6, d1, hn6, hps⟩ := h.at_ q (by omega)
  have hqn : (q : Int) < (n : Int) := by omega
  clear d1 hn6 hps h hn
  generalize (gs.getD q default).k = kd at *
  go_enter Try.func90, Try.ntmps90
  go_wp2
  go_ret
  exact ⟨rfl, rfl⟩
set_option maxRecDepth 100000 in
set_option maxHeartbeats 6400000 in
theorem top_impl_MayRun (gs : List Nd) (xs : List Int) (hG : GB gs) (hL : xs.length ≤ 1048576) : ∀ (A1 : Option Addr) (n1 c1 : Nat) (E1 : Option Addr) (m1 d1 : Nat) (w1 : World), n1 = gs.length → n1 ≤ c1 → GS w1 w1.heap.size A1 gs → m1 = xs.length → m1 ≤ d1 → IS w1 w1.heap.size E1 xs →
    Calls Try.prog 48 #[.agg #[.slice A1 n1 c1], .slice E1 m1 d1] w1 fun e w' => RetI w1 (mrF gs xs) e w' := by
  intro A1 n1 c1 E1 m1 d1 w1 hn hnc h hm1 hmd h1
  have HN1 := Lib.hid hn
  have HM1 := Lib.hid hm1
  have HG := Lib.hid hG
  have P_1 := Lib.hid (h)
  have I_1 := Lib.hid (h1)
  have B_1 := Lib.hid (Below.refl w1.heap.size w1)
  have hn1b : n1 ≤ 1048576 := by have := hG.1; omega
  have hm1b : m1 ≤ 1048576 := by omega
  have HVG := Lib.hid fun (w' : World) (h : GS w' w'.heap.size A1 gs) => impl_ValidGraph A1 n1 c1 gs w' _ (Nat.le_refl _) HN1.out h HG.out hnc
  have HAC := Lib.hid fun (hv : validG gs = true) (w' : World) (h : GS w' w'.heap.size A1 gs) (h1 : IS w' w'.heap.size E1 xs) => impl_areCells A1 E1 n1 c1 m1 d1 gs xs w' HN1.out (by have := (validG_parts gs hv).1; have := HN1.out; omega) HM1.out hm1b h h1
  have HFU := Lib.hid fun (hv : validG gs = true) (hw : wrB gs xs = true) (w' : World) (h : GS w' w'.heap.size A1 gs) (h1 : IS w' w'.heap.size E1 xs) => from_users A1 E1 n1 c1 m1 d1 gs xs w' w'.heap.size (Nat.le_refl _) HN1.out HM1.out h h1 hv HG.out (by have := (validG_parts gs hv).1; have := wrB_len gs xs hw; have := HM1.out; omega) (wrB_parts gs xs hw).2
  have HMR : Hid (mrF gs xs = if validG gs && wrB gs xs then (reachTo gs xs gs.length).filter (ncB gs) else []) := by show _ = _; unfold mrF; rw [mrB_eq]
  have HLB := Lib.hid (reach_ok gs xs gs.length)
  have hll := reachTo_len gs xs gs.length
  have HVP := Lib.hid fun (hv : validG gs = true) => (validG_parts gs hv).1
  have HRL := Lib.hid hll
  clear hn hm1 h h1 hG hL hll
  generalize validG gs = v at *
  generalize wrB gs xs = v2 at *
  go_enter Try.func48, Try.ntmps48
  go_wp2_with fail
  obtain ⟨w2, hw2⟩ : ∃ W, W = w1.alloc (.cells #[.slice A1 n1 c1] 25) := ⟨_, rfl⟩
  have hb : Below w1.heap.size w1 w2 := by rw [hw2]; exact (Below.refl _ _).alloc (Nat.le_refl _) _
  have P_2 := Lib.hid (P_1.out.step hb)
  clear P_1
  have I_2 := Lib.hid (I_1.out.step hb)
  clear I_1
  have B_2 := Lib.hid (B_1.out.trans (hb.mono B_1.out.size))
  clear B_1
  have F_2 : Hid (As w1.heap.size (w1.heap.size + 1) (fun w' => w'.cell? ⟨w1.heap.size, 0, none⟩ = some (.slice A1 n1 c1)) w2) := by rw [hw2]; exact box_new _ _ _
  clear hb
  rw [← hw2]
  clear hw2
  refine (HVG.out w2 P_2.out).mono ?_
  rintro e w3 ⟨rfl, hb⟩
  have P_3 := Lib.hid (P_2.out.step hb)
  clear P_2
  have I_3 := Lib.hid (I_2.out.step hb)
  clear I_2
  have B_3 := Lib.hid (B_2.out.trans (hb.mono B_2.out.size))
  clear B_2
  have F_3 := Lib.hid (F_2.out.step hb)
  clear F_2
  clear hb
  cases v
  · have HMR2 : Hid (mrF gs xs = []) := HMR.out
    go_wp2
    go_ret
    rw [HMR2.out]
    exact RetI_nil B_3.out
  · have hv10 := HVP.out (by first | rfl | trivial)
    have q0 := F_3.out.it
    go_wp2_with fail
    refine (HAC.out (by first | rfl | trivial) w3 P_3.out I_3.out).mono ?_
    rintro e w4 ⟨rfl, hb⟩
    have P_4 := Lib.hid (P_3.out.step hb)
    clear P_3
    have I_4 := Lib.hid (I_3.out.step hb)
    clear I_3
    have B_4 := Lib.hid (B_3.out.trans (hb.mono B_3.out.size))
    clear B_3
    have F_4 := Lib.hid (F_3.out.step hb)
    clear F_3
    clear hb q0
    cases v2
    · have HMR2 : Hid (mrF gs xs = []) := HMR.out
      go_wp2
      go_ret
      rw [HMR2.out]
      exact RetI_nil B_4.out
    · have HMR2 : Hid (mrF gs xs = (reachTo gs xs gs.length).filter (ncB gs)) := HMR.out
      have HF2 := Lib.hid (HFU.out (by first | rfl | trivial) (by first | rfl | trivial))
      generalize reachTo gs xs gs.length = L at *
      have q0 := F_4.out.it
      go_wp2_with fail
      have FW := F_4
      have PW := P_4
      have BW := B_4
      refine (HF2.out w4 P_4.out I_4.out).mono ?_
      rintro e w5 ⟨v7, rfl, ho, hb⟩
      obtain ⟨AL, cL, rfl, _⟩ := OwnI.form ho
      obtain ⟨ll, hll2⟩ : ∃ l, l = L.length := ⟨_, rfl⟩
      rw [← hll2] at ho
      have HLL := Lib.hid hll2
      rw [← hll2]
      clear hll2 q0
      have HCL : Hid (∀ q ∈ L, ∀ w' : World, Below w4.heap.size w5 w' → Calls Try.prog 90 #[.int .i64 q, .pointer (some ⟨w1.heap.size, 0, none⟩)] w' fun e w'' => e = .returned (.bool ((gs.getD q.toNat default).k == 0)) ∧ w'' = w') := by
        intro q hq w' hb'
        obtain ⟨t, ht, rfl⟩ := HLB.out q hq
        rw [Int.toNat_natCast]
        have hb2 : Below w4.heap.size w4 w' := hb.trans hb'
        exact mayRun1_at A1 n1 c1 w1.heap.size gs t w'.heap.size w' (FW.out.step hb2).it HN1.out (PW.out.step hb2) (by have := HN1.out; omega)
      have HDF := Lib.hid (slices_DeleteFunc 90 (.pointer (some ⟨w1.heap.size, 0, none⟩)) (fun x => (gs.getD x.toNat default).k == 0) w4.heap.size ll cL AL L w5 HLL.out (by have := HLL.out; have := HRL.out; have := HN1.out; omega) ho hb.size (fun q w => by go_simp) HCL.out)
      have hb9 := Lib.hid hb
      clear ho HCL hb
      go_wp2_with fail
      refine HDF.out.mono ?_
      rintro e w9 ⟨v, rfl, ho, hb⟩
      go_wp2
      go_ret
      rw [HMR2.out]
      exact ⟨_, rfl, own_mono ho BW.out.size, BW.out.trans ((hb9.out.trans hb).mono BW.out.size)⟩
end Go.Proofs.Ytdhjflhpenkchaa
