/- The standing contract of spec.MayRun. (Made by n11.py.) -/
import Derived.Test.YtcfiondggnbnoaaN10
import Derived.Test.YtcfiondggnbnoaaN9
import Derived.Test.YtcfiondggnbnoaaN7
import Derived.Test.YtcfiondggnbnoaaS13
import Derived.Deep.RegionHeld3
import Derived.Maps.AppendAt

namespace Go.Proofs.Ytcfiondggnbnoaa
set_option linter.unusedSimpArgs false
set_option linter.unusedVariables false
open Go.RowKit

/-- Nodes that are no cells. -/
def ncB (gs : List Nd) (x : Int) : Bool := !((gs.getD x.toNat default).k == 0)
def mayTo (gs : List Nd) (L : List Int) (k : Nat) : List Int := (L.take k).filter (ncB gs)
theorem mayTo_step (gs : List Nd) (L : List Int) (k : Nat) (hk : k < L.length) : mayTo gs L (k + 1) = mayTo gs L k ++ (if ncB gs (L.getD k 0) then [L.getD k 0] else []) := by
  unfold mayTo
  rw [List.take_succ_eq_append_getElem hk, List.filter_append]
  have : L.getD k 0 = L[k] := by simp [List.getD, hk]
  rw [this]
  cases h : ncB gs L[k] <;> simp [h]
theorem mayTo_len (gs : List Nd) (L : List Int) (k : Nat) : (mayTo gs L k).length ≤ L.length := by
  unfold mayTo
  exact Nat.le_trans (List.length_filter_le _ _) (by simp; omega)
/-- What MayRun answers. -/
def mrB (gs : List Nd) (xs : List Int) : Bool := validG gs && (decide (xs.length ≤ 10) && wrB gs xs)
def mrF (gs : List Nd) (xs : List Int) : List Int := if mrB gs xs then (reachTo gs xs gs.length).filter (ncB gs) else []
theorem mrF_len (gs : List Nd) (xs : List Int) : (mrF gs xs).length ≤ 10 := by
  unfold mrF mrB
  split
  · rename_i h
    simp only [Bool.and_eq_true] at h
    have h1 := (validG_parts gs h.1).1
    have h2 := reachTo_len gs xs gs.length
    exact Nat.le_trans (List.length_filter_le _ _) (by omega)
  · simp
theorem gwB_zero (gs : List Nd) (xs : List Int) (m : Nat) (h : m = xs.length) : gwB gs xs (List.replicate m 0) = (decide (xs.length ≤ 10) && wrB gs xs) := by
  have ha : allR (List.replicate m 0) 0 999 = true := allR_true _ _ _ fun k hk => by
    simp at hk
    simp [List.getD, hk, rng]
  unfold gwB
  rw [ha, decide_eq_true (by simp [h])]; simp

theorem reach_ok (gs : List Nd) (st : List Int) (k : Nat) : ∀ x ∈ reachTo gs st k, ∃ q : Nat, q < k ∧ x = (q : Int) := by
  induction k with
  | zero => intro x hx; cases hx
  | succ k ih =>
    intro x hx
    rw [reachTo_step] at hx
    rcases List.mem_append.1 hx with h | h
    · obtain ⟨q, h1, h2⟩ := ih x h
      exact ⟨q, by omega, h2⟩
    · split at h
      · simp at h; exact ⟨k, by omega, h⟩
      · simp at h
/-- The cells of a row that another row grows beside. -/
theorem row_beside {w : World} {base n : Nat} {A : Option Addr} {c : Nat} {xs : List Int} (hn : n = xs.length) (h : w.ownsRow (base + 1) 3 1 (.slice A n c) n (xs.map (Value.int .i64))) :
    ∃ gl ol : Nat, base < gl ∧ (0 < n → gl < w.heap.size ∧ A = some ⟨gl, ol, none⟩) ∧ ∀ j, j < n → w.cell? ⟨gl, ol + j, none⟩ = some (.int .i64 (xs.getD j 0)) := by
  by_cases h0 : 0 < n
  · have hI : IS w w.heap.size A xs := IS.of_own h
    obtain ⟨b, off, hA, hb, hc⟩ := hI (by omega)
    rcases h.2 with ⟨_, hz⟩ | ⟨g, cap, cur, hv, _⟩
    · omega
    · have hg := (h.lt g (by rw [hv]; rfl)).1
      simp only [Value.slice.injEq] at hv
      have e : b = g := by
        have := hv.1; rw [hA] at this
        simpa using congrArg (fun a : Option Addr => (a.map Addr.block).getD 0) this
      exact ⟨b, off, by omega, fun _ => ⟨hb, hA⟩, fun j hj => hc j (by omega)⟩
  · exact ⟨base + 1, 0, by omega, fun h => absurd h h0, fun j hj => by omega⟩

set_option maxRecDepth 100000 in
set_option maxHeartbeats 6400000 in
theorem top_spec_MayRun (gs : List Nd) (xs : List Int) (hG : GB gs) (hL : xs.length ≤ 1048576) : ∀ (A1 : Option Addr) (n1 c1 : Nat) (E1 : Option Addr) (m1 d1 : Nat) (w1 : World), n1 = gs.length → n1 ≤ c1 → GS w1 w1.heap.size A1 gs → m1 = xs.length → m1 ≤ d1 → IS w1 w1.heap.size E1 xs →
    Calls Try.prog 23 #[.agg #[.slice A1 n1 c1], .slice E1 m1 d1] w1 fun e w' => RetI w1 (mrF gs xs) e w' := by
  intro A1 n1 c1 E1 m1 d1 w1 hn hnc h hm1 hmd h1
  obtain ⟨i0, hi, hz0, hz1, hz2⟩ := info_parts info_int
  have HN1 := Lib.hid hn
  have HM1 := Lib.hid hm1
  have HG := Lib.hid hG
  have P_1 := Lib.hid (h)
  have I_1 := Lib.hid (h1)
  have B_1 := Lib.hid (Below.refl w1.heap.size w1)
  have hn1b : n1 ≤ 1048576 := by have := hG.1; omega
  have hm1b : m1 ≤ 1048576 := by omega
  have HVG := Lib.hid fun (w' : World) (h : GS w' w'.heap.size A1 gs) => spec_validGraph A1 n1 c1 gs w' w'.heap.size (Nat.le_refl _) HN1.out h HG.out
  have HGW := Lib.hid fun (E : Option Addr) (w' : World) (h : GS w' w'.heap.size A1 gs) (h1 : IS w' w'.heap.size E1 xs) (h2 : IS w' w'.heap.size E (List.replicate m1 0)) => spec_goodWrites A1 E1 E n1 c1 m1 d1 m1 m1 gs xs (List.replicate m1 0) w' HN1.out (by omega) HM1.out hmd (by simp) (by omega) h h1 h2
  rw [gwB_zero gs xs m1 hm1] at HGW
  have HMR : Hid (mrF gs xs = if validG gs && (decide (xs.length ≤ 10) && wrB gs xs) then (reachTo gs xs gs.length).filter (ncB gs) else []) := rfl
  have HRE := Lib.hid fun (hv : validG gs = true) (w' : World) (h : GS w' w'.heap.size A1 gs) (h1 : IS w' w'.heap.size E1 xs) => spec_reach A1 E1 n1 c1 m1 d1 gs xs w' w'.heap.size (Nat.le_refl _) HN1.out HM1.out h h1 hv HG.out (by omega)
  have HVP := Lib.hid fun (hv : validG gs = true) => (validG_parts gs hv).1
  clear hn hm1 h h1 hG hL
  generalize validG gs = v at *
  generalize (decide (xs.length ≤ 10) && wrB gs xs) = v2 at *
  go_enter Try.func23, Try.ntmps23
  go_wp2
  obtain ⟨w2, hw2⟩ : ∃ W, W = w1.alloc (.cells #[.slice A1 n1 c1] 30) := ⟨_, rfl⟩
  have hb : Below w1.heap.size w1 w2 := by rw [hw2]; exact (Below.refl _ _).alloc (Nat.le_refl _) _
  have P_2 := Lib.hid (P_1.out.step hb)
  clear P_1
  have I_2 := Lib.hid (I_1.out.step hb)
  clear I_1
  have B_2 := Lib.hid (B_1.out.trans (hb.mono B_1.out.size))
  clear B_1
  have F_2 : Hid (As w1.heap.size (w1.heap.size + 1) (fun w' => w'.cell? ⟨w1.heap.size, 0, none⟩ = some (.slice A1 n1 c1)) w2) := by rw [hw2]; exact box_new _ _ _
  clear hb
  rw [← hw2]
  clear hw2
  cases v
  · have HMR2 : Hid (mrF gs xs = []) := HMR.out
    refine wp_region_held_drew (S := fun w' => w'.cell? ⟨w1.heap.size, 0, none⟩ = some (.slice A1 n1 c1)) (by kernel_rfl) F_2.out.it (fun hHeld => ?_)
    refine wpAnyH_take (i := 0) (oi := ⟨some 8, _, _, _, _, _⟩) (v := ?_) rfl (by kernel_rfl) (by kernel_rfl) (by kernel_rfl) (fun _ _ _ h => h) (Or.inl ⟨by rfl, ?_⟩) (by assumption) ?_; rotate_left; (focus (intro w hSw; (try dsimp only at hSw); go_simp; (try with_reducible rfl))); (try simp only [Act.put, List.setIfInBounds_toArray, List.set_cons_zero, List.set_cons_succ])
    refine wpAnyH_ready (rs := [1]) (by kernel_rfl) (by simp) ?_; refine AllReadyH.cons (o := ⟨some 9, _, _, _, _, _⟩) rfl (fun K hK => ?_) AllReadyH.nil; go_simp
    go_at_call 27
    refine (HVG.out w2.drew P_2.out).mono ?_
    rintro e w3 ⟨rfl, hb'⟩
    have hb : Below w2.heap.size w2 w3 := below_of_drew hb'
    have P_3 := Lib.hid (P_2.out.step hb)
    clear P_2
    have I_3 := Lib.hid (I_2.out.step hb)
    clear I_2
    have B_3 := Lib.hid (B_2.out.trans (hb.mono B_2.out.size))
    clear B_2
    have F_3 := Lib.hid (F_2.out.step hb)
    clear F_2
    clear hb hb'
    refine hK.out _ _ F_3.out.it (fun hHeld => ?_); clear hK K; (try simp only [Act.put, List.setIfInBounds_toArray, List.set_cons_zero, List.set_cons_succ])
    refine wpAnyH_take (i := 2) (oi := ⟨some 10, _, _, _, _, _⟩) (v := ?_) rfl (by kernel_rfl) (by kernel_rfl) (by kernel_rfl) (fun _ _ _ h => h) (Or.inl ⟨by rfl, ?_⟩) (by assumption) ?_; rotate_left; (focus (intro w hSw; (try dsimp only at hSw); go_simp; (try with_reducible rfl))); (try simp only [Act.put, List.setIfInBounds_toArray, List.set_cons_zero, List.set_cons_succ])
    refine wpAnyH_take (i := 3) (oi := ⟨some 11, _, _, _, _, _⟩) (v := ?_) rfl (by kernel_rfl) (by kernel_rfl) (by kernel_rfl) (fun _ _ _ h => h) (Or.inl ⟨by rfl, ?_⟩) (by assumption) ?_; rotate_left; (focus (intro w hSw; (try dsimp only at hSw); go_simp; (try with_reducible rfl))); (try simp only [Act.put, List.setIfInBounds_toArray, List.set_cons_zero, List.set_cons_succ])
    refine wpAnyH_take (i := 4) (oi := ⟨some 12, _, _, _, _, _⟩) (v := undef) rfl (by kernel_rfl) (by kernel_rfl) (by kernel_rfl) (fun _ _ _ h => h) (Or.inr ⟨by rfl, rfl⟩) (by assumption) ?_; (try simp only [Act.put, List.setIfInBounds_toArray, List.set_cons_zero, List.set_cons_succ])
    refine wpAnyH_take (i := 5) (oi := ⟨some 13, _, _, _, _, _⟩) (v := undef) rfl (by kernel_rfl) (by kernel_rfl) (by kernel_rfl) (fun _ _ _ h => h) (Or.inr ⟨by rfl, rfl⟩) (by assumption) ?_; (try simp only [Act.put, List.setIfInBounds_toArray, List.set_cons_zero, List.set_cons_succ])
    refine wpAnyH_take (i := 6) (oi := ⟨some 14, _, _, _, _, _⟩) (v := undef) rfl (by kernel_rfl) (by kernel_rfl) (by kernel_rfl) (fun _ _ _ h => h) (Or.inr ⟨by rfl, rfl⟩) (by assumption) ?_; (try simp only [Act.put, List.setIfInBounds_toArray, List.set_cons_zero, List.set_cons_succ])
    refine wpAnyH_take (i := 7) (oi := ⟨some 15, _, _, _, _, _⟩) (v := undef) rfl (by kernel_rfl) (by kernel_rfl) (by kernel_rfl) (fun _ _ _ h => h) (Or.inr ⟨by rfl, rfl⟩) (by assumption) ?_; (try simp only [Act.put, List.setIfInBounds_toArray, List.set_cons_zero, List.set_cons_succ])
    refine wpAnyH_take (i := 8) (oi := ⟨some 16, _, _, _, _, _⟩) (v := undef) rfl (by kernel_rfl) (by kernel_rfl) (by kernel_rfl) (fun _ _ _ h => h) (Or.inr ⟨by rfl, rfl⟩) (by assumption) ?_; (try simp only [Act.put, List.setIfInBounds_toArray, List.set_cons_zero, List.set_cons_succ])
    refine wpAnyH_take (i := 9) (oi := ⟨some 17, _, _, _, _, _⟩) (v := undef) rfl (by kernel_rfl) (by kernel_rfl) (by kernel_rfl) (fun _ _ _ h => h) (Or.inr ⟨by rfl, rfl⟩) (by assumption) ?_; (try simp only [Act.put, List.setIfInBounds_toArray, List.set_cons_zero, List.set_cons_succ])
    refine wpAnyH_take (i := 10) (oi := ⟨some 18, _, _, _, _, _⟩) (v := undef) rfl (by kernel_rfl) (by kernel_rfl) (by kernel_rfl) (fun _ _ _ h => h) (Or.inr ⟨by rfl, rfl⟩) (by assumption) ?_; (try simp only [Act.put, List.setIfInBounds_toArray, List.set_cons_zero, List.set_cons_succ])
    refine wpAnyH_take (i := 11) (oi := ⟨some 19, _, _, _, _, _⟩) (v := ?_) rfl (by kernel_rfl) (by kernel_rfl) (by kernel_rfl) (fun _ _ _ h => h) (Or.inl ⟨by rfl, ?_⟩) (by assumption) ?_; rotate_left; (focus (intro w hSw; (try dsimp only at hSw); go_simp; (try with_reducible rfl))); (try simp only [Act.put, List.setIfInBounds_toArray, List.set_cons_zero, List.set_cons_succ])
    refine wpAnyH_done (by kernel_rfl) ?_ _
    go_wp2
    go_ret
    rw [HMR2.out]
    exact RetI_nil B_3.out
  · skip
    refine wp_region_held_drew (S := fun w' => w'.cell? ⟨w1.heap.size, 0, none⟩ = some (.slice A1 n1 c1)) (by kernel_rfl) F_2.out.it (fun hHeld => ?_)
    refine wpAnyH_take (i := 0) (oi := ⟨some 8, _, _, _, _, _⟩) (v := ?_) rfl (by kernel_rfl) (by kernel_rfl) (by kernel_rfl) (fun _ _ _ h => h) (Or.inl ⟨by rfl, ?_⟩) (by assumption) ?_; rotate_left; (focus (intro w hSw; (try dsimp only at hSw); go_simp; (try with_reducible rfl))); (try simp only [Act.put, List.setIfInBounds_toArray, List.set_cons_zero, List.set_cons_succ])
    refine wpAnyH_ready (rs := [1]) (by kernel_rfl) (by simp) ?_; refine AllReadyH.cons (o := ⟨some 9, _, _, _, _, _⟩) rfl (fun K hK => ?_) AllReadyH.nil; go_simp
    go_at_call 27
    refine (HVG.out w2.drew P_2.out).mono ?_
    rintro e w3 ⟨rfl, hb'⟩
    have hb : Below w2.heap.size w2 w3 := below_of_drew hb'
    have P_3 := Lib.hid (P_2.out.step hb)
    clear P_2
    have I_3 := Lib.hid (I_2.out.step hb)
    clear I_2
    have B_3 := Lib.hid (B_2.out.trans (hb.mono B_2.out.size))
    clear B_2
    have F_3 := Lib.hid (F_2.out.step hb)
    clear F_2
    clear hb hb'
    refine hK.out _ _ F_3.out.it (fun hHeld => ?_); clear hK K; (try simp only [Act.put, List.setIfInBounds_toArray, List.set_cons_zero, List.set_cons_succ])
    refine wpAnyH_take (i := 2) (oi := ⟨some 10, _, _, _, _, _⟩) (v := ?_) rfl (by kernel_rfl) (by kernel_rfl) (by kernel_rfl) (fun _ _ _ h => h) (Or.inl ⟨by rfl, ?_⟩) (by assumption) ?_; rotate_left; (focus (intro w hSw; (try dsimp only at hSw); go_simp; (try with_reducible rfl))); (try simp only [Act.put, List.setIfInBounds_toArray, List.set_cons_zero, List.set_cons_succ])
    refine wpAnyH_take (i := 3) (oi := ⟨some 11, _, _, _, _, _⟩) (v := ?_) rfl (by kernel_rfl) (by kernel_rfl) (by kernel_rfl) (fun _ _ _ h => h) (Or.inl ⟨by rfl, ?_⟩) (by assumption) ?_; rotate_left; (focus (intro w hSw; (try dsimp only at hSw); go_simp; (try with_reducible rfl))); (try simp only [Act.put, List.setIfInBounds_toArray, List.set_cons_zero, List.set_cons_succ])
    refine wpAnyH_take (i := 4) (oi := ⟨some 12, _, _, _, _, _⟩) (v := ?_) rfl (by kernel_rfl) (by kernel_rfl) (by kernel_rfl) (fun _ _ _ h => h) (Or.inl ⟨by rfl, ?_⟩) (by assumption) ?_; rotate_left; (focus (intro w hSw; (try dsimp only at hSw); go_simp; (try with_reducible rfl))); (try simp only [Act.put, List.setIfInBounds_toArray, List.set_cons_zero, List.set_cons_succ])
    refine wpAnyH_take (i := 5) (oi := ⟨some 13, _, _, _, _, _⟩) (v := ?_) rfl (by kernel_rfl) (by kernel_rfl) (by kernel_rfl) (fun _ _ _ h => h) (Or.inl ⟨by rfl, ?_⟩) (by assumption) ?_; rotate_left; (focus (intro w hSw; (try dsimp only at hSw); go_simp; (try with_reducible rfl))); (try simp only [Act.put, List.setIfInBounds_toArray, List.set_cons_zero, List.set_cons_succ])
    refine wpAnyH_take (i := 6) (oi := ⟨some 14, _, _, _, _, _⟩) (v := ?_) rfl (by kernel_rfl) (by kernel_rfl) (by kernel_rfl) (fun _ _ _ h => h) (Or.inl ⟨by rfl, ?_⟩) (by assumption) ?_; rotate_left; (focus (intro w hSw; (try dsimp only at hSw); go_simp; (try with_reducible rfl))); (try simp only [Act.put, List.setIfInBounds_toArray, List.set_cons_zero, List.set_cons_succ])
    refine wpAnyH_take (i := 7) (oi := ⟨some 15, _, _, _, _, _⟩) (v := ?_) rfl (by kernel_rfl) (by kernel_rfl) (by kernel_rfl) (fun _ _ _ h => h) (Or.inl ⟨by rfl, ?_⟩) (by assumption) ?_; rotate_left; (focus (intro w hSw; (try dsimp only at hSw); go_simp; (try with_reducible rfl))); (try simp only [Act.put, List.setIfInBounds_toArray, List.set_cons_zero, List.set_cons_succ])
    obtain ⟨w4, hmk, hown3, hgr3⟩ := run_make_full (P := Try.prog) w3 w3.heap.size 26 3 i0 _ 1 Try.underlying26 hi hz0 hz1 .i64 .i64 m1 (by rw [hz2]; omega) (by unfold maxLen; omega) (Nat.le_refl _)
    have hb : Below w3.heap.size w3 w4 := ⟨hgr3.os, hgr3.tape, hgr3.output, hgr3.size, fun k hk => hgr3.block k hk (by simp)⟩
    have hI9 : IS w4 w4.heap.size (some ⟨w3.heap.size, 0, none⟩) (List.replicate m1 0) := IS.of_own (base := w3.heap.size) (e := 3) (n := m1) (c := m1) (by simpa [Value.cells, toList_madeCells_one] using hown3)
    have P_4 := Lib.hid (P_3.out.step hb)
    clear P_3
    have I_4 := Lib.hid (I_3.out.step hb)
    clear I_3
    have B_4 := Lib.hid (B_3.out.trans (hb.mono B_3.out.size))
    clear B_3
    have F_4 := Lib.hid (F_3.out.step hb)
    clear F_3
    have Z_4 := Lib.hid (hI9)
    refine wpAnyH_ready (rs := [8]) (by kernel_rfl) (by simp) ?_; refine AllReadyH.cons (o := ⟨some 16, _, _, _, _, _⟩) rfl (fun K hK => ?_) AllReadyH.nil; go_simp
    refine hK.out _ _ F_4.out.it (fun hHeld => ?_); clear hK K; (try simp only [Act.put, List.setIfInBounds_toArray, List.set_cons_zero, List.set_cons_succ])
    clear hmk hown3 hgr3 hb hI9
    refine wpAnyH_ready (rs := [9]) (by kernel_rfl) (by simp) ?_; refine AllReadyH.cons (o := ⟨some 17, _, _, _, _, _⟩) rfl (fun K hK => ?_) AllReadyH.nil; go_simp
    go_at_call 44
    refine (HGW.out (some ⟨w3.heap.size, 0, none⟩) w4 P_4.out I_4.out Z_4.out).mono ?_
    rintro e w5 ⟨rfl, hb⟩
    have P_5 := Lib.hid (P_4.out.step hb)
    clear P_4
    have I_5 := Lib.hid (I_4.out.step hb)
    clear I_4
    have B_5 := Lib.hid (B_4.out.trans (hb.mono B_4.out.size))
    clear B_4
    have F_5 := Lib.hid (F_4.out.step hb)
    clear F_4
    have Z_5 := Lib.hid (Z_4.out.step hb)
    clear Z_4
    clear hb
    refine hK.out _ _ F_5.out.it (fun hHeld => ?_); clear hK K; (try simp only [Act.put, List.setIfInBounds_toArray, List.set_cons_zero, List.set_cons_succ])
    refine wpAnyH_take (i := 10) (oi := ⟨some 18, _, _, _, _, _⟩) (v := ?_) rfl (by kernel_rfl) (by kernel_rfl) (by kernel_rfl) (fun _ _ _ h => h) (Or.inl ⟨by rfl, ?_⟩) (by assumption) ?_; rotate_left; (focus (intro w hSw; (try dsimp only at hSw); go_simp; (try with_reducible rfl))); (try simp only [Act.put, List.setIfInBounds_toArray, List.set_cons_zero, List.set_cons_succ])
    refine wpAnyH_take (i := 11) (oi := ⟨some 19, _, _, _, _, _⟩) (v := ?_) rfl (by kernel_rfl) (by kernel_rfl) (by kernel_rfl) (fun _ _ _ h => h) (Or.inl ⟨by rfl, ?_⟩) (by assumption) ?_; rotate_left; (focus (intro w hSw; (try dsimp only at hSw); go_simp; (try with_reducible rfl))); (try simp only [Act.put, List.setIfInBounds_toArray, List.set_cons_zero, List.set_cons_succ])
    refine wpAnyH_done (by kernel_rfl) ?_ _
    cases v2
    · have HMR2 : Hid (mrF gs xs = []) := HMR.out
      go_wp2
      go_ret
      rw [HMR2.out]
      exact RetI_nil B_5.out
    · have HMR2 : Hid (mrF gs xs = (reachTo gs xs gs.length).filter (ncB gs)) := HMR.out
      have hv10 := HVP.out (by first | rfl | trivial)
      have HRR := Lib.hid (HRE.out (by first | rfl | trivial))
      have hll := reachTo_len gs xs n1
      have HLB := Lib.hid (reach_ok gs xs n1)
      obtain ⟨L, hL⟩ : ∃ L, L = reachTo gs xs n1 := ⟨_, rfl⟩
      rw [← HN1.out, ← hL] at HMR2
      rw [← hL] at HRR hll HLB
      have hn10 : n1 ≤ 10 := by have := HN1.out; omega
      clear hL HVP HRE HGW HVG hv10 HMR
      have hnew := World.ownsRow_lit (e := 3) (size := 1) (base := w5.heap.size) w5 #[] 0 (Nat.le_refl _) (by unfold maxLen; omega) rfl
      have HO0 : OwnI (w5.alloc (.cells #[] 3)) w5.heap.size (.slice (some ⟨w5.heap.size, 0, none⟩) 0 0) (mayTo gs L 0) := by simpa [OwnI, mayTo] using hnew
      clear hnew
      have FW := F_5
      have PW := P_5
      have BW := B_5
      obtain ⟨w6, hw6⟩ : ∃ W, W = w5.alloc (.cells #[] 3) := ⟨_, rfl⟩
      have hb : Below w5.heap.size w5 w6 := by rw [hw6]; exact (Below.refl _ _).alloc (Nat.le_refl _) _
      have P_6 := Lib.hid (P_5.out.step hb)
      clear P_5
      have I_6 := Lib.hid (I_5.out.step hb)
      clear I_5
      have B_6 := Lib.hid (B_5.out.trans (hb.mono B_5.out.size))
      clear B_5
      have F_6 := Lib.hid (F_5.out.step hb)
      clear F_5
      have Z_6 := Lib.hid (Z_5.out.step hb)
      clear Z_5
      clear hb
      have q0 := F_6.out.it
      rw [hw6] at q0
      go_wp2_with fail
      rw [← hw6] at HO0
      rw [← hw6]
      clear q0
      have hbn : Below w5.heap.size w5 w6 := by rw [hw6]; exact (Below.refl _ _).alloc (Nat.le_refl _) _
      have hsn : w6.heap.size = w5.heap.size + 1 := by rw [hw6]; simp
      clear hw6
      refine (HRR.out w6 P_6.out I_6.out).mono ?_
      rintro e w7 ⟨v7, rfl, ho, hb⟩
      obtain ⟨AL, cL, rfl, _⟩ := OwnI.form ho
      unfold OwnI at ho
      rw [hsn] at ho
      obtain ⟨ll, hll2⟩ : ∃ l, l = L.length := ⟨_, rfl⟩
      rw [← hll2] at ho hll
      rw [← hll2]
      have HLL := Lib.hid hll2
      clear hll2
      obtain ⟨gl, ol, hgl1, hgl2, hgl3⟩ := row_beside HLL.out ho
      have HO1 := Lib.hid (own_below HO0 hb)
      have HBK := Lib.hid (hbn.trans (hb.mono (by omega)))
      have HG3 := Lib.hid hgl3
      have hl0 : w5.heap.size ≤ w7.heap.size := HBK.out.size
      have hWk : w5.heap.size < w7.heap.size := by have := hb.size; omega
      have P_7 := Lib.hid (P_6.out.step hb)
      clear P_6
      have I_7 := Lib.hid (I_6.out.step hb)
      clear I_6
      have B_7 := Lib.hid (B_6.out.trans (hb.mono B_6.out.size))
      clear B_6
      have F_7 := Lib.hid (F_6.out.step hb)
      clear F_6
      have Z_7 := Lib.hid (Z_6.out.step hb)
      clear Z_6
      clear hb hbn hgl3 ho HO0 HRR
      have HGL := Lib.hid hgl2
      clear hgl2
      have HFB := F_7
      go_wp2
      go_loopw [5, 7] (fun v u wr => ∃ k : Nat, k ≤ ll ∧ u = .int .i64 k ∧ Hid (OwnI wr w5.heap.size v (mayTo gs L k)) ∧ Hid (v.ownBlock ≠ some gl) ∧ Hid (∀ j, j < ll → wr.cell? ⟨gl, ol + j, none⟩ = some (.int .i64 (L.getD j 0))) ∧ Hid (Below w5.heap.size w5 wr) ∧ w7.heap.size ≤ wr.heap.size) (fun _ u _ => ll - (intOf u).toNat)
      case atStart => exact ⟨0, Nat.zero_le _, rfl, HO1, by intro e; simp [Value.ownBlock] at e; omega, HG3, HBK, Nat.le_refl _⟩
      case round =>
        obtain ⟨k, hk, rfl, HO, HNE, HC, HB, hwr⟩ := hrel
        obtain ⟨w8, hwK⟩ : ∃ W, W = wr := ⟨_, rfl⟩
        rw [← hwK]
        rw [← hwK] at HO HC HB hwr
        clear hwK
        have F_8 := Lib.hid (FW.out.step HB.out)
        have P_8 := Lib.hid (PW.out.step HB.out)
        have BR := Lib.hid (BW.out.trans (HB.out.mono BW.out.size))
        by_cases hlt : k < ll
        · obtain ⟨hgs, hAL⟩ := HGL.out (by omega)
          subst hAL
          have hkL : k < L.length := by have := HLL.out; omega
          have x3 := HC.out k hlt
          obtain ⟨q, hq, hqx⟩ := HLB.out (L.getD k 0) (by simp [List.getD, hkL])
          have hst := mayTo_step gs L k hkL
          have hnc9 : ncB gs (q : Int) = !((gs.getD q default).k == 0) := by unfold ncB; simp
          rw [hqx] at x3 hst
          rw [hnc9] at hst
          have hml := mayTo_len gs L k
          clear hnc9 hqx
          obtain ⟨b, off, rfl, hbB, d0, A6, n6, c6, d1, hn6, hps⟩ := P_8.out.at_ q (by have := HN1.out; omega)
          clear d1 hn6 hps
          generalize (gs.getD q default).k = kd at *
          have hgs2 : gl < w8.heap.size := by omega
          have x3_8 : Hid (C1 gl (ol + k) (.int .i64 (q : Int)) w8) := ⟨hgs2, x3⟩
          have d0_8 : Hid (C1 b (off + q * 2) (.int .i64 kd) w8) := ⟨hbB, d0⟩
          clear x3 d0
          have hqn : (q : Int) < (n1 : Int) := by omega
          have hkl : (k : Int) < (ll : Int) := by omega
          have hmk : (mayTo gs L k).length ≤ 10 := by have := HLL.out; omega
          clear hml
          cases hk0 : (kd == 0)
          · have hk1 : (kd != 0) = true := by rw [bne, hk0]; rfl
            have HST : Hid (mayTo gs L (k + 1) = mayTo gs L k ++ [(q : Int)]) := by show _ = _; rw [hst, hk0]; rfl
            clear hst
            go_wp2
            refine wp_region_held_drew (S := fun w' => w'.cell? ⟨w1.heap.size, 0, none⟩ = some (.slice (some ⟨b, off, none⟩) n1 c1) ∧ w'.cell? ⟨b, off + q * 2, none⟩ = some (.int .i64 kd) ∧ w'.cell? ⟨gl, ol + k, none⟩ = some (.int .i64 (q : Int))) (by kernel_rfl) ⟨F_8.out.it, d0_8.out.2, x3_8.out.2⟩ (fun hHeld => ?_)
            refine wpAnyH_take (i := 0) (oi := ⟨some 30, _, _, _, _, _⟩) (v := ?_) rfl (by kernel_rfl) (by kernel_rfl) (by kernel_rfl) (fun _ _ _ h => h) (Or.inl ⟨by rfl, ?_⟩) (by assumption) ?_; rotate_left; (focus (intro w hSw; (try dsimp only at hSw); go_simp; (try with_reducible rfl))); (try simp only [Act.put, List.setIfInBounds_toArray, List.set_cons_zero, List.set_cons_succ])
            refine wpAnyH_take (i := 1) (oi := ⟨some 31, _, _, _, _, _⟩) (v := ?_) rfl (by kernel_rfl) (by kernel_rfl) (by kernel_rfl) (fun _ _ _ h => h) (Or.inl ⟨by rfl, ?_⟩) (by assumption) ?_; rotate_left; (focus (intro w hSw; (try dsimp only at hSw); go_simp; (try with_reducible rfl))); (try simp only [Act.put, List.setIfInBounds_toArray, List.set_cons_zero, List.set_cons_succ])
            refine wpAnyH_take (i := 2) (oi := ⟨some 32, _, _, _, _, _⟩) (v := ?_) rfl (by kernel_rfl) (by kernel_rfl) (by kernel_rfl) (fun _ _ _ h => h) (Or.inl ⟨by rfl, ?_⟩) (by assumption) ?_; rotate_left; (focus (intro w hSw; (try dsimp only at hSw); go_simp; (try with_reducible rfl))); (try simp only [Act.put, List.setIfInBounds_toArray, List.set_cons_zero, List.set_cons_succ])
            refine wpAnyH_take (i := 3) (oi := ⟨some 33, _, _, _, _, _⟩) (v := ?_) rfl (by kernel_rfl) (by kernel_rfl) (by kernel_rfl) (fun _ _ _ h => h) (Or.inl ⟨by rfl, ?_⟩) (by assumption) ?_; rotate_left; (focus (intro w hSw; (try dsimp only at hSw); go_simp; (try with_reducible rfl))); (try simp only [Act.put, List.setIfInBounds_toArray, List.set_cons_zero, List.set_cons_succ])
            refine wpAnyH_take (i := 4) (oi := ⟨some 34, _, _, _, _, _⟩) (v := ?_) rfl (by kernel_rfl) (by kernel_rfl) (by kernel_rfl) (fun _ _ _ h => h) (Or.inl ⟨by rfl, ?_⟩) (by assumption) ?_; rotate_left; (focus (intro w hSw; (try dsimp only at hSw); go_simp; (try with_reducible rfl))); (try simp only [Act.put, List.setIfInBounds_toArray, List.set_cons_zero, List.set_cons_succ])
            refine wpAnyH_take (i := 5) (oi := ⟨some 35, _, _, _, _, _⟩) (v := ?_) rfl (by kernel_rfl) (by kernel_rfl) (by kernel_rfl) (fun _ _ _ h => h) (Or.inl ⟨by rfl, ?_⟩) (by assumption) ?_; rotate_left; (focus (intro w hSw; (try dsimp only at hSw); go_simp; (try with_reducible rfl))); (try simp only [Act.put, List.setIfInBounds_toArray, List.set_cons_zero, List.set_cons_succ])
            refine wpAnyH_take (i := 6) (oi := ⟨some 36, _, _, _, _, _⟩) (v := ?_) rfl (by kernel_rfl) (by kernel_rfl) (by kernel_rfl) (fun _ _ _ h => h) (Or.inl ⟨by rfl, ?_⟩) (by assumption) ?_; rotate_left; (focus (intro w hSw; (try dsimp only at hSw); go_simp; (try with_reducible rfl))); (try simp only [Act.put, List.setIfInBounds_toArray, List.set_cons_zero, List.set_cons_succ])
            refine wpAnyH_take (i := 7) (oi := ⟨some 37, _, _, _, _, _⟩) (v := ?_) rfl (by kernel_rfl) (by kernel_rfl) (by kernel_rfl) (fun _ _ _ h => h) (Or.inl ⟨by rfl, ?_⟩) (by assumption) ?_; rotate_left; (focus (intro w hSw; (try dsimp only at hSw); go_simp; (try with_reducible rfl))); (try simp only [Act.put, List.setIfInBounds_toArray, List.set_cons_zero, List.set_cons_succ])
            refine wpAnyH_take (i := 8) (oi := ⟨some 38, _, _, _, _, _⟩) (v := ?_) rfl (by kernel_rfl) (by kernel_rfl) (by kernel_rfl) (fun _ _ _ h => h) (Or.inl ⟨by rfl, ?_⟩) (by assumption) ?_; rotate_left; (focus (intro w hSw; (try dsimp only at hSw); go_simp; (try with_reducible rfl))); (try simp only [Act.put, List.setIfInBounds_toArray, List.set_cons_zero, List.set_cons_succ])
            refine wpAnyH_take (i := 9) (oi := ⟨some 39, _, _, _, _, _⟩) (v := ?_) rfl (by kernel_rfl) (by kernel_rfl) (by kernel_rfl) (fun _ _ _ h => h) (Or.inl ⟨by rfl, ?_⟩) (by assumption) ?_; rotate_left; (focus (intro w hSw; (try dsimp only at hSw); go_simp; (try with_reducible rfl))); (try simp only [Act.put, List.setIfInBounds_toArray, List.set_cons_zero, List.set_cons_succ])
            refine wpAnyH_done (by kernel_rfl) ?_ _
            obtain ⟨wd, hwd⟩ : ∃ W, W = w8.drew := ⟨_, rfl⟩
            rw [← hwd]
            have hbd : Below w8.heap.size w8 wd := by rw [hwd]; exact (Below.refl _ _).drew
            have hgd : gl < wd.heap.size := by rw [hwd]; exact hgs2
            have hwkd : w7.heap.size ≤ wd.heap.size := by rw [hwd]; exact hwr
            clear hwd
            have q3 : wd.cell? ⟨gl, ol + k, none⟩ = some (.int .i64 (q : Int)) := (hbd.cell (p := ⟨gl, ol + k, none⟩) hgs2).trans x3_8.out.2
            have HCd : Hid (∀ j, j < ll → wd.cell? ⟨gl, ol + j, none⟩ = some (.int .i64 (L.getD j 0))) := fun j hj => (hbd.cell (p := ⟨gl, ol + j, none⟩) hgs2).trans (HC.out j hj)
            have HO2 := Lib.hid (own_below HO.out hbd)
            have HB2 := Lib.hid (HB.out.trans (hbd.mono (by have := HB.out.size; omega)))
            clear hbd
            go_wp2_with (at_builtin; refine wpList_append_own_at _ rfl _ _ 26 rfl w5.heap.size 3 i0 (.int .i64 0) 1 8 Try.underlying26 hi hz0 hz1 hz2 rfl (by decide) _ _ _ rfl (HO2.out.alloc _) ⟨_, 0, none⟩ 1 1 [.int .i64 q] rfl rfl (cell_one_new _ _ _) ?c2 ?c3 ?c4 ?c5 ?_)
            case c2 => first | rfl | (intro u hu; simp at hu; subst hu; rfl)
            case c3 => unfold maxLen; omega
            case c4 => omega
            case c5 => have := HB2.out.size; first | omega | (simp; omega)
            intro v' w4x hown' hgrow _ hblk
            have hpos := (HO2.out.alloc (.cells #[.int .i64 q] 3)).lt
            have HO' : Hid (OwnI w4x w5.heap.size v' (mayTo gs L (k + 1))) := by
              rw [HST.out]
              simpa [OwnI, Hid] using hown'
            have hs2 := HB2.out.size
            have HB' := Lib.hid ((HB2.out.alloc hs2 (.cells #[.int .i64 q] 3)).grown hgrow (by simp; omega) (fun q hq => (hpos q hq).1))
            have HNE' : Hid (v'.ownBlock ≠ some gl) := by
              rcases hblk with e | e
              · intro e2; rw [e] at e2; exact HNE.out e2
              · intro e2; rw [e] at e2; simp at e2; omega
            have HC' : Hid (∀ j, j < ll → w4x.cell? ⟨gl, ol + j, none⟩ = some (.int .i64 (L.getD j 0))) := fun j hj =>
              (World.cell?_of_block (a := ⟨gl, ol + j, none⟩) (hgrow.block gl (by simp; omega) (by first | exact HNE.out | exact fun e => HNE.out e.symm))).trans ((World.cell?_alloc_lt _ _ ⟨gl, ol + j, none⟩ (by show gl < _; omega)).trans (HCd.out j hj))
            have hw4 : w7.heap.size ≤ w4x.heap.size := by have := hgrow.size; simp at this; omega
            clear hown' hgrow hpos hblk q3
            go_wp2
            go_roundw
            case rel => exact ⟨k + 1, by omega, by go_num, HO'.out, HNE'.out, HC'.out, HB'.out, hw4⟩
            case measure => simp [intOf]; omega
          · have hk1 : (kd != 0) = false := by rw [bne, hk0]; rfl
            have HST : Hid (mayTo gs L (k + 1) = mayTo gs L k) := by show _ = _; rw [hst, hk0]; simp
            clear hst
            go_wp2
            refine wp_region_held_drew (S := fun w' => w'.cell? ⟨w1.heap.size, 0, none⟩ = some (.slice (some ⟨b, off, none⟩) n1 c1) ∧ w'.cell? ⟨b, off + q * 2, none⟩ = some (.int .i64 kd) ∧ w'.cell? ⟨gl, ol + k, none⟩ = some (.int .i64 (q : Int))) (by kernel_rfl) ⟨F_8.out.it, d0_8.out.2, x3_8.out.2⟩ (fun hHeld => ?_)
            refine wpAnyH_take (i := 0) (oi := ⟨some 30, _, _, _, _, _⟩) (v := ?_) rfl (by kernel_rfl) (by kernel_rfl) (by kernel_rfl) (fun _ _ _ h => h) (Or.inl ⟨by rfl, ?_⟩) (by assumption) ?_; rotate_left; (focus (intro w hSw; (try dsimp only at hSw); go_simp; (try with_reducible rfl))); (try simp only [Act.put, List.setIfInBounds_toArray, List.set_cons_zero, List.set_cons_succ])
            refine wpAnyH_take (i := 1) (oi := ⟨some 31, _, _, _, _, _⟩) (v := ?_) rfl (by kernel_rfl) (by kernel_rfl) (by kernel_rfl) (fun _ _ _ h => h) (Or.inl ⟨by rfl, ?_⟩) (by assumption) ?_; rotate_left; (focus (intro w hSw; (try dsimp only at hSw); go_simp; (try with_reducible rfl))); (try simp only [Act.put, List.setIfInBounds_toArray, List.set_cons_zero, List.set_cons_succ])
            refine wpAnyH_take (i := 2) (oi := ⟨some 32, _, _, _, _, _⟩) (v := ?_) rfl (by kernel_rfl) (by kernel_rfl) (by kernel_rfl) (fun _ _ _ h => h) (Or.inl ⟨by rfl, ?_⟩) (by assumption) ?_; rotate_left; (focus (intro w hSw; (try dsimp only at hSw); go_simp; (try with_reducible rfl))); (try simp only [Act.put, List.setIfInBounds_toArray, List.set_cons_zero, List.set_cons_succ])
            refine wpAnyH_take (i := 3) (oi := ⟨some 33, _, _, _, _, _⟩) (v := ?_) rfl (by kernel_rfl) (by kernel_rfl) (by kernel_rfl) (fun _ _ _ h => h) (Or.inl ⟨by rfl, ?_⟩) (by assumption) ?_; rotate_left; (focus (intro w hSw; (try dsimp only at hSw); go_simp; (try with_reducible rfl))); (try simp only [Act.put, List.setIfInBounds_toArray, List.set_cons_zero, List.set_cons_succ])
            refine wpAnyH_take (i := 4) (oi := ⟨some 34, _, _, _, _, _⟩) (v := ?_) rfl (by kernel_rfl) (by kernel_rfl) (by kernel_rfl) (fun _ _ _ h => h) (Or.inl ⟨by rfl, ?_⟩) (by assumption) ?_; rotate_left; (focus (intro w hSw; (try dsimp only at hSw); go_simp; (try with_reducible rfl))); (try simp only [Act.put, List.setIfInBounds_toArray, List.set_cons_zero, List.set_cons_succ])
            refine wpAnyH_take (i := 5) (oi := ⟨some 35, _, _, _, _, _⟩) (v := ?_) rfl (by kernel_rfl) (by kernel_rfl) (by kernel_rfl) (fun _ _ _ h => h) (Or.inl ⟨by rfl, ?_⟩) (by assumption) ?_; rotate_left; (focus (intro w hSw; (try dsimp only at hSw); go_simp; (try with_reducible rfl))); (try simp only [Act.put, List.setIfInBounds_toArray, List.set_cons_zero, List.set_cons_succ])
            refine wpAnyH_take (i := 6) (oi := ⟨some 36, _, _, _, _, _⟩) (v := ?_) rfl (by kernel_rfl) (by kernel_rfl) (by kernel_rfl) (fun _ _ _ h => h) (Or.inl ⟨by rfl, ?_⟩) (by assumption) ?_; rotate_left; (focus (intro w hSw; (try dsimp only at hSw); go_simp; (try with_reducible rfl))); (try simp only [Act.put, List.setIfInBounds_toArray, List.set_cons_zero, List.set_cons_succ])
            refine wpAnyH_take (i := 7) (oi := ⟨some 37, _, _, _, _, _⟩) (v := ?_) rfl (by kernel_rfl) (by kernel_rfl) (by kernel_rfl) (fun _ _ _ h => h) (Or.inl ⟨by rfl, ?_⟩) (by assumption) ?_; rotate_left; (focus (intro w hSw; (try dsimp only at hSw); go_simp; (try with_reducible rfl))); (try simp only [Act.put, List.setIfInBounds_toArray, List.set_cons_zero, List.set_cons_succ])
            refine wpAnyH_take (i := 8) (oi := ⟨some 38, _, _, _, _, _⟩) (v := ?_) rfl (by kernel_rfl) (by kernel_rfl) (by kernel_rfl) (fun _ _ _ h => h) (Or.inl ⟨by rfl, ?_⟩) (by assumption) ?_; rotate_left; (focus (intro w hSw; (try dsimp only at hSw); go_simp; (try with_reducible rfl))); (try simp only [Act.put, List.setIfInBounds_toArray, List.set_cons_zero, List.set_cons_succ])
            refine wpAnyH_take (i := 9) (oi := ⟨some 39, _, _, _, _, _⟩) (v := ?_) rfl (by kernel_rfl) (by kernel_rfl) (by kernel_rfl) (fun _ _ _ h => h) (Or.inl ⟨by rfl, ?_⟩) (by assumption) ?_; rotate_left; (focus (intro w hSw; (try dsimp only at hSw); go_simp; (try with_reducible rfl))); (try simp only [Act.put, List.setIfInBounds_toArray, List.set_cons_zero, List.set_cons_succ])
            refine wpAnyH_done (by kernel_rfl) ?_ _
            have hbd : Below w8.heap.size w8 w8.drew := (Below.refl _ _).drew
            have HO2 := Lib.hid (own_below HO.out hbd)
            have HC2 : Hid (∀ j, j < ll → w8.drew.cell? ⟨gl, ol + j, none⟩ = some (.int .i64 (L.getD j 0))) := fun j hj => (hbd.cell (p := ⟨gl, ol + j, none⟩) hgs2).trans (HC.out j hj)
            clear hbd
            go_wp2
            go_roundw
            case rel => exact ⟨k + 1, by omega, by go_num, by rw [HST.out]; exact HO2.out, HNE.out, HC2.out, HB.out.drew, hwr⟩
            case measure => simp [intOf]; omega
        · obtain rfl : ll = k := by omega
          have HE : Hid (mayTo gs L ll = mrF gs xs) := by show _ = _; rw [HMR2.out]; unfold mayTo; rw [List.take_of_length_le (by have := HLL.out; omega)]
          rw [HE.out] at HO
          go_wp2
          go_ret
          exact ⟨_, rfl, own_mono HO.out BW.out.size, BR.out⟩
end Go.Proofs.Ytcfiondggnbnoaa
