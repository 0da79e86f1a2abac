/- Words and contracts for memory that the texts behind use. -/
import Derived.Test.YtfooafnfdeofoaaH0a
import Derived.Test.YtfooafnfdeofoaaH0b
import Derived.Test.YtfooafnfdeofoaaH0
import Derived.Test.YtfooafnfdeofoaaH1
import Derived.Test.YtfooafnfdeofoaaH2
import Derived.Test.YtfooafnfdeofoaaH3
import Derived.Test.YtfooafnfdeofoaaH4
import Derived.Test.YtfooafnfdeofoaaH6
import Derived.Test.YtfooafnfdeofoaaH7
import Derived.WalkKit
import Derived.Laws.OwnMore
import Derived.Deep.Draws
import Derived.Test.YtfooafnfdeofoaaProg
import Derived.WalkSpells
import Derived.WalkLawsBesides
import Derived.Outline
import Derived.Lib.Hide
import Derived.BigQuiet
import Derived.Deep.QuietTactic
import Derived.StillTailTactics
import Derived.Deep.LoopGhost
import Derived.Laws.MakeOwn
import Derived.WalkSmall
import Derived.RegionTactic
import Derived.BigRegion
import Derived.Deep.RegionWith
import Derived.Deep.RegionHeld3
import Derived.Laws.Entries
import Derived.Laws.Bits64
import Derived.IntWalk
import Derived.Maps.AppendAt
import Derived.Deep.RegionLaw
import Derived.Deep.AppendLies
import Derived.Deep.Cut
import Derived.Deep.DeepCutAuto
import Derived.Laws.CopyOwn

namespace Go.Proofs.Ytfooafnfdeofoaa
set_option linter.unusedSimpArgs false
set_option linter.unusedVariables false
open Go.RowKit
theorem take_snoc (xss : List (List Int)) (k : Nat) (h : k < xss.length) : xss.take (k + 1) = xss.take k ++ [xss.getD k []] := by
  rw [List.take_succ_eq_append_getElem h]; simp [List.getD, h]
set_option maxRecDepth 100000 in
set_option maxHeartbeats 1600000 in
theorem spec_copyLists (A : Option Addr) (n c : Nat) (xss : List (List Int)) (w : World) (B : Nat) (hB : B ≤ w.heap.size) (hn : n = xss.length) (h : SS w B A xss) (hs : SB xss) :
    Calls Try.prog 69 #[.slice A n c] w fun e w' => RetSS w xss e w' := by
  obtain ⟨i1, hi, hz0, hz1, hz2⟩ := info_parts info_ints1
  have hn1 : n ≤ 1048576 := by rw [hn]; exact hs.1
  have H := Lib.hid h
  have HN := Lib.hid hn
  have HS := Lib.hid hs
  clear hn h hs
  go_enter Try.func69, Try.ntmps69
  go_wp2
  go_loopw [3, 4] (fun v i wr => ∃ k : Nat, k ≤ n ∧ i = .int .i64 k ∧ Hid (OwSS w.heap.size wr.heap.size v k (xss.take k) wr) ∧ Hid (Below w.heap.size w wr)) (fun _ i _ => n - (intOf i).toNat)
  case atStart =>
    refine ⟨0, Nat.zero_le _, rfl, ⟨by simp, [], ?_, ⟨fun j hj => by simp at hj, fun i j v u k _ h => by simp at h⟩⟩, (Below.refl _ _).alloc (Nat.le_refl _) _⟩
    have := World.ownsRow_lit (e := 33) (size := 1) (base := w.heap.size) w #[] 0 (Nat.le_refl _) (by unfold maxLen; omega) rfl
    exact OwR.start this
  case round =>
    obtain ⟨k, hk, rfl, HO, HB⟩ := hrel
    have hwr := HB.out.size
    by_cases hlt : k < n
    · obtain ⟨b, off, rfl, hbB, A2, n2, c2, e0, hn2, hps⟩ := H.out.at_ k (by have := HN.out; omega)
      have e1 := (HB.out.cell (p := ⟨b, off + k, none⟩) (by simp; omega)).trans e0
      have HPS := Lib.hid (hps.below HB.out hB)
      have hnb := HS.out.2 k
      have HST := Lib.hid (take_snoc xss k (by have := HN.out; omega))
      have HTL := Lib.hid (show (xss.take k).length = k by rw [List.length_take]; have := HN.out; omega)
      generalize xss.getD k [] = D at *
      generalize xss.take k = T at *
      have HN2 := Lib.hid hn2
      have hn3 : n2 ≤ 2000000 := by omega
      clear e0 hn2 hps hnb
      go_wp2_with fail
      refine (spec_copyIntsA A2 n2 c2 D wr B (by omega) HN2.out HPS.out hn3).mono ?_
      rintro e w5 ⟨g, cap, rfl, ho5, hb5⟩
      have HO5 := Lib.hid ho5
      have HB5 := Lib.hid hb5
      have hw5 : w.heap.size ≤ w5.heap.size := Nat.le_trans hwr hb5.size
      obtain ⟨-, vs, hrow, hss⟩ := HO.out
      have HROW := Lib.hid hrow
      have HSS := Lib.hid hss
      have HR5 := Lib.hid (own_below hrow.1 hb5)
      clear hrow hss ho5 hb5
      go_wp2_with (at_builtin; refine wpList_append_own _ rfl _ _ 26 rfl w.heap.size 33 i1 (.slice none 0 0) 1 24 Try.underlying26 hi hz0 hz1 hz2 rfl (by decide) _ _ _ rfl (HR5.out.alloc _) ⟨_, 0, none⟩ 1 1 [.slice (some ⟨g, 0, none⟩) n2 cap] rfl rfl (cell_one_new _ _ _) ?c2 ?c3 ?c4 ?c5 ?_)
      case c2 => first | rfl | (intro u hu; simp at hu; subst hu; rfl)
      case c3 => unfold maxLen; omega
      case c4 => omega
      case c5 => first | omega | (simp; omega)
      intro v' w6 happ hgrow _
      have hpos := (HR5.out.alloc (.cells #[.slice (some ⟨g, 0, none⟩) n2 cap] 33)).lt
      have HB6 : Hid (Below w.heap.size w w6) := ((HB.out.trans (HB5.out.mono hwr)).alloc hw5 _).grown hgrow (by simp; omega) (fun q hq => (hpos q hq).1)
      have HO6 := Lib.hid (OwSS.snoc HROW.out.1 HSS.out HTL.out.symm HB5.out HO5.out HN2.out happ hgrow hwr)
      clear happ hgrow hpos
      go_wp2
      go_roundw
      case rel => exact ⟨k + 1, by omega, by go_num, by rw [HST.out]; exact HO6.out, HB6.out⟩
      case measure => simp [intOf]; omega
    · obtain rfl : k = n := by omega
      go_wp2
      go_ret
      have ho := HO.out
      rw [List.take_of_length_le (by have := HN.out; omega)] at ho
      exact ⟨_, rfl, by rw [← HN.out]; exact ho, HB.out⟩
end Go.Proofs.Ytfooafnfdeofoaa

namespace Go.Proofs.Ytfooafnfdeofoaa
set_option linter.unusedSimpArgs false
set_option linter.unusedVariables false
open Go.RowKit
theorem sum_le_mul (l : List (List Int)) (b : Nat) (h : ∀ x ∈ l, x.length ≤ b) : (l.map List.length).sum ≤ l.length * b := by
  induction l with
  | nil => simp
  | cons x l ih =>
    have h1 := h x (by simp)
    have h2 := ih fun y hy => h y (by simp [hy])
    simp only [List.map_cons, List.sum_cons, List.length_cons, Nat.succ_mul]
    omega
theorem commitH_HB (gs : List Nd) (st : Hi) (xs : List Int) : HiB (commitH gs st xs) := by
  unfold commitH
  cases h : commitB gs st xs
  · exact HiB.of_hsz (by simp [hsz])
  · simp only [if_true]
    unfold commitB at h
    simp only [Bool.and_eq_true] at h
    obtain ⟨hg, h1, h10, h0, hl, hc⟩ := validHi_parts h.1.1
    have hgl := (validG_parts gs hg).1
    have hx := (validC_parts gs xs h.1.2).1
    have hb : ∀ x ∈ st.ss.take (st.ix + 1).toNat ++ [xs], x.length ≤ 10 := by
      intro x hm
      rw [List.mem_append] at hm
      rcases hm with hm | hm
      · obtain ⟨k, hk, rfl⟩ := List.getElem_of_mem (List.mem_of_mem_take hm)
        have := (validC_parts gs _ (hc k hk)).1
        rw [List.getD_eq_getElem?_getD, List.getElem?_eq_getElem hk] at this
        simp at this; omega
      · simp at hm; subst hm; omega
    have hs := sum_le_mul _ 10 hb
    have hl2 : (st.ss.take (st.ix + 1).toNat ++ [xs]).length ≤ 11 := by simp; omega
    exact HiB.of_hsz (by unfold hsz; dsimp only; omega)
set_option maxRecDepth 100000 in
set_option maxHeartbeats 1600000 in
theorem spec_copyHistory (A : Option Addr) (n c : Nat) (st : Hi) (w : World) (B : Nat) (hB : B ≤ w.heap.size) (hn : n = st.ss.length) (h : HiS w B A st) (hb : HiB st) :
    Calls Try.prog 45 #[.agg #[.slice A n c, .int .i64 st.ix]] w fun e w' => RetH w st e w' := by
  have HC := Lib.hid fun (w' : World) (hB : B ≤ w'.heap.size) (h : SS w' B A st.ss) => spec_copyLists A n c st.ss w' B hB hn h hb.2.1
  have H := Lib.hid (show SS w B A st.ss from h)
  have HN := Lib.hid hn
  obtain ⟨ss, ix⟩ := st
  dsimp only at *
  clear hn h hb
  go_enter Try.func45, Try.ntmps45
  go_upto_region 1 with fail
  obtain ⟨W2, hW2⟩ : ∃ W, W = (w.alloc (.cells #[.slice A n c, .int .i64 ix] 28)).alloc (.cells #[.slice none 0 0, .int .i64 0] 28) := ⟨_, rfl⟩
  have hb2 : Below w.heap.size w W2 := by rw [hW2]; exact ((Below.refl _ _).alloc (Nat.le_refl _) _).alloc (by simp) _
  have hs2 : w.heap.size + 2 ≤ W2.heap.size := by rw [hW2]; simp
  have q0 : W2.cell? ⟨w.heap.size, 0, none⟩ = some (.slice A n c) := by rw [hW2]; go_simp
  have q1 : W2.cell? ⟨w.heap.size, 1, none⟩ = some (.int .i64 ix) := by rw [hW2]; go_simp
  have p0 : W2.cell? ⟨w.heap.size + 1, 0, none⟩ = some (.slice none 0 0) := by rw [hW2]; go_simp
  have p1 : W2.cell? ⟨w.heap.size + 1, 1, none⟩ = some (.int .i64 0) := by rw [hW2]; go_simp
  have f0 : W2.frozen? ⟨w.heap.size + 1, 0, none⟩ = false := by rw [hW2]; go_simp
  have f1 : W2.frozen? ⟨w.heap.size + 1, 1, none⟩ = false := by rw [hW2]; go_simp
  rw [← hW2]
  have HS2 := Lib.hid (H.out.below hb2 hB)
  have HB2 := Lib.hid hb2
  clear hW2 hb2
  refine wp_region_held_drew (S := fun w' => w'.cell? ⟨w.heap.size, 0, none⟩ = some (.slice A n c) ∧ w'.cell? ⟨w.heap.size, 1, none⟩ = some (.int .i64 ix)) (by kernel_rfl) ⟨q0, q1⟩ (fun hHeld => ?_)
  refine wpAnyH_take (i := 0) (oi := ⟨some 3, _, _, _, _, _⟩) (v := ?_) rfl (by kernel_rfl) (by kernel_rfl) (by kernel_rfl) (fun _ _ _ h => h) (Or.inl ⟨by rfl, ?_⟩) (by assumption) ?_; rotate_left; (focus (intro w hSw; (try dsimp only at hSw); go_simp; (try with_reducible rfl))); (try simp only [Act.put, List.setIfInBounds_toArray, List.set_cons_zero, List.set_cons_succ])
  refine wpAnyH_take (i := 1) (oi := ⟨some 4, _, _, _, _, _⟩) (v := ?_) rfl (by kernel_rfl) (by kernel_rfl) (by kernel_rfl) (fun _ _ _ h => h) (Or.inl ⟨by rfl, ?_⟩) (by assumption) ?_; rotate_left; (focus (intro w hSw; (try dsimp only at hSw); go_simp; (try with_reducible rfl))); (try simp only [Act.put, List.setIfInBounds_toArray, List.set_cons_zero, List.set_cons_succ])
  refine wpAnyH_take (i := 3) (oi := ⟨some 6, _, _, _, _, _⟩) (v := ?_) rfl (by kernel_rfl) (by kernel_rfl) (by kernel_rfl) (fun _ _ _ h => h) (Or.inl ⟨by rfl, ?_⟩) (by assumption) ?_; rotate_left; (focus (intro w hSw; (try dsimp only at hSw); go_simp; (try with_reducible rfl))); (try simp only [Act.put, List.setIfInBounds_toArray, List.set_cons_zero, List.set_cons_succ])
  refine wpAnyH_take (i := 4) (oi := ⟨some 7, _, _, _, _, _⟩) (v := ?_) rfl (by kernel_rfl) (by kernel_rfl) (by kernel_rfl) (fun _ _ _ h => h) (Or.inl ⟨by rfl, ?_⟩) (by assumption) ?_; rotate_left; (focus (intro w hSw; (try dsimp only at hSw); go_simp; (try with_reducible rfl))); (try simp only [Act.put, List.setIfInBounds_toArray, List.set_cons_zero, List.set_cons_succ])
  refine wpAnyH_ready (rs := [2]) (by kernel_rfl) (by simp) ?_; refine AllReadyH.cons (o := ⟨some 5, _, _, _, _, _⟩) rfl (fun K hK => ?_) AllReadyH.nil; go_simp
  go_at_call 69
  refine (HC.out W2.drew (by show B ≤ W2.heap.size; omega) HS2.out).mono ?_
  rintro e w3 ⟨v3, rfl, ho', hb3'⟩
  have hb3 : Below W2.heap.size W2 w3 := below_of_drew hb3'
  have ho : OwSS W2.heap.size w3.heap.size v3 ss.length ss w3 := ho'
  have r0 := (hb3.cell (p := ⟨w.heap.size, 0, none⟩) (by show w.heap.size < W2.heap.size; omega)).trans q0
  have r1 := (hb3.cell (p := ⟨w.heap.size, 1, none⟩) (by show w.heap.size < W2.heap.size; omega)).trans q1
  have t0 := (hb3.cell (p := ⟨w.heap.size + 1, 0, none⟩) (by show w.heap.size + 1 < W2.heap.size; omega)).trans p0
  have t1 := (hb3.cell (p := ⟨w.heap.size + 1, 1, none⟩) (by show w.heap.size + 1 < W2.heap.size; omega)).trans p1
  have g0 := (hb3.frozen (p := ⟨w.heap.size + 1, 0, none⟩) (by show w.heap.size + 1 < W2.heap.size; omega)).trans f0
  have g1 := (hb3.frozen (p := ⟨w.heap.size + 1, 1, none⟩) (by show w.heap.size + 1 < W2.heap.size; omega)).trans f1
  have hs3 := hb3.size
  rw [← HN.out] at ho
  obtain ⟨A3, c3, rfl⟩ := ho.form
  have HO := Lib.hid (ho.mono (lo' := w.heap.size + 2) (by omega) (Nat.le_refl _))
  have HB3 := Lib.hid (HB2.out.trans (hb3.mono (by omega)))
  clear ho ho' hb3 hb3' q0 q1 p0 p1 f0 f1 HC HB2 HS2 H
  refine hK.out _ _ ⟨r0, r1⟩ (fun hHeld => ?_); clear hK K; (try simp only [Act.put, List.setIfInBounds_toArray, List.set_cons_zero, List.set_cons_succ])
  refine wpAnyH_take (i := 5) (oi := ⟨some 8, _, _, _, _, _⟩) (v := ?_) rfl (by kernel_rfl) (by kernel_rfl) (by kernel_rfl) (fun _ _ _ h => h) (Or.inl ⟨by rfl, ?_⟩) (by assumption) ?_; rotate_left; (focus (intro w hSw; (try dsimp only at hSw); go_simp; (try with_reducible rfl))); (try simp only [Act.put, List.setIfInBounds_toArray, List.set_cons_zero, List.set_cons_succ])
  refine wpAnyH_ready (rs := [6]) (by kernel_rfl) (by simp) ?_; refine AllReadyH.cons (o := ⟨none, _, _, _, _, _⟩) rfl (fun K hK => ?_) AllReadyH.nil; go_simp
  have e0 : ((w3.setCell ⟨w.heap.size + 1, 0, none⟩ (.slice A3 n c3)).setCell ⟨w.heap.size + 1, 1, none⟩ (.int .i64 ix)).cell? ⟨w.heap.size, 0, none⟩ = some (.slice A n c) := by rw [World.cell?_setCell_other _ _ _ _ (by simp), World.cell?_setCell_other _ _ _ _ (by simp)]; exact r0
  have e1 : ((w3.setCell ⟨w.heap.size + 1, 0, none⟩ (.slice A3 n c3)).setCell ⟨w.heap.size + 1, 1, none⟩ (.int .i64 ix)).cell? ⟨w.heap.size, 1, none⟩ = some (.int .i64 ix) := by rw [World.cell?_setCell_other _ _ _ _ (by simp), World.cell?_setCell_other _ _ _ _ (by simp)]; exact r1
  refine hK.out _ _ ⟨e0, e1⟩ (fun hHeld => ?_); clear hK K; (try simp only [Act.put, List.setIfInBounds_toArray, List.set_cons_zero, List.set_cons_succ])
  refine wpAnyH_done (by kernel_rfl) ?_ _
  go_wp2
  refine bodyPost_ret (v := .agg #[.slice A3 n c3, .int .i64 ix]) (by simp [results, Try.results45, go_sem, t0, t1]) rfl ?_
  have o1 := HO.out.setCell (a := ⟨w.heap.size + 1, 0, none⟩) (by simp) (.slice A3 n c3)
  have o2 := o1.setCell (a := ⟨w.heap.size + 1, 1, none⟩) (by simp) (.int .i64 ix)
  refine ⟨_, _, _, rfl, ?_, (HB3.out.setCell (by simp) _).setCell (by simp) _⟩
  have o5 := o2.mono (lo' := w.heap.size) (hi' := w3.heap.size) (by omega) (Nat.le_refl _)
  simpa [World.setCell, OwH] using o5
/-- Returns a history in fresh blocks and whether there is one. -/
def RetHB (w : World) (st : Hi) (b : Bool) (e : Ending) (w' : World) : Prop := ∃ A n c, e = .returned (.tuple #[.agg #[.slice A n c, .int .i64 st.ix], .bool b]) ∧ OwH w.heap.size w'.heap.size A n c st w' ∧ Below w.heap.size w w'
theorem RetHB.nil {w w' : World} (hb : Below w.heap.size w w') : RetHB w ⟨[], 0⟩ false (.returned (.tuple #[.agg #[.slice none 0 0, .int .i64 0], .bool false])) w' := ⟨_, _, _, rfl, OwH.nil _ _ _, hb⟩
theorem OwSS.shrink {lo hi g cap n k : Nat} {xss : List (List Int)} {w : World} (h : OwSS lo hi (.slice (some ⟨g, 0, none⟩) n cap) n xss w) (hk : k ≤ n) : OwSS lo hi (.slice (some ⟨g, 0, none⟩) k cap) k (xss.take k) w := by
  obtain ⟨hn, vs, hr, hs⟩ := h
  have hvl : vs.length = n := by have := hr.1.1; omega
  refine ⟨by rw [List.length_take]; omega, vs.take k, ⟨own_shrink hr.1 hk, hr.2⟩, fun j hj => ?_, fun i j v u q hij h1 h2 => ?_⟩
  · have hjk : j < k := by rw [List.length_take] at hj; omega
    obtain ⟨A, m, c, e1, e2, e3⟩ := hs.row j (by omega)
    have e : (xss.take k).getD j [] = xss.getD j [] := by simp only [List.getD, List.getElem?_take, if_pos hjk]
    exact ⟨A, m, c, by rw [List.getElem?_take, if_pos hjk]; exact e1, by unfold lenOf; rw [e]; exact e2, by unfold rowOf; rw [e]; exact e3⟩
  · rw [List.getElem?_take] at h1 h2
    split at h1
    · split at h2
      · exact hs.apart i j v u q hij h1 h2
      · cases h2
    · cases h1
set_option maxRecDepth 100000 in
set_option maxHeartbeats 3200000 in
theorem top_spec_CommitCells (gs : List Nd) (st : Hi) (xs : List Int) (hG : GB gs) (hH : HiB st) (hL : xs.length ≤ 1048576) : ∀ (A : Option Addr) (n c : Nat) (A1 : Option Addr) (m c1 : Nat) (A2 : Option Addr) (m2 c2 : Nat) (w : World), n = gs.length → n ≤ c → GS w w.heap.size A gs → m = st.ss.length → m ≤ c1 → HiS w w.heap.size A1 st → m2 = xs.length → IS w w.heap.size A2 xs →
    Calls Try.prog 20 #[.agg #[.slice A n c], .agg #[.slice A1 m c1, .int .i64 st.ix], .slice A2 m2 c2] w fun e w' => RetHB w (commitH gs st xs) (commitB gs st xs) e w' := by
  intro A n c A1 m c1 A2 m2 c2 w hn hnc h hm _ h1 hm2 h2
  have hml : m2 ≤ 2000000 := by omega
  have H := Lib.hid h
  have HI := Lib.hid h1
  have HX := Lib.hid h2
  have HM2 := Lib.hid hm2
  have HV := Lib.hid fun (w' : World) (hB : w.heap.size ≤ w'.heap.size) (h : GS w' w.heap.size A gs) (h' : HiS w' w.heap.size A1 st) => spec_validHistory A A1 n c m c1 gs st w' w.heap.size hB hn hm h h' hG hH
  have HD := Lib.hid fun (w' : World) (hB : w.heap.size ≤ w'.heap.size) (h : GS w' w.heap.size A gs) (h' : IS w' w.heap.size A2 xs) => spec_validCells A A2 n c m2 c2 gs xs w' w.heap.size hB hn hm2 h h' (by have := hG.1; omega) hml
  have HCH := Lib.hid fun (w' : World) (hB : w.heap.size ≤ w'.heap.size) (h : HiS w' w.heap.size A1 st) => spec_copyHistory A1 m c1 st w' w.heap.size hB hm h hH
  have HCI := Lib.hid fun (w' : World) (hB : w.heap.size ≤ w'.heap.size) (h : IS w' w.heap.size A2 xs) => spec_copyIntsA A2 m2 c2 xs w' w.heap.size hB hm2 h hml
  have hHb : commitB gs st xs = (validHi gs st && validC gs xs && !(st.ix + 1 == 10)) := rfl
  have hHf : commitH gs st xs = if (validHi gs st && validC gs xs && !(st.ix + 1 == 10)) then ⟨st.ss.take (st.ix + 1).toNat ++ [xs], st.ix + 1⟩ else ⟨[], 0⟩ := rfl
  have HVP := Lib.hid (fun hv : validHi gs st = true => validHi_parts hv)
  rw [hHb, hHf]
  generalize hv : validHi gs st = v at *
  generalize hu : validC gs xs = u at *
  have HM := Lib.hid hm
  obtain ⟨ss, ix⟩ := st
  dsimp only at *
  clear hHb hHf h h1 h2 hn hm hm2 hG hH hv hu
  obtain ⟨W3, hW3⟩ : ∃ W, W = ((w.alloc (.cells #[.slice A n c] 25)).alloc (.cells #[.slice A1 m c1, .int .i64 ix] 28)).alloc (.cells #[.slice none 0 0, .int .i64 0] 28) := ⟨_, rfl⟩
  have hb3 : Below w.heap.size w W3 := by rw [hW3]; exact (((Below.refl _ _).alloc (Nat.le_refl _) _).alloc (by simp) _).alloc (by simp; try omega) _
  have hs3 : w.heap.size + 3 ≤ W3.heap.size := by rw [hW3]; simp
  have hx0 : Bx w.heap.size [.slice A n c] W3 := by rw [hW3]; exact ((Bx.start w _ _).alloc _).alloc _
  have hx1 : Bx (w.heap.size + 1) [.slice A1 m c1, .int .i64 ix] W3 := by rw [hW3]; have := (Bx.start (w.alloc (.cells #[.slice A n c] 25)) #[.slice A1 m c1, .int .i64 ix] 28).alloc (.cells #[.slice none 0 0, .int .i64 0] 28); simpa using this
  have hx2 : Bx (w.heap.size + 2) [.slice none 0 0, .int .i64 0] W3 := by rw [hW3]; have := Bx.start ((w.alloc (.cells #[.slice A n c] 25)).alloc (.cells #[.slice A1 m c1, .int .i64 ix] 28)) #[.slice none 0 0, .int .i64 0] 28; simpa using this
  have HG3 := Lib.hid (H.out.below hb3 (Nat.le_refl _))
  have HI3 := Lib.hid (show HiS W3 w.heap.size A1 ⟨ss, ix⟩ from SS.below HI.out hb3 (Nat.le_refl _))
  have HX3 := Lib.hid (HX.out.below hb3 (Nat.le_refl _))
  have HV3 := Lib.hid (HV.out W3 (by omega) HG3.out HI3.out)
  rw [hW3] at HV3
  have HW3 := Lib.hid hW3
  have HB3 := Lib.hid hb3
  have X0 := Lib.hid hx0
  have X1 := Lib.hid hx1
  have X2 := Lib.hid hx2
  clear hW3 hb3 hx0 hx1 hx2 HV H HI HX
  cases v
  · go_enter Try.func20, Try.ntmps20
    go_wp2_with fail
    refine HV3.out.mono ?_
    rw [← HW3.out]
    rintro e w4 ⟨rfl, hb⟩
    have Y2 := X2.out.step hb
    have r1 := Y2.c 0 _ rfl
    have r2 := Y2.c 1 _ rfl
    have g1 := Y2.f 0
    have g2 := Y2.f 1
    have hs4 := hb.size
    have HB4 := Lib.hid (HB3.out.trans (hb.mono (by omega)))
    clear hb Y2
    go_wp2
    refine bodyPost_ret (v := .tuple #[.agg #[.slice none 0 0, .int .i64 0], .bool false]) (by simp [results, Try.results20, go_sem, r1, r2]) rfl ?_
    exact RetHB.nil ((HB4.out.setCell (by simp; omega) _).setCell (by simp; omega) _)
  · cases u
    · go_enter Try.func20, Try.ntmps20
      go_wp2_with fail
      refine HV3.out.mono ?_
      rw [← HW3.out]
      rintro e w0 ⟨rfl, hb0⟩
      have p0 := (X0.out.step hb0).c 0 _ rfl
      have hs0 := hb0.size
      have HG4 := Lib.hid (HG3.out.below hb0 (by omega))
      have HX4 := Lib.hid (HX3.out.below hb0 (by omega))
      have HB0 := Lib.hid hb0
      clear hb0
      go_wp2_with fail
      refine (HD.out _ (by omega) HG4.out HX4.out).mono ?_
      rintro e w4 ⟨rfl, hb4⟩
      have hb := HB0.out.trans (hb4.mono hs0)
      have Y2 := X2.out.step hb
      have r1 := Y2.c 0 _ rfl
      have r2 := Y2.c 1 _ rfl
      have g1 := Y2.f 0
      have g2 := Y2.f 1
      have hs4 := hb.size
      have HB4 := Lib.hid (HB3.out.trans (hb.mono (by omega)))
      clear hb hb4 Y2 p0
      go_wp2
      refine bodyPost_ret (v := .tuple #[.agg #[.slice none 0 0, .int .i64 0], .bool false]) (by simp [results, Try.results20, go_sem, r1, r2]) rfl ?_
      exact RetHB.nil ((HB4.out.setCell (by simp; omega) _).setCell (by simp; omega) _)
    · obtain ⟨-, hl1, hl10, hi0, hi1, -⟩ := HVP.out rfl
      obtain ⟨j, rfl⟩ : ∃ j : Nat, ix = (j : Int) := ⟨ix.toNat, by omega⟩
      have hwr : IntKind.i64.wrap ((j : Int) + 1) = ((j + 1 : Nat) : Int) := by rw [IntKind.wrap_i64]; omega
      go_enter Try.func20, Try.ntmps20
      go_wp2_with fail
      refine HV3.out.mono ?_
      rw [← HW3.out]
      rintro e w0 ⟨rfl, hb0⟩
      have p0 := (X0.out.step hb0).c 0 _ rfl
      have hs0 := hb0.size
      have HG4 := Lib.hid (HG3.out.below hb0 (by omega))
      have HX4 := Lib.hid (HX3.out.below hb0 (by omega))
      have HB0 := Lib.hid hb0
      clear hb0
      go_wp2_with fail
      refine (HD.out _ (by omega) HG4.out HX4.out).mono ?_
      rintro e w4 ⟨rfl, hb4⟩
      have hb := HB0.out.trans (hb4.mono hs0)
      have hs4 := hb.size
      have X1' := Lib.hid (X1.out.step hb)
      have X2' := Lib.hid (X2.out.step hb)
      have HB4 := Lib.hid (HB3.out.trans (hb.mono (by omega)))
      have HI4 := Lib.hid (show HiS w4 w.heap.size A1 ⟨ss, (j : Int)⟩ from SS.below HI3.out hb (by omega))
      have HX5 := Lib.hid (HX3.out.below hb (by omega))
      have a1 := X1'.out.c 0 _ rfl
      have a2 := X1'.out.c 1 _ rfl
      clear hb hb4 p0 X0 X1 X2 HG3 HI3 HX3 HG4 HX4 HB0 HB3 HV3
      by_cases h9 : j = 9
      · have h9' : ((j : Int) + 1 == 10) = true := by simp; omega
        have r1 := X2'.out.c 0 _ rfl
        have r2 := X2'.out.c 1 _ rfl
        have g1 := X2'.out.f 0
        have g2 := X2'.out.f 1
        have hs9 : w.heap.size + 2 < w4.heap.size := by omega
        subst h9
        go_wp2
        refine bodyPost_ret (v := .tuple #[.agg #[.slice none 0 0, .int .i64 0], .bool false]) (by simp [results, Try.results20, go_sem, r1, r2]) rfl ?_
        exact RetHB.nil ((HB4.out.setCell (by simp; omega) _).setCell (by simp; omega) _)
      · have h9' : ((j : Int) + 1 == 10) = false := by simp; omega
        have hz : (if (true && true && !((j : Int) + 1 == 10)) = true then (⟨ss.take ((j : Int) + 1).toNat ++ [xs], (j : Int) + 1⟩ : Hi) else ⟨[], 0⟩) = ⟨ss.take (j + 1) ++ [xs], ((j + 1 : Nat) : Int)⟩ := by rw [h9']; simp
        have hzb : (true && true && !((j : Int) + 1 == 10)) = true := by rw [h9']; rfl
        have HZ := Lib.hid hz
        have HZB := Lib.hid hzb
        clear hz hzb
        go_wp2_with fail
        refine (HCH.out _ (by omega) HI4.out).mono ?_
        rintro e w5 ⟨A5, n5, c5, rfl, ho5, hb5⟩
        have hs5 := hb5.size
        have Z1 := Lib.hid (X1'.out.step hb5)
        have Z2 := Lib.hid (X2'.out.step hb5)
        have HB5 := Lib.hid (HB4.out.trans (hb5.mono (by omega)))
        have HX6 := Lib.hid (HX5.out.below hb5 (by omega))
        have hn5 : n5 = m := ho5.1.trans HM.out.symm
        subst hn5
        obtain ⟨k, hkj⟩ : ∃ k, k = j + 1 := ⟨_, rfl⟩
        have hjm : k ≤ n5 := by have := HM.out; omega
        have hk10 : k ≤ 10 := by omega
        have hwk : IntKind.i64.wrap ((j : Int) + 1) = (k : Int) := by rw [hwr, hkj]
        have HKJ := Lib.hid hkj
        clear hwr hkj
        have ho5' : OwSS (w.heap.size + 3) w5.heap.size (.slice A5 n5 c5) n5 ss w5 := OwSS.mono ho5 (by omega) (Nat.le_refl _)
        obtain ⟨g5, rfl⟩ : ∃ g, A5 = some ⟨g, 0, none⟩ := by
          obtain ⟨_, vs, hr, _⟩ := ho5'
          rcases hr.1.2 with ⟨_, hz⟩ | ⟨g, cap, cur, hv, _⟩
          · omega
          · simp only [Value.slice.injEq] at hv; exact ⟨g, hv.1⟩
        have hnc5 : n5 ≤ c5 := by
          obtain ⟨_, vs, hr, _⟩ := ho5'
          exact own_ncap hr.1
        have HO5 := Lib.hid (ho5'.shrink (k := k) (by omega))
        clear ho5 ho5' hb5 X1' X2' HB4 HI4 HX5 a1 a2
        go_upto_region 4 with fail
        obtain ⟨W6, hW6⟩ : ∃ W, W = w5.alloc (.cells #[.slice (some ⟨g5, 0, none⟩) n5 c5, .int .i64 j] 28) := ⟨_, rfl⟩
        have hb6 : Below w5.heap.size w5 W6 := by rw [hW6]; exact (Below.refl _ _).alloc (Nat.le_refl _) _
        have hx6 : Bx w5.heap.size [.slice (some ⟨g5, 0, none⟩) n5 c5, .int .i64 j] W6 := by rw [hW6]; exact Bx.start w5 _ _
        have hs6 : W6.heap.size = w5.heap.size + 1 := by rw [hW6]; simp
        have hT6 : Tg w5.heap.size 28 W6 := by rw [hW6]; exact Tg.new w5 _ _ _
        have T6 := Lib.hid hT6
        rw [← hW6]
        clear hW6 hT6
        have Y1 := Lib.hid (Z1.out.step hb6)
        have Y2 := Lib.hid (Z2.out.step hb6)
        have HB6 := Lib.hid (HB5.out.trans (hb6.mono (by omega)))
        have HX7 := Lib.hid (HX6.out.below hb6 (by omega))
        have HO6 := Lib.hid (OwSS.loc _ _ _ _ _ _ _ HO5.out (fun k _ hk => hb6.block k hk))
        have Y6 := Lib.hid hx6
        clear hb6 hx6 Z1 Z2 HB5 HX6 HO5
        obtain ⟨-, vs, hr6, hss6⟩ := HO6.out
        have HR6 := Lib.hid hr6
        have HSS6 := Lib.hid hss6
        have hgl6 : w.heap.size + 3 ≤ g5 ∧ g5 < w5.heap.size := ⟨(hr6.1.lt g5 rfl).1, hr6.2 g5 rfl⟩
        have b0 := Y6.out.c 0 _ rfl
        have a2 := Y1.out.c 1 _ rfl
        clear hr6 hss6
        obtain ⟨i1, hi, hz0, hz1, hz2⟩ := info_parts info_ints1
        have hjc : k ≤ c5 := by omega
        refine wp_region_held_drew (S := fun w' => w'.cell? ⟨w.heap.size + 1, 1, none⟩ = some (.int .i64 j)) (by kernel_rfl) a2 (fun hHeld => ?_)
        refine wpAnyH_take (i := 0) (oi := ⟨some 28, _, _, _, _, _⟩) (v := ?_) rfl (by kernel_rfl) (by kernel_rfl) (by kernel_rfl) (fun _ _ _ h => h) (Or.inl ⟨by rfl, ?_⟩) (by assumption) ?_; rotate_left; (focus (intro w hSw; (try dsimp only at hSw); go_simp; (try with_reducible rfl))); (try simp only [Act.put, List.setIfInBounds_toArray, List.set_cons_zero, List.set_cons_succ])
        refine wpAnyH_take (i := 2) (oi := ⟨some 30, _, _, _, _, _⟩) (v := ?_) rfl (by kernel_rfl) (by kernel_rfl) (by kernel_rfl) (fun _ _ _ h => h) (Or.inl ⟨by rfl, ?_⟩) (by assumption) ?_; rotate_left; (focus (intro w hSw; (try dsimp only at hSw); go_simp; (try with_reducible rfl))); (try simp only [Act.put, List.setIfInBounds_toArray, List.set_cons_zero, List.set_cons_succ])
        refine wpAnyH_take (i := 3) (oi := ⟨some 31, _, _, _, _, _⟩) (v := ?_) rfl (by kernel_rfl) (by kernel_rfl) (by kernel_rfl) (fun _ _ _ h => h) (Or.inl ⟨by rfl, ?_⟩) (by assumption) ?_; rotate_left; (focus (intro w hSw; (try dsimp only at hSw); go_simp; (try with_reducible rfl))); (try simp only [Act.put, List.setIfInBounds_toArray, List.set_cons_zero, List.set_cons_succ])
        refine wpAnyH_take (i := 4) (oi := ⟨some 32, _, _, _, _, _⟩) (v := ?_) rfl (by kernel_rfl) (by kernel_rfl) (by kernel_rfl) (fun _ _ _ h => h) (Or.inl ⟨by rfl, ?_⟩) (by assumption) ?_; rotate_left; (focus (intro w hSw; (try dsimp only at hSw); go_simp; (try with_reducible rfl))); (try simp only [Act.put, List.setIfInBounds_toArray, List.set_cons_zero, List.set_cons_succ])
        refine wpAnyH_take (i := 6) (oi := ⟨some 34, _, _, _, _, _⟩) (v := ?_) rfl (by kernel_rfl) (by kernel_rfl) (by kernel_rfl) (fun _ _ _ h => h) (Or.inl ⟨by rfl, ?_⟩) (by assumption) ?_; rotate_left; (focus (intro w hSw; (try dsimp only at hSw); go_simp; (try with_reducible rfl))); (try simp only [Act.put, List.setIfInBounds_toArray, List.set_cons_zero, List.set_cons_succ])
        refine wpAnyH_ready (rs := [1, 7]) (by kernel_rfl) (by simp) ?_; refine AllReadyH.cons (o := ⟨some 29, _, _, _, _, _⟩) rfl (fun K hK => ?_) (AllReadyH.cons (o := ⟨some 35, _, _, _, _, _⟩) rfl (fun K hK => ?_) AllReadyH.nil)
        · go_simp
          refine hK.out _ _ a2 (fun hHeld => ?_); clear hK K; (try simp only [Act.put, List.setIfInBounds_toArray, List.set_cons_zero, List.set_cons_succ])
          refine wpAnyH_take (i := 5) (oi := ⟨some 33, _, _, _, _, _⟩) (v := ?_) rfl (by kernel_rfl) (by kernel_rfl) (by kernel_rfl) (fun _ _ _ h => h) (Or.inl ⟨by rfl, ?_⟩) (by assumption) ?_; rotate_left; (focus (intro w hSw; (try dsimp only at hSw); go_simp; (try with_reducible rfl))); (try simp only [Act.put, List.setIfInBounds_toArray, List.set_cons_zero, List.set_cons_succ])
          refine wpAnyH_ready (rs := [7]) (by kernel_rfl) (by simp) ?_; refine AllReadyH.cons (o := ⟨some 35, _, _, _, _, _⟩) rfl (fun K hK => ?_) AllReadyH.nil; go_simp
          go_at_call 40
          refine (HCI.out W6.drew (by show w.heap.size ≤ W6.heap.size; omega) HX7.out).mono ?_
          rintro e w7 ⟨g7, c7, rfl, ho7', hb7'⟩
          have hb7 : Below W6.heap.size W6 w7 := below_of_drew hb7'
          have ho7 : w7.ownsRow W6.heap.size 3 1 (.slice (some ⟨g7, 0, none⟩) m2 c7) m2 (xs.map (Value.int .i64)) := ho7'
          have Y7 := Lib.hid (Y6.out.step hb7)
          have Y8 := Lib.hid (Y1.out.step hb7)
          have Y9 := Lib.hid (Y2.out.step hb7)
          have T7 := Lib.hid (T6.out.below hb7 (by omega))
          have hs7 := hb7.size
          have HR7 := Lib.hid (HR6.out.keep (w' := w7) fun k _ hk => hb7.block k (by omega))
          have HSS7 := Lib.hid (HSS6.out.keep (w' := w7) fun k _ hk => hb7.block k (by omega))
          have HB7 := Lib.hid (HB6.out.trans (hb7.mono (by omega)))
          have c0 := Y7.out.c 0 _ rfl
          have d2 := Y8.out.c 1 _ rfl
          have HO7 := Lib.hid (own_mono ho7 (base' := w5.heap.size) (by omega))
          clear b0 a2 ho7' hb7' ho7 hb7 Y6 Y1 Y2 HR6 HSS6 HB6 HX7 HO6
          refine hK.out _ _ d2 (fun hHeld => ?_); clear hK K; (try simp only [Act.put, List.setIfInBounds_toArray, List.set_cons_zero, List.set_cons_succ])
          refine wpAnyH_ready (rs := [8]) (by kernel_rfl) (by simp) ?_; refine AllReadyH.cons (o := ⟨some 36, _, _, _, _, _⟩) rfl (fun K hK => ?_) AllReadyH.nil; go_simp
          have d3 := (Y8.out.alloc (.cells #[.slice (some ⟨g7, 0, none⟩) m2 c7] 33)).c 1 _ rfl
          have c1 := (Y7.out.alloc (.cells #[.slice (some ⟨g7, 0, none⟩) m2 c7] 33)).c 0 _ rfl
          refine hK.out _ _ d3 (fun hHeld => ?_); clear hK K; (try simp only [Act.put, List.setIfInBounds_toArray, List.set_cons_zero, List.set_cons_succ])
          refine wpAnyH_ready (rs := [9]) (by kernel_rfl) (by simp) ?_; refine AllReadyH.cons (o := ⟨some 37, _, _, _, _, _⟩) rfl (fun K hK => ?_) AllReadyH.nil
          refine step_append_lies _ (by rfl) _ _ _ (by rfl) (w.heap.size + 3) 33 i1 (.slice none 0 0) 1 24 Try.underlying26 hi hz0 hz1 hz2 rfl (by omega) (.slice (some ⟨g5, 0, none⟩) k c5) k _ (by rfl) (HR7.out.1.alloc _) ⟨w7.heap.size, 0, none⟩ 1 1 [.slice (some ⟨g7, 0, none⟩) m2 c7] (by rfl) (by rfl) (cells_new _ _ _ _ rfl) (by simp [Value.oneCell']) (by omega) (by unfold maxLen; omega) (by omega) (by simp; omega) (w7.heap.size + 1) (by simp) ?_
          intro gg cap w8 hown8 hgrow8 hat8 hlt8
          have hgr8 : (w7.alloc (.cells #[.slice (some ⟨g7, 0, none⟩) m2 c7] 33)).grownBy w8 (Value.slice (some ⟨g5, 0, none⟩) k c5).ownBlock := ⟨hgrow8.os, hgrow8.tape, hgrow8.output, hgrow8.size, hgrow8.block⟩
          have hb8 : Below (w.heap.size + 3) w7 w8 := ((Below.refl _ _).alloc (by omega) _).grown hgr8 (by simp; omega) (fun q hq => by cases hq; exact hgl6.1)
          have hs8 : w7.heap.size ≤ w8.heap.size := hb8.size
          have HO8 := Lib.hid (OwSS.snoc2 (by rw [List.length_take]; have := HM.out; omega) HR7.out HSS7.out HO7.out HM2.out hown8 hgr8 (by omega))
          have Z7 : Hid (Bx w5.heap.size [.slice (some ⟨g5, 0, none⟩) n5 c5, .int .i64 j] w8) := by
            refine ⟨by omega, fun j v hv => ?_, fun j => ?_⟩
            · exact (World.cell?_of_block (hgr8.block w5.heap.size (by simp; omega) (by simp [Value.ownBlock]; omega))).trans ((Y7.out.alloc _).c j v hv)
            · exact (World.frozen?_of_block (hgr8.block w5.heap.size (by simp; omega) (by simp [Value.ownBlock]; omega))).trans ((Y7.out.alloc _).f j)
          have Z8 := Lib.hid (Y8.out.below hb8 (by omega))
          have T8 := Lib.hid (T7.out.keep ((hgr8.block w5.heap.size (by simp; omega) (by simp [Value.ownBlock]; omega)).trans (heap_alloc_old w7 _ (by omega))))
          have Z9 := Lib.hid (Y9.out.below hb8 (by omega))
          have HB8 := Lib.hid (HB7.out.trans (hb8.mono (by omega)))
          have e0 := Z7.out.c 0 _ rfl
          have e2 := Z8.out.c 1 _ rfl
          have x0 := Z7.out.f 0
          clear c0 d2 c1 d3 hown8 hgrow8 hgr8 hat8 hlt8 Y7 Y8 Y9 HR7 HSS7 HB7 HO7 hb8
          refine hK.out _ _ e2 (fun hHeld => ?_); clear hK K; (try simp only [Act.put, List.setIfInBounds_toArray, List.set_cons_zero, List.set_cons_succ])
          refine wpAnyH_take (i := 10) (oi := ⟨some 38, _, _, _, _, _⟩) (v := ?_) rfl (by kernel_rfl) (by kernel_rfl) (by kernel_rfl) (fun _ _ _ h => h) (Or.inl ⟨by rfl, ?_⟩) (by assumption) ?_; rotate_left; (focus (intro w hSw; (try dsimp only at hSw); go_simp; (try with_reducible rfl))); (try simp only [Act.put, List.setIfInBounds_toArray, List.set_cons_zero, List.set_cons_succ])
          refine wpAnyH_ready (rs := [11]) (by kernel_rfl) (by simp) ?_; refine AllReadyH.cons (o := ⟨none, _, _, _, _, _⟩) rfl (fun K hK => ?_) AllReadyH.nil; go_simp
          obtain ⟨V, hV⟩ : ∃ V : Value, V = .slice (some ⟨gg, 0, none⟩) (k + 1) cap := ⟨_, rfl⟩
          obtain ⟨W9, hW9⟩ : ∃ W, W = w8.setCell ⟨w5.heap.size, 0, none⟩ V := ⟨_, rfl⟩
          have U7 : Bx w5.heap.size [V, .int .i64 j] W9 := by rw [hW9]; exact Z7.out.set 0 (by simp) V
          have U8 : Bx (w.heap.size + 1) [.slice A1 n5 c1, .int .i64 j] W9 := by rw [hW9]; exact Z8.out.other _ (by show w.heap.size + 1 ≠ w5.heap.size; omega) _
          have U9 : Bx (w.heap.size + 2) [.slice none 0 0, .int .i64 0] W9 := by rw [hW9]; exact Z9.out.other _ (by show w.heap.size + 2 ≠ w5.heap.size; omega) _
          have HO9 : Hid (OwSS (w.heap.size + 3) w8.heap.size V (k + 1) (ss.take k ++ [xs]) W9) := by
            rw [hW9, hV]
            exact OwSS.setT HO8.out T8.out (by decide) (by decide) 0 _
          have T9 : Hid (Tg w5.heap.size 28 W9) := by rw [hW9]; exact T8.out.set _ _
          have HB9 : Hid (Below w.heap.size w W9) := by rw [hW9]; exact HB8.out.setCell (by simp; omega) _
          have hs9 : W9.heap.size = w8.heap.size := by rw [hW9]; simp [World.setCell]
          rw [← hV, ← hW9]
          have HV := Lib.hid hV
          have y0 := U7.c 0 _ rfl
          have y1 := U7.c 1 _ rfl
          have y2 := U8.c 1 _ rfl
          have y3 := U9.c 0 _ rfl
          have y4 := U9.c 1 _ rfl
          have z0 := U7.f 1
          have z1 := U9.f 0
          have z2 := U9.f 1
          clear hV hW9 e0 e2 x0 U7 U8 U9 HO8 HB8
          refine hK.out _ _ y2 (fun hHeld => ?_); clear hK K; (try simp only [Act.put, List.setIfInBounds_toArray, List.set_cons_zero, List.set_cons_succ])
          refine wpAnyH_done (by kernel_rfl) ?_ _
          go_upto_region 6 with fail
          obtain ⟨W10, hW10⟩ : ∃ W, W = W9.setCell ⟨w5.heap.size, 1, none⟩ (.int .i64 k) := ⟨_, rfl⟩
          have ho := HO9.out
          rw [HV.out] at ho
          have o1 := ho.setT T9.out (by decide) (by decide) 1 (.int .i64 k)
          have hb10 : Below w.heap.size w W10 := by rw [hW10]; exact HB9.out.setCell (by simp; omega) _
          have hs10 : W10.heap.size = w8.heap.size := by rw [hW10]; simp [World.setCell]; exact hs9
          have u0 : W10.cell? ⟨w5.heap.size, 0, none⟩ = some (.slice (some ⟨gg, 0, none⟩) (k + 1) cap) := by rw [hW10, World.cell?_setCell_other _ _ _ _ (by simp), ← HV.out]; exact y0
          have u1 : W10.cell? ⟨w5.heap.size, 1, none⟩ = some (.int .i64 k) := by rw [hW10]; exact World.cell?_setCell_same _ _ _ y1
          have u3 : W10.cell? ⟨w.heap.size + 1 + 1, 0, none⟩ = some (.slice none 0 0) := by rw [hW10, World.cell?_setCell_other _ _ _ _ (by simp; try omega)]; exact y3
          have u4 : W10.cell? ⟨w.heap.size + 1 + 1, 1, none⟩ = some (.int .i64 0) := by rw [hW10, World.cell?_setCell_other _ _ _ _ (by simp; try omega)]; exact y4
          have v1 : W10.frozen? ⟨w.heap.size + 1 + 1, 0, none⟩ = false := by rw [hW10, World.frozen?_setCell]; exact z1
          have v2 : W10.frozen? ⟨w.heap.size + 1 + 1, 1, none⟩ = false := by rw [hW10, World.frozen?_setCell]; exact z2
          rw [← hW10] at o1 ⊢
          have HO10 := Lib.hid o1
          have HB10 := Lib.hid hb10
          clear hW10 hb10 o1 ho y0 y1 y2 y3 y4 z0 z1 z2 T9 HO9 HB9
          go_wp2
          refine bodyPost_ret (v := .tuple #[.agg #[.slice (some ⟨gg, 0, none⟩) (k + 1) cap, .int .i64 k], .bool true]) (by simp [results, Try.results20, go_sem, u3, u4]) rfl ?_
          rw [← HKJ.out, show (j : Int) + 1 = (k : Int) by have := HKJ.out; omega]
          have o2 := HO10.out.setCell (a := ⟨w.heap.size + 2, 0, none⟩) (by simp) (.slice (some ⟨gg, 0, none⟩) (k + 1) cap)
          have o3 := o2.setCell (a := ⟨w.heap.size + 2, 1, none⟩) (by simp) (.int .i64 k)
          refine ⟨_, _, _, rfl, ?_, (HB10.out.setCell (by simp; omega) _).setCell (by simp; omega) _⟩
          have o5 := o3.mono (lo' := w.heap.size) (hi' := w8.heap.size) (by omega) (Nat.le_refl _)
          simpa [World.setCell, OwH, hs10] using o5
        · go_simp
          go_at_call 40
          refine (HCI.out W6.drew (by show w.heap.size ≤ W6.heap.size; omega) HX7.out).mono ?_
          rintro e w7 ⟨g7, c7, rfl, ho7', hb7'⟩
          have hb7 : Below W6.heap.size W6 w7 := below_of_drew hb7'
          have ho7 : w7.ownsRow W6.heap.size 3 1 (.slice (some ⟨g7, 0, none⟩) m2 c7) m2 (xs.map (Value.int .i64)) := ho7'
          have Y7 := Lib.hid (Y6.out.step hb7)
          have Y8 := Lib.hid (Y1.out.step hb7)
          have Y9 := Lib.hid (Y2.out.step hb7)
          have T7 := Lib.hid (T6.out.below hb7 (by omega))
          have hs7 := hb7.size
          have HR7 := Lib.hid (HR6.out.keep (w' := w7) fun k _ hk => hb7.block k (by omega))
          have HSS7 := Lib.hid (HSS6.out.keep (w' := w7) fun k _ hk => hb7.block k (by omega))
          have HB7 := Lib.hid (HB6.out.trans (hb7.mono (by omega)))
          have c0 := Y7.out.c 0 _ rfl
          have d2 := Y8.out.c 1 _ rfl
          have HO7 := Lib.hid (own_mono ho7 (base' := w5.heap.size) (by omega))
          clear b0 a2 ho7' hb7' ho7 hb7 Y6 Y1 Y2 HR6 HSS6 HB6 HX7 HO6
          refine hK.out _ _ d2 (fun hHeld => ?_); clear hK K; (try simp only [Act.put, List.setIfInBounds_toArray, List.set_cons_zero, List.set_cons_succ])
          refine wpAnyH_ready (rs := [1, 8]) (by kernel_rfl) (by simp) ?_; refine AllReadyH.cons (o := ⟨some 29, _, _, _, _, _⟩) rfl (fun K hK => ?_) (AllReadyH.cons (o := ⟨some 36, _, _, _, _, _⟩) rfl (fun K hK => ?_) AllReadyH.nil)
          · go_simp
            refine hK.out _ _ d2 (fun hHeld => ?_); clear hK K; (try simp only [Act.put, List.setIfInBounds_toArray, List.set_cons_zero, List.set_cons_succ])
            refine wpAnyH_take (i := 5) (oi := ⟨some 33, _, _, _, _, _⟩) (v := ?_) rfl (by kernel_rfl) (by kernel_rfl) (by kernel_rfl) (fun _ _ _ h => h) (Or.inl ⟨by rfl, ?_⟩) (by assumption) ?_; rotate_left; (focus (intro w hSw; (try dsimp only at hSw); go_simp; (try with_reducible rfl))); (try simp only [Act.put, List.setIfInBounds_toArray, List.set_cons_zero, List.set_cons_succ])
            refine wpAnyH_ready (rs := [8]) (by kernel_rfl) (by simp) ?_; refine AllReadyH.cons (o := ⟨some 36, _, _, _, _, _⟩) rfl (fun K hK => ?_) AllReadyH.nil; go_simp
            have d3 := (Y8.out.alloc (.cells #[.slice (some ⟨g7, 0, none⟩) m2 c7] 33)).c 1 _ rfl
            have c1 := (Y7.out.alloc (.cells #[.slice (some ⟨g7, 0, none⟩) m2 c7] 33)).c 0 _ rfl
            refine hK.out _ _ d3 (fun hHeld => ?_); clear hK K; (try simp only [Act.put, List.setIfInBounds_toArray, List.set_cons_zero, List.set_cons_succ])
            refine wpAnyH_ready (rs := [9]) (by kernel_rfl) (by simp) ?_; refine AllReadyH.cons (o := ⟨some 37, _, _, _, _, _⟩) rfl (fun K hK => ?_) AllReadyH.nil
            refine step_append_lies _ (by rfl) _ _ _ (by rfl) (w.heap.size + 3) 33 i1 (.slice none 0 0) 1 24 Try.underlying26 hi hz0 hz1 hz2 rfl (by omega) (.slice (some ⟨g5, 0, none⟩) k c5) k _ (by rfl) (HR7.out.1.alloc _) ⟨w7.heap.size, 0, none⟩ 1 1 [.slice (some ⟨g7, 0, none⟩) m2 c7] (by rfl) (by rfl) (cells_new _ _ _ _ rfl) (by simp [Value.oneCell']) (by omega) (by unfold maxLen; omega) (by omega) (by simp; omega) (w7.heap.size + 1) (by simp) ?_
            intro gg cap w8 hown8 hgrow8 hat8 hlt8
            have hgr8 : (w7.alloc (.cells #[.slice (some ⟨g7, 0, none⟩) m2 c7] 33)).grownBy w8 (Value.slice (some ⟨g5, 0, none⟩) k c5).ownBlock := ⟨hgrow8.os, hgrow8.tape, hgrow8.output, hgrow8.size, hgrow8.block⟩
            have hb8 : Below (w.heap.size + 3) w7 w8 := ((Below.refl _ _).alloc (by omega) _).grown hgr8 (by simp; omega) (fun q hq => by cases hq; exact hgl6.1)
            have hs8 : w7.heap.size ≤ w8.heap.size := hb8.size
            have HO8 := Lib.hid (OwSS.snoc2 (by rw [List.length_take]; have := HM.out; omega) HR7.out HSS7.out HO7.out HM2.out hown8 hgr8 (by omega))
            have Z7 : Hid (Bx w5.heap.size [.slice (some ⟨g5, 0, none⟩) n5 c5, .int .i64 j] w8) := by
              refine ⟨by omega, fun j v hv => ?_, fun j => ?_⟩
              · exact (World.cell?_of_block (hgr8.block w5.heap.size (by simp; omega) (by simp [Value.ownBlock]; omega))).trans ((Y7.out.alloc _).c j v hv)
              · exact (World.frozen?_of_block (hgr8.block w5.heap.size (by simp; omega) (by simp [Value.ownBlock]; omega))).trans ((Y7.out.alloc _).f j)
            have Z8 := Lib.hid (Y8.out.below hb8 (by omega))
            have T8 := Lib.hid (T7.out.keep ((hgr8.block w5.heap.size (by simp; omega) (by simp [Value.ownBlock]; omega)).trans (heap_alloc_old w7 _ (by omega))))
            have Z9 := Lib.hid (Y9.out.below hb8 (by omega))
            have HB8 := Lib.hid (HB7.out.trans (hb8.mono (by omega)))
            have e0 := Z7.out.c 0 _ rfl
            have e2 := Z8.out.c 1 _ rfl
            have x0 := Z7.out.f 0
            clear c0 d2 c1 d3 hown8 hgrow8 hgr8 hat8 hlt8 Y7 Y8 Y9 HR7 HSS7 HB7 HO7 hb8
            refine hK.out _ _ e2 (fun hHeld => ?_); clear hK K; (try simp only [Act.put, List.setIfInBounds_toArray, List.set_cons_zero, List.set_cons_succ])
            refine wpAnyH_take (i := 10) (oi := ⟨some 38, _, _, _, _, _⟩) (v := ?_) rfl (by kernel_rfl) (by kernel_rfl) (by kernel_rfl) (fun _ _ _ h => h) (Or.inl ⟨by rfl, ?_⟩) (by assumption) ?_; rotate_left; (focus (intro w hSw; (try dsimp only at hSw); go_simp; (try with_reducible rfl))); (try simp only [Act.put, List.setIfInBounds_toArray, List.set_cons_zero, List.set_cons_succ])
            refine wpAnyH_ready (rs := [11]) (by kernel_rfl) (by simp) ?_; refine AllReadyH.cons (o := ⟨none, _, _, _, _, _⟩) rfl (fun K hK => ?_) AllReadyH.nil; go_simp
            obtain ⟨V, hV⟩ : ∃ V : Value, V = .slice (some ⟨gg, 0, none⟩) (k + 1) cap := ⟨_, rfl⟩
            obtain ⟨W9, hW9⟩ : ∃ W, W = w8.setCell ⟨w5.heap.size, 0, none⟩ V := ⟨_, rfl⟩
            have U7 : Bx w5.heap.size [V, .int .i64 j] W9 := by rw [hW9]; exact Z7.out.set 0 (by simp) V
            have U8 : Bx (w.heap.size + 1) [.slice A1 n5 c1, .int .i64 j] W9 := by rw [hW9]; exact Z8.out.other _ (by show w.heap.size + 1 ≠ w5.heap.size; omega) _
            have U9 : Bx (w.heap.size + 2) [.slice none 0 0, .int .i64 0] W9 := by rw [hW9]; exact Z9.out.other _ (by show w.heap.size + 2 ≠ w5.heap.size; omega) _
            have HO9 : Hid (OwSS (w.heap.size + 3) w8.heap.size V (k + 1) (ss.take k ++ [xs]) W9) := by
              rw [hW9, hV]
              exact OwSS.setT HO8.out T8.out (by decide) (by decide) 0 _
            have T9 : Hid (Tg w5.heap.size 28 W9) := by rw [hW9]; exact T8.out.set _ _
            have HB9 : Hid (Below w.heap.size w W9) := by rw [hW9]; exact HB8.out.setCell (by simp; omega) _
            have hs9 : W9.heap.size = w8.heap.size := by rw [hW9]; simp [World.setCell]
            rw [← hV, ← hW9]
            have HV := Lib.hid hV
            have y0 := U7.c 0 _ rfl
            have y1 := U7.c 1 _ rfl
            have y2 := U8.c 1 _ rfl
            have y3 := U9.c 0 _ rfl
            have y4 := U9.c 1 _ rfl
            have z0 := U7.f 1
            have z1 := U9.f 0
            have z2 := U9.f 1
            clear hV hW9 e0 e2 x0 U7 U8 U9 HO8 HB8
            refine hK.out _ _ y2 (fun hHeld => ?_); clear hK K; (try simp only [Act.put, List.setIfInBounds_toArray, List.set_cons_zero, List.set_cons_succ])
            refine wpAnyH_done (by kernel_rfl) ?_ _
            go_upto_region 6 with fail
            obtain ⟨W10, hW10⟩ : ∃ W, W = W9.setCell ⟨w5.heap.size, 1, none⟩ (.int .i64 k) := ⟨_, rfl⟩
            have ho := HO9.out
            rw [HV.out] at ho
            have o1 := ho.setT T9.out (by decide) (by decide) 1 (.int .i64 k)
            have hb10 : Below w.heap.size w W10 := by rw [hW10]; exact HB9.out.setCell (by simp; omega) _
            have hs10 : W10.heap.size = w8.heap.size := by rw [hW10]; simp [World.setCell]; exact hs9
            have u0 : W10.cell? ⟨w5.heap.size, 0, none⟩ = some (.slice (some ⟨gg, 0, none⟩) (k + 1) cap) := by rw [hW10, World.cell?_setCell_other _ _ _ _ (by simp), ← HV.out]; exact y0
            have u1 : W10.cell? ⟨w5.heap.size, 1, none⟩ = some (.int .i64 k) := by rw [hW10]; exact World.cell?_setCell_same _ _ _ y1
            have u3 : W10.cell? ⟨w.heap.size + 1 + 1, 0, none⟩ = some (.slice none 0 0) := by rw [hW10, World.cell?_setCell_other _ _ _ _ (by simp; try omega)]; exact y3
            have u4 : W10.cell? ⟨w.heap.size + 1 + 1, 1, none⟩ = some (.int .i64 0) := by rw [hW10, World.cell?_setCell_other _ _ _ _ (by simp; try omega)]; exact y4
            have v1 : W10.frozen? ⟨w.heap.size + 1 + 1, 0, none⟩ = false := by rw [hW10, World.frozen?_setCell]; exact z1
            have v2 : W10.frozen? ⟨w.heap.size + 1 + 1, 1, none⟩ = false := by rw [hW10, World.frozen?_setCell]; exact z2
            rw [← hW10] at o1 ⊢
            have HO10 := Lib.hid o1
            have HB10 := Lib.hid hb10
            clear hW10 hb10 o1 ho y0 y1 y2 y3 y4 z0 z1 z2 T9 HO9 HB9
            go_wp2
            refine bodyPost_ret (v := .tuple #[.agg #[.slice (some ⟨gg, 0, none⟩) (k + 1) cap, .int .i64 k], .bool true]) (by simp [results, Try.results20, go_sem, u3, u4]) rfl ?_
            rw [← HKJ.out, show (j : Int) + 1 = (k : Int) by have := HKJ.out; omega]
            have o2 := HO10.out.setCell (a := ⟨w.heap.size + 2, 0, none⟩) (by simp) (.slice (some ⟨gg, 0, none⟩) (k + 1) cap)
            have o3 := o2.setCell (a := ⟨w.heap.size + 2, 1, none⟩) (by simp) (.int .i64 k)
            refine ⟨_, _, _, rfl, ?_, (HB10.out.setCell (by simp; omega) _).setCell (by simp; omega) _⟩
            have o5 := o3.mono (lo' := w.heap.size) (hi' := w8.heap.size) (by omega) (Nat.le_refl _)
            simpa [World.setCell, OwH, hs10] using o5
          · go_simp
            have d3 := (Y8.out.alloc (.cells #[.slice (some ⟨g7, 0, none⟩) m2 c7] 33)).c 1 _ rfl
            have c1 := (Y7.out.alloc (.cells #[.slice (some ⟨g7, 0, none⟩) m2 c7] 33)).c 0 _ rfl
            refine hK.out _ _ d3 (fun hHeld => ?_); clear hK K; (try simp only [Act.put, List.setIfInBounds_toArray, List.set_cons_zero, List.set_cons_succ])
            refine wpAnyH_ready (rs := [1]) (by kernel_rfl) (by simp) ?_; refine AllReadyH.cons (o := ⟨some 29, _, _, _, _, _⟩) rfl (fun K hK => ?_) AllReadyH.nil; go_simp
            refine hK.out _ _ d3 (fun hHeld => ?_); clear hK K; (try simp only [Act.put, List.setIfInBounds_toArray, List.set_cons_zero, List.set_cons_succ])
            refine wpAnyH_take (i := 5) (oi := ⟨some 33, _, _, _, _, _⟩) (v := ?_) rfl (by kernel_rfl) (by kernel_rfl) (by kernel_rfl) (fun _ _ _ h => h) (Or.inl ⟨by rfl, ?_⟩) (by assumption) ?_; rotate_left; (focus (intro w hSw; (try dsimp only at hSw); go_simp; (try with_reducible rfl))); (try simp only [Act.put, List.setIfInBounds_toArray, List.set_cons_zero, List.set_cons_succ])
            refine wpAnyH_ready (rs := [9]) (by kernel_rfl) (by simp) ?_; refine AllReadyH.cons (o := ⟨some 37, _, _, _, _, _⟩) rfl (fun K hK => ?_) AllReadyH.nil
            refine step_append_lies _ (by rfl) _ _ _ (by rfl) (w.heap.size + 3) 33 i1 (.slice none 0 0) 1 24 Try.underlying26 hi hz0 hz1 hz2 rfl (by omega) (.slice (some ⟨g5, 0, none⟩) k c5) k _ (by rfl) (HR7.out.1.alloc _) ⟨w7.heap.size, 0, none⟩ 1 1 [.slice (some ⟨g7, 0, none⟩) m2 c7] (by rfl) (by rfl) (cells_new _ _ _ _ rfl) (by simp [Value.oneCell']) (by omega) (by unfold maxLen; omega) (by omega) (by simp; omega) (w7.heap.size + 1) (by simp) ?_
            intro gg cap w8 hown8 hgrow8 hat8 hlt8
            have hgr8 : (w7.alloc (.cells #[.slice (some ⟨g7, 0, none⟩) m2 c7] 33)).grownBy w8 (Value.slice (some ⟨g5, 0, none⟩) k c5).ownBlock := ⟨hgrow8.os, hgrow8.tape, hgrow8.output, hgrow8.size, hgrow8.block⟩
            have hb8 : Below (w.heap.size + 3) w7 w8 := ((Below.refl _ _).alloc (by omega) _).grown hgr8 (by simp; omega) (fun q hq => by cases hq; exact hgl6.1)
            have hs8 : w7.heap.size ≤ w8.heap.size := hb8.size
            have HO8 := Lib.hid (OwSS.snoc2 (by rw [List.length_take]; have := HM.out; omega) HR7.out HSS7.out HO7.out HM2.out hown8 hgr8 (by omega))
            have Z7 : Hid (Bx w5.heap.size [.slice (some ⟨g5, 0, none⟩) n5 c5, .int .i64 j] w8) := by
              refine ⟨by omega, fun j v hv => ?_, fun j => ?_⟩
              · exact (World.cell?_of_block (hgr8.block w5.heap.size (by simp; omega) (by simp [Value.ownBlock]; omega))).trans ((Y7.out.alloc _).c j v hv)
              · exact (World.frozen?_of_block (hgr8.block w5.heap.size (by simp; omega) (by simp [Value.ownBlock]; omega))).trans ((Y7.out.alloc _).f j)
            have Z8 := Lib.hid (Y8.out.below hb8 (by omega))
            have T8 := Lib.hid (T7.out.keep ((hgr8.block w5.heap.size (by simp; omega) (by simp [Value.ownBlock]; omega)).trans (heap_alloc_old w7 _ (by omega))))
            have Z9 := Lib.hid (Y9.out.below hb8 (by omega))
            have HB8 := Lib.hid (HB7.out.trans (hb8.mono (by omega)))
            have e0 := Z7.out.c 0 _ rfl
            have e2 := Z8.out.c 1 _ rfl
            have x0 := Z7.out.f 0
            clear c0 d2 c1 d3 hown8 hgrow8 hgr8 hat8 hlt8 Y7 Y8 Y9 HR7 HSS7 HB7 HO7 hb8
            refine hK.out _ _ e2 (fun hHeld => ?_); clear hK K; (try simp only [Act.put, List.setIfInBounds_toArray, List.set_cons_zero, List.set_cons_succ])
            refine wpAnyH_take (i := 10) (oi := ⟨some 38, _, _, _, _, _⟩) (v := ?_) rfl (by kernel_rfl) (by kernel_rfl) (by kernel_rfl) (fun _ _ _ h => h) (Or.inl ⟨by rfl, ?_⟩) (by assumption) ?_; rotate_left; (focus (intro w hSw; (try dsimp only at hSw); go_simp; (try with_reducible rfl))); (try simp only [Act.put, List.setIfInBounds_toArray, List.set_cons_zero, List.set_cons_succ])
            refine wpAnyH_ready (rs := [11]) (by kernel_rfl) (by simp) ?_; refine AllReadyH.cons (o := ⟨none, _, _, _, _, _⟩) rfl (fun K hK => ?_) AllReadyH.nil; go_simp
            obtain ⟨V, hV⟩ : ∃ V : Value, V = .slice (some ⟨gg, 0, none⟩) (k + 1) cap := ⟨_, rfl⟩
            obtain ⟨W9, hW9⟩ : ∃ W, W = w8.setCell ⟨w5.heap.size, 0, none⟩ V := ⟨_, rfl⟩
            have U7 : Bx w5.heap.size [V, .int .i64 j] W9 := by rw [hW9]; exact Z7.out.set 0 (by simp) V
            have U8 : Bx (w.heap.size + 1) [.slice A1 n5 c1, .int .i64 j] W9 := by rw [hW9]; exact Z8.out.other _ (by show w.heap.size + 1 ≠ w5.heap.size; omega) _
            have U9 : Bx (w.heap.size + 2) [.slice none 0 0, .int .i64 0] W9 := by rw [hW9]; exact Z9.out.other _ (by show w.heap.size + 2 ≠ w5.heap.size; omega) _
            have HO9 : Hid (OwSS (w.heap.size + 3) w8.heap.size V (k + 1) (ss.take k ++ [xs]) W9) := by
              rw [hW9, hV]
              exact OwSS.setT HO8.out T8.out (by decide) (by decide) 0 _
            have T9 : Hid (Tg w5.heap.size 28 W9) := by rw [hW9]; exact T8.out.set _ _
            have HB9 : Hid (Below w.heap.size w W9) := by rw [hW9]; exact HB8.out.setCell (by simp; omega) _
            have hs9 : W9.heap.size = w8.heap.size := by rw [hW9]; simp [World.setCell]
            rw [← hV, ← hW9]
            have HV := Lib.hid hV
            have y0 := U7.c 0 _ rfl
            have y1 := U7.c 1 _ rfl
            have y2 := U8.c 1 _ rfl
            have y3 := U9.c 0 _ rfl
            have y4 := U9.c 1 _ rfl
            have z0 := U7.f 1
            have z1 := U9.f 0
            have z2 := U9.f 1
            clear hV hW9 e0 e2 x0 U7 U8 U9 HO8 HB8
            refine hK.out _ _ y2 (fun hHeld => ?_); clear hK K; (try simp only [Act.put, List.setIfInBounds_toArray, List.set_cons_zero, List.set_cons_succ])
            refine wpAnyH_done (by kernel_rfl) ?_ _
            go_upto_region 6 with fail
            obtain ⟨W10, hW10⟩ : ∃ W, W = W9.setCell ⟨w5.heap.size, 1, none⟩ (.int .i64 k) := ⟨_, rfl⟩
            have ho := HO9.out
            rw [HV.out] at ho
            have o1 := ho.setT T9.out (by decide) (by decide) 1 (.int .i64 k)
            have hb10 : Below w.heap.size w W10 := by rw [hW10]; exact HB9.out.setCell (by simp; omega) _
            have hs10 : W10.heap.size = w8.heap.size := by rw [hW10]; simp [World.setCell]; exact hs9
            have u0 : W10.cell? ⟨w5.heap.size, 0, none⟩ = some (.slice (some ⟨gg, 0, none⟩) (k + 1) cap) := by rw [hW10, World.cell?_setCell_other _ _ _ _ (by simp), ← HV.out]; exact y0
            have u1 : W10.cell? ⟨w5.heap.size, 1, none⟩ = some (.int .i64 k) := by rw [hW10]; exact World.cell?_setCell_same _ _ _ y1
            have u3 : W10.cell? ⟨w.heap.size + 1 + 1, 0, none⟩ = some (.slice none 0 0) := by rw [hW10, World.cell?_setCell_other _ _ _ _ (by simp; try omega)]; exact y3
            have u4 : W10.cell? ⟨w.heap.size + 1 + 1, 1, none⟩ = some (.int .i64 0) := by rw [hW10, World.cell?_setCell_other _ _ _ _ (by simp; try omega)]; exact y4
            have v1 : W10.frozen? ⟨w.heap.size + 1 + 1, 0, none⟩ = false := by rw [hW10, World.frozen?_setCell]; exact z1
            have v2 : W10.frozen? ⟨w.heap.size + 1 + 1, 1, none⟩ = false := by rw [hW10, World.frozen?_setCell]; exact z2
            rw [← hW10] at o1 ⊢
            have HO10 := Lib.hid o1
            have HB10 := Lib.hid hb10
            clear hW10 hb10 o1 ho y0 y1 y2 y3 y4 z0 z1 z2 T9 HO9 HB9
            go_wp2
            refine bodyPost_ret (v := .tuple #[.agg #[.slice (some ⟨gg, 0, none⟩) (k + 1) cap, .int .i64 k], .bool true]) (by simp [results, Try.results20, go_sem, u3, u4]) rfl ?_
            rw [← HKJ.out, show (j : Int) + 1 = (k : Int) by have := HKJ.out; omega]
            have o2 := HO10.out.setCell (a := ⟨w.heap.size + 2, 0, none⟩) (by simp) (.slice (some ⟨gg, 0, none⟩) (k + 1) cap)
            have o3 := o2.setCell (a := ⟨w.heap.size + 2, 1, none⟩) (by simp) (.int .i64 k)
            refine ⟨_, _, _, rfl, ?_, (HB10.out.setCell (by simp; omega) _).setCell (by simp; omega) _⟩
            have o5 := o3.mono (lo' := w.heap.size) (hi' := w8.heap.size) (by omega) (Nat.le_refl _)
            simpa [World.setCell, OwH, hs10] using o5
theorem commitB_ok (gs : List Nd) (st : Hi) (xs : List Int) : (validHi gs st && validC gs xs) = (validHi gs st && okC gs xs) := by
  unfold okC
  cases h : validHi gs st
  · rfl
  · rw [(validHi_parts h).1]; rfl
set_option maxRecDepth 100000 in
set_option maxHeartbeats 3200000 in
theorem top_impl_CommitCells (gs : List Nd) (st : Hi) (xs : List Int) (hG : GB gs) (hH : HiB st) (hL : xs.length ≤ 1048576) : ∀ (A : Option Addr) (n c : Nat) (A1 : Option Addr) (m c1 : Nat) (A2 : Option Addr) (m2 c2 : Nat) (w : World), n = gs.length → n ≤ c → GS w w.heap.size A gs → m = st.ss.length → m ≤ c1 → HiS w w.heap.size A1 st → m2 = xs.length → IS w w.heap.size A2 xs →
    Calls Try.prog 19 #[.agg #[.slice A n c], .agg #[.slice A1 m c1, .int .i64 st.ix], .slice A2 m2 c2] w fun e w' => RetHB w (commitH gs st xs) (commitB gs st xs) e w' := by
  intro A n c A1 m c1 A2 m2 c2 w hn hnc h hm hmc h1 hm2 h2
  have hml : m2 ≤ 2000000 := by omega
  have H := Lib.hid h
  have HI := Lib.hid h1
  have HX := Lib.hid h2
  have HM2 := Lib.hid hm2
  have HV := Lib.hid fun (w' : World) (hB : w.heap.size ≤ w'.heap.size) (h : GS w' w.heap.size A gs) (h' : HiS w' w.heap.size A1 st) => impl_ValidHistory A A1 n c m c1 gs st w' w.heap.size hB hn hnc hm h h' hG hH
  have HD := Lib.hid fun (w' : World) (hB : w.heap.size ≤ w'.heap.size) (h : GS w' w.heap.size A gs) (h' : IS w' w.heap.size A2 xs) => impl_ValidCells A A2 n c m2 c2 gs xs w' w.heap.size hB hn hnc hm2 h h' hG hml
  have hsb : SB st.ss := hH.2.1
  have HCI := Lib.hid fun (w' : World) (hB : w.heap.size ≤ w'.heap.size) (h : IS w' w.heap.size A2 xs) => impl_copyOf A2 m2 c2 xs w' w.heap.size hB hm2 h hml
  have hHb : commitB gs st xs = (validHi gs st && okC gs xs && !(st.ix + 1 == 10)) := by unfold commitB; rw [commitB_ok]
  have hHf : commitH gs st xs = if (validHi gs st && okC gs xs && !(st.ix + 1 == 10)) then ⟨st.ss.take (st.ix + 1).toNat ++ [xs], st.ix + 1⟩ else ⟨[], 0⟩ := by unfold commitH; rw [hHb]
  have HVP := Lib.hid (fun hv : validHi gs st = true => validHi_parts hv)
  rw [hHb, hHf]
  generalize hv : validHi gs st = v at *
  generalize hu : okC gs xs = u at *
  have HM := Lib.hid hm
  have HSB := Lib.hid hsb
  obtain ⟨ss, ix⟩ := st
  dsimp only at *
  clear hHb hHf h h1 h2 hn hm hm2 hG hH hv hu hsb
  obtain ⟨W3, hW3⟩ : ∃ W, W = ((w.alloc (.cells #[.slice A n c] 25)).alloc (.cells #[.slice A1 m c1, .int .i64 ix] 28)).alloc (.cells #[.slice none 0 0, .int .i64 0] 28) := ⟨_, rfl⟩
  have hb3 : Below w.heap.size w W3 := by rw [hW3]; exact (((Below.refl _ _).alloc (Nat.le_refl _) _).alloc (by simp) _).alloc (by simp; try omega) _
  have hs3 : w.heap.size + 3 ≤ W3.heap.size := by rw [hW3]; simp
  have hx0 : Bx w.heap.size [.slice A n c] W3 := by rw [hW3]; exact ((Bx.start w _ _).alloc _).alloc _
  have hx1 : Bx (w.heap.size + 1) [.slice A1 m c1, .int .i64 ix] W3 := by rw [hW3]; have := (Bx.start (w.alloc (.cells #[.slice A n c] 25)) #[.slice A1 m c1, .int .i64 ix] 28).alloc (.cells #[.slice none 0 0, .int .i64 0] 28); simpa using this
  have hx2 : Bx (w.heap.size + 2) [.slice none 0 0, .int .i64 0] W3 := by rw [hW3]; have := Bx.start ((w.alloc (.cells #[.slice A n c] 25)).alloc (.cells #[.slice A1 m c1, .int .i64 ix] 28)) #[.slice none 0 0, .int .i64 0] 28; simpa using this
  have HG3 := Lib.hid (H.out.below hb3 (Nat.le_refl _))
  have HI3 := Lib.hid (show HiS W3 w.heap.size A1 ⟨ss, ix⟩ from SS.below HI.out hb3 (Nat.le_refl _))
  have HX3 := Lib.hid (HX.out.below hb3 (Nat.le_refl _))
  have HV3 := Lib.hid (HV.out W3 (by omega) HG3.out HI3.out)
  rw [hW3] at HV3
  have HW3 := Lib.hid hW3
  have HB3 := Lib.hid hb3
  have X0 := Lib.hid hx0
  have X1 := Lib.hid hx1
  have X2 := Lib.hid hx2
  clear hW3 hb3 hx0 hx1 hx2 HV H HI HX
  cases v
  · go_enter Try.func19, Try.ntmps19
    go_wp2_with fail
    refine HV3.out.mono ?_
    rw [← HW3.out]
    rintro e w4 ⟨rfl, hb⟩
    have Y2 := X2.out.step hb
    have r1 := Y2.c 0 _ rfl
    have r2 := Y2.c 1 _ rfl
    have g1 := Y2.f 0
    have g2 := Y2.f 1
    have hs4 := hb.size
    have HB4 := Lib.hid (HB3.out.trans (hb.mono (by omega)))
    clear hb Y2
    go_wp2
    refine bodyPost_ret (v := .tuple #[.agg #[.slice none 0 0, .int .i64 0], .bool false]) (by simp [results, Try.results19, go_sem, r1, r2]) rfl ?_
    exact RetHB.nil ((HB4.out.setCell (by simp; omega) _).setCell (by simp; omega) _)
  · cases u
    · go_enter Try.func19, Try.ntmps19
      go_wp2_with fail
      refine HV3.out.mono ?_
      rw [← HW3.out]
      rintro e w0 ⟨rfl, hb0⟩
      have p0 := (X0.out.step hb0).c 0 _ rfl
      have hs0 := hb0.size
      have HG4 := Lib.hid (HG3.out.below hb0 (by omega))
      have HX4 := Lib.hid (HX3.out.below hb0 (by omega))
      have HB0 := Lib.hid hb0
      clear hb0
      go_wp2_with fail
      refine (HD.out _ (by omega) HG4.out HX4.out).mono ?_
      rintro e w4 ⟨rfl, hb4⟩
      have hb := HB0.out.trans (hb4.mono hs0)
      have Y2 := X2.out.step hb
      have r1 := Y2.c 0 _ rfl
      have r2 := Y2.c 1 _ rfl
      have g1 := Y2.f 0
      have g2 := Y2.f 1
      have hs4 := hb.size
      have HB4 := Lib.hid (HB3.out.trans (hb.mono (by omega)))
      clear hb hb4 Y2 p0
      go_wp2
      refine bodyPost_ret (v := .tuple #[.agg #[.slice none 0 0, .int .i64 0], .bool false]) (by simp [results, Try.results19, go_sem, r1, r2]) rfl ?_
      exact RetHB.nil ((HB4.out.setCell (by simp; omega) _).setCell (by simp; omega) _)
    · obtain ⟨-, hl1, hl10, hi0, hi1, -⟩ := HVP.out rfl
      obtain ⟨j, rfl⟩ : ∃ j : Nat, ix = (j : Int) := ⟨ix.toNat, by omega⟩
      obtain ⟨k, hkj⟩ : ∃ k, k = j + 1 := ⟨_, rfl⟩
      have hjm : k ≤ m := by have := HM.out; omega
      have hk10 : k ≤ 10 := by have := HM.out; omega
      have hwk : IntKind.i64.wrap ((j : Int) + 1) = (k : Int) := by rw [IntKind.wrap_i64, hkj]; omega
      have hkz : ((k : Int) == 10) = (k == 10) := by rw [Bool.eq_iff_iff]; simp; omega
      have HKJ := Lib.hid hkj
      have HTK := Lib.hid fun (w' : World) (hB : w.heap.size ≤ w'.heap.size) (h : SS w' w.heap.size A1 (ss.take k)) => impl_copyStates A1 k c1 (ss.take k) w' w.heap.size hB (by rw [List.length_take]; have := HM.out; omega) h ⟨by have := HSB.out.1; rw [List.length_take]; omega, fun i => by
        have e : (ss.take k).getD i [] = if i < k then ss.getD i [] else [] := by simp only [List.getD, List.getElem?_take]; split <;> rfl
        rw [e]; split
        · exact HSB.out.2 i
        · simp⟩
      have hkc : k ≤ c1 := by omega
      by_cases h9 : j = 9
      · subst h9
        subst hkj
        clear HTK hwk hkz HKJ
        go_enter Try.func19, Try.ntmps19
        go_wp2_with fail
        refine HV3.out.mono ?_
        rw [← HW3.out]
        rintro e w0 ⟨rfl, hb0⟩
        have p0 := (X0.out.step hb0).c 0 _ rfl
        have hs0 := hb0.size
        have HG4 := Lib.hid (HG3.out.below hb0 (by omega))
        have HX4 := Lib.hid (HX3.out.below hb0 (by omega))
        have HB0 := Lib.hid hb0
        clear hb0
        go_wp2_with fail
        refine (HD.out _ (by omega) HG4.out HX4.out).mono ?_
        rintro e w4 ⟨rfl, hb4⟩
        have hb := HB0.out.trans (hb4.mono hs0)
        have hs4 := hb.size
        have X1' := Lib.hid (X1.out.step hb)
        have X2' := Lib.hid (X2.out.step hb)
        have HB4 := Lib.hid (HB3.out.trans (hb.mono (by omega)))
        have HI4 := Lib.hid (show SS w4 w.heap.size A1 ss from SS.below HI3.out hb (by omega))
        have HX5 := Lib.hid (HX3.out.below hb (by omega))
        have a1 := X1'.out.c 0 _ rfl
        have a2 := X1'.out.c 1 _ rfl
        clear hb hb4 p0 X0 X1 X2 HG3 HI3 HX3 HG4 HX4 HB0 HB3 HV3
        have r1 := X2'.out.c 0 _ rfl
        have r2 := X2'.out.c 1 _ rfl
        have g1 := X2'.out.f 0
        have g2 := X2'.out.f 1
        have hs9 : w.heap.size + 2 < w4.heap.size := by omega
        go_wp2
        refine bodyPost_ret (v := .tuple #[.agg #[.slice none 0 0, .int .i64 0], .bool false]) (by simp [results, Try.results19, go_sem, r1, r2]) rfl ?_
        exact RetHB.nil ((HB4.out.setCell (by simp; omega) _).setCell (by simp; omega) _)
      · have h9' : ((k : Int) == 10) = false := by rw [hkz]; simp; omega
        have hz : (if (true && true && !((j : Int) + 1 == 10)) = true then (⟨ss.take ((j : Int) + 1).toNat ++ [xs], (j : Int) + 1⟩ : Hi) else ⟨[], 0⟩) = ⟨ss.take k ++ [xs], (k : Int)⟩ := by
          have e : ((j : Int) + 1 == 10) = false := by simp; omega
          rw [e, hkj]; simp
        have hzb : (true && true && !((j : Int) + 1 == 10)) = true := by
          have e : ((j : Int) + 1 == 10) = false := by simp; omega
          rw [e]; rfl
        rw [hz, hzb]
        clear hkz hkj hz hzb
        go_enter Try.func19, Try.ntmps19
        go_wp2_with fail
        refine HV3.out.mono ?_
        rw [← HW3.out]
        rintro e w0 ⟨rfl, hb0⟩
        have p0 := (X0.out.step hb0).c 0 _ rfl
        have hs0 := hb0.size
        have HG4 := Lib.hid (HG3.out.below hb0 (by omega))
        have HX4 := Lib.hid (HX3.out.below hb0 (by omega))
        have HB0 := Lib.hid hb0
        clear hb0
        go_wp2_with fail
        refine (HD.out _ (by omega) HG4.out HX4.out).mono ?_
        rintro e w4 ⟨rfl, hb4⟩
        have hb := HB0.out.trans (hb4.mono hs0)
        have hs4 := hb.size
        have X1' := Lib.hid (X1.out.step hb)
        have X2' := Lib.hid (X2.out.step hb)
        have HB4 := Lib.hid (HB3.out.trans (hb.mono (by omega)))
        have HI4 := Lib.hid (show SS w4 w.heap.size A1 ss from SS.below HI3.out hb (by omega))
        have HX5 := Lib.hid (HX3.out.below hb (by omega))
        have a1 := X1'.out.c 0 _ rfl
        have a2 := X1'.out.c 1 _ rfl
        clear hb hb4 p0 X0 X1 X2 HG3 HI3 HX3 HG4 HX4 HB0 HB3 HV3
        have HI5 : Hid (SS w4 w.heap.size A1 (ss.take k)) := by
          intro hp
          rw [List.length_take] at hp
          obtain ⟨b, off, e1, e2, e3⟩ := HI4.out (by omega)
          refine ⟨b, off, e1, e2, fun i hi => ?_⟩
          rw [List.length_take] at hi
          have e : (ss.take k).getD i [] = ss.getD i [] := by simp only [List.getD, List.getElem?_take, if_pos (show i < k by omega)]
          rw [e]; exact e3 i (by omega)
        have hkz : 0 ≤ (k : Int) := by omega
        go_wp2_with fail
        refine (HTK.out _ (by omega) HI5.out).mono ?_
        rintro e w5 ⟨v5, rfl, ho5, hb5⟩
        have hlk : (ss.take k).length = k := by rw [List.length_take]; have := HM.out; omega
        rw [hlk] at ho5
        have HLK := Lib.hid hlk
        clear hlk
        obtain ⟨A5, c5, rfl⟩ := ho5.form
        have hs5 := hb5.size
        have Z2 := Lib.hid (X2'.out.step hb5)
        have HB5 := Lib.hid (HB4.out.trans (hb5.mono (by omega)))
        have HX6 := Lib.hid (HX5.out.below hb5 (by omega))
        have HO5 := Lib.hid (ho5.mono (lo' := w.heap.size + 3) (by omega) (Nat.le_refl _))
        clear ho5 hb5 X1' X2' HB4 HI4 HI5 HX5 a1 a2
        go_wp2_with fail
        refine (HCI.out _ (by omega) HX6.out).mono ?_
        rintro e w7 ⟨rfl, ho7, hb7⟩
        have hs7 := hb7.size
        obtain ⟨-, vs, hr5, hss5⟩ := HO5.out
        have HR7 := Lib.hid (hr5.keep (w' := w7) fun q _ hq => hb7.block q hq)
        have HSS7 := Lib.hid (hss5.keep (w' := w7) fun q _ hq => hb7.block q hq)
        have Z3 := Lib.hid (Z2.out.step hb7)
        have HB7 := Lib.hid (HB5.out.trans (hb7.mono (by omega)))
        have HO7 := Lib.hid ho7
        have hbl : ∀ q, (Value.slice A5 k c5).ownBlock = some q → w.heap.size + 3 ≤ q := fun q hq => (hr5.1.lt q hq).1
        have HBL := Lib.hid hbl
        clear hr5 hss5 ho7 hb7 Z2 HB5 HX6 HO5 hbl
        obtain ⟨i1, hi, hz0, hz1, hz2⟩ := info_parts info_ints1
        go_wp2_with (at_builtin; refine wpList_append_own _ rfl _ _ 26 rfl (w.heap.size + 3) 33 i1 (.slice none 0 0) 1 24 Try.underlying26 hi hz0 hz1 hz2 rfl (by decide) _ _ _ rfl (HR7.out.1.alloc _) ⟨_, 0, none⟩ 1 1 [.slice (some ⟨w5.heap.size, 0, none⟩) m2 m2] rfl rfl (cell_one_new _ _ _) ?c2 ?c3 ?c4 ?c5 ?_)
        case c2 => first | rfl | (intro u hu; simp at hu; subst hu; rfl)
        case c3 => unfold maxLen; omega
        case c4 => omega
        case c5 => first | omega | (simp; omega)
        intro v8 w8 hown8 hgr8 _
        have hb8 : Below (w.heap.size + 3) w7 w8 := ((Below.refl _ _).alloc (by omega) _).grown hgr8 (by simp; omega) (fun q hq => HBL.out q hq)
        have hs8 : w7.heap.size ≤ w8.heap.size := hb8.size
        have HO8 := Lib.hid (OwSS.snoc2 HLK.out.symm HR7.out HSS7.out HO7.out HM2.out hown8 hgr8 (by omega))
        have Z8 := Lib.hid (Z3.out.below hb8 (by omega))
        have HB8 := Lib.hid (HB7.out.trans (hb8.mono (by omega)))
        obtain ⟨A8, c8, rfl⟩ := HO8.out.form
        have r1 := Z8.out.c 0 _ rfl
        have r2 := Z8.out.c 1 _ rfl
        have g1 := Z8.out.f 0
        have g2 := Z8.out.f 1
        clear hown8 hgr8 hb8 HR7 HSS7 Z3 HB7 HO7
        go_wp2
        refine bodyPost_ret (v := .tuple #[.agg #[.slice A8 (k + 1) c8, .int .i64 k], .bool true]) (by simp [results, Try.results19, go_sem, r1, r2]) rfl ?_
        have o1 := HO8.out.setCell (a := ⟨w.heap.size + 2, 0, none⟩) (by simp) (.slice A8 (k + 1) c8)
        have o2 := o1.setCell (a := ⟨w.heap.size + 2, 1, none⟩) (by simp) (.int .i64 k)
        refine ⟨_, _, _, rfl, ?_, (HB8.out.setCell (by simp; omega) _).setCell (by simp; omega) _⟩
        have o5 := o2.mono (lo' := w.heap.size) (hi' := w8.heap.size) (by omega) (Nat.le_refl _)
        simpa [World.setCell, OwH] using o5
end Go.Proofs.Ytfooafnfdeofoaa
