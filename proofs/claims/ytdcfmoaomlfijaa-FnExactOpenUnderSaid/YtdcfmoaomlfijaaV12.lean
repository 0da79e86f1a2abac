/- Owners: the standing contracts of NewOwners; copies of owners on both sides. -/
import Derived.Test.YtdcfmoaomlfijaaV7
import Derived.Test.YtdcfmoaomlfijaaV11
import Derived.Test.YtdcfmoaomlfijaaS4

namespace Go.Proofs.Ytdcfmoaomlfijaa
set_option linter.unusedSimpArgs false
set_option linter.unusedVariables false
open Go.RowKit

def newF (xs : List Int) : List On := if ctxOK xs then [⟨-1, true, [], xs⟩] else []
theorem newF_OB (xs : List Int) : OB (newF xs) := by
  unfold newF
  cases h : ctxOK xs
  · exact OB.of_sum (by simp) (by simp [rowsO])
  · have h3 : xs.length = 3 := by unfold ctxOK at h; simp only [Bool.and_eq_true, decide_eq_true_eq] at h; exact h.1
    exact OB.of_sum (by simp) (by simp [rowsO, h3])
theorem ctxOK_len {xs : List Int} (h : ctxOK xs = true) : xs.length = 3 := by unfold ctxOK at h; simp only [Bool.and_eq_true, decide_eq_true_eq] at h; exact h.1

set_option maxRecDepth 100000 in
set_option maxHeartbeats 800000 in
theorem top_impl_NewOwners (xs : List Int) (hL : xs.length ≤ 1048576) : ∀ (A : Option Addr) (n c : Nat) (w : World), n = xs.length → IS w w.heap.size A xs →
    Calls Try.prog 19 #[.slice A n c] w fun e w' => RetO w (newF xs) e w' := by
  intro A n c w hn h
  have HX := Lib.hid (impl_isContext A n c xs w w.heap.size (Nat.le_refl _) hn h (by omega))
  have HC := Lib.hid (impl_copyOf A n c xs w w.heap.size (Nat.le_refl _) hn h (by omega))
  unfold newF
  cases hx : ctxOK xs
  · rw [hx] at HX
    clear hx hn h HC
    simp only [Bool.false_eq_true, if_false]
    go_enter Try.func19, Try.ntmps19
    go_wp2_with fail
    refine HX.out.mono ?_
    rintro e w1 ⟨rfl, rfl⟩
    go_wp2
    go_ret
    exact RetO.nil (Below.refl _ _)
  · rw [hx] at HX
    have HN := Lib.hid hn
    clear hx hn h
    simp only [if_true]
    go_enter Try.func19, Try.ntmps19
    go_wp2_with fail
    refine HX.out.mono ?_
    rintro e w1 ⟨rfl, rfl⟩
    go_wp2_with fail
    refine HC.out.mono ?_
    rintro e w1 ⟨rfl, ho, hb⟩
    have HO := Lib.hid ho
    have HB := Lib.hid hb
    clear ho hb HC HX
    go_wp2
    go_ret
    exact ⟨_, rfl, OwO.single (d := ⟨-1, true, [], xs⟩) (lo := w.heap.size) (mid := w.heap.size) (OwR.nil _ _ _ _ _) rfl (OwR.start HO.out) HN.out (Nat.le_refl _) HB.out.size, HB.out.alloc HB.out.size _⟩

set_option maxRecDepth 100000 in
set_option maxHeartbeats 800000 in
theorem top_spec_NewOwners (xs : List Int) (hL : xs.length ≤ 1048576) : ∀ (A : Option Addr) (n c : Nat) (w : World), n = xs.length → IS w w.heap.size A xs →
    Calls Try.prog 17 #[.slice A n c] w fun e w' => RetO w (newF xs) e w' := by
  intro A n c w hn h
  have HA := Lib.hid (spec_allIn A n c xs (-1) 50 w w.heap.size (Nat.le_refl _) hn h (by omega))
  have HC := Lib.hid (spec_copyIntsA A n c xs w w.heap.size (Nat.le_refl _) hn h (by omega))
  unfold newF
  by_cases h3 : n = 3
  case neg =>
    have hx : ctxOK xs = false := by unfold ctxOK; rw [decide_eq_false (by omega)]; rfl
    have hne : ((n : Int) != 3) = true := by simp; omega
    rw [hx]
    clear hx hn h HC HA h3
    simp only [Bool.false_eq_true, if_false]
    go_enter Try.func17, Try.ntmps17
    go_wp2
    go_ret
    exact RetO.nil (Below.refl _ _)
  have hne : ((n : Int) != 3) = false := by simp; omega
  have hx : ctxOK xs = allR xs (-1) 50 := by unfold ctxOK; rw [decide_eq_true (by omega)]; rfl
  rw [hx]
  have HN := Lib.hid hn
  clear hx hn h h3
  cases ha : allR xs (-1) 50
  · rw [ha] at HA
    clear ha HC
    simp only [Bool.false_eq_true, if_false]
    go_enter Try.func17, Try.ntmps17
    go_wp2_with fail
    refine HA.out.mono ?_
    rintro e w1 ⟨rfl, rfl⟩
    go_wp2
    go_ret
    exact RetO.nil (Below.refl _ _)
  · rw [ha] at HA
    clear ha
    simp only [if_true]
    go_enter Try.func17, Try.ntmps17
    go_wp2_with fail
    refine HA.out.mono ?_
    rintro e w1 ⟨rfl, rfl⟩
    go_wp2_with fail
    refine HC.out.mono ?_
    rintro e w1 ⟨g, cap, rfl, ho, hb⟩
    have HO := Lib.hid ho
    have HB := Lib.hid hb
    clear ho hb HC HA
    go_wp2
    go_ret
    exact ⟨_, rfl, OwO.single (d := ⟨-1, true, [], xs⟩) (lo := w.heap.size) (mid := w.heap.size) (OwR.nil _ _ _ _ _) rfl (OwR.start HO.out) HN.out (Nat.le_refl _) HB.out.size, HB.out.alloc HB.out.size _⟩

theorem Bx4.set3 {b : Nat} {x y z t u : Value} {w : World} (h : Bx4 b x y z t w) : Bx4 b x y z u (w.setCell ⟨b, 3, none⟩ u) :=
  ⟨by simpa [World.setCell] using h.lt, (World.cell?_setCell_other _ _ _ _ (by simp)).trans h.c0, (World.cell?_setCell_other _ _ _ _ (by simp)).trans h.c1, (World.cell?_setCell_other _ _ _ _ (by simp)).trans h.c2, World.cell?_setCell_same _ _ _ h.c3, fun i => (World.frozen?_setCell _ _ _ _).trans (h.f i)⟩

theorem OwO.step {lo hi n : Nat} {v : Value} {ds : List On} {w w' : World} (h : OwO lo hi v n ds w) (hb : Below w.heap.size w w') (hle : hi ≤ w.heap.size) : OwO lo hi v n ds w' := h.keep fun k _ hk => hb.block k (by omega)

set_option maxRecDepth 100000 in
set_option maxHeartbeats 3200000 in
theorem spec_copyOwners (A : Option Addr) (n c : Nat) (ds : List On) (w : World) (B : Nat) (hB : B ≤ w.heap.size) (hn : n = ds.length) (h : OS w B A ds) (hb : OB ds) :
    Calls Try.prog 50 #[.slice A n c] w fun e w' => RetO w ds e w' := by
  obtain ⟨i1, hi1, hy0, hy1, hy2⟩ := info_parts info_owner
  have hnb : n ≤ 1048576 := by rw [hn]; exact hb.1
  have H := Lib.hid h
  have HN := Lib.hid hn
  have HBD := Lib.hid hb
  clear hn h hb
  go_enter Try.func50, Try.ntmps50
  go_wp2
  go_loopw [3, 4] (fun v i wr => ∃ k : Nat, k ≤ n ∧ i = .int .i64 k ∧ Hid (OwO w.heap.size wr.heap.size v k (ds.take k) wr) ∧ Hid (Below w.heap.size w wr) ∧ w.heap.size ≤ wr.heap.size) (fun _ i _ => n - (intOf i).toNat)
  case atStart =>
    refine ⟨0, Nat.zero_le _, rfl, ?_, (Below.refl _ _).alloc (Nat.le_refl _) _, by simp⟩
    have hl := World.ownsRow_lit (e := 50) (size := 4) (base := w.heap.size) w #[] 0 (Nat.le_refl _) (by unfold maxLen; omega) rfl
    exact ⟨rfl, [], [], OwR.start (by simpa using hl), rfl, fun j hj => by simp at hj, ⟨fun j hj => by simp at hj, fun i j v u k _ h1 => by simp at h1⟩⟩
  case round =>
    obtain ⟨k, hk, rfl, HO, HB, hwr⟩ := hrel
    by_cases hlt : k < n
    · obtain ⟨b, off, rfl, hbB, c0, c1, ⟨A1, n1, d1, c2, hn1', hp1⟩, A2, n2, d2, c3, hn2', hp2⟩ := H.out.at_ k (by have := HN.out; omega)
      have hx := HBD.out.2.2 k
      have b0 := (HB.out.cell (p := ⟨b, off + k * 4, none⟩) (by simp; omega)).trans c0
      have b1 := (HB.out.cell (p := ⟨b, off + k * 4 + 1, none⟩) (by simp; omega)).trans c1
      have b2 := (HB.out.cell (p := ⟨b, off + k * 4 + 2, none⟩) (by simp; omega)).trans c2
      have b3 := (HB.out.cell (p := ⟨b, off + k * 4 + 3, none⟩) (by simp; omega)).trans c3
      have HTK := Lib.hid (take_succ_getD ds k (by have := HN.out; omega))
      have HP1 := Lib.hid (hp1.below HB.out hB)
      have HP2 := Lib.hid (hp2.below HB.out hB)
      generalize ds.getD k default = d at *
      obtain ⟨p, o, cl, cx⟩ := d
      dsimp only at *
      have HC1 := Lib.hid fun (w' : World) (hB : B ≤ w'.heap.size) (h : IS w' B A1 cl) => spec_copyIntsA A1 n1 d1 cl w' B hB hn1' h (by omega)
      have HC2 := Lib.hid fun (w' : World) (hB : B ≤ w'.heap.size) (h : IS w' B A2 cx) => spec_copyIntsA A2 n2 d2 cx w' B hB hn2' h (by omega)
      have HN1 := Lib.hid hn1'
      have HN2 := Lib.hid hn2'
      have hBw : B ≤ wr.heap.size := by omega
      have X1 := Lib.hid (box4_start wr (.int .i64 p) (.bool o) (.slice A1 n1 d1) (.slice A2 n2 d2) 50)
      have HBX : Hid (Below wr.heap.size wr (wr.alloc (.cells #[.int .i64 p, .bool o, .slice A1 n1 d1, .slice A2 n2 d2] 50))) := (Below.refl _ _).alloc (Nat.le_refl _) _
      clear c0 c1 c2 c3 hn1' hn2' hp1 hp2 hx H
      go_wp2_with fail
      generalize hW1 : wr.alloc (.cells #[.int .i64 p, .bool o, .slice A1 n1 d1, .slice A2 n2 d2] 50) = W1 at *
      have hs1 : wr.heap.size < W1.heap.size := X1.out.lt
      clear hW1
      refine (HC1.out W1 (by omega) (HP1.out.below HBX.out hBw)).mono ?_
      rintro e w2 ⟨g1, cap1, rfl, ho1, hb1⟩
      have hs2 := hb1.size
      have X2 := Lib.hid (X1.out.step hb1 hs1)
      have q1 := X2.out.c2
      have q2 := X2.out.f 2
      have q3 := X2.out.c3
      obtain ⟨W3, hW3⟩ : ∃ W : World, W = w2.setCell ⟨wr.heap.size, 2, none⟩ (.slice (some ⟨g1, 0, none⟩) n1 cap1) := ⟨_, rfl⟩
      have HS3 : Hid (W3.heap.size = w2.heap.size) := by rw [hW3]; simp [World.setCell, Hid]
      have X3 := Lib.hid (show Bx4 _ _ _ (.slice (some ⟨g1, 0, none⟩) n1 cap1) _ W3 from by rw [hW3]; exact X2.out.set2)
      have HB3 : Hid (Below wr.heap.size wr W3) := by rw [hW3]; exact (HBX.out.trans (hb1.mono (by omega))).setCell (Nat.le_refl _) _
      have ho3 := ownsRow_setCell_below ho1 (a := ⟨wr.heap.size, 2, none⟩) (by simp; omega) (.slice (some ⟨g1, 0, none⟩) n1 cap1)
      rw [← hW3] at ho3
      have HO3 := Lib.hid ho3
      have hs3 : W1.heap.size ≤ W3.heap.size := by have := HS3.out; omega
      have hg1 := (ho1.lt g1 rfl).2
      have HG1 : Hid (g1 < W3.heap.size) := by have := HS3.out; show _ < _; omega
      clear ho1 hb1 ho3 X1 X2 HBX hg1
      go_wp2_with fail
      rw [← hW3]
      clear hW3 q1 q2 q3
      refine (HC2.out W3 (by omega) (HP2.out.below HB3.out hBw)).mono ?_
      rintro e w4 ⟨g2, cap2, rfl, ho4, hb4⟩
      have hs4 := hb4.size
      have X4 := Lib.hid (X3.out.step hb4 (by omega))
      have HO4 := Lib.hid (own_below HO3.out hb4)
      have q1 := X4.out.c3
      have q2 := X4.out.f 3
      obtain ⟨W5, hW5⟩ : ∃ W : World, W = w4.setCell ⟨wr.heap.size, 3, none⟩ (.slice (some ⟨g2, 0, none⟩) n2 cap2) := ⟨_, rfl⟩
      have HS5 : Hid (W5.heap.size = w4.heap.size) := by rw [hW5]; simp [World.setCell, Hid]
      have X5 := Lib.hid (show Bx4 _ _ _ _ (.slice (some ⟨g2, 0, none⟩) n2 cap2) W5 from by rw [hW5]; exact X4.out.set3)
      have HB5 : Hid (Below wr.heap.size wr W5) := by rw [hW5]; exact (HB3.out.trans (hb4.mono (by omega))).setCell (Nat.le_refl _) _
      have r1 := ownsRow_setCell_below HO4.out (a := ⟨wr.heap.size, 3, none⟩) (by simp; omega) (.slice (some ⟨g2, 0, none⟩) n2 cap2)
      have r2 := ownsRow_setCell_below ho4 (a := ⟨wr.heap.size, 3, none⟩) (by simp; omega) (.slice (some ⟨g2, 0, none⟩) n2 cap2)
      rw [← hW5] at r1 r2
      have HG2 : Hid (g2 < w4.heap.size) := (ho4.lt g2 rfl).2
      have R1 : Hid (OwR wr.heap.size W3.heap.size 3 1 (.slice (some ⟨g1, 0, none⟩) n1 cap1) n1 (cl.map (Value.int .i64)) W5) := ⟨own_mono r1 (by omega), fun q hq => by cases hq; exact HG1.out⟩
      have R2 : Hid (OwR W3.heap.size w4.heap.size 3 1 (.slice (some ⟨g2, 0, none⟩) n2 cap2) n2 (cx.map (Value.int .i64)) W5) := ⟨r2, fun q hq => by cases hq; exact HG2.out⟩
      have e0 := X5.out.c0
      have e1 := X5.out.c1
      have e2 := X5.out.c2
      have e3 := X5.out.c3
      have HOW := Lib.hid (HO.out.step HB5.out (Nat.le_refl _))
      obtain ⟨-, xs, us, hr, hul, hf, hs⟩ := HOW.out
      have HHR := Lib.hid hr
      have HUL := Lib.hid hul
      have HF := Lib.hid hf
      have HSS := Lib.hid hs
      have hl5 : wr.heap.size < W5.heap.size := by have := HS5.out; omega
      have HMS : Hid (wr.heap.size ≤ W3.heap.size ∧ W3.heap.size ≤ w4.heap.size ∧ w4.heap.size ≤ W5.heap.size) := ⟨by omega, by omega, by have := HS5.out; omega⟩
      clear ho4 hb4 X3 X4 HO3 HO4 r1 r2 HC1 HC2 HP1 HP2 HB3 HG1 HG2 hr hul hf hs HOW hs1 hs2 hs3 hs4
      go_upto_region 8 with fail
      rw [← hW5]
      clear hW5 q1 q2
      go_wp2_with (at_builtin; refine wpList_append_own _ rfl _ _ 25 rfl w.heap.size 50 i1 _ 4 64 Try.underlying25 hi1 hy0 hy1 hy2 rfl (by decide) _ _ _ rfl (HHR.out.1.alloc _) ⟨_, 0, none⟩ 1 1 [.int .i64 p, .bool o, .slice (some ⟨g1, 0, none⟩) n1 cap1, .slice (some ⟨g2, 0, none⟩) n2 cap2] rfl rfl (cells_new _ _ _ _ rfl) ?c2 ?c3 ?c4 ?c5 ?_)
      case c2 => first | rfl | (intro u hu; simp at hu; rcases hu with rfl | rfl | rfl | rfl <;> rfl)
      case c3 => unfold maxLen; omega
      case c4 => omega
      case c5 => first | omega | (simp; omega)
      intro v' w6 hown' hgrow _
      have hz6 := hgrow.size
      have HSN : Hid (OwO w.heap.size w6.heap.size v' (k + 1) (ds.take k ++ [⟨p, o, cl, cx⟩]) w6) :=
        OwO.snoc (d := ⟨p, o, cl, cx⟩) (lo := w.heap.size) (hi := wr.heap.size) (mid := W3.heap.size) (top := w4.heap.size) (by have := HN.out; simp; omega)
          (HHR.out.keep (w' := W5.alloc (.cells #[.int .i64 p, .bool o, .slice (some ⟨g1, 0, none⟩) n1 cap1, .slice (some ⟨g2, 0, none⟩) n2 cap2] 50)) fun q _ hq => ((Below.refl W5.heap.size W5).alloc (Nat.le_refl _) _).block q (by omega)) HUL.out HF.out
          (HSS.out.keep fun q _ hq => ((Below.refl W5.heap.size W5).alloc (Nat.le_refl _) _).block q (by omega))
          (R1.out.keep fun q _ hq => ((Below.refl W5.heap.size W5).alloc (Nat.le_refl _) _).block q (by have := HMS.out; omega)) HN1.out
          (R2.out.keep fun q _ hq => ((Below.refl W5.heap.size W5).alloc (Nat.le_refl _) _).block q (by have := HMS.out; omega)) HN2.out
          hwr HMS.out.1 HMS.out.2.1 (by have := HMS.out.2.2; simp; omega) hgrow hown'
      have hpos := (HHR.out.1.alloc (.cells #[.int .i64 p, .bool o, .slice (some ⟨g1, 0, none⟩) n1 cap1, .slice (some ⟨g2, 0, none⟩) n2 cap2] 50)).lt
      have HB6 := Lib.hid ((HB.out.trans (HB5.out.mono hwr)).alloc (Nat.le_trans hwr (Nat.le_of_lt hl5)) (.cells #[.int .i64 p, .bool o, .slice (some ⟨g1, 0, none⟩) n1 cap1, .slice (some ⟨g2, 0, none⟩) n2 cap2] 50) |>.grown hgrow (by simp; omega) (fun q hq => (hpos q hq).1))
      clear hown' hgrow hpos e0 e1 e2 e3 hz6
      go_wp2
      go_roundw
      case rel => exact ⟨k + 1, by omega, by go_num, by rw [HTK.out]; exact HSN.out, HB6.out, HB6.out.size⟩
      case measure => simp [intOf]; omega
    · obtain rfl : k = n := by omega
      go_wp2
      go_ret
      refine ⟨_, rfl, ?_, HB.out⟩
      have h1 := HO.out
      rw [HN.out, List.take_of_length_le (Nat.le_refl _)] at h1
      exact h1
end Go.Proofs.Ytdcfmoaomlfijaa
