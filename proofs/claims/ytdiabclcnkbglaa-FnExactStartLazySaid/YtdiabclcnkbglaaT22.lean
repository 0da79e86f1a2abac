/- The standing contracts of StartLazy. -/
import Derived.Test.YtdiabclcnkbglaaS1
import Derived.Deep.RegionHeld3
import Derived.Deep.Cut

namespace Go.Proofs.Ytdiabclcnkbglaa
set_option linter.unusedSimpArgs false
set_option linter.unusedVariables false
open Go.RowKit
-- WANT spec_validGraph spec_validCells impl_ValidCells spec_copyIntsA impl_copyOf OwL RetL nil join of_apart LB of_small okC okC_parts validG_parts validG validC Rw OwSS snoc nil setCell OwnI at_ form OwR of_own start keep mono step SSk put grown ne lt row apart GS IS at_ nodes below alloc more As mean_len box4_start RetI noCtx info_ints1 info_int info_parts own_form own_below own_mono cell_one_new made_rows cpTo lists blocks_ne ints_ne_int Tch Below bcell own_heap Bx3 other set0 set1 set2 box3_start loc SB SB2 rowsL lsz startF GB validC_parts okC_len colOK own_keep own_ncap drew

def colOf (d : Nd) : Int := if d.k == 0 then 0 else 2
def colsTo (gs : List Nd) (k : Nat) : List Int := (gs.take k).map colOf
theorem colsTo_succ (gs : List Nd) (k : Nat) (h : k < gs.length) : colsTo gs (k + 1) = colsTo gs k ++ [colOf (gs.getD k default)] := by
  unfold colsTo
  rw [take_succ_getD gs k h, List.map_append]
  rfl
theorem colsTo_len (gs : List Nd) (k : Nat) (h : k ≤ gs.length) : (colsTo gs k).length = k := by unfold colsTo; simp; omega
def noReads (n : Nat) : List (List Int) := List.replicate n []
theorem noReads_len (n j : Nat) : lenOf (noReads n) j = 0 := by
  unfold lenOf noReads
  simp only [List.getD, List.getElem?_replicate]
  split <;> rfl
theorem noReads_row (n j : Nat) : rowOf (noReads n) j = [] := by
  unfold rowOf noReads
  simp only [List.getD, List.getElem?_replicate]
  split <;> rfl
def lazyOfL (gs : List Nd) (xs : List Int) : Lz := ⟨xs, noReads gs.length, colsTo gs gs.length⟩
/-- The state before a node ran. -/
def startL (gs : List Nd) (xs : List Int) : Lz := if okC gs xs then lazyOfL gs xs else ⟨[], [], []⟩

theorem okC_lens {gs : List Nd} {xs : List Int} (h : okC gs xs = true) : gs.length ≤ 10 ∧ xs.length = gs.length := by
  obtain ⟨h1, h2⟩ := okC_parts gs xs h
  refine ⟨(validG_parts gs h1).1, Classical.byContradiction fun e => ?_⟩
  rw [validC_len gs xs e] at h2
  cases h2
theorem noReads_sum (n : Nat) : ((noReads n).map List.length).sum = 0 := by
  unfold noReads; simp
theorem startL_LB (gs : List Nd) (xs : List Int) : LB (startL gs xs) := by
  unfold startL
  cases h : okC gs xs
  · exact LB.of_small _ (by simp) ⟨by simp, fun j => by simp [List.getD]⟩ (by simp) (by simp)
  · obtain ⟨h1, h2⟩ := okC_lens h
    simp only [if_true]
    refine LB.of_small _ (by show xs.length ≤ 1000; omega) (SB.of_sum (by show (noReads gs.length).length ≤ 1048576; unfold noReads; simp; omega) (by show ((noReads gs.length).map List.length).sum ≤ 1048576; rw [noReads_sum]; omega)) (by show ((noReads gs.length).map List.length).sum ≤ 1000; rw [noReads_sum]; omega) (by show (colsTo gs gs.length).length ≤ 1000; rw [colsTo_len _ _ (Nat.le_refl _)]; omega)

theorem Bx3.set2 {b : Nat} {x y z u : Value} {w : World} (h : Bx3 b x y z w) : Bx3 b x y u (w.setCell ⟨b, 2, none⟩ u) :=
  ⟨by simpa [World.setCell] using h.lt, (World.cell?_setCell_other _ _ _ _ (by simp)).trans h.c0, (World.cell?_setCell_other _ _ _ _ (by simp)).trans h.c1, World.cell?_setCell_same _ _ _ h.c2, fun i => (World.frozen?_setCell _ _ _ _).trans (h.f i)⟩

/-- Reads and colours that grow side by side. -/
structure LzI (lo hi : Nat) (gs : List Nd) (v u : Value) (k : Nat) (us : List Value) (w : World) : Prop where
  rd : OwR lo hi 25 1 v k us w
  co : OwR lo hi 3 1 u k ((colsTo gs k).map (Value.int .i64)) w
  ss : SSk lo hi us (fun _ => 0) (fun _ => []) w
  ap : ∀ (j : Nat) (x : Value) (q : Nat), us[j]? = some x → u.ownBlock = some q → x.ownBlock ≠ some q
theorem LzI.keep {lo hi k : Nat} {gs : List Nd} {v u : Value} {us : List Value} {w w' : World} (h : LzI lo hi gs v u k us w) (hk : ∀ k, lo ≤ k → k < hi → w'.heap[k]? = w.heap[k]?) : LzI lo hi gs v u k us w' :=
  ⟨h.rd.keep hk, h.co.keep hk, h.ss.keep hk, h.ap⟩
theorem LzI.mono {lo hi hi' k : Nat} {gs : List Nd} {v u : Value} {us : List Value} {w : World} (h : LzI lo hi gs v u k us w) (hh : hi ≤ hi') : LzI lo hi' gs v u k us w :=
  ⟨h.rd.mono (Nat.le_refl _) hh, h.co.mono (Nat.le_refl _) hh, h.ss.mono (Nat.le_refl _) hh, h.ap⟩
theorem LzI.setCell {lo hi k : Nat} {gs : List Nd} {v u : Value} {us : List Value} {w : World} (h : LzI lo hi gs v u k us w) {a : Addr} (ha : a.block < lo) (x : Value) : LzI lo hi gs v u k us (w.setCell a x) :=
  h.keep fun k hk _ => Below.heap_setCell _ _ _ _ (by omega)

/-- One more, empty, list of reads. -/
theorem LzI.read {lo k : Nat} {gs : List Nd} {v v' u : Value} {us : List Value} {wr w w' : World} (h : LzI lo wr.heap.size gs v u k us wr) (hlo : lo ≤ wr.heap.size) (hb : Below wr.heap.size wr w) (hE : w.ownsRow wr.heap.size 3 1 (.slice (some ⟨wr.heap.size, 0, none⟩) 0 0) 0 []) (hz : wr.heap.size < w.heap.size)
    (hg : w.grownBy w' v.ownBlock) (hv : w'.ownsRow lo 25 1 v' (k + 1) (us ++ [.slice (some ⟨wr.heap.size, 0, none⟩) 0 0])) :
    OwR lo w'.heap.size 25 1 v' (k + 1) (us ++ [.slice (some ⟨wr.heap.size, 0, none⟩) 0 0]) w' ∧ OwR lo w'.heap.size 3 1 u k ((colsTo gs k).map (Value.int .i64)) w' ∧ SSk lo w'.heap.size (us ++ [.slice (some ⟨wr.heap.size, 0, none⟩) 0 0]) (fun _ => 0) (fun _ => []) w' ∧
      ∀ (j : Nat) (x : Value) (q : Nat), (us ++ [.slice (some ⟨wr.heap.size, 0, none⟩) 0 0])[j]? = some x → u.ownBlock = some q → x.ownBlock ≠ some q := by
  have hw := h.keep (w' := w) fun q _ hq => hb.block q hq
  have hsz := hg.size
  have hz' : wr.heap.size + 1 ≤ w'.heap.size := by omega
  have hul : us.length = k := by have := h.rd.1.1; omega
  have hs1 := hw.ss.grown hg (hw.ss.ne hw.rd.1 ints_ne_int)
  have hE' := hE.kept hg (blocks_ne hE hw.rd.1 ints_ne_int)
  refine ⟨OwR.start hv, ⟨hw.co.1.kept hg (blocks_ne hw.co.1 hw.rd.1 ints_ne_int), fun q hq => Nat.lt_of_lt_of_le (hw.co.2 q hq) (by omega)⟩, ?_, fun j x q hx hq => ?_⟩
  · have p := hs1.put (hi' := wr.heap.size + 1) (vs' := us ++ [.slice (some ⟨wr.heap.size, 0, none⟩) 0 0]) (lens' := fun _ => 0) (cont' := fun _ => []) (A := some ⟨wr.heap.size, 0, none⟩) (m := 0) (c := 0) k (by rw [List.getElem?_append_right (by omega), hul]; simp) (fun j hj => by
        rcases Nat.lt_or_ge j k with h2 | h2
        · rw [List.getElem?_append_left (by omega)]
        · rw [List.getElem?_eq_none (by simp; omega), List.getElem?_eq_none (by omega)]) (fun j hj h2 => by simp at hj; omega) rfl (fun j hj => ⟨rfl, rfl⟩) ⟨hE', fun q hq => by cases hq; exact Nat.lt_succ_self _⟩ hlo (Nat.le_succ _)
    exact p.mono (Nat.le_refl _) (by omega)
  · rcases Nat.lt_or_ge j k with h2 | h2
    · rw [List.getElem?_append_left (by omega)] at hx
      exact h.ap j x q hx hq
    · rcases Nat.lt_or_ge k j with h3 | h3
      · rw [List.getElem?_eq_none (by simp; omega)] at hx; cases hx
      · obtain rfl : j = k := by omega
        rw [List.getElem?_append_right (by omega), hul] at hx
        simp at hx
        subst hx
        have := h.co.2 q hq
        simp only [Value.ownBlock, ne_eq, Option.some.injEq]
        omega

/-- One more colour. -/
theorem LzI.colour {lo k : Nat} {gs : List Nd} {v u u' : Value} {us : List Value} {w w' : World} {hi : Nat} (hr : OwR lo hi 25 1 v (k + 1) us w) (hc : OwR lo hi 3 1 u k ((colsTo gs k).map (Value.int .i64)) w) (hs : SSk lo hi us (fun _ => 0) (fun _ => []) w)
    (ha : ∀ (j : Nat) (x : Value) (q : Nat), us[j]? = some x → u.ownBlock = some q → x.ownBlock ≠ some q) (hle : hi ≤ w.heap.size) (hk : k < gs.length) (hg : w.grownBy w' u.ownBlock) (hv : w'.ownsRow lo 3 1 u' (k + 1) ((colsTo gs k).map (Value.int .i64) ++ [.int .i64 (colOf (gs.getD k default))]))
    (hb : u'.ownBlock = u.ownBlock ∨ u'.ownBlock = some w.heap.size) : LzI lo w'.heap.size gs v u' (k + 1) us w' := by
  have hsz := hg.size
  refine ⟨⟨hr.1.kept hg (blocks_ne hr.1 hc.1 ints_ne_int.symm), fun q hq => by have := hr.2 q hq; omega⟩, OwR.start (by rw [colsTo_succ gs k hk, List.map_append]; exact hv), ?_, fun j x q hx hq => ?_⟩
  · refine (hs.grown hg fun j x hx => ?_).mono (Nat.le_refl _) (by omega)
    cases hxb : x.ownBlock with
    | none => exact .inl rfl
    | some q => exact .inr fun e => ha j x q hx e.symm hxb
  · intro hxq
    rcases hb with hb | hb
    · rw [hb] at hq; exact ha j x q hx hq hxq
    · rw [hb] at hq
      simp only [Option.some.injEq] at hq
      have := (hs.lt j x q hx hxq).2
      omega

set_option maxRecDepth 100000 in
set_option maxHeartbeats 3200000 in
theorem spec_startLazy (A A' : Option Addr) (n c m c' : Nat) (gs : List Nd) (xs : List Int) (w : World) (B : Nat) (hB : B ≤ w.heap.size) (hn : n = gs.length) (hm : m = xs.length) (h : GS w B A gs) (h' : IS w B A' xs) (hok : okC gs xs = true) :
    Calls Try.prog 19 #[.agg #[.slice A n c], .slice A' m c'] w fun e w' => RetL w (lazyOfL gs xs) e w' := by
  obtain ⟨i1, hi, hz0, hz1, hz2⟩ := info_parts info_ints1
  obtain ⟨i2, hj, hy0, hy1, hy2⟩ := info_parts info_int
  obtain ⟨hl1, hl2⟩ := okC_lens hok
  have hn10 : n ≤ 10 := by omega
  have HCI := Lib.hid fun (w' : World) (hB : B ≤ w'.heap.size) (h : IS w' B A' xs) => spec_copyIntsA A' m c' xs w' B hB hm h (by omega)
  have H := Lib.hid h
  have HX := Lib.hid h'
  have HN := Lib.hid hn
  have HM := Lib.hid hm
  have hmn : m ≤ 10 := by omega
  clear h h' hn hm hok hl1 hl2
  go_enter Try.func19, Try.ntmps19
  go_wp2_with fail
  refine (HCI.out _ (by simp; omega) ((HX.out.alloc hB _).alloc (by simp; omega) _)).mono ?_
  rintro e w1 ⟨g1, cap1, rfl, ho, hb⟩
  have q1 : w1.cell? ⟨w.heap.size, 0, none⟩ = some (.slice A n c) := (hb.cell (p := ⟨w.heap.size, 0, none⟩) (by simp; omega)).trans (by go_simp)
  have XR := Lib.hid ((box3_start (w.alloc (.cells #[.slice A n c] 33)) (.slice none 0 0) (.slice none 0 0) (.slice none 0 0) 29).step hb (by simp))
  simp only [World.size_alloc] at XR ho
  have hB1 : Below w.heap.size w w1 := (((Below.refl _ _).alloc (Nat.le_refl _) _).alloc (by simp) _).trans (hb.mono (by simp; omega))
  have hl1 : w.heap.size + 2 ≤ w1.heap.size := by have := hb.size; simp at this; omega
  have hg1 := ho.lt g1 rfl
  have HO := Lib.hid ho
  have HG1 := Lib.hid ((H.out.below hB1 hB).more (B' := w1.heap.size) (by omega))
  have HB1 := Lib.hid hB1
  clear hb ho H HX HCI hB1
  have X0 := Lib.hid (box3_start w1 (.slice (some ⟨g1, 0, none⟩) m cap1) (.slice none 0 0) (.slice none 0 0) 29)
  go_wp2
  go_loopw [6, 7] (fun i col wr => ∃ (k : Nat) (v u : Value) (us : List Value), k ≤ n ∧ i = .int .i64 k ∧ Hid (Bx3 w1.heap.size (.slice (some ⟨g1, 0, none⟩) m cap1) v u wr) ∧ Hid (LzI (w1.heap.size + 1) wr.heap.size gs v u k us wr) ∧ Hid (Below w1.heap.size w1 wr) ∧ w1.heap.size + 1 ≤ wr.heap.size) (fun i _ _ => n - (intOf i).toNat)
  case atStart => exact ⟨0, .slice none 0 0, .slice none 0 0, [], Nat.zero_le _, rfl, X0.out, ⟨OwR.nil _ _ _ _ _, by simpa [colsTo] using OwR.nil _ _ _ _ _, ⟨fun j hj => by simp at hj, fun i j v u k _ h1 => by simp at h1⟩, fun j x q hx => by simp at hx⟩, (Below.refl _ _).alloc (Nat.le_refl _) _, by simp⟩
  case round =>
    obtain ⟨k, v, u, us, hk, rfl, X, HI, HB, hwr⟩ := hrel
    have q2 := (HB.out.cell (p := ⟨w.heap.size, 0, none⟩) (by show w.heap.size < w1.heap.size; omega)).trans q1
    by_cases hlt : k < n
    · obtain ⟨b, off, rfl, hbB, hc⟩ := HG1.out (by have := HN.out; omega)
      obtain ⟨d0, -⟩ := hc k (by have := HN.out; omega)
      have e0 := (HB.out.cell (p := ⟨b, off + k * 2, none⟩) hbB).trans d0
      have hco : colOf (gs.getD k default) = if (gs.getD k default).k == 0 then 0 else 2 := rfl
      have hkd : k < gs.length := by have := HN.out; omega
      have HKD := Lib.hid hkd
      generalize (gs.getD k default).k = kd at *
      have hcl : (colsTo gs k).length ≤ 10 := by rw [colsTo_len _ _ (by omega)]; omega
      have x1 := X.out.c1
      have x2 := X.out.c2
      have y1 := X.out.f 1
      have y2 := X.out.f 2
      have xl := X.out.lt
      clear hc d0 hkd
      cases hkz : (kd == 0)
      · rw [hkz] at hco
        simp only [Bool.false_eq_true, if_false] at hco
        go_upto_region 8 with fail
        obtain ⟨w3, hw3⟩ : ∃ W : World, W = (wr.alloc (.cells #[] 3)).alloc (.cells #[.slice (some ⟨wr.heap.size, 0, none⟩) 0 0] 25) := ⟨_, rfl⟩
        have hb3 : Below wr.heap.size wr w3 := by rw [hw3]; exact ((Below.refl _ _).alloc (Nat.le_refl _) _).alloc (by simp) _
        have hz3 : wr.heap.size + 2 ≤ w3.heap.size := by rw [hw3]; simp
        have hE : w3.ownsRow wr.heap.size 3 1 (.slice (some ⟨wr.heap.size, 0, none⟩) 0 0) 0 [] := by
          rw [hw3]
          have := World.ownsRow_lit (e := 3) (size := 1) (base := wr.heap.size) wr #[] 0 (Nat.le_refl _) (by unfold maxLen; omega) rfl
          exact (by simpa using this : (wr.alloc (.cells #[] 3)).ownsRow wr.heap.size 3 1 (.slice (some ⟨wr.heap.size, 0, none⟩) 0 0) 0 []).alloc _
        have hR3 : w3.ownsRow (w1.heap.size + 1) 25 1 v k us := by rw [hw3]; exact (HI.out.rd.1.alloc _).alloc _
        have hnews : ∀ j y, [Value.slice (some ⟨wr.heap.size, 0, none⟩) 0 0][j]? = some y → w3.cell? ((⟨wr.heap.size + 1, 0, none⟩ : Addr).add j) = some y := by
          rw [hw3]
          have := cell_one_new (wr.alloc (.cells #[] 3)) (.slice (some ⟨wr.heap.size, 0, none⟩) 0 0) 25
          simpa only [World.size_alloc] using this
        have HE := Lib.hid hE
        have HB3 := Lib.hid hb3
        have HR3 := Lib.hid hR3
        have HNW := Lib.hid hnews
        clear hE hb3 hR3 hnews
        go_wp2_with (at_builtin; rw [← hw3]; refine wpList_append_own_at _ rfl _ _ 27 rfl (w1.heap.size + 1) 25 i1 (.slice none 0 0) 1 24 Try.underlying27 hi hz0 hz1 hz2 rfl (by decide) _ _ _ rfl HR3.out ⟨wr.heap.size + 1, 0, none⟩ 1 1 [.slice (some ⟨wr.heap.size, 0, none⟩) 0 0] rfl rfl HNW.out ?c2 ?c3 ?c4 ?c5 ?_)
        case c2 => first | rfl | (intro y hy; simp at hy; subst hy; rfl)
        case c3 => unfold maxLen; omega
        case c4 => omega
        case c5 => first | omega | (simp; omega)
        intro v' w4 hown' hgrow _ hblk
        rw [← hw3] at hgrow
        obtain ⟨Av4, cv4, rfl⟩ := own_form hown'
        have hpos := HR3.out.lt
        have hrd := HI.out.read hwr HB3.out HE.out (by omega) hgrow hown'
        have hz4 := hgrow.size
        have hb4 : Below (w1.heap.size + 1) wr w4 := (HB3.out.mono hwr).grown hgrow (by omega) (fun q hq => (hpos q hq).1)
        have X4 := Lib.hid (X.out.step hb4 (by omega))
        have hs4 : w1.heap.size + 1 ≤ w4.heap.size := by omega
        have HRD := Lib.hid hrd
        have HB4 := Lib.hid hb4
        clear hown' hgrow hblk hpos hrd hb4 hw3 HE HB3 HR3 HNW x1 y1 x2 y2 e0 q2
        have x1 := X4.out.c1
        have y1 := X4.out.f 1
        go_upto_region 9 with fail
        obtain ⟨W5, hW5⟩ : ∃ W : World, W = w4.setCell ⟨w1.heap.size, 1, none⟩ (.slice Av4 (k + 1) cv4) := ⟨_, rfl⟩
        have hs5 : W5.heap.size = w4.heap.size := by rw [hW5]; simp [World.setCell]
        have X5 := Lib.hid (show Bx3 _ _ (.slice Av4 (k + 1) cv4) u W5 from by rw [hW5]; exact X4.out.set1)
        have k5 : ∀ q, w1.heap.size + 1 ≤ q → q < w4.heap.size → W5.heap[q]? = w4.heap[q]? := fun q hq _ => by rw [hW5]; exact Below.heap_setCell _ _ _ _ (by show q ≠ w1.heap.size; omega)
        have R5 := Lib.hid (HRD.out.1.keep k5)
        have C5 := Lib.hid (HRD.out.2.1.keep k5)
        have S5 := Lib.hid (HRD.out.2.2.1.keep k5)
        have A5 := Lib.hid HRD.out.2.2.2
        have HB5 : Hid (Below w1.heap.size w1 W5) := by rw [hW5]; exact (HB.out.trans (HB4.out.mono (by omega))).setCell (Nat.le_refl _) _
        rw [← hW5]
        clear hW5 k5 HRD HB4 X4 x1 y1
        have x2 := X5.out.c2
        have y2 := X5.out.f 2
        have hz5 : w4.heap.size ≤ W5.heap.size := by omega
        have hz5' : w1.heap.size + 1 ≤ W5.heap.size := by omega
        clear hs5
        go_wp2_with (at_builtin; refine wpList_append_own_at _ rfl _ _ 25 rfl (w1.heap.size + 1) 3 i2 (.int .i64 0) 1 8 Try.underlying25 hj hy0 hy1 hy2 rfl (by decide) _ _ _ rfl (C5.out.1.alloc _) ⟨_, 0, none⟩ 1 1 [.int .i64 2] rfl rfl (cell_one_new _ _ _) ?c2 ?c3 ?c4 ?c5 ?_)
        case c2 => first | rfl | (intro y hy; simp at hy; subst hy; rfl)
        case c3 => unfold maxLen; omega
        case c4 => omega
        case c5 => first | omega | (simp; omega)
        intro u' w6 hown2 hgrow2 _ hblk2
        obtain ⟨Au6, cu6, rfl⟩ := own_form hown2
        have hpos2 := (C5.out.1.alloc (.cells #[.int .i64 2] 3)).lt
        have ka : ∀ q, w1.heap.size + 1 ≤ q → q < w4.heap.size → (W5.alloc (.cells #[.int .i64 2] 3)).heap[q]? = W5.heap[q]? := fun q _ hq => ((Below.refl W5.heap.size W5).alloc (Nat.le_refl _) _).block q (by omega)
        have hnew := LzI.colour (w := W5.alloc (.cells #[.int .i64 2] 3)) (R5.out.keep ka) (C5.out.keep ka) (S5.out.keep ka) A5.out (by simp; omega) HKD.out hgrow2 (by rw [hco]; exact hown2) (by rw [World.size_alloc]; exact hblk2)
        have hb6 : Below (w1.heap.size + 1) W5 w6 := ((Below.refl (w1.heap.size + 1) W5).alloc hz5' (.cells #[.int .i64 2] 3)).grown hgrow2 (by simp; omega) (fun q hq => (hpos2 q hq).1)
        have X6 := Lib.hid (X5.out.step hb6 (by omega))
        have HNEW := Lib.hid hnew
        have HB6 := Lib.hid (HB5.out.trans (hb6.mono (by omega)))
        have hs6 : w1.heap.size + 1 ≤ w6.heap.size := by have := hb6.size; omega
        clear hown2 hgrow2 hblk2 hpos2 hnew hb6 ka R5 C5 S5 A5 X5 HB5 x2 y2
        have x2 := X6.out.c2
        have y2 := X6.out.f 2
        go_wp2
        go_roundw
        case rel =>
          refine ⟨k + 1, (.slice Av4 (k + 1) cv4), (.slice Au6 (k + 1) cu6), us ++ [.slice (some ⟨wr.heap.size, 0, none⟩) 0 0], by omega, by go_num, X6.out.set2, ?_, HB6.out.setCell (Nat.le_refl _) _, by simpa [World.setCell] using hs6⟩
          have := HNEW.out.setCell (a := ⟨w1.heap.size, 2, none⟩) (by simp) (.slice Au6 (k + 1) cu6)
          simpa [World.setCell, Hid] using this
        case measure => simp [intOf]; omega
      · rw [hkz] at hco
        simp only [if_true] at hco
        go_upto_region 8 with fail
        obtain ⟨w3, hw3⟩ : ∃ W : World, W = (wr.alloc (.cells #[] 3)).alloc (.cells #[.slice (some ⟨wr.heap.size, 0, none⟩) 0 0] 25) := ⟨_, rfl⟩
        have hb3 : Below wr.heap.size wr w3 := by rw [hw3]; exact ((Below.refl _ _).alloc (Nat.le_refl _) _).alloc (by simp) _
        have hz3 : wr.heap.size + 2 ≤ w3.heap.size := by rw [hw3]; simp
        have hE : w3.ownsRow wr.heap.size 3 1 (.slice (some ⟨wr.heap.size, 0, none⟩) 0 0) 0 [] := by
          rw [hw3]
          have := World.ownsRow_lit (e := 3) (size := 1) (base := wr.heap.size) wr #[] 0 (Nat.le_refl _) (by unfold maxLen; omega) rfl
          exact (by simpa using this : (wr.alloc (.cells #[] 3)).ownsRow wr.heap.size 3 1 (.slice (some ⟨wr.heap.size, 0, none⟩) 0 0) 0 []).alloc _
        have hR3 : w3.ownsRow (w1.heap.size + 1) 25 1 v k us := by rw [hw3]; exact (HI.out.rd.1.alloc _).alloc _
        have hnews : ∀ j y, [Value.slice (some ⟨wr.heap.size, 0, none⟩) 0 0][j]? = some y → w3.cell? ((⟨wr.heap.size + 1, 0, none⟩ : Addr).add j) = some y := by
          rw [hw3]
          have := cell_one_new (wr.alloc (.cells #[] 3)) (.slice (some ⟨wr.heap.size, 0, none⟩) 0 0) 25
          simpa only [World.size_alloc] using this
        have HE := Lib.hid hE
        have HB3 := Lib.hid hb3
        have HR3 := Lib.hid hR3
        have HNW := Lib.hid hnews
        clear hE hb3 hR3 hnews
        go_wp2_with (at_builtin; rw [← hw3]; refine wpList_append_own_at _ rfl _ _ 27 rfl (w1.heap.size + 1) 25 i1 (.slice none 0 0) 1 24 Try.underlying27 hi hz0 hz1 hz2 rfl (by decide) _ _ _ rfl HR3.out ⟨wr.heap.size + 1, 0, none⟩ 1 1 [.slice (some ⟨wr.heap.size, 0, none⟩) 0 0] rfl rfl HNW.out ?c2 ?c3 ?c4 ?c5 ?_)
        case c2 => first | rfl | (intro y hy; simp at hy; subst hy; rfl)
        case c3 => unfold maxLen; omega
        case c4 => omega
        case c5 => first | omega | (simp; omega)
        intro v' w4 hown' hgrow _ hblk
        rw [← hw3] at hgrow
        obtain ⟨Av4, cv4, rfl⟩ := own_form hown'
        have hpos := HR3.out.lt
        have hrd := HI.out.read hwr HB3.out HE.out (by omega) hgrow hown'
        have hz4 := hgrow.size
        have hb4 : Below (w1.heap.size + 1) wr w4 := (HB3.out.mono hwr).grown hgrow (by omega) (fun q hq => (hpos q hq).1)
        have X4 := Lib.hid (X.out.step hb4 (by omega))
        have hs4 : w1.heap.size + 1 ≤ w4.heap.size := by omega
        have HRD := Lib.hid hrd
        have HB4 := Lib.hid hb4
        clear hown' hgrow hblk hpos hrd hb4 hw3 HE HB3 HR3 HNW x1 y1 x2 y2 e0 q2
        have x1 := X4.out.c1
        have y1 := X4.out.f 1
        go_upto_region 9 with fail
        obtain ⟨W5, hW5⟩ : ∃ W : World, W = w4.setCell ⟨w1.heap.size, 1, none⟩ (.slice Av4 (k + 1) cv4) := ⟨_, rfl⟩
        have hs5 : W5.heap.size = w4.heap.size := by rw [hW5]; simp [World.setCell]
        have X5 := Lib.hid (show Bx3 _ _ (.slice Av4 (k + 1) cv4) u W5 from by rw [hW5]; exact X4.out.set1)
        have k5 : ∀ q, w1.heap.size + 1 ≤ q → q < w4.heap.size → W5.heap[q]? = w4.heap[q]? := fun q hq _ => by rw [hW5]; exact Below.heap_setCell _ _ _ _ (by show q ≠ w1.heap.size; omega)
        have R5 := Lib.hid (HRD.out.1.keep k5)
        have C5 := Lib.hid (HRD.out.2.1.keep k5)
        have S5 := Lib.hid (HRD.out.2.2.1.keep k5)
        have A5 := Lib.hid HRD.out.2.2.2
        have HB5 : Hid (Below w1.heap.size w1 W5) := by rw [hW5]; exact (HB.out.trans (HB4.out.mono (by omega))).setCell (Nat.le_refl _) _
        rw [← hW5]
        clear hW5 k5 HRD HB4 X4 x1 y1
        have x2 := X5.out.c2
        have y2 := X5.out.f 2
        have hz5 : w4.heap.size ≤ W5.heap.size := by omega
        have hz5' : w1.heap.size + 1 ≤ W5.heap.size := by omega
        clear hs5
        go_wp2_with (at_builtin; refine wpList_append_own_at _ rfl _ _ 25 rfl (w1.heap.size + 1) 3 i2 (.int .i64 0) 1 8 Try.underlying25 hj hy0 hy1 hy2 rfl (by decide) _ _ _ rfl (C5.out.1.alloc _) ⟨_, 0, none⟩ 1 1 [.int .i64 0] rfl rfl (cell_one_new _ _ _) ?c2 ?c3 ?c4 ?c5 ?_)
        case c2 => first | rfl | (intro y hy; simp at hy; subst hy; rfl)
        case c3 => unfold maxLen; omega
        case c4 => omega
        case c5 => first | omega | (simp; omega)
        intro u' w6 hown2 hgrow2 _ hblk2
        obtain ⟨Au6, cu6, rfl⟩ := own_form hown2
        have hpos2 := (C5.out.1.alloc (.cells #[.int .i64 0] 3)).lt
        have ka : ∀ q, w1.heap.size + 1 ≤ q → q < w4.heap.size → (W5.alloc (.cells #[.int .i64 0] 3)).heap[q]? = W5.heap[q]? := fun q _ hq => ((Below.refl W5.heap.size W5).alloc (Nat.le_refl _) _).block q (by omega)
        have hnew := LzI.colour (w := W5.alloc (.cells #[.int .i64 0] 3)) (R5.out.keep ka) (C5.out.keep ka) (S5.out.keep ka) A5.out (by simp; omega) HKD.out hgrow2 (by rw [hco]; exact hown2) (by rw [World.size_alloc]; exact hblk2)
        have hb6 : Below (w1.heap.size + 1) W5 w6 := ((Below.refl (w1.heap.size + 1) W5).alloc hz5' (.cells #[.int .i64 0] 3)).grown hgrow2 (by simp; omega) (fun q hq => (hpos2 q hq).1)
        have X6 := Lib.hid (X5.out.step hb6 (by omega))
        have HNEW := Lib.hid hnew
        have HB6 := Lib.hid (HB5.out.trans (hb6.mono (by omega)))
        have hs6 : w1.heap.size + 1 ≤ w6.heap.size := by have := hb6.size; omega
        clear hown2 hgrow2 hblk2 hpos2 hnew hb6 ka R5 C5 S5 A5 X5 HB5 x2 y2
        have x2 := X6.out.c2
        have y2 := X6.out.f 2
        go_wp2
        go_roundw
        case rel =>
          refine ⟨k + 1, (.slice Av4 (k + 1) cv4), (.slice Au6 (k + 1) cu6), us ++ [.slice (some ⟨wr.heap.size, 0, none⟩) 0 0], by omega, by go_num, X6.out.set2, ?_, HB6.out.setCell (Nat.le_refl _) _, by simpa [World.setCell] using hs6⟩
          have := HNEW.out.setCell (a := ⟨w1.heap.size, 2, none⟩) (by simp) (.slice Au6 (k + 1) cu6)
          simpa [World.setCell, Hid] using this
        case measure => simp [intOf]; omega
    · obtain rfl : k = n := by omega
      obtain ⟨Av, cv, rfl⟩ := own_form HI.out.rd.1
      obtain ⟨Au, cu, rfl⟩ := own_form HI.out.co.1
      have XW := Lib.hid (XR.out.step HB.out (by omega))
      have e0 := XW.out.c0
      have e1 := XW.out.c1
      have e2 := XW.out.c2
      have g0 := XW.out.f 0
      have g1' := XW.out.f 1
      have g2 := XW.out.f 2
      have x0 := X.out.c0
      have x1 := X.out.c1
      have x2 := X.out.c2
      have xl := X.out.lt
      have hr0 : OwR (w.heap.size + 1 + 1) w1.heap.size 3 1 (.slice (some ⟨g1, 0, none⟩) m cap1) m (xs.map (Value.int .i64)) wr := ⟨(own_below HO.out HB.out), fun q hq => by cases hq; exact hg1.2⟩
      have hoe : OwL (w.heap.size + 1 + 1) wr.heap.size (some ⟨g1, 0, none⟩) m cap1 Av k cv Au k cu (lazyOfL gs xs) wr := by
        refine OwL.of_apart (us := us) (hr0.mono (Nat.le_refl _) (by omega)) HM.out (by rw [HN.out]; simp [lazyOfL, noReads]) (HI.out.rd.mono (by omega) (Nat.le_refl _)) ?_ ?_ (by rw [HN.out]; exact (colsTo_len gs _ (Nat.le_refl _)).symm) (fun j x q hx hq hxq => ?_) HI.out.ap (fun q hq hq' => ?_)
        · have := HI.out.ss.mono (lo' := w.heap.size + 1 + 1) (by omega) (Nat.le_refl _)
          have e3 : lenOf (noReads gs.length) = fun _ => 0 := funext fun j => noReads_len _ j
          have e4 : rowOf (noReads gs.length) = fun _ => [] := funext fun j => noReads_row _ j
          show SSk _ _ us (lenOf (noReads gs.length)) (rowOf (noReads gs.length)) wr
          rw [e3, e4]
          exact this
        · have := HI.out.co.mono (lo' := w.heap.size + 1 + 1) (by omega) (Nat.le_refl _)
          show OwR _ _ _ _ _ _ ((colsTo gs gs.length).map _) _
          rw [← HN.out]
          exact this
        · have a1 := hr0.2 q hq
          have a2 := (HI.out.ss.lt j x q hx hxq).1
          omega
        · have a1 := hr0.2 q hq
          have a2 := (HI.out.co.1.lt q hq').1
          omega
      have HOE := Lib.hid hoe
      clear hoe hr0
      go_wp2
      refine bodyPost_ret (v := .agg #[.slice (some ⟨g1, 0, none⟩) m cap1, .slice Av k cv, .slice Au k cu]) (by simp [results, Try.results19, go_sem, e0, e1, e2]) rfl ?_
      have o1 := HOE.out.setCell (a := ⟨w.heap.size + 1, 0, none⟩) (by simp) (.slice (some ⟨g1, 0, none⟩) m cap1)
      have o2 := o1.setCell (a := ⟨w.heap.size + 1, 1, none⟩) (by simp) (.slice Av k cv)
      have o3 := o2.setCell (a := ⟨w.heap.size + 1, 2, none⟩) (by simp) (.slice Au k cu)
      refine ⟨_, _, _, _, _, _, _, _, _, rfl, ?_, (((HB1.out.trans (HB.out.mono (by omega))).setCell (by simp) _).setCell (by simp) _).setCell (by simp) _⟩
      have o4 := o3.mono (lo' := w.heap.size) (hi' := wr.heap.size) (by omega) (Nat.le_refl _)
      simpa [World.setCell] using o4

set_option maxRecDepth 100000 in
set_option maxHeartbeats 3200000 in
theorem top_spec_StartLazy (gs : List Nd) (xs : List Int) (hG : GB gs) (hL : xs.length ≤ 1048576) : ∀ (A : Option Addr) (n c : Nat) (A' : Option Addr) (m c' : Nat) (w : World), n = gs.length → n ≤ c → GS w w.heap.size A gs → m = xs.length → IS w w.heap.size A' xs →
    Calls Try.prog 5 #[.agg #[.slice A n c], .slice A' m c'] w fun e w' => RetL w (startL gs xs) e w' := by
  intro A n c A' m c' w hn _ h hm h'
  have H := Lib.hid h
  have HI := Lib.hid h'
  have HC := Lib.hid fun (w' : World) (hB : w.heap.size ≤ w'.heap.size) (h : GS w' w.heap.size A gs) => spec_validGraph A n c gs w' w.heap.size hB hn h hG
  have HD := Lib.hid fun (w' : World) (hB : w.heap.size ≤ w'.heap.size) (h : GS w' w.heap.size A gs) (h' : IS w' w.heap.size A' xs) => spec_validCells A A' n c m c' gs xs w' w.heap.size hB hn hm h h' (by have := hG.1; omega) (by omega)
  have HE := Lib.hid fun (w' : World) (hB : w.heap.size ≤ w'.heap.size) (h : GS w' w.heap.size A gs) (h' : IS w' w.heap.size A' xs) (hok : okC gs xs = true) => spec_startLazy A A' n c m c' gs xs w' w.heap.size hB hn hm h h' hok
  have hf : startL gs xs = if okC gs xs then lazyOfL gs xs else ⟨[], [], []⟩ := rfl
  have hok : okC gs xs = (validG gs && validC gs xs) := rfl
  rw [hf]
  clear hf
  generalize okC gs xs = o at *
  generalize validG gs = r at *
  generalize validC gs xs = s at *
  generalize lazyOfL gs xs = M at *
  subst hok
  clear h h' hn hm hG
  have HGA := Lib.hid ((H.out.alloc (Nat.le_refl _) (.cells #[.slice A n c] 33)).alloc (by simp) (.cells #[.slice none 0 0, .slice none 0 0, .slice none 0 0] 29))
  have HIA := Lib.hid ((HI.out.alloc (Nat.le_refl _) (.cells #[.slice A n c] 33)).alloc (by simp) (.cells #[.slice none 0 0, .slice none 0 0, .slice none 0 0] 29))
  have X0 := Lib.hid (box3_start (w.alloc (.cells #[.slice A n c] 33)) (.slice none 0 0) (.slice none 0 0) (.slice none 0 0) 29)
  simp only [World.size_alloc] at X0
  cases r
  · go_enter Try.func5, Try.ntmps5
    go_wp2_with fail
    refine (HC.out _ (by simp; omega) HGA.out).mono ?_
    rintro e w1 ⟨rfl, hb⟩
    have X1 := Lib.hid (X0.out.step hb (by simp))
    have k0 := X1.out.c0
    have k1 := X1.out.c1
    have k2 := X1.out.c2
    have f0 := X1.out.f 0
    have f1 := X1.out.f 1
    have f2 := X1.out.f 2
    have hB1 : Below w.heap.size w w1 := (((Below.refl _ _).alloc (Nat.le_refl _) _).alloc (by simp) _).trans (hb.mono (by simp; omega))
    go_wp2
    refine bodyPost_ret (v := .agg #[.slice none 0 0, .slice none 0 0, .slice none 0 0]) (by simp [results, Try.results5, go_sem, k0, k1, k2]) rfl (RetL.nil ?_)
    exact ((hB1.setCell (by simp) _).setCell (by simp) _).setCell (by simp) _
  · go_enter Try.func5, Try.ntmps5
    go_wp2_with fail
    refine (HC.out _ (by simp; omega) HGA.out).mono ?_
    rintro e w1 ⟨rfl, hb⟩
    have q0 : w1.cell? ⟨w.heap.size, 0, none⟩ = some (.slice A n c) := (hb.cell (p := ⟨w.heap.size, 0, none⟩) (by simp; omega)).trans (by go_simp)
    have X1 := Lib.hid (X0.out.step hb (by simp))
    have hB1 : Below w.heap.size w w1 := (((Below.refl _ _).alloc (Nat.le_refl _) _).alloc (by simp) _).trans (hb.mono (by simp; omega))
    have hl1 : w.heap.size + 2 ≤ w1.heap.size := by have := hb.size; simp at this; omega
    have HG1 := Lib.hid (HGA.out.below hb (by simp; omega))
    have HI1 := Lib.hid (HIA.out.below hb (by simp; omega))
    clear hb
    go_wp2_with fail
    refine (HD.out _ (by omega) HG1.out HI1.out).mono ?_
    rintro e w2 ⟨rfl, hb2⟩
    have r0 := (hb2.cell (p := ⟨w.heap.size, 0, none⟩) (by show w.heap.size < w1.heap.size; omega)).trans q0
    have X2 := Lib.hid (X1.out.step hb2 (by omega))
    have hB2 := hB1.trans (hb2.mono (by omega))
    have hl2 : w.heap.size + 2 ≤ w2.heap.size := Nat.le_trans hl1 hb2.size
    have HG2 := Lib.hid (HG1.out.below hb2 (by omega))
    have HI2 := Lib.hid (HI1.out.below hb2 (by omega))
    clear hb2 q0 X1
    cases s
    · have k0 := X2.out.c0
      have k1 := X2.out.c1
      have k2 := X2.out.c2
      have f0 := X2.out.f 0
      have f1 := X2.out.f 1
      have f2 := X2.out.f 2
      go_wp2
      refine bodyPost_ret (v := .agg #[.slice none 0 0, .slice none 0 0, .slice none 0 0]) (by simp [results, Try.results5, go_sem, k0, k1, k2]) rfl (RetL.nil ?_)
      exact ((hB2.setCell (by simp) _).setCell (by simp) _).setCell (by simp) _
    · go_wp2_with fail
      refine (HE.out _ (by omega) HG2.out HI2.out rfl).mono ?_
      rintro e w3 ⟨A3, n3, c3, E3, en3, ec3, C3, m3, d3, rfl, ho, hb3⟩
      have X3 := Lib.hid (X2.out.step hb3 (by omega))
      have k0 := X3.out.c0
      have k1 := X3.out.c1
      have k2 := X3.out.c2
      have f0 := X3.out.f 0
      have f1 := X3.out.f 1
      have f2 := X3.out.f 2
      have HO := Lib.hid ho
      have HB3 := Lib.hid (hB2.trans (hb3.mono (by omega)))
      clear ho hb3
      go_wp2
      refine bodyPost_ret (v := .agg #[.slice A3 n3 c3, .slice E3 en3 ec3, .slice C3 m3 d3]) (by simp [results, Try.results5, go_sem, k0, k1, k2]) rfl ?_
      have o1 := HO.out.setCell (a := ⟨w.heap.size + 1, 0, none⟩) (by simp; omega) (.slice A3 n3 c3)
      have o2 := o1.setCell (a := ⟨w.heap.size + 1, 1, none⟩) (by simp; omega) (.slice E3 en3 ec3)
      have o3 := o2.setCell (a := ⟨w.heap.size + 1, 2, none⟩) (by simp; omega) (.slice C3 m3 d3)
      refine ⟨_, _, _, _, _, _, _, _, _, rfl, ?_, ((HB3.out.setCell (by simp) _).setCell (by simp) _).setCell (by simp) _⟩
      have o4 := o3.mono (lo' := w.heap.size) (hi' := w3.heap.size) (by omega) (Nat.le_refl _)
      simpa [World.setCell] using o4
end Go.Proofs.Ytdiabclcnkbglaa
