/- Slices that may begin in the middle of a row of one's own; spec.reversed. -/
import Derived.Test.YtknnbajcabodoaaKD2
import Derived.Test.YtknnbajcabodoaaQ1
import Derived.ArgAppend

namespace Go.Proofs.Ytknnbajcabodoaa
set_option linter.unusedSimpArgs false
set_option linter.unusedVariables false
open Go.RowKit

/-- The slice of l numbers (room for c) that lies in block b from off on: what is behind them is there, and may be written. -/
structure Cm (d0 : Nat) (b off l c : Nat) (ys : List Int) (w : World) : Prop where
  len : l = ys.length
  cap : l ≤ c
  lo : d0 ≤ b
  hi : b < w.heap.size
  cells : ∀ j, j < l → w.cell? ⟨b, off + j, none⟩ = some (.int .i64 (ys.getD j 0))
  spare : ∀ j, l ≤ j → j < c → (w.cell? ⟨b, off + j, none⟩).isSome = true ∧ w.frozen? ⟨b, off + j, none⟩ = false

theorem Cm.is {d0 b off l c : Nat} {ys : List Int} {w : World} (h : Cm d0 b off l c ys w) : IS w w.heap.size (some ⟨b, off, none⟩) ys := fun _ => ⟨b, off, rfl, h.hi, fun j hj => h.cells j (by have := h.len; omega)⟩
theorem Cm.keep {d0 b off l c : Nat} {ys : List Int} {w w' : World} (h : Cm d0 b off l c ys w) (hk : w'.heap[b]? = w.heap[b]?) (hs : w.heap.size ≤ w'.heap.size) : Cm d0 b off l c ys w' :=
  ⟨h.len, h.cap, h.lo, Nat.lt_of_lt_of_le h.hi hs, fun j hj => (World.cell?_of_block (a := ⟨b, off + j, none⟩) hk).trans (h.cells j hj), fun j h1 h2 => by
    rw [World.cell?_of_block (a := ⟨b, off + j, none⟩) hk, World.frozen?_of_block (a := ⟨b, off + j, none⟩) hk]; exact h.spare j h1 h2⟩
theorem Cm.step {d0 b off l c : Nat} {ys : List Int} {w w' : World} (h : Cm d0 b off l c ys w) (hb : Below w.heap.size w w') : Cm d0 b off l c ys w' := h.keep (hb.block b h.hi) hb.size
theorem Cm.turn {d0 b off l c g : Nat} {ys : List Int} {w w' : World} (h : Cm d0 b off l c ys w) (ht : Tch g (g + 1) w w') (hg : g < d0) : Cm d0 b off l c ys w' := h.keep (ht.block b h.hi (.inr (by have := h.lo; omega))) ht.size
theorem Cm.of_own {d0 g l c : Nat} {ys : List Int} {w : World} (h : w.ownsRow d0 3 1 (.slice (some ⟨g, 0, none⟩) l c) l (ys.map (Value.int .i64))) : Cm d0 g 0 l c ys w := by
  have hlen : l = ys.length := by have := h.1; simp at this; omega
  have hca := fun j => h.cellAt j
  have hfz := fun j => h.frozenAt j
  have hlt := h.lt g rfl
  rcases h.2 with ⟨hv, _⟩ | ⟨g', cap, cur, hv, hb, hg, hcap, hm, hsz, _⟩
  · cases hv
  · cases hv
    refine ⟨hlen, hcap, hlt.1, hlt.2, fun j hj => ?_, fun j h1 h2 => ⟨?_, ?_⟩⟩
    · have := hca j (by omega)
      rw [Nat.zero_add, this, List.getElem?_map]
      simp [List.getD, List.getElem?_eq_getElem (show j < ys.length by omega)]
    · have hj : j < cur.size := by omega
      simp [World.cell?, hg, hj]
    · simpa using hfz j
theorem Cm.drop {d0 g l c : Nat} {ys : List Int} {w : World} (h : Cm d0 g 0 l c ys w) (hl : 0 < l) : ∃ o4, (if c = 1 then some ({ block := g, off := 0 } : Addr) else some { block := g, off := 1 }) = some ⟨g, o4, none⟩ ∧ Cm d0 g o4 (l - 1) (c - 1) (ys.drop 1) w := by
  have hlen := h.len
  have hcap := h.cap
  by_cases hc : c = 1
  · refine ⟨0, by rw [if_pos hc], by rw [List.length_drop]; omega, by omega, h.lo, h.hi, fun j hj => by omega, fun j h1 h2 => by omega⟩
  · refine ⟨1, by rw [if_neg hc], by rw [List.length_drop]; omega, by omega, h.lo, h.hi, fun j hj => ?_, fun j h1 h2 => ?_⟩
    · have := h.cells (j + 1) (by omega)
      rw [show 0 + (j + 1) = 1 + j by omega] at this
      rw [this]
      simp [List.getD, List.getElem?_drop, Nat.add_comm]
    · have := h.spare (j + 1) (by omega) (by omega)
      rwa [show 0 + (j + 1) = 1 + j by omega] at this

theorem wpList_app_cm (w : World) {ops : Array Oper} {rest : List Oper} {o : Oper} {a : Act} {Q : Exit → Act → World → Prop} (hgd : o.guard = none) (s x : Operand)
    (ho : o.op = .call { callee := .builtin .append, args := #[s, x], argTypes := #[23, 23] })
    {d0 b off l c : Nat} {ys : List Int} (hs : a.eval s = .slice (some ⟨b, off, none⟩) l c) (hc : Cm d0 b off l c ys w) (hl : l ≤ 1000) (z : Int) (ad : Addr) (cx : Nat) (hx : a.eval x = .slice (some ad) 1 cx) (hz : w.cell? ad = some (.int .i64 z))
    (h : ∀ A' c' w', l + 1 ≤ c' → IS w' w'.heap.size A' (ys ++ [z]) → Below d0 w w' → wpList Try.prog ops Q rest (a.put o.dst (.slice A' (l + 1) c')) w') :
    wpList Try.prog ops Q (o :: rest) a w := by
  obtain ⟨i0, hi, hz0, hz1, hz2⟩ := info_parts info_int
  have hlen := hc.len
  have hwl := hc.hi
  have hd := hc.lo
  refine wpList_append_arg w hgd s x 23 ho 3 i0 (.int .i64 0) 1 8 Try.underlying23 hi hz0 hz1 hz2 rfl (by decide) b off l c (ys.map (Value.int .i64)) hs (by simp; omega) ?_ ad 1 cx [.int .i64 z] hx rfl ?_ (by intro u hu; simp at hu; subst hu; rfl) ?_ (by unfold maxLen; omega) (by omega) ?_ ?_
  · intro j u hj
    rw [List.getElem?_map, Option.map_eq_some_iff] at hj
    obtain ⟨y, hy, rfl⟩ := hj
    have hlt := (List.getElem?_eq_some_iff.1 hy).1
    rw [hc.cells j (by omega)]
    simp [List.getD, hy]
  · intro j u hj
    match j, hj with
    | 0, hj => simp at hj; subst hj; simpa [Addr.add] using hz
  · intro hr j hj
    simp at hj
    subst hj
    simpa using hc.spare l (Nat.le_refl _) (by omega)
  · intro hr
    have hsp := (hc.spare l (Nat.le_refl _) (by omega)).1
    obtain ⟨u, hu⟩ := Option.isSome_iff_exists.1 hsp
    have e : w.setCells b (off + l * 1) [.int .i64 z] = w.setCell ⟨b, off + l, none⟩ (.int .i64 z) := by rw [Nat.mul_one]; rfl
    rw [e]
    refine h (some ⟨b, off, none⟩) c _ (by omega) (fun _ => ⟨b, off, rfl, by simpa [World.setCell] using hwl, fun j hj => ?_⟩) ((Below.refl d0 w).setCell (p := ⟨b, off + l, none⟩) hd _)
    rw [List.length_append] at hj
    simp at hj
    by_cases hjl : j = l
    · subst hjl
      rw [World.cell?_setCell_same _ _ _ hu]
      simp [List.getD, hlen]
    · rw [World.cell?_setCell_other _ _ _ _ (by intro e; have := congrArg Addr.off e; simp at this; omega), hc.cells j (by omega)]
      simp [List.getD, List.getElem?_append_left (show j < ys.length by omega)]
  · intro hg v' w' hown hgr
    have hown' : w'.ownsRow w.heap.size 3 1 v' (l + 1) ((ys ++ [z]).map (Value.int .i64)) := by simpa using hown
    obtain ⟨A', c', rfl⟩ := row_form hown'
    refine h A' c' w' (own_ncap hown') (OwR.start hown').ints ⟨hgr.os, hgr.tape, hgr.output, hgr.size, fun k hk => hgr.block k (by omega) (by simp)⟩

set_option maxRecDepth 100000 in
set_option maxHeartbeats 3200000 in
theorem spec_reversed (A : Option Addr) (n c : Nat) (xs : List Int) (w : World) (B : Nat) (hB : B ≤ w.heap.size) (hn : n = xs.length) (h : IS w B A xs) (hs : n ≤ 1000) :
    Calls Try.prog 46 #[.slice A n c] w fun e w' => ∃ (g cap : Nat) (ys : List Int), e = .returned (.slice (some ⟨g, 0, none⟩) n cap) ∧ n = ys.length ∧ w'.ownsRow w.heap.size 3 1 (.slice (some ⟨g, 0, none⟩) n cap) n (ys.map (Value.int .i64)) ∧ Below w.heap.size w w' := by
  obtain ⟨i0, hi, hz0, hz1, hz2⟩ := info_parts info_int
  have HN := Lib.hid hn
  have H := Lib.hid h
  have HROW := Lib.hid (World.ownsRow_lit (e := 3) (size := 1) (base := w.heap.size) w #[] 0 (Nat.le_refl _) (by unfold maxLen; omega) (by simp))
  have HB0 := Lib.hid ((Below.refl w.heap.size w).alloc (Nat.le_refl _) (.cells #[] 3))
  obtain ⟨y0, hy0⟩ : ∃ y0 : Int, y0 = (n : Int) - 1 := ⟨_, rfl⟩
  have hwy : IntKind.i64.wrap ((n : Int) - 1) = y0 := by rw [IntKind.wrap_i64]; omega
  clear hn h
  go_enter Try.func46, Try.ntmps46
  go_wp2
  go_loopw [3, 4] (fun v u wr => ∃ (k : Nat) (y : Int) (ys : List Int) (g cap : Nat), k ≤ n ∧ y = (k : Int) - 1 ∧ u = .int .i64 y ∧ ys.length = n - k ∧ v = .slice (some ⟨g, 0, none⟩) (n - k) cap ∧ Hid (wr.ownsRow w.heap.size 3 1 (.slice (some ⟨g, 0, none⟩) (n - k) cap) (n - k) (ys.map (Value.int .i64))) ∧ Hid (Below w.heap.size w wr)) (fun _ u _ => (intOf u + 1).toNat)
  case atStart => exact ⟨n, (n : Int) - 1, [], w.heap.size, 0, Nat.le_refl _, rfl, rfl, by simp, by simp, by simpa [Hid] using HROW.out, HB0.out⟩
  case round =>
    obtain ⟨k, y, ys, g, cap, hk, hyk, rfl, hyl, rfl, HO, HB⟩ := hrel
    by_cases hk0 : 0 < k
    · obtain ⟨q, rfl⟩ : ∃ q, k = q + 1 := ⟨k - 1, by omega⟩
      obtain rfl : y = (q : Int) := by omega
      clear hyk hk0
      obtain ⟨b, off, rfl, hbB, hc⟩ := H.out (by have := HN.out; omega)
      have hbw : b < wr.heap.size := by have := HB.out.size; omega
      have c0 := (HB.out.cell (p := ⟨b, off + q, none⟩) (by show b < w.heap.size; omega)).trans (hc q (by have := HN.out; omega))
      generalize xs.getD q 0 = z at c0
      obtain ⟨y1, hy1⟩ : ∃ y1 : Int, y1 = (q : Int) - 1 := ⟨_, rfl⟩
      have hwq : IntKind.i64.wrap ((q : Int) - 1) = y1 := by rw [IntKind.wrap_i64]; omega
      go_wp2_with (at_builtin; refine wpList_append_own _ rfl _ _ 23 rfl w.heap.size 3 i0 (.int .i64 0) 1 8 Try.underlying23 hi hz0 hz1 hz2 rfl (by decide) _ _ _ rfl (HO.out.alloc _) ⟨_, 0, none⟩ 1 1 [.int .i64 z] rfl rfl (cell_one_new _ _ _) ?c2 ?c3 ?c4 ?c5 ?_)
      case c2 => first | rfl | (intro u hu; simp at hu; subst hu; rfl)
      case c3 => unfold maxLen; omega
      case c4 => omega
      case c5 => have := HB.out.size; first | omega | (simp; omega)
      intro v9 w9 hown9 hgrow9 _
      have hpos := (HO.out.alloc (.cells #[.int .i64 z] 3)).lt
      have hb9 : Below w.heap.size (wr.alloc (.cells #[.int .i64 z] 3)) w9 := (Below.refl _ _).grown hgrow9 (by have := HB.out.size; simp; omega) (fun q hq => (hpos q hq).1)
      have HB9 := Lib.hid ((HB.out.alloc HB.out.size (.cells #[.int .i64 z] 3)).trans hb9)
      have hown8 : w9.ownsRow w.heap.size 3 1 v9 (n - q) ((ys ++ [z]).map (Value.int .i64)) := by
        have e : n - (q + 1) + 1 = n - q := by omega
        rw [e] at hown9
        simpa using hown9
      obtain ⟨g9, c9, rfl⟩ := row_form2 hown8 (by omega)
      have HO9 := Lib.hid hown8
      clear hown9 hown8 hgrow9 hpos hb9 hc HO HB
      go_wp2
      go_roundw
      case rel => exact ⟨q, y1, ys ++ [z], g9, c9, by omega, hy1, by go_num, by rw [List.length_append, hyl]; simp; omega, rfl, HO9.out, HB9.out⟩
      case measure => simp [intOf] <;> omega
    · obtain rfl : k = 0 := by omega
      have hneg : y < 0 := by omega
      have hO := HO.out
      rw [Nat.sub_zero] at hO hyl
      have HO2 := Lib.hid hO
      clear hO HO
      go_wp2
      go_ret
      exact ⟨g, cap, ys, rfl, hyl.symm, HO2.out, HB.out⟩
end Go.Proofs.Ytknnbajcabodoaa
