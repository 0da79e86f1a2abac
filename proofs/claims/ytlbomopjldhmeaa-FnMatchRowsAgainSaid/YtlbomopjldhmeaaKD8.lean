/- The drawing of two lists of keys, with where they lie. (Made by kd8.py.) -/
import Derived.Test.YtlbomopjldhmeaaB8a

namespace Go.Proofs.Ytlbomopjldhmeaa
set_option linter.unusedSimpArgs false
set_option linter.unusedVariables false
open Go.RowKit

/-- An address lies in block d0 or behind it. -/
def Lo (d0 : Nat) (A : Option Addr) : Prop := ∀ p, A = some p → d0 ≤ p.block
theorem lo_some {d0 b off : Nat} (h : d0 ≤ b) : Lo d0 (some ⟨b, off, none⟩) := fun p hp => by cases hp; exact h
theorem lo_own {d0 base n c size : Nat} {e : TypeId} {A : Option Addr} {xs : List Value} {w : World} (h : w.ownsRow base e size (.slice A n c) n xs) (hd : d0 ≤ base) : Lo d0 A := fun p hp => by
  subst hp
  exact Nat.le_trans hd (h.lt p.block rfl).1
theorem Lo.less {d0 d1 : Nat} {A : Option Addr} (h : Lo d1 A) (hd : d0 ≤ d1) : Lo d0 A := fun p hp => Nat.le_trans hd (h p hp)
/-- A list keeps while the reader turns. -/
theorem IS.turnR {g d0 : Nat} {A : Option Addr} {xs : List Int} {w w' : World} (h : IS w w.heap.size A xs) (hl : Lo d0 A) (ht : Tch g (g + 1) w w') (hg : g < d0) : IS w' w'.heap.size A xs := by
  intro hn
  obtain ⟨b, off, rfl, hb, hc⟩ := h hn
  have hlb := hl _ rfl
  exact ⟨b, off, rfl, Nat.lt_of_lt_of_le hb ht.size, fun j hj => (World.cell?_of_block (a := ⟨b, off + j, none⟩) (ht.block b hb (.inr (by simp at hlb; omega)))).trans (hc j hj)⟩

/-- Returns two lists of at most eleven numbers in fresh blocks; the reader goes on. -/
def K2Q (g : Nat) (A : Option Addr) (n c : Nat) (bs : List Int) (Q : Nat) (w : World) (e : Ending) (w' : World) : Prop :=
  ∃ (A1 : Option Addr) (n1 c1 : Nat) (xs : List Int) (A2 : Option Addr) (n2 c2 : Nat) (ys : List Int), e = .returned (.tuple #[.slice A1 n1 c1, .slice A2 n2 c2]) ∧ n1 = xs.length ∧ n1 ≤ 11 ∧ n1 ≤ c1 ∧ n2 = ys.length ∧ n2 ≤ 11 ∧ n2 ≤ c2 ∧ IS w' w'.heap.size A1 xs ∧ IS w' w'.heap.size A2 ys ∧ Rdr g A n c bs Q w' ∧ Frd g w.heap.size w w' ∧ Lo w.heap.size A1 ∧ Lo w.heap.size A2
theorem KS.finq {g n c la ca d0 P Q l cb : Nat} {A Aa Ab : Option Addr} {bs xs ys : List Int} {w0 w : World} (h : KS g A n c bs w0 Aa la ca xs d0 P w) (hla : la = xs.length) (hl11 : la ≤ 11) (hl : l = ys.length) (hm : l ≤ 11) (hc : l ≤ cb) (hi : IS w w.heap.size Ab ys) (hP : P ≤ Q) (hlo : Lo d0 Ab) :
    K2Q g A n c bs Q w0 (.returned (.tuple #[.slice Aa la ca, .slice Ab l cb])) w :=
  ⟨Aa, la, ca, xs, Ab, l, cb, ys, rfl, hla, hl11, own_ncap h.a.1, hl, hm, hc, h.a.ints.more h.d, hi, h.rd.mono hP, h.fr, lo_own h.a.1 (Nat.le_refl _), hlo.less h.d1⟩

theorem wpList_app_cm2 (w : World) {ops : Array Oper} {rest : List Oper} {o : Oper} {a : Act} {Q : Exit → Act → World → Prop} (hgd : o.guard = none) (s x : Operand)
    (ho : o.op = .call { callee := .builtin .append, args := #[s, x], argTypes := #[22, 22] })
    {d0 b off l c : Nat} {ys : List Int} (hs : a.eval s = .slice (some ⟨b, off, none⟩) l c) (hc : Cm d0 b off l c ys w) (hl : l ≤ 1000) (z : Int) (ad : Addr) (cx : Nat) (hx : a.eval x = .slice (some ad) 1 cx) (hz : w.cell? ad = some (.int .i64 z))
    (h : ∀ A' c' w', l + 1 ≤ c' → IS w' w'.heap.size A' (ys ++ [z]) → Lo d0 A' → Below d0 w w' → wpList Try.prog ops Q rest (a.put o.dst (.slice A' (l + 1) c')) w') :
    wpList Try.prog ops Q (o :: rest) a w := by
  obtain ⟨i0, hi, hz0, hz1, hz2⟩ := info_parts info_int
  have hlen := hc.len
  have hwl := hc.hi
  have hd := hc.lo
  refine wpList_append_arg w hgd s x 22 ho 3 i0 (.int .i64 0) 1 8 Try.underlying22 hi hz0 hz1 hz2 rfl (by decide) b off l c (ys.map (Value.int .i64)) hs (by simp; omega) ?_ ad 1 cx [.int .i64 z] hx rfl ?_ (by intro u hu; simp at hu; subst hu; rfl) ?_ (by unfold maxLen; omega) (by omega) ?_ ?_
  · intro j u hj
    rw [List.getElem?_map, Option.map_eq_some_iff] at hj
    obtain ⟨y, hy, rfl⟩ := hj
    have hlt := (List.getElem?_eq_some_iff.1 hy).1
    rw [hc.cells j (by omega)]
    simp [List.getD, hy]
  · intro j u hj
    match j, hj with
    | 0, hj => simp at hj; subst hj; simpa [Addr.add] using hz
  · intro hr j hj
    simp at hj
    subst hj
    simpa using hc.spare l (Nat.le_refl _) (by omega)
  · intro hr
    have hsp := (hc.spare l (Nat.le_refl _) (by omega)).1
    obtain ⟨u, hu⟩ := Option.isSome_iff_exists.1 hsp
    have e : w.setCells b (off + l * 1) [.int .i64 z] = w.setCell ⟨b, off + l, none⟩ (.int .i64 z) := by rw [Nat.mul_one]; rfl
    rw [e]
    refine h (some ⟨b, off, none⟩) c _ (by omega) (fun _ => ⟨b, off, rfl, by simpa [World.setCell] using hwl, fun j hj => ?_⟩) (lo_some hd) ((Below.refl d0 w).setCell (p := ⟨b, off + l, none⟩) hd _)
    rw [List.length_append] at hj
    simp at hj
    by_cases hjl : j = l
    · subst hjl
      rw [World.cell?_setCell_same _ _ _ hu]
      simp [List.getD, hlen]
    · rw [World.cell?_setCell_other _ _ _ _ (by intro e; have := congrArg Addr.off e; simp at this; omega), hc.cells j (by omega)]
      simp [List.getD, List.getElem?_append_left (show j < ys.length by omega)]
  · intro hg v' w' hown hgr
    have hown' : w'.ownsRow w.heap.size 3 1 v' (l + 1) ((ys ++ [z]).map (Value.int .i64)) := by simpa using hown
    obtain ⟨A', c', rfl⟩ := row_form hown'
    refine h A' c' w' (own_ncap hown') (OwR.start hown').ints (lo_own hown' (by omega)) ⟨hgr.os, hgr.tape, hgr.output, hgr.size, fun k hk => hgr.block k (by omega) (by simp)⟩

set_option maxRecDepth 100000 in
set_option maxHeartbeats 25600000 in
theorem keysOf_q (g : Nat) (A : Option Addr) (n c : Nat) (bs : List Int) (P : Nat) (w : World) (h : Rdr g A n c bs P w) (hn : n = bs.length) (hby : BY bs) (hs : n ≤ 2000) (hP : P ≤ 400000) :
    Calls Try.prog 42 #[.pointer (some ⟨g, 0, none⟩)] w fun e w' => K2Q g A n c bs (P + 60) w e w' := by
  obtain ⟨i0, hi, hz0, hz1, hz2⟩ := info_parts info_int
  have hgw := h.lt
  have HN := Lib.hid hn
  have HC := Lib.hid (someKeys_any g A n c bs P w h hn hby hs (by omega))
  clear h hn
  go_enter Try.func42, Try.ntmps42
  go_wp2_with fail
  refine HC.out.mono ?_
  rintro e w1 ⟨v1, la, xs, rfl, hl, hl11, ho, hr, hf⟩
  obtain ⟨Aa, ca, rfl⟩ := row_form ho.1
  obtain ⟨d0, hd0⟩ : ∃ d0, d0 = w1.heap.size := ⟨_, rfl⟩
  have hd1 : d0 ≤ w1.heap.size := by omega
  have hgd : g < d0 := by have := hf.size; omega
  have HS1 : Hid (KS g A n c bs w Aa la ca xs d0 (P + 13) w1) := ⟨hgw, hr, hf, by rw [hd0]; exact ho, by omega, by rw [hd0]; exact hf.size⟩
  have HLA := Lib.hid hl
  have HCP := Lib.hid (spec_copyIntsA Aa la ca xs w1 w1.heap.size (Nat.le_refl _) HLA.out (HS1.out.a.ints.more HS1.out.d) (by omega))
  clear hl ho hr hf HC hd0
  go_wp2_with fail
  refine HCP.out.mono ?_
  rintro e w2 ⟨b2, c2, rfl, hown, hb2⟩
  have HS2 := Lib.hid (HS1.out.below hb2 hd1)
  have HB2 := Lib.hid ((Cm.of_own hown).lower hd1)
  clear hown hb2 HS1 HCP hd1
  go_wp2_with fail
  refine (pick_any g A n c bs (P + 13) 4 w2 HS2.out.rd HN.out hby hs (by omega) (by omega)).mono ?_
  rintro e w3 ⟨y, rfl, _, _, hr3, ht3⟩
  have HS3 := Lib.hid (HS2.out.pick hr3 ht3)
  have HB3 := Lib.hid (HB2.out.turn ht3 hgd)
  clear hr3 ht3 HS2 HB2
  by_cases hy0 : y = 0
  · have hy0' : ((y : Int) == 0) = true := by simp [hy0]
    clear hy0
    go_wp2_with fail
    refine (someKeys_any g A n c bs (P + 14) w3 HS3.out.rd HN.out hby hs (by omega)).mono ?_
    rintro e w4 ⟨v4, l4, ys, rfl, hl4, hl4M, ho4, hr4, hf4⟩
    obtain ⟨A4, c4, rfl⟩ := row_form ho4.1
    have HK := Lib.hid ((HS3.out.frd hr4 hf4 HS3.out.d).finq (Q := P + 60) HLA.out hl11 hl4 hl4M (own_ncap ho4.1) ho4.ints (by omega) (lo_own ho4.1 HS3.out.d))
    clear hl4 ho4 hr4 hf4 HS3 HB3
    go_wp2
    go_ret2
    exact HK.out
  have hy0' : ((y : Int) == 0) = false := by simp; omega
  clear hy0

  by_cases hy1 : y = 1
  · have hy1' : ((y : Int) == 1) = true := by simp [hy1]
    clear hy1
    go_wp2_with fail
    refine (spec_reversed (some ⟨b2, 0, none⟩) la c2 xs w3 w3.heap.size (Nat.le_refl _) HLA.out HB3.out.is (by omega)).mono ?_
    rintro e w4 ⟨b4, c4, ys4, rfl, hl4, hown4, hb4⟩
    have HS4 := Lib.hid (HS3.out.below hb4 HS3.out.d)
    have HB4 := Lib.hid ((Cm.of_own hown4).lower HS3.out.d)
    clear hl4 hown4 hb4 HS3 HB3
    go_wp2_with fail
    refine (pick_any g A n c bs (P + 14) 4 w4 HS4.out.rd HN.out hby hs (by omega) (by omega)).mono ?_
    rintro e w5 ⟨N, rfl, hN, _, hr5, ht5⟩
    have hN4 : (N : Int) < 4 := hN (by omega)
    have HS5 := Lib.hid (HS4.out.pick hr5 ht5)
    have HB5 := Lib.hid (HB4.out.turn ht5 hgd)
    clear hr5 ht5 HS4 HB4 hN
    go_wp2
    go_loopw [5, 6] (fun v u wr => ∃ (i m b off cb : Nat) (ys : List Int), i + m = N ∧ u = .int .i64 m ∧ v = .slice (some ⟨b, off, none⟩) la cb ∧ Hid (Cm d0 b off la cb ys wr) ∧ Hid (KS g A n c bs w Aa la ca xs d0 (P + 15 + 2 * i) wr)) (fun _ u _ => (intOf u).toNat)
    case atStart => exact ⟨0, N, b4, 0, c4, ys4, by omega, rfl, rfl, HB5.out, HS5.out⟩
    case round =>
      obtain ⟨i, m, b, off, cb, ys, him, rfl, rfl, HB, HS⟩ := hrel
      clear HB5 HS5
      have hlcb : la ≤ cb := HB.out.cap
      by_cases hm : 0 < m
      case neg =>
        obtain rfl : m = 0 := by omega
        clear hm
        have hlb11 : la ≤ cb := HB.out.cap
        by_cases hl0 : 0 < la
        · go_wp2_with fail
          refine (pick_any g A n c bs (P + 15 + 2 * i) 2 wr HS.out.rd HN.out hby hs (by omega) (by omega)).mono ?_
          rintro e wt11 ⟨x1, rfl, _, _, hrt, htt⟩
          have HSt11 := Lib.hid (HS.out.pick hrt htt)
          have HBt11 := Lib.hid (HB.out.turn htt hgd)
          clear hrt htt
          by_cases hx1 : x1 = 0
          · have hx1' : ((x1 : Int) == 0) = true := by simp [hx1]
            clear hx1
            have hla11 : 1 ≤ la := by omega
            have hlz11 : (1 : Int) ≤ (la : Int) := by omega
            have hcq11 : 1 ≤ cb := by omega
            obtain ⟨o4, ho4, hB4⟩ := HBt11.out.drop1 hl0
            obtain ⟨l4, hl4⟩ : ∃ l4, l4 = la - 1 := ⟨_, rfl⟩
            obtain ⟨ys4, hys4⟩ : ∃ ys4, ys4 = ys.drop 1 := ⟨_, rfl⟩
            rw [← hl4, ← hys4] at hB4
            clear hys4
            have hl4m : l4 ≤ 11 := by omega
            have hl4' : la - 1 = l4 := hl4.symm
            clear hl4
            by_cases hcb1 : cb = 1
            · rw [if_pos hcb1] at ho4
              cases ho4
              rw [hcb1] at hB4
              have hcc : cb - 1 = 0 := by omega
              have HBu11 := Lib.hid (show Cm d0 b off l4 0 ys4 wt11 from hB4)
              clear hB4
              have hlc12 : l4 ≤ 0 := HBu11.out.cap
              have h10 : l4 < 10 := by omega
              have HPL := Lib.hid (spec_placeIn (some ⟨b, off, none⟩) l4 0 ys4 20 wt11 wt11.heap.size (Nat.le_refl _) HBu11.out.len HBu11.out.is (by omega))
              go_wp2_with fail
              refine HPL.out.mono ?_
              rintro e wx12 ⟨rfl, rfl⟩
              clear HPL
              generalize plc ys4 20 = p at *
              by_cases hp : p < 0
              case neg =>
                go_wp2
                go_ret2
                exact HSt11.out.finq HLA.out hl11 HBu11.out.len (by omega) HBu11.out.cap HBu11.out.is (by omega) (lo_some HBu11.out.lo)
              go_wp2_with fail
              refine (pick_any g A n c bs (P + 15 + 2 * i + 1) 2 wt11 HSt11.out.rd HN.out hby hs (by omega) (by omega)).mono ?_
              rintro e wz12 ⟨x2, rfl, _, _, hrz, htz⟩
              have HSz12 := Lib.hid (HSt11.out.pick hrz htz)
              have HBz12 := Lib.hid (HBu11.out.turn htz hgd)
              clear hrz htz
              by_cases hx2 : x2 = 0
              case neg =>
                have hx2' : ((x2 : Int) == 0) = false := by simp; omega
                clear hx2
                go_wp2
                go_ret2
                exact HSz12.out.finq HLA.out hl11 HBz12.out.len (by omega) HBz12.out.cap HBz12.out.is (by omega) (lo_some HBz12.out.lo)
              have hx2' : ((x2 : Int) == 0) = true := by simp [hx2]
              clear hx2
              have HSy12 := Lib.hid (HSz12.out.below (below_new wz12 (.cells #[.int .i64 20] 3)) HSz12.out.d)
              have HBy12 := Lib.hid (HBz12.out.step (below_new wz12 (.cells #[.int .i64 20] 3)))
              go_wp2_with (at_builtin; refine wpList_app_cm2 _ rfl _ _ rfl (b := b) (off := off) (l := l4) (c := 0) (ys := ys4) rfl HBy12.out (by omega) 20 ⟨wz12.heap.size, 0, none⟩ 1 rfl (by go_simp) ?_)
              intro A9 c9 w9 hc9 hI9 hlo9 hb9
              have HK := Lib.hid ((HSy12.out.below hb9 (Nat.le_refl _)).finq (Q := P + 60) HLA.out hl11 (by rw [List.length_append, ← HBy12.out.len]; rfl) (by omega) hc9 hI9 (by omega) hlo9)
              clear hI9 hlo9 hb9 HSy12 HBy12 HSz12 HBz12
              go_wp2
              go_ret2
              exact HK.out
            · rw [if_neg hcb1] at ho4
              cases ho4
              obtain ⟨c4, hc4⟩ : ∃ c4, c4 = cb - 1 := ⟨_, rfl⟩
              rw [← hc4] at hB4
              have hc4' : cb - 1 = c4 := hc4.symm
              clear hc4
              have HBu11 := Lib.hid hB4
              clear hB4
              have hlc13 : l4 ≤ c4 := HBu11.out.cap
              by_cases h10 : l4 < 10
              case neg =>
                go_wp2
                go_ret2
                exact HSt11.out.finq HLA.out hl11 HBu11.out.len (by omega) HBu11.out.cap HBu11.out.is (by omega) (lo_some HBu11.out.lo)
              have HPL := Lib.hid (spec_placeIn (some ⟨b, off + 1, none⟩) l4 c4 ys4 20 wt11 wt11.heap.size (Nat.le_refl _) HBu11.out.len HBu11.out.is (by omega))
              go_wp2_with fail
              refine HPL.out.mono ?_
              rintro e wx13 ⟨rfl, rfl⟩
              clear HPL
              generalize plc ys4 20 = p at *
              by_cases hp : p < 0
              case neg =>
                go_wp2
                go_ret2
                exact HSt11.out.finq HLA.out hl11 HBu11.out.len (by omega) HBu11.out.cap HBu11.out.is (by omega) (lo_some HBu11.out.lo)
              go_wp2_with fail
              refine (pick_any g A n c bs (P + 15 + 2 * i + 1) 2 wt11 HSt11.out.rd HN.out hby hs (by omega) (by omega)).mono ?_
              rintro e wz13 ⟨x2, rfl, _, _, hrz, htz⟩
              have HSz13 := Lib.hid (HSt11.out.pick hrz htz)
              have HBz13 := Lib.hid (HBu11.out.turn htz hgd)
              clear hrz htz
              by_cases hx2 : x2 = 0
              case neg =>
                have hx2' : ((x2 : Int) == 0) = false := by simp; omega
                clear hx2
                go_wp2
                go_ret2
                exact HSz13.out.finq HLA.out hl11 HBz13.out.len (by omega) HBz13.out.cap HBz13.out.is (by omega) (lo_some HBz13.out.lo)
              have hx2' : ((x2 : Int) == 0) = true := by simp [hx2]
              clear hx2
              have HSy13 := Lib.hid (HSz13.out.below (below_new wz13 (.cells #[.int .i64 20] 3)) HSz13.out.d)
              have HBy13 := Lib.hid (HBz13.out.step (below_new wz13 (.cells #[.int .i64 20] 3)))
              go_wp2_with (at_builtin; refine wpList_app_cm2 _ rfl _ _ rfl (b := b) (off := off + 1) (l := l4) (c := c4) (ys := ys4) rfl HBy13.out (by omega) 20 ⟨wz13.heap.size, 0, none⟩ 1 rfl (by go_simp) ?_)
              intro A9 c9 w9 hc9 hI9 hlo9 hb9
              have HK := Lib.hid ((HSy13.out.below hb9 (Nat.le_refl _)).finq (Q := P + 60) HLA.out hl11 (by rw [List.length_append, ← HBy13.out.len]; rfl) (by omega) hc9 hI9 (by omega) hlo9)
              clear hI9 hlo9 hb9 HSy13 HBy13 HSz13 HBz13
              go_wp2
              go_ret2
              exact HK.out
          · have hx1' : ((x1 : Int) == 0) = false := by simp; omega
            clear hx1
            have hlc14 : la ≤ cb := HBt11.out.cap
            by_cases h10 : la < 10
            case neg =>
              go_wp2
              go_ret2
              exact HSt11.out.finq HLA.out hl11 HBt11.out.len (by omega) HBt11.out.cap HBt11.out.is (by omega) (lo_some HBt11.out.lo)
            have HPL := Lib.hid (spec_placeIn (some ⟨b, off, none⟩) la cb ys 20 wt11 wt11.heap.size (Nat.le_refl _) HBt11.out.len HBt11.out.is (by omega))
            go_wp2_with fail
            refine HPL.out.mono ?_
            rintro e wx14 ⟨rfl, rfl⟩
            clear HPL
            generalize plc ys 20 = p at *
            by_cases hp : p < 0
            case neg =>
              go_wp2
              go_ret2
              exact HSt11.out.finq HLA.out hl11 HBt11.out.len (by omega) HBt11.out.cap HBt11.out.is (by omega) (lo_some HBt11.out.lo)
            go_wp2_with fail
            refine (pick_any g A n c bs (P + 15 + 2 * i + 1) 2 wt11 HSt11.out.rd HN.out hby hs (by omega) (by omega)).mono ?_
            rintro e wz14 ⟨x2, rfl, _, _, hrz, htz⟩
            have HSz14 := Lib.hid (HSt11.out.pick hrz htz)
            have HBz14 := Lib.hid (HBt11.out.turn htz hgd)
            clear hrz htz
            by_cases hx2 : x2 = 0
            case neg =>
              have hx2' : ((x2 : Int) == 0) = false := by simp; omega
              clear hx2
              go_wp2
              go_ret2
              exact HSz14.out.finq HLA.out hl11 HBz14.out.len (by omega) HBz14.out.cap HBz14.out.is (by omega) (lo_some HBz14.out.lo)
            have hx2' : ((x2 : Int) == 0) = true := by simp [hx2]
            clear hx2
            have HSy14 := Lib.hid (HSz14.out.below (below_new wz14 (.cells #[.int .i64 20] 3)) HSz14.out.d)
            have HBy14 := Lib.hid (HBz14.out.step (below_new wz14 (.cells #[.int .i64 20] 3)))
            go_wp2_with (at_builtin; refine wpList_app_cm2 _ rfl _ _ rfl (b := b) (off := off) (l := la) (c := cb) (ys := ys) rfl HBy14.out (by omega) 20 ⟨wz14.heap.size, 0, none⟩ 1 rfl (by go_simp) ?_)
            intro A9 c9 w9 hc9 hI9 hlo9 hb9
            have HK := Lib.hid ((HSy14.out.below hb9 (Nat.le_refl _)).finq (Q := P + 60) HLA.out hl11 (by rw [List.length_append, ← HBy14.out.len]; rfl) (by omega) hc9 hI9 (by omega) hlo9)
            clear hI9 hlo9 hb9 HSy14 HBy14 HSz14 HBz14
            go_wp2
            go_ret2
            exact HK.out
        · obtain rfl : la = 0 := by omega
          clear hl0
          have hlc15 : 0 ≤ cb := HB.out.cap
          have h10 : 0 < 10 := by omega
          have HPL := Lib.hid (spec_placeIn (some ⟨b, off, none⟩) 0 cb ys 20 wr wr.heap.size (Nat.le_refl _) HB.out.len HB.out.is (by omega))
          go_wp2_with fail
          refine HPL.out.mono ?_
          rintro e wx15 ⟨rfl, rfl⟩
          clear HPL
          generalize plc ys 20 = p at *
          by_cases hp : p < 0
          case neg =>
            go_wp2
            go_ret2
            exact HS.out.finq HLA.out hl11 HB.out.len (by omega) HB.out.cap HB.out.is (by omega) (lo_some HB.out.lo)
          go_wp2_with fail
          refine (pick_any g A n c bs (P + 15 + 2 * i) 2 wr HS.out.rd HN.out hby hs (by omega) (by omega)).mono ?_
          rintro e wz15 ⟨x2, rfl, _, _, hrz, htz⟩
          have HSz15 := Lib.hid (HS.out.pick hrz htz)
          have HBz15 := Lib.hid (HB.out.turn htz hgd)
          clear hrz htz
          by_cases hx2 : x2 = 0
          case neg =>
            have hx2' : ((x2 : Int) == 0) = false := by simp; omega
            clear hx2
            go_wp2
            go_ret2
            exact HSz15.out.finq HLA.out hl11 HBz15.out.len (by omega) HBz15.out.cap HBz15.out.is (by omega) (lo_some HBz15.out.lo)
          have hx2' : ((x2 : Int) == 0) = true := by simp [hx2]
          clear hx2
          have HSy15 := Lib.hid (HSz15.out.below (below_new wz15 (.cells #[.int .i64 20] 3)) HSz15.out.d)
          have HBy15 := Lib.hid (HBz15.out.step (below_new wz15 (.cells #[.int .i64 20] 3)))
          go_wp2_with (at_builtin; refine wpList_app_cm2 _ rfl _ _ rfl (b := b) (off := off) (l := 0) (c := cb) (ys := ys) rfl HBy15.out (by omega) 20 ⟨wz15.heap.size, 0, none⟩ 1 rfl (by go_simp) ?_)
          intro A9 c9 w9 hc9 hI9 hlo9 hb9
          have HK := Lib.hid ((HSy15.out.below hb9 (Nat.le_refl _)).finq (Q := P + 60) HLA.out hl11 (by rw [List.length_append, ← HBy15.out.len]; rfl) (by omega) hc9 hI9 (by omega) hlo9)
          clear hI9 hlo9 hb9 HSy15 HBy15 HSz15 HBz15
          go_wp2
          go_ret2
          exact HK.out
      by_cases hla : 1 < la
      case neg =>
        have hlb16 : la ≤ cb := HB.out.cap
        by_cases hl0 : 0 < la
        · go_wp2_with fail
          refine (pick_any g A n c bs (P + 15 + 2 * i) 2 wr HS.out.rd HN.out hby hs (by omega) (by omega)).mono ?_
          rintro e wt16 ⟨x1, rfl, _, _, hrt, htt⟩
          have HSt16 := Lib.hid (HS.out.pick hrt htt)
          have HBt16 := Lib.hid (HB.out.turn htt hgd)
          clear hrt htt
          by_cases hx1 : x1 = 0
          · have hx1' : ((x1 : Int) == 0) = true := by simp [hx1]
            clear hx1
            have hla16 : 1 ≤ la := by omega
            have hlz16 : (1 : Int) ≤ (la : Int) := by omega
            have hcq16 : 1 ≤ cb := by omega
            obtain ⟨o4, ho4, hB4⟩ := HBt16.out.drop1 hl0
            obtain ⟨l4, hl4⟩ : ∃ l4, l4 = la - 1 := ⟨_, rfl⟩
            obtain ⟨ys4, hys4⟩ : ∃ ys4, ys4 = ys.drop 1 := ⟨_, rfl⟩
            rw [← hl4, ← hys4] at hB4
            clear hys4
            have hl4m : l4 ≤ 11 := by omega
            have hl4' : la - 1 = l4 := hl4.symm
            clear hl4
            by_cases hcb1 : cb = 1
            · rw [if_pos hcb1] at ho4
              cases ho4
              rw [hcb1] at hB4
              have hcc : cb - 1 = 0 := by omega
              have HBu16 := Lib.hid (show Cm d0 b off l4 0 ys4 wt16 from hB4)
              clear hB4
              have hlc17 : l4 ≤ 0 := HBu16.out.cap
              have h10 : l4 < 10 := by omega
              have HPL := Lib.hid (spec_placeIn (some ⟨b, off, none⟩) l4 0 ys4 20 wt16 wt16.heap.size (Nat.le_refl _) HBu16.out.len HBu16.out.is (by omega))
              go_wp2_with fail
              refine HPL.out.mono ?_
              rintro e wx17 ⟨rfl, rfl⟩
              clear HPL
              generalize plc ys4 20 = p at *
              by_cases hp : p < 0
              case neg =>
                go_wp2
                go_ret2
                exact HSt16.out.finq HLA.out hl11 HBu16.out.len (by omega) HBu16.out.cap HBu16.out.is (by omega) (lo_some HBu16.out.lo)
              go_wp2_with fail
              refine (pick_any g A n c bs (P + 15 + 2 * i + 1) 2 wt16 HSt16.out.rd HN.out hby hs (by omega) (by omega)).mono ?_
              rintro e wz17 ⟨x2, rfl, _, _, hrz, htz⟩
              have HSz17 := Lib.hid (HSt16.out.pick hrz htz)
              have HBz17 := Lib.hid (HBu16.out.turn htz hgd)
              clear hrz htz
              by_cases hx2 : x2 = 0
              case neg =>
                have hx2' : ((x2 : Int) == 0) = false := by simp; omega
                clear hx2
                go_wp2
                go_ret2
                exact HSz17.out.finq HLA.out hl11 HBz17.out.len (by omega) HBz17.out.cap HBz17.out.is (by omega) (lo_some HBz17.out.lo)
              have hx2' : ((x2 : Int) == 0) = true := by simp [hx2]
              clear hx2
              have HSy17 := Lib.hid (HSz17.out.below (below_new wz17 (.cells #[.int .i64 20] 3)) HSz17.out.d)
              have HBy17 := Lib.hid (HBz17.out.step (below_new wz17 (.cells #[.int .i64 20] 3)))
              go_wp2_with (at_builtin; refine wpList_app_cm2 _ rfl _ _ rfl (b := b) (off := off) (l := l4) (c := 0) (ys := ys4) rfl HBy17.out (by omega) 20 ⟨wz17.heap.size, 0, none⟩ 1 rfl (by go_simp) ?_)
              intro A9 c9 w9 hc9 hI9 hlo9 hb9
              have HK := Lib.hid ((HSy17.out.below hb9 (Nat.le_refl _)).finq (Q := P + 60) HLA.out hl11 (by rw [List.length_append, ← HBy17.out.len]; rfl) (by omega) hc9 hI9 (by omega) hlo9)
              clear hI9 hlo9 hb9 HSy17 HBy17 HSz17 HBz17
              go_wp2
              go_ret2
              exact HK.out
            · rw [if_neg hcb1] at ho4
              cases ho4
              obtain ⟨c4, hc4⟩ : ∃ c4, c4 = cb - 1 := ⟨_, rfl⟩
              rw [← hc4] at hB4
              have hc4' : cb - 1 = c4 := hc4.symm
              clear hc4
              have HBu16 := Lib.hid hB4
              clear hB4
              have hlc18 : l4 ≤ c4 := HBu16.out.cap
              have h10 : l4 < 10 := by omega
              have HPL := Lib.hid (spec_placeIn (some ⟨b, off + 1, none⟩) l4 c4 ys4 20 wt16 wt16.heap.size (Nat.le_refl _) HBu16.out.len HBu16.out.is (by omega))
              go_wp2_with fail
              refine HPL.out.mono ?_
              rintro e wx18 ⟨rfl, rfl⟩
              clear HPL
              generalize plc ys4 20 = p at *
              by_cases hp : p < 0
              case neg =>
                go_wp2
                go_ret2
                exact HSt16.out.finq HLA.out hl11 HBu16.out.len (by omega) HBu16.out.cap HBu16.out.is (by omega) (lo_some HBu16.out.lo)
              go_wp2_with fail
              refine (pick_any g A n c bs (P + 15 + 2 * i + 1) 2 wt16 HSt16.out.rd HN.out hby hs (by omega) (by omega)).mono ?_
              rintro e wz18 ⟨x2, rfl, _, _, hrz, htz⟩
              have HSz18 := Lib.hid (HSt16.out.pick hrz htz)
              have HBz18 := Lib.hid (HBu16.out.turn htz hgd)
              clear hrz htz
              by_cases hx2 : x2 = 0
              case neg =>
                have hx2' : ((x2 : Int) == 0) = false := by simp; omega
                clear hx2
                go_wp2
                go_ret2
                exact HSz18.out.finq HLA.out hl11 HBz18.out.len (by omega) HBz18.out.cap HBz18.out.is (by omega) (lo_some HBz18.out.lo)
              have hx2' : ((x2 : Int) == 0) = true := by simp [hx2]
              clear hx2
              have HSy18 := Lib.hid (HSz18.out.below (below_new wz18 (.cells #[.int .i64 20] 3)) HSz18.out.d)
              have HBy18 := Lib.hid (HBz18.out.step (below_new wz18 (.cells #[.int .i64 20] 3)))
              go_wp2_with (at_builtin; refine wpList_app_cm2 _ rfl _ _ rfl (b := b) (off := off + 1) (l := l4) (c := c4) (ys := ys4) rfl HBy18.out (by omega) 20 ⟨wz18.heap.size, 0, none⟩ 1 rfl (by go_simp) ?_)
              intro A9 c9 w9 hc9 hI9 hlo9 hb9
              have HK := Lib.hid ((HSy18.out.below hb9 (Nat.le_refl _)).finq (Q := P + 60) HLA.out hl11 (by rw [List.length_append, ← HBy18.out.len]; rfl) (by omega) hc9 hI9 (by omega) hlo9)
              clear hI9 hlo9 hb9 HSy18 HBy18 HSz18 HBz18
              go_wp2
              go_ret2
              exact HK.out
          · have hx1' : ((x1 : Int) == 0) = false := by simp; omega
            clear hx1
            have hlc19 : la ≤ cb := HBt16.out.cap
            have h10 : la < 10 := by omega
            have HPL := Lib.hid (spec_placeIn (some ⟨b, off, none⟩) la cb ys 20 wt16 wt16.heap.size (Nat.le_refl _) HBt16.out.len HBt16.out.is (by omega))
            go_wp2_with fail
            refine HPL.out.mono ?_
            rintro e wx19 ⟨rfl, rfl⟩
            clear HPL
            generalize plc ys 20 = p at *
            by_cases hp : p < 0
            case neg =>
              go_wp2
              go_ret2
              exact HSt16.out.finq HLA.out hl11 HBt16.out.len (by omega) HBt16.out.cap HBt16.out.is (by omega) (lo_some HBt16.out.lo)
            go_wp2_with fail
            refine (pick_any g A n c bs (P + 15 + 2 * i + 1) 2 wt16 HSt16.out.rd HN.out hby hs (by omega) (by omega)).mono ?_
            rintro e wz19 ⟨x2, rfl, _, _, hrz, htz⟩
            have HSz19 := Lib.hid (HSt16.out.pick hrz htz)
            have HBz19 := Lib.hid (HBt16.out.turn htz hgd)
            clear hrz htz
            by_cases hx2 : x2 = 0
            case neg =>
              have hx2' : ((x2 : Int) == 0) = false := by simp; omega
              clear hx2
              go_wp2
              go_ret2
              exact HSz19.out.finq HLA.out hl11 HBz19.out.len (by omega) HBz19.out.cap HBz19.out.is (by omega) (lo_some HBz19.out.lo)
            have hx2' : ((x2 : Int) == 0) = true := by simp [hx2]
            clear hx2
            have HSy19 := Lib.hid (HSz19.out.below (below_new wz19 (.cells #[.int .i64 20] 3)) HSz19.out.d)
            have HBy19 := Lib.hid (HBz19.out.step (below_new wz19 (.cells #[.int .i64 20] 3)))
            go_wp2_with (at_builtin; refine wpList_app_cm2 _ rfl _ _ rfl (b := b) (off := off) (l := la) (c := cb) (ys := ys) rfl HBy19.out (by omega) 20 ⟨wz19.heap.size, 0, none⟩ 1 rfl (by go_simp) ?_)
            intro A9 c9 w9 hc9 hI9 hlo9 hb9
            have HK := Lib.hid ((HSy19.out.below hb9 (Nat.le_refl _)).finq (Q := P + 60) HLA.out hl11 (by rw [List.length_append, ← HBy19.out.len]; rfl) (by omega) hc9 hI9 (by omega) hlo9)
            clear hI9 hlo9 hb9 HSy19 HBy19 HSz19 HBz19
            go_wp2
            go_ret2
            exact HK.out
        · obtain rfl : la = 0 := by omega
          clear hl0
          have hlc20 : 0 ≤ cb := HB.out.cap
          have h10 : 0 < 10 := by omega
          have HPL := Lib.hid (spec_placeIn (some ⟨b, off, none⟩) 0 cb ys 20 wr wr.heap.size (Nat.le_refl _) HB.out.len HB.out.is (by omega))
          go_wp2_with fail
          refine HPL.out.mono ?_
          rintro e wx20 ⟨rfl, rfl⟩
          clear HPL
          generalize plc ys 20 = p at *
          by_cases hp : p < 0
          case neg =>
            go_wp2
            go_ret2
            exact HS.out.finq HLA.out hl11 HB.out.len (by omega) HB.out.cap HB.out.is (by omega) (lo_some HB.out.lo)
          go_wp2_with fail
          refine (pick_any g A n c bs (P + 15 + 2 * i) 2 wr HS.out.rd HN.out hby hs (by omega) (by omega)).mono ?_
          rintro e wz20 ⟨x2, rfl, _, _, hrz, htz⟩
          have HSz20 := Lib.hid (HS.out.pick hrz htz)
          have HBz20 := Lib.hid (HB.out.turn htz hgd)
          clear hrz htz
          by_cases hx2 : x2 = 0
          case neg =>
            have hx2' : ((x2 : Int) == 0) = false := by simp; omega
            clear hx2
            go_wp2
            go_ret2
            exact HSz20.out.finq HLA.out hl11 HBz20.out.len (by omega) HBz20.out.cap HBz20.out.is (by omega) (lo_some HBz20.out.lo)
          have hx2' : ((x2 : Int) == 0) = true := by simp [hx2]
          clear hx2
          have HSy20 := Lib.hid (HSz20.out.below (below_new wz20 (.cells #[.int .i64 20] 3)) HSz20.out.d)
          have HBy20 := Lib.hid (HBz20.out.step (below_new wz20 (.cells #[.int .i64 20] 3)))
          go_wp2_with (at_builtin; refine wpList_app_cm2 _ rfl _ _ rfl (b := b) (off := off) (l := 0) (c := cb) (ys := ys) rfl HBy20.out (by omega) 20 ⟨wz20.heap.size, 0, none⟩ 1 rfl (by go_simp) ?_)
          intro A9 c9 w9 hc9 hI9 hlo9 hb9
          have HK := Lib.hid ((HSy20.out.below hb9 (Nat.le_refl _)).finq (Q := P + 60) HLA.out hl11 (by rw [List.length_append, ← HBy20.out.len]; rfl) (by omega) hc9 hI9 (by omega) hlo9)
          clear hI9 hlo9 hb9 HSy20 HBy20 HSz20 HBz20
          go_wp2
          go_ret2
          exact HK.out
      go_wp2_with fail
      refine (pick_any g A n c bs (P + 15 + 2 * i) (la : Int) wr HS.out.rd HN.out hby hs (by omega) (by omega)).mono ?_
      rintro e w6 ⟨k, rfl, hkl, _, hr6, ht6⟩
      have hk : k < la := by have := hkl (by omega); omega
      have HS6 := Lib.hid (HS.out.pick hr6 ht6)
      have HB6 := Lib.hid (HB.out.turn ht6 hgd)
      clear hr6 ht6 hkl HS HB
      have c0 := HB6.out.cells k hk
      generalize ys.getD k 0 = z at c0
      obtain ⟨o2, ho2, hnx⟩ := HB6.out.tail (k + 1) (by omega)
      have HNX := Lib.hid hnx
      have hbw6 := HB6.out.hi
      have hwk : IntKind.i64.wrap ((k : Int) + 1) = ((k + 1 : Nat) : Int) := by rw [IntKind.wrap_i64]; omega
      have hk0 : (0 : Int) ≤ (k : Int) + 1 := by omega
      have hk1 : (k : Int) + 1 ≤ (la : Int) := by omega
      have hkc : k + 1 ≤ cb := by omega
      have hkc0 : k ≤ cb := by omega
      have HCK := Lib.hid (spec_copyIntsA (some ⟨b, off, none⟩) k cb (ys.take k) w6.drew w6.heap.size (Nat.le_refl _) (by rw [List.length_take, ← HB6.out.len]; omega) (HB6.out.is.take_ k (by rw [← HB6.out.len]; omega)) (by omega))
      have HYL := Lib.hid HB6.out.len
      clear hnx
      go_wp2
      refine wp_region_held_drew (S := fun _ => True) (by kernel_rfl) trivial (fun hHeld => ?_)
      refine wpAnyH_take (i := 0) (oi := ⟨some 44, _, _, _, _, _⟩) (v := ?_) rfl (by kernel_rfl) (by kernel_rfl) (by kernel_rfl) (fun _ _ _ h => h) (Or.inl ⟨by rfl, ?_⟩) (by assumption) ?_; rotate_left; (focus (intro w hSw; (try dsimp only at hSw); go_simp; (try with_reducible rfl))); (try simp only [Act.put, List.setIfInBounds_toArray, List.set_cons_zero, List.set_cons_succ])
      refine wpAnyH_take (i := 1) (oi := ⟨some 45, _, _, _, _, _⟩) (v := ?_) rfl (by kernel_rfl) (by kernel_rfl) (by kernel_rfl) (fun _ _ _ h => h) (Or.inl ⟨by rfl, ?_⟩) (by assumption) ?_; rotate_left; (focus (intro w hSw; (try dsimp only at hSw); go_simp; (try with_reducible rfl))); (try simp only [Act.put, List.setIfInBounds_toArray, List.set_cons_zero, List.set_cons_succ])
      refine wpAnyH_take (i := 2) (oi := ⟨some 46, _, _, _, _, _⟩) (v := ?_) rfl (by kernel_rfl) (by kernel_rfl) (by kernel_rfl) (fun _ _ _ h => h) (Or.inl ⟨by rfl, ?_⟩) (by assumption) ?_; rotate_left; (focus (intro w hSw; (try dsimp only at hSw); go_simp; (try with_reducible rfl))); (try simp only [Act.put, List.setIfInBounds_toArray, List.set_cons_zero, List.set_cons_succ])
      refine wpAnyH_take (i := 4) (oi := ⟨some 48, _, _, _, _, _⟩) (v := ?_) rfl (by kernel_rfl) (by kernel_rfl) (by kernel_rfl) (fun _ _ _ h => h) (Or.inl ⟨by rfl, ?_⟩) (by assumption) ?_; rotate_left; (focus (intro w hSw; (try dsimp only at hSw); go_simp; (try with_reducible rfl))); (try simp only [Act.put, List.setIfInBounds_toArray, List.set_cons_zero, List.set_cons_succ])
      refine wpAnyH_take (i := 5) (oi := ⟨some 49, _, _, _, _, _⟩) (v := ?_) rfl (by kernel_rfl) (by kernel_rfl) (by kernel_rfl) (fun _ _ _ h => h) (Or.inl ⟨by rfl, ?_⟩) (by assumption) ?_; rotate_left; (focus (intro w hSw; (try dsimp only at hSw); go_simp; (try with_reducible rfl))); (try simp only [Act.put, List.setIfInBounds_toArray, List.set_cons_zero, List.set_cons_succ])
      refine wpAnyH_take (i := 6) (oi := ⟨some 50, _, _, _, _, _⟩) (v := ?_) rfl (by kernel_rfl) (by kernel_rfl) (by kernel_rfl) (fun _ _ _ h => h) (Or.inl ⟨by rfl, ?_⟩) (by assumption) ?_; rotate_left; (focus (intro w hSw; (try dsimp only at hSw); go_simp; (try with_reducible rfl))); (try simp only [Act.put, List.setIfInBounds_toArray, List.set_cons_zero, List.set_cons_succ])
      refine wpAnyH_take (i := 7) (oi := ⟨some 51, _, _, _, _, _⟩) (v := ?_) rfl (by kernel_rfl) (by kernel_rfl) (by kernel_rfl) (fun _ _ _ h => h) (Or.inl ⟨by rfl, ?_⟩) (by assumption) ?_; rotate_left; (focus (intro w hSw; (try dsimp only at hSw); go_simp; (try with_reducible rfl))); (try simp only [Act.put, List.setIfInBounds_toArray, List.set_cons_zero, List.set_cons_succ])
      refine wpAnyH_ready (rs := [3]) (by kernel_rfl) (by simp) ?_; refine AllReadyH.cons (o := ⟨some 47, _, _, _, _, _⟩) rfl (fun K hK => ?_) AllReadyH.nil; go_simp
      go_at_call 36
      refine HCK.out.mono ?_
      rintro e w7 ⟨g7, c7, rfl, hown7', hb7'⟩
      have hb7 : Below w6.heap.size w6 w7 := below_of_drew hb7'
      have hown7 : w7.ownsRow w6.heap.size 3 1 (.slice (some ⟨g7, 0, none⟩) k c7) k ((ys.take k).map (Value.int .i64)) := hown7'
      have HNX7 := Lib.hid (add_cell HNX.out hb7 hbw6)
      clear hown7' hb7' HCK HNX
      refine hK.out _ _ trivial (fun hHeld => ?_); clear hK K; (try simp only [Act.put, List.setIfInBounds_toArray, List.set_cons_zero, List.set_cons_succ])
      refine wpAnyH_ready (rs := [8]) (by kernel_rfl) (by simp) ?_; refine AllReadyH.cons (o := ⟨some 52, _, _, _, _, _⟩) rfl (fun K hK => ?_) AllReadyH.nil
      refine step_append_own_at _ (by rfl) _ _ _ (by rfl) w6.heap.size 3 i0 (.int .i64 0) 1 8 Try.underlying22 hi hz0 hz1 hz2 rfl (by omega) (.slice (some ⟨g7, 0, none⟩) k c7) (k) ((ys.take k).map (Value.int .i64)) (by rfl) hown7 ⟨b, o2, none⟩ (la - (k + 1)) (cb - (k + 1)) ((ys.drop (k + 1)).map (Value.int .i64)) (by rfl) (by rw [List.length_map, List.length_drop, ← HYL.out]; omega) HNX7.out (one_ints _) (by unfold maxLen; omega) (by omega) hb7.size ?_
      intro v8 w8 hown_w8 hgrow_w8 _
      have hpos8 := hown7.lt
      have hb8 : Below w6.heap.size w6 w8 := hb7.trans ((Below.refl _ _).grown (w' := w8) (w := w7) ⟨hgrow_w8.os, hgrow_w8.tape, hgrow_w8.output, hgrow_w8.size, hgrow_w8.block⟩ hb7.size (fun q hq => (hpos8 q hq).1))
      obtain ⟨l1, hl1⟩ : ∃ l1, l1 + 1 = la := ⟨la - 1, by omega⟩
      obtain ⟨zs, hzs⟩ : ∃ zs, zs = ys.take k ++ ys.drop (k + 1) := ⟨_, rfl⟩
      have hown8 : w8.ownsRow w6.heap.size 3 1 v8 l1 (zs.map (Value.int .i64)) := by
        have e : k + (la - (k + 1)) = l1 := by omega
        rw [e] at hown_w8
        rw [hzs, List.map_append]; exact hown_w8
      obtain ⟨b8, o8, c8, hv8, HB8⟩ : ∃ b8 o8 c8, v8 = .slice (some ⟨b8, o8, none⟩) l1 c8 ∧ Hid (Cm d0 b8 o8 l1 c8 zs w8) := by
        obtain ⟨g8, c8, hv⟩ := row_form2 hown8 (by omega)
        subst hv
        exact ⟨g8, 0, c8, rfl, (Cm.of_own hown8).lower HS6.out.d⟩
      subst hv8
      have HS8 := Lib.hid (HS6.out.below hb8 HS6.out.d)
      clear hown7 hown8 hown_w8 hgrow_w8 hb7 hb8 hpos8 hzs HB6 HS6 HNX7 HYL c0
      refine hK.out _ _ trivial (fun hHeld => ?_); clear hK K; (try simp only [Act.put, List.setIfInBounds_toArray, List.set_cons_zero, List.set_cons_succ])
      refine wpAnyH_take (i := 9) (oi := ⟨some 5, _, _, _, _, _⟩) (v := ?_) rfl (by kernel_rfl) (by kernel_rfl) (by kernel_rfl) (fun _ _ _ h => h) (Or.inl ⟨by rfl, ?_⟩) (by assumption) ?_; rotate_left; (focus (intro w hSw; (try dsimp only at hSw); go_simp; (try with_reducible rfl))); (try simp only [Act.put, List.setIfInBounds_toArray, List.set_cons_zero, List.set_cons_succ])
      refine wpAnyH_done (by kernel_rfl) ?_ _
      clear hwk hk0 hk1 hkc hkc0 ho2
      have HL1 := Lib.hid hl1
      have hl1a : l1 < la := by omega
      have hl1b : la ≤ l1 + 1 := by omega
      clear hl1
      go_wp2_with fail
      refine (pick_any g A n c bs (P + 15 + 2 * i + 1) ((l1 : Int) + 1) w8 HS8.out.rd HN.out hby hs (by omega) (by omega)).mono ?_
      rintro e w9 ⟨k2, rfl, hkl, _, hr9, ht9⟩
      have hk2 : k2 ≤ l1 := by have := hkl (by omega); omega
      have HS9 := Lib.hid (HS8.out.pick hr9 ht9)
      have HB9 := Lib.hid (HB8.out.turn ht9 hgd)
      clear hr9 ht9 hkl HS8 HB8
      obtain ⟨o3, ho3, hnx⟩ := HB9.out.tail k2 hk2
      have HNX := Lib.hid hnx
      have hbw9 := HB9.out.hi
      have hlc9 : l1 ≤ c8 := HB9.out.cap
      have hk2c : k2 ≤ c8 := by omega
      have HZL := Lib.hid HB9.out.len
      have HIZ := Lib.hid (HB9.out.is.take_ k2 (by rw [← HZL.out]; exact hk2))
      have HDL := Lib.hid HS9.out.d
      clear hnx
      go_wp2
      refine wp_region_held_drew (S := fun _ => True) (by kernel_rfl) trivial (fun hHeld => ?_)
      refine wpAnyH_take (i := 0) (oi := ⟨some 58, _, _, _, _, _⟩) (v := ?_) rfl (by kernel_rfl) (by kernel_rfl) (by kernel_rfl) (fun _ _ _ h => h) (Or.inl ⟨by rfl, ?_⟩) (by assumption) ?_; rotate_left; (focus (intro w hSw; (try dsimp only at hSw); go_simp; (try with_reducible rfl))); (try simp only [Act.put, List.setIfInBounds_toArray, List.set_cons_zero, List.set_cons_succ])
      refine wpAnyH_take (i := 1) (oi := ⟨some 59, _, _, _, _, _⟩) (v := ?_) rfl (by kernel_rfl) (by kernel_rfl) (by kernel_rfl) (fun _ _ _ h => h) (Or.inl ⟨by rfl, ?_⟩) (by assumption) ?_; rotate_left; (focus (intro w hSw; (try dsimp only at hSw); go_simp; (try with_reducible rfl))); (try simp only [Act.put, List.setIfInBounds_toArray, List.set_cons_zero, List.set_cons_succ])
      refine wpAnyH_take (i := 2) (oi := ⟨some 60, _, _, _, _, _⟩) (v := ?_) rfl (by kernel_rfl) (by kernel_rfl) (by kernel_rfl) (fun _ _ _ h => h) (Or.inl ⟨by rfl, ?_⟩) (by assumption) ?_; rotate_left; (focus (intro w hSw; (try dsimp only at hSw); go_simp; (try with_reducible rfl))); (try simp only [Act.put, List.setIfInBounds_toArray, List.set_cons_zero, List.set_cons_succ])
      refine wpAnyH_take (i := 4) (oi := ⟨some 62, _, _, _, _, _⟩) (v := ?_) rfl (by kernel_rfl) (by kernel_rfl) (by kernel_rfl) (fun _ _ _ h => h) (Or.inl ⟨by rfl, ?_⟩) (by assumption) ?_; rotate_left; (focus (intro w hSw; (try dsimp only at hSw); go_simp; (try with_reducible rfl))); (try simp only [Act.put, List.setIfInBounds_toArray, List.set_cons_zero, List.set_cons_succ])
      refine wpAnyH_take (i := 7) (oi := ⟨some 65, _, _, _, _, _⟩) (v := ?_) rfl (by kernel_rfl) (by kernel_rfl) (by kernel_rfl) (fun _ _ _ h => h) (Or.inl ⟨by rfl, ?_⟩) (by assumption) ?_; rotate_left; (focus (intro w hSw; (try dsimp only at hSw); go_simp; (try with_reducible rfl))); (try simp only [Act.put, List.setIfInBounds_toArray, List.set_cons_zero, List.set_cons_succ])
      refine wpAnyH_take (i := 8) (oi := ⟨some 66, _, _, _, _, _⟩) (v := ?_) rfl (by kernel_rfl) (by kernel_rfl) (by kernel_rfl) (fun _ _ _ h => h) (Or.inl ⟨by rfl, ?_⟩) (by assumption) ?_; rotate_left; (focus (intro w hSw; (try dsimp only at hSw); go_simp; (try with_reducible rfl))); (try simp only [Act.put, List.setIfInBounds_toArray, List.set_cons_zero, List.set_cons_succ])
      refine wpAnyH_take (i := 9) (oi := ⟨some 67, _, _, _, _, _⟩) (v := ?_) rfl (by kernel_rfl) (by kernel_rfl) (by kernel_rfl) (fun _ _ _ h => h) (Or.inl ⟨by rfl, ?_⟩) (by assumption) ?_; rotate_left; (focus (intro w hSw; (try dsimp only at hSw); go_simp; (try with_reducible rfl))); (try simp only [Act.put, List.setIfInBounds_toArray, List.set_cons_zero, List.set_cons_succ])
      refine wpAnyH_ready (rs := [3, 5]) (by kernel_rfl) (by simp) ?_; refine AllReadyH.cons (o := ⟨some 61, _, _, _, _, _⟩) rfl (fun K hK => ?_) (AllReadyH.cons (o := ⟨some 63, _, _, _, _, _⟩) rfl (fun K hK => ?_) AllReadyH.nil)
      · go_simp
        go_at_call 36
        refine (spec_copyIntsA (some ⟨b8, o8, none⟩) k2 c8 (zs.take k2) w9.drew w9.heap.size (Nat.le_refl _) (by rw [List.length_take, ← HZL.out]; omega) HIZ.out (by omega)).mono ?_
        rintro e w10 ⟨g10, c10, rfl, hown10', hb10'⟩
        have hb10 : Below w9.heap.size w9 w10 := below_of_drew hb10'
        have hown10 : w10.ownsRow w9.heap.size 3 1 (.slice (some ⟨g10, 0, none⟩) k2 c10) k2 ((zs.take k2).map (Value.int .i64)) := hown10'
        have HNX1 := Lib.hid (add_cell (add_cell HNX.out hb10 hbw9) (below_new w10 (.cells #[.int .i64 z] 3)) (Nat.lt_of_lt_of_le hbw9 hb10.size))
        have hX : Below w9.heap.size w9 (w10.alloc (.cells #[.int .i64 z] 3)) := hb10.alloc hb10.size _
        have hownX := hown10.alloc (.cells #[.int .i64 z] 3)
        clear hown10' hb10' HNX hown10
        refine hK.out _ _ trivial (fun hHeld => ?_); clear hK K; (try simp only [Act.put, List.setIfInBounds_toArray, List.set_cons_zero, List.set_cons_succ])
        refine wpAnyH_ready (rs := [5]) (by kernel_rfl) (by simp) ?_; refine AllReadyH.cons (o := ⟨some 63, _, _, _, _, _⟩) rfl (fun K hK => ?_) AllReadyH.nil; go_simp
        refine hK.out _ _ trivial (fun hHeld => ?_); clear hK K; (try simp only [Act.put, List.setIfInBounds_toArray, List.set_cons_zero, List.set_cons_succ])
        refine wpAnyH_ready (rs := [6]) (by kernel_rfl) (by simp) ?_; refine AllReadyH.cons (o := ⟨some 64, _, _, _, _, _⟩) rfl (fun K hK => ?_) AllReadyH.nil
        refine step_append_own_at _ (by rfl) _ _ _ (by rfl) w9.heap.size 3 i0 (.int .i64 0) 1 8 Try.underlying22 hi hz0 hz1 hz2 rfl (by omega) (.slice (some ⟨g10, 0, none⟩) k2 c10) (k2) ((zs.take k2).map (Value.int .i64)) (by rfl) hownX ⟨w10.heap.size, 0, none⟩ (1) (1) ([.int .i64 z]) (by rfl) rfl (cell_one_new _ _ _) (by intro u hu; simp at hu; subst hu; rfl) (by unfold maxLen; omega) (by omega) hX.size ?_
        intro v11 w11 hown_w11 hgrow_w11 _
        have hpos11 := hownX.lt
        have hb11 : Below w9.heap.size w9 w11 := hX.trans ((Below.refl _ _).grown (w' := w11) (w := (w10.alloc (.cells #[.int .i64 z] 3))) ⟨hgrow_w11.os, hgrow_w11.tape, hgrow_w11.output, hgrow_w11.size, hgrow_w11.block⟩ hX.size (fun q hq => (hpos11 q hq).1))
        have hgr11 : (w10.alloc (.cells #[.int .i64 z] 3)).grownBy w11 (Value.slice (some ⟨g10, 0, none⟩) k2 c10).ownBlock := ⟨hgrow_w11.os, hgrow_w11.tape, hgrow_w11.output, hgrow_w11.size, hgrow_w11.block⟩
        have HNX2 := Lib.hid (add_cell HNX1.out ((Below.refl w9.heap.size _).grown hgr11 hX.size (fun q hq => (hpos11 q hq).1)) hbw9)
        clear hgrow_w11 hgr11 hpos11 HNX1
        refine hK.out _ _ trivial (fun hHeld => ?_); clear hK K; (try simp only [Act.put, List.setIfInBounds_toArray, List.set_cons_zero, List.set_cons_succ])
        refine wpAnyH_ready (rs := [10]) (by kernel_rfl) (by simp) ?_; refine AllReadyH.cons (o := ⟨some 68, _, _, _, _, _⟩) rfl (fun K hK => ?_) AllReadyH.nil
        refine step_append_own_at _ (by rfl) _ _ _ (by rfl) w9.heap.size 3 i0 (.int .i64 0) 1 8 Try.underlying22 hi hz0 hz1 hz2 rfl (by omega) (v11) (k2 + 1) ((zs.take k2).map (Value.int .i64) ++ [.int .i64 z]) (by rfl) hown_w11 ⟨b8, o3, none⟩ (l1 - k2) (c8 - k2) ((zs.drop k2).map (Value.int .i64)) (by rfl) (by rw [List.length_map, List.length_drop, ← HZL.out]; omega) HNX2.out (one_ints _) (by unfold maxLen; omega) (by omega) hb11.size ?_
        intro v12 w12 hown_w12 hgrow_w12 _
        have hpos12 := hown_w11.lt
        have hb12 : Below w9.heap.size w9 w12 := hb11.trans ((Below.refl _ _).grown (w' := w12) (w := w11) ⟨hgrow_w12.os, hgrow_w12.tape, hgrow_w12.output, hgrow_w12.size, hgrow_w12.block⟩ hb11.size (fun q hq => (hpos12 q hq).1))
        have hown12 : w12.ownsRow w9.heap.size 3 1 v12 la ((zs.take k2 ++ [z] ++ zs.drop k2).map (Value.int .i64)) := by
          have e : k2 + 1 + (l1 - k2) = la := by omega
          rw [e] at hown_w12
          simpa using hown_w12
        obtain ⟨b9, o9, c9, hv9, HB12⟩ : ∃ b9 o9 c9, v12 = .slice (some ⟨b9, o9, none⟩) la c9 ∧ Hid (Cm d0 b9 o9 la c9 (zs.take k2 ++ [z] ++ zs.drop k2) w12) := by
          obtain ⟨g9, c9, hv⟩ := row_form2 hown12 (by omega)
          subst hv
          exact ⟨g9, 0, c9, rfl, (Cm.of_own hown12).lower HS9.out.d⟩
        subst hv9
        have HS12 := Lib.hid (HS9.out.below hb12 HS9.out.d)
        clear hown_w11 hown_w12 hown12 hgrow_w12 hpos12 hb11 hb12 hX hownX HNX2 HB9 HS9
        refine hK.out _ _ trivial (fun hHeld => ?_); clear hK K; (try simp only [Act.put, List.setIfInBounds_toArray, List.set_cons_zero, List.set_cons_succ])
        refine wpAnyH_take (i := 11) (oi := ⟨some 5, _, _, _, _, _⟩) (v := ?_) rfl (by kernel_rfl) (by kernel_rfl) (by kernel_rfl) (fun _ _ _ h => h) (Or.inl ⟨by rfl, ?_⟩) (by assumption) ?_; rotate_left; (focus (intro w hSw; (try dsimp only at hSw); go_simp; (try with_reducible rfl))); (try simp only [Act.put, List.setIfInBounds_toArray, List.set_cons_zero, List.set_cons_succ])
        refine wpAnyH_done (by kernel_rfl) ?_ _
        go_wp2
        go_roundw
        case rel => exact ⟨i + 1, m - 1, b9, o9, c9, _, by omega, by go_num, rfl, HB12.out, HS12.out.mono (by omega)⟩
        case measure => simp [intOf]; omega
      · go_simp
        have HIB := Lib.hid (HIZ.out.below (below_new w9 (.cells #[.int .i64 z] 3)) (Nat.le_refl _))
        refine hK.out _ _ trivial (fun hHeld => ?_); clear hK K; (try simp only [Act.put, List.setIfInBounds_toArray, List.set_cons_zero, List.set_cons_succ])
        refine wpAnyH_ready (rs := [3]) (by kernel_rfl) (by simp) ?_; refine AllReadyH.cons (o := ⟨some 61, _, _, _, _, _⟩) rfl (fun K hK => ?_) AllReadyH.nil; go_simp
        go_at_call 36
        refine (spec_copyIntsA (some ⟨b8, o8, none⟩) k2 c8 (zs.take k2) (w9.drew.alloc (.cells #[.int .i64 z] 3)) w9.heap.size (by simp) (by rw [List.length_take, ← HZL.out]; omega) HIB.out (by omega)).mono ?_
        rintro e w10 ⟨g10, c10, rfl, hown10', hb10'⟩
        have hb10'' : Below (w9.alloc (.cells #[.int .i64 z] 3)).heap.size (w9.alloc (.cells #[.int .i64 z] 3)) w10 := ⟨hb10'.os, hb10'.tape, hb10'.output, hb10'.size, hb10'.block⟩
        have hX : Below w9.heap.size w9 w10 := (below_new w9 (.cells #[.int .i64 z] 3)).trans (hb10''.mono (by simp))
        have hownX : w10.ownsRow w9.heap.size 3 1 (.slice (some ⟨g10, 0, none⟩) k2 c10) k2 ((zs.take k2).map (Value.int .i64)) := own_mono hown10' (by simp)
        have HNX1 := Lib.hid (add_cell HNX.out hX hbw9)
        have hcz : ∀ j u, [Value.int .i64 z][j]? = some u → w10.cell? ((⟨w9.heap.size, 0, none⟩ : Addr).add j) = some u := add_cell (cell_one_new w9 (.int .i64 z) 3) hb10'' (by simp)
        clear hown10' hb10' hb10'' HNX
        refine hK.out _ _ trivial (fun hHeld => ?_); clear hK K; (try simp only [Act.put, List.setIfInBounds_toArray, List.set_cons_zero, List.set_cons_succ])
        refine wpAnyH_ready (rs := [6]) (by kernel_rfl) (by simp) ?_; refine AllReadyH.cons (o := ⟨some 64, _, _, _, _, _⟩) rfl (fun K hK => ?_) AllReadyH.nil
        refine step_append_own_at _ (by rfl) _ _ _ (by rfl) w9.heap.size 3 i0 (.int .i64 0) 1 8 Try.underlying22 hi hz0 hz1 hz2 rfl (by omega) (.slice (some ⟨g10, 0, none⟩) k2 c10) (k2) ((zs.take k2).map (Value.int .i64)) (by rfl) hownX ⟨w9.heap.size, 0, none⟩ (1) (1) ([.int .i64 z]) (by rfl) rfl hcz (by intro u hu; simp at hu; subst hu; rfl) (by unfold maxLen; omega) (by omega) hX.size ?_
        intro v11 w11 hown_w11 hgrow_w11 _
        have hpos11 := hownX.lt
        have hb11 : Below w9.heap.size w9 w11 := hX.trans ((Below.refl _ _).grown (w' := w11) (w := w10) ⟨hgrow_w11.os, hgrow_w11.tape, hgrow_w11.output, hgrow_w11.size, hgrow_w11.block⟩ hX.size (fun q hq => (hpos11 q hq).1))
        have hgr11 : w10.grownBy w11 (Value.slice (some ⟨g10, 0, none⟩) k2 c10).ownBlock := ⟨hgrow_w11.os, hgrow_w11.tape, hgrow_w11.output, hgrow_w11.size, hgrow_w11.block⟩
        have HNX2 := Lib.hid (add_cell HNX1.out ((Below.refl w9.heap.size _).grown hgr11 hX.size (fun q hq => (hpos11 q hq).1)) hbw9)
        clear hgrow_w11 hgr11 hpos11 HNX1
        refine hK.out _ _ trivial (fun hHeld => ?_); clear hK K; (try simp only [Act.put, List.setIfInBounds_toArray, List.set_cons_zero, List.set_cons_succ])
        refine wpAnyH_ready (rs := [10]) (by kernel_rfl) (by simp) ?_; refine AllReadyH.cons (o := ⟨some 68, _, _, _, _, _⟩) rfl (fun K hK => ?_) AllReadyH.nil
        refine step_append_own_at _ (by rfl) _ _ _ (by rfl) w9.heap.size 3 i0 (.int .i64 0) 1 8 Try.underlying22 hi hz0 hz1 hz2 rfl (by omega) (v11) (k2 + 1) ((zs.take k2).map (Value.int .i64) ++ [.int .i64 z]) (by rfl) hown_w11 ⟨b8, o3, none⟩ (l1 - k2) (c8 - k2) ((zs.drop k2).map (Value.int .i64)) (by rfl) (by rw [List.length_map, List.length_drop, ← HZL.out]; omega) HNX2.out (one_ints _) (by unfold maxLen; omega) (by omega) hb11.size ?_
        intro v12 w12 hown_w12 hgrow_w12 _
        have hpos12 := hown_w11.lt
        have hb12 : Below w9.heap.size w9 w12 := hb11.trans ((Below.refl _ _).grown (w' := w12) (w := w11) ⟨hgrow_w12.os, hgrow_w12.tape, hgrow_w12.output, hgrow_w12.size, hgrow_w12.block⟩ hb11.size (fun q hq => (hpos12 q hq).1))
        have hown12 : w12.ownsRow w9.heap.size 3 1 v12 la ((zs.take k2 ++ [z] ++ zs.drop k2).map (Value.int .i64)) := by
          have e : k2 + 1 + (l1 - k2) = la := by omega
          rw [e] at hown_w12
          simpa using hown_w12
        obtain ⟨b9, o9, c9, hv9, HB12⟩ : ∃ b9 o9 c9, v12 = .slice (some ⟨b9, o9, none⟩) la c9 ∧ Hid (Cm d0 b9 o9 la c9 (zs.take k2 ++ [z] ++ zs.drop k2) w12) := by
          obtain ⟨g9, c9, hv⟩ := row_form2 hown12 (by omega)
          subst hv
          exact ⟨g9, 0, c9, rfl, (Cm.of_own hown12).lower HS9.out.d⟩
        subst hv9
        have HS12 := Lib.hid (HS9.out.below hb12 HS9.out.d)
        clear hown_w11 hown_w12 hown12 hgrow_w12 hpos12 hb11 hb12 hX hownX HNX2 HB9 HS9
        refine hK.out _ _ trivial (fun hHeld => ?_); clear hK K; (try simp only [Act.put, List.setIfInBounds_toArray, List.set_cons_zero, List.set_cons_succ])
        refine wpAnyH_take (i := 11) (oi := ⟨some 5, _, _, _, _, _⟩) (v := ?_) rfl (by kernel_rfl) (by kernel_rfl) (by kernel_rfl) (fun _ _ _ h => h) (Or.inl ⟨by rfl, ?_⟩) (by assumption) ?_; rotate_left; (focus (intro w hSw; (try dsimp only at hSw); go_simp; (try with_reducible rfl))); (try simp only [Act.put, List.setIfInBounds_toArray, List.set_cons_zero, List.set_cons_succ])
        refine wpAnyH_done (by kernel_rfl) ?_ _
        go_wp2
        go_roundw
        case rel => exact ⟨i + 1, m - 1, b9, o9, c9, _, by omega, by go_num, rfl, HB12.out, HS12.out.mono (by omega)⟩
        case measure => simp [intOf]; omega
  · have hy1' : ((y : Int) == 1) = false := by simp; omega
    clear hy1
    go_wp2_with fail
    refine (pick_any g A n c bs (P + 14) 4 w3 HS3.out.rd HN.out hby hs (by omega) (by omega)).mono ?_
    rintro e w5 ⟨N, rfl, hN, _, hr5, ht5⟩
    have hN4 : (N : Int) < 4 := hN (by omega)
    have HS5 := Lib.hid (HS3.out.pick hr5 ht5)
    have HB5 := Lib.hid (HB3.out.turn ht5 hgd)
    clear hr5 ht5 HS3 HB3 hN
    go_wp2
    go_loopw [5, 6] (fun v u wr => ∃ (i m b off cb : Nat) (ys : List Int), i + m = N ∧ u = .int .i64 m ∧ v = .slice (some ⟨b, off, none⟩) la cb ∧ Hid (Cm d0 b off la cb ys wr) ∧ Hid (KS g A n c bs w Aa la ca xs d0 (P + 15 + 2 * i) wr)) (fun _ u _ => (intOf u).toNat)
    case atStart => exact ⟨0, N, b2, 0, c2, xs, by omega, rfl, rfl, HB5.out, HS5.out⟩
    case round =>
      obtain ⟨i, m, b, off, cb, ys, him, rfl, rfl, HB, HS⟩ := hrel
      clear HB5 HS5
      have hlcb : la ≤ cb := HB.out.cap
      by_cases hm : 0 < m
      case neg =>
        obtain rfl : m = 0 := by omega
        clear hm
        have hlb21 : la ≤ cb := HB.out.cap
        by_cases hl0 : 0 < la
        · go_wp2_with fail
          refine (pick_any g A n c bs (P + 15 + 2 * i) 2 wr HS.out.rd HN.out hby hs (by omega) (by omega)).mono ?_
          rintro e wt21 ⟨x1, rfl, _, _, hrt, htt⟩
          have HSt21 := Lib.hid (HS.out.pick hrt htt)
          have HBt21 := Lib.hid (HB.out.turn htt hgd)
          clear hrt htt
          by_cases hx1 : x1 = 0
          · have hx1' : ((x1 : Int) == 0) = true := by simp [hx1]
            clear hx1
            have hla21 : 1 ≤ la := by omega
            have hlz21 : (1 : Int) ≤ (la : Int) := by omega
            have hcq21 : 1 ≤ cb := by omega
            obtain ⟨o4, ho4, hB4⟩ := HBt21.out.drop1 hl0
            obtain ⟨l4, hl4⟩ : ∃ l4, l4 = la - 1 := ⟨_, rfl⟩
            obtain ⟨ys4, hys4⟩ : ∃ ys4, ys4 = ys.drop 1 := ⟨_, rfl⟩
            rw [← hl4, ← hys4] at hB4
            clear hys4
            have hl4m : l4 ≤ 11 := by omega
            have hl4' : la - 1 = l4 := hl4.symm
            clear hl4
            by_cases hcb1 : cb = 1
            · rw [if_pos hcb1] at ho4
              cases ho4
              rw [hcb1] at hB4
              have hcc : cb - 1 = 0 := by omega
              have HBu21 := Lib.hid (show Cm d0 b off l4 0 ys4 wt21 from hB4)
              clear hB4
              have hlc22 : l4 ≤ 0 := HBu21.out.cap
              have h10 : l4 < 10 := by omega
              have HPL := Lib.hid (spec_placeIn (some ⟨b, off, none⟩) l4 0 ys4 20 wt21 wt21.heap.size (Nat.le_refl _) HBu21.out.len HBu21.out.is (by omega))
              go_wp2_with fail
              refine HPL.out.mono ?_
              rintro e wx22 ⟨rfl, rfl⟩
              clear HPL
              generalize plc ys4 20 = p at *
              by_cases hp : p < 0
              case neg =>
                go_wp2
                go_ret2
                exact HSt21.out.finq HLA.out hl11 HBu21.out.len (by omega) HBu21.out.cap HBu21.out.is (by omega) (lo_some HBu21.out.lo)
              go_wp2_with fail
              refine (pick_any g A n c bs (P + 15 + 2 * i + 1) 2 wt21 HSt21.out.rd HN.out hby hs (by omega) (by omega)).mono ?_
              rintro e wz22 ⟨x2, rfl, _, _, hrz, htz⟩
              have HSz22 := Lib.hid (HSt21.out.pick hrz htz)
              have HBz22 := Lib.hid (HBu21.out.turn htz hgd)
              clear hrz htz
              by_cases hx2 : x2 = 0
              case neg =>
                have hx2' : ((x2 : Int) == 0) = false := by simp; omega
                clear hx2
                go_wp2
                go_ret2
                exact HSz22.out.finq HLA.out hl11 HBz22.out.len (by omega) HBz22.out.cap HBz22.out.is (by omega) (lo_some HBz22.out.lo)
              have hx2' : ((x2 : Int) == 0) = true := by simp [hx2]
              clear hx2
              have HSy22 := Lib.hid (HSz22.out.below (below_new wz22 (.cells #[.int .i64 20] 3)) HSz22.out.d)
              have HBy22 := Lib.hid (HBz22.out.step (below_new wz22 (.cells #[.int .i64 20] 3)))
              go_wp2_with (at_builtin; refine wpList_app_cm2 _ rfl _ _ rfl (b := b) (off := off) (l := l4) (c := 0) (ys := ys4) rfl HBy22.out (by omega) 20 ⟨wz22.heap.size, 0, none⟩ 1 rfl (by go_simp) ?_)
              intro A9 c9 w9 hc9 hI9 hlo9 hb9
              have HK := Lib.hid ((HSy22.out.below hb9 (Nat.le_refl _)).finq (Q := P + 60) HLA.out hl11 (by rw [List.length_append, ← HBy22.out.len]; rfl) (by omega) hc9 hI9 (by omega) hlo9)
              clear hI9 hlo9 hb9 HSy22 HBy22 HSz22 HBz22
              go_wp2
              go_ret2
              exact HK.out
            · rw [if_neg hcb1] at ho4
              cases ho4
              obtain ⟨c4, hc4⟩ : ∃ c4, c4 = cb - 1 := ⟨_, rfl⟩
              rw [← hc4] at hB4
              have hc4' : cb - 1 = c4 := hc4.symm
              clear hc4
              have HBu21 := Lib.hid hB4
              clear hB4
              have hlc23 : l4 ≤ c4 := HBu21.out.cap
              by_cases h10 : l4 < 10
              case neg =>
                go_wp2
                go_ret2
                exact HSt21.out.finq HLA.out hl11 HBu21.out.len (by omega) HBu21.out.cap HBu21.out.is (by omega) (lo_some HBu21.out.lo)
              have HPL := Lib.hid (spec_placeIn (some ⟨b, off + 1, none⟩) l4 c4 ys4 20 wt21 wt21.heap.size (Nat.le_refl _) HBu21.out.len HBu21.out.is (by omega))
              go_wp2_with fail
              refine HPL.out.mono ?_
              rintro e wx23 ⟨rfl, rfl⟩
              clear HPL
              generalize plc ys4 20 = p at *
              by_cases hp : p < 0
              case neg =>
                go_wp2
                go_ret2
                exact HSt21.out.finq HLA.out hl11 HBu21.out.len (by omega) HBu21.out.cap HBu21.out.is (by omega) (lo_some HBu21.out.lo)
              go_wp2_with fail
              refine (pick_any g A n c bs (P + 15 + 2 * i + 1) 2 wt21 HSt21.out.rd HN.out hby hs (by omega) (by omega)).mono ?_
              rintro e wz23 ⟨x2, rfl, _, _, hrz, htz⟩
              have HSz23 := Lib.hid (HSt21.out.pick hrz htz)
              have HBz23 := Lib.hid (HBu21.out.turn htz hgd)
              clear hrz htz
              by_cases hx2 : x2 = 0
              case neg =>
                have hx2' : ((x2 : Int) == 0) = false := by simp; omega
                clear hx2
                go_wp2
                go_ret2
                exact HSz23.out.finq HLA.out hl11 HBz23.out.len (by omega) HBz23.out.cap HBz23.out.is (by omega) (lo_some HBz23.out.lo)
              have hx2' : ((x2 : Int) == 0) = true := by simp [hx2]
              clear hx2
              have HSy23 := Lib.hid (HSz23.out.below (below_new wz23 (.cells #[.int .i64 20] 3)) HSz23.out.d)
              have HBy23 := Lib.hid (HBz23.out.step (below_new wz23 (.cells #[.int .i64 20] 3)))
              go_wp2_with (at_builtin; refine wpList_app_cm2 _ rfl _ _ rfl (b := b) (off := off + 1) (l := l4) (c := c4) (ys := ys4) rfl HBy23.out (by omega) 20 ⟨wz23.heap.size, 0, none⟩ 1 rfl (by go_simp) ?_)
              intro A9 c9 w9 hc9 hI9 hlo9 hb9
              have HK := Lib.hid ((HSy23.out.below hb9 (Nat.le_refl _)).finq (Q := P + 60) HLA.out hl11 (by rw [List.length_append, ← HBy23.out.len]; rfl) (by omega) hc9 hI9 (by omega) hlo9)
              clear hI9 hlo9 hb9 HSy23 HBy23 HSz23 HBz23
              go_wp2
              go_ret2
              exact HK.out
          · have hx1' : ((x1 : Int) == 0) = false := by simp; omega
            clear hx1
            have hlc24 : la ≤ cb := HBt21.out.cap
            by_cases h10 : la < 10
            case neg =>
              go_wp2
              go_ret2
              exact HSt21.out.finq HLA.out hl11 HBt21.out.len (by omega) HBt21.out.cap HBt21.out.is (by omega) (lo_some HBt21.out.lo)
            have HPL := Lib.hid (spec_placeIn (some ⟨b, off, none⟩) la cb ys 20 wt21 wt21.heap.size (Nat.le_refl _) HBt21.out.len HBt21.out.is (by omega))
            go_wp2_with fail
            refine HPL.out.mono ?_
            rintro e wx24 ⟨rfl, rfl⟩
            clear HPL
            generalize plc ys 20 = p at *
            by_cases hp : p < 0
            case neg =>
              go_wp2
              go_ret2
              exact HSt21.out.finq HLA.out hl11 HBt21.out.len (by omega) HBt21.out.cap HBt21.out.is (by omega) (lo_some HBt21.out.lo)
            go_wp2_with fail
            refine (pick_any g A n c bs (P + 15 + 2 * i + 1) 2 wt21 HSt21.out.rd HN.out hby hs (by omega) (by omega)).mono ?_
            rintro e wz24 ⟨x2, rfl, _, _, hrz, htz⟩
            have HSz24 := Lib.hid (HSt21.out.pick hrz htz)
            have HBz24 := Lib.hid (HBt21.out.turn htz hgd)
            clear hrz htz
            by_cases hx2 : x2 = 0
            case neg =>
              have hx2' : ((x2 : Int) == 0) = false := by simp; omega
              clear hx2
              go_wp2
              go_ret2
              exact HSz24.out.finq HLA.out hl11 HBz24.out.len (by omega) HBz24.out.cap HBz24.out.is (by omega) (lo_some HBz24.out.lo)
            have hx2' : ((x2 : Int) == 0) = true := by simp [hx2]
            clear hx2
            have HSy24 := Lib.hid (HSz24.out.below (below_new wz24 (.cells #[.int .i64 20] 3)) HSz24.out.d)
            have HBy24 := Lib.hid (HBz24.out.step (below_new wz24 (.cells #[.int .i64 20] 3)))
            go_wp2_with (at_builtin; refine wpList_app_cm2 _ rfl _ _ rfl (b := b) (off := off) (l := la) (c := cb) (ys := ys) rfl HBy24.out (by omega) 20 ⟨wz24.heap.size, 0, none⟩ 1 rfl (by go_simp) ?_)
            intro A9 c9 w9 hc9 hI9 hlo9 hb9
            have HK := Lib.hid ((HSy24.out.below hb9 (Nat.le_refl _)).finq (Q := P + 60) HLA.out hl11 (by rw [List.length_append, ← HBy24.out.len]; rfl) (by omega) hc9 hI9 (by omega) hlo9)
            clear hI9 hlo9 hb9 HSy24 HBy24 HSz24 HBz24
            go_wp2
            go_ret2
            exact HK.out
        · obtain rfl : la = 0 := by omega
          clear hl0
          have hlc25 : 0 ≤ cb := HB.out.cap
          have h10 : 0 < 10 := by omega
          have HPL := Lib.hid (spec_placeIn (some ⟨b, off, none⟩) 0 cb ys 20 wr wr.heap.size (Nat.le_refl _) HB.out.len HB.out.is (by omega))
          go_wp2_with fail
          refine HPL.out.mono ?_
          rintro e wx25 ⟨rfl, rfl⟩
          clear HPL
          generalize plc ys 20 = p at *
          by_cases hp : p < 0
          case neg =>
            go_wp2
            go_ret2
            exact HS.out.finq HLA.out hl11 HB.out.len (by omega) HB.out.cap HB.out.is (by omega) (lo_some HB.out.lo)
          go_wp2_with fail
          refine (pick_any g A n c bs (P + 15 + 2 * i) 2 wr HS.out.rd HN.out hby hs (by omega) (by omega)).mono ?_
          rintro e wz25 ⟨x2, rfl, _, _, hrz, htz⟩
          have HSz25 := Lib.hid (HS.out.pick hrz htz)
          have HBz25 := Lib.hid (HB.out.turn htz hgd)
          clear hrz htz
          by_cases hx2 : x2 = 0
          case neg =>
            have hx2' : ((x2 : Int) == 0) = false := by simp; omega
            clear hx2
            go_wp2
            go_ret2
            exact HSz25.out.finq HLA.out hl11 HBz25.out.len (by omega) HBz25.out.cap HBz25.out.is (by omega) (lo_some HBz25.out.lo)
          have hx2' : ((x2 : Int) == 0) = true := by simp [hx2]
          clear hx2
          have HSy25 := Lib.hid (HSz25.out.below (below_new wz25 (.cells #[.int .i64 20] 3)) HSz25.out.d)
          have HBy25 := Lib.hid (HBz25.out.step (below_new wz25 (.cells #[.int .i64 20] 3)))
          go_wp2_with (at_builtin; refine wpList_app_cm2 _ rfl _ _ rfl (b := b) (off := off) (l := 0) (c := cb) (ys := ys) rfl HBy25.out (by omega) 20 ⟨wz25.heap.size, 0, none⟩ 1 rfl (by go_simp) ?_)
          intro A9 c9 w9 hc9 hI9 hlo9 hb9
          have HK := Lib.hid ((HSy25.out.below hb9 (Nat.le_refl _)).finq (Q := P + 60) HLA.out hl11 (by rw [List.length_append, ← HBy25.out.len]; rfl) (by omega) hc9 hI9 (by omega) hlo9)
          clear hI9 hlo9 hb9 HSy25 HBy25 HSz25 HBz25
          go_wp2
          go_ret2
          exact HK.out
      by_cases hla : 1 < la
      case neg =>
        have hlb26 : la ≤ cb := HB.out.cap
        by_cases hl0 : 0 < la
        · go_wp2_with fail
          refine (pick_any g A n c bs (P + 15 + 2 * i) 2 wr HS.out.rd HN.out hby hs (by omega) (by omega)).mono ?_
          rintro e wt26 ⟨x1, rfl, _, _, hrt, htt⟩
          have HSt26 := Lib.hid (HS.out.pick hrt htt)
          have HBt26 := Lib.hid (HB.out.turn htt hgd)
          clear hrt htt
          by_cases hx1 : x1 = 0
          · have hx1' : ((x1 : Int) == 0) = true := by simp [hx1]
            clear hx1
            have hla26 : 1 ≤ la := by omega
            have hlz26 : (1 : Int) ≤ (la : Int) := by omega
            have hcq26 : 1 ≤ cb := by omega
            obtain ⟨o4, ho4, hB4⟩ := HBt26.out.drop1 hl0
            obtain ⟨l4, hl4⟩ : ∃ l4, l4 = la - 1 := ⟨_, rfl⟩
            obtain ⟨ys4, hys4⟩ : ∃ ys4, ys4 = ys.drop 1 := ⟨_, rfl⟩
            rw [← hl4, ← hys4] at hB4
            clear hys4
            have hl4m : l4 ≤ 11 := by omega
            have hl4' : la - 1 = l4 := hl4.symm
            clear hl4
            by_cases hcb1 : cb = 1
            · rw [if_pos hcb1] at ho4
              cases ho4
              rw [hcb1] at hB4
              have hcc : cb - 1 = 0 := by omega
              have HBu26 := Lib.hid (show Cm d0 b off l4 0 ys4 wt26 from hB4)
              clear hB4
              have hlc27 : l4 ≤ 0 := HBu26.out.cap
              have h10 : l4 < 10 := by omega
              have HPL := Lib.hid (spec_placeIn (some ⟨b, off, none⟩) l4 0 ys4 20 wt26 wt26.heap.size (Nat.le_refl _) HBu26.out.len HBu26.out.is (by omega))
              go_wp2_with fail
              refine HPL.out.mono ?_
              rintro e wx27 ⟨rfl, rfl⟩
              clear HPL
              generalize plc ys4 20 = p at *
              by_cases hp : p < 0
              case neg =>
                go_wp2
                go_ret2
                exact HSt26.out.finq HLA.out hl11 HBu26.out.len (by omega) HBu26.out.cap HBu26.out.is (by omega) (lo_some HBu26.out.lo)
              go_wp2_with fail
              refine (pick_any g A n c bs (P + 15 + 2 * i + 1) 2 wt26 HSt26.out.rd HN.out hby hs (by omega) (by omega)).mono ?_
              rintro e wz27 ⟨x2, rfl, _, _, hrz, htz⟩
              have HSz27 := Lib.hid (HSt26.out.pick hrz htz)
              have HBz27 := Lib.hid (HBu26.out.turn htz hgd)
              clear hrz htz
              by_cases hx2 : x2 = 0
              case neg =>
                have hx2' : ((x2 : Int) == 0) = false := by simp; omega
                clear hx2
                go_wp2
                go_ret2
                exact HSz27.out.finq HLA.out hl11 HBz27.out.len (by omega) HBz27.out.cap HBz27.out.is (by omega) (lo_some HBz27.out.lo)
              have hx2' : ((x2 : Int) == 0) = true := by simp [hx2]
              clear hx2
              have HSy27 := Lib.hid (HSz27.out.below (below_new wz27 (.cells #[.int .i64 20] 3)) HSz27.out.d)
              have HBy27 := Lib.hid (HBz27.out.step (below_new wz27 (.cells #[.int .i64 20] 3)))
              go_wp2_with (at_builtin; refine wpList_app_cm2 _ rfl _ _ rfl (b := b) (off := off) (l := l4) (c := 0) (ys := ys4) rfl HBy27.out (by omega) 20 ⟨wz27.heap.size, 0, none⟩ 1 rfl (by go_simp) ?_)
              intro A9 c9 w9 hc9 hI9 hlo9 hb9
              have HK := Lib.hid ((HSy27.out.below hb9 (Nat.le_refl _)).finq (Q := P + 60) HLA.out hl11 (by rw [List.length_append, ← HBy27.out.len]; rfl) (by omega) hc9 hI9 (by omega) hlo9)
              clear hI9 hlo9 hb9 HSy27 HBy27 HSz27 HBz27
              go_wp2
              go_ret2
              exact HK.out
            · rw [if_neg hcb1] at ho4
              cases ho4
              obtain ⟨c4, hc4⟩ : ∃ c4, c4 = cb - 1 := ⟨_, rfl⟩
              rw [← hc4] at hB4
              have hc4' : cb - 1 = c4 := hc4.symm
              clear hc4
              have HBu26 := Lib.hid hB4
              clear hB4
              have hlc28 : l4 ≤ c4 := HBu26.out.cap
              have h10 : l4 < 10 := by omega
              have HPL := Lib.hid (spec_placeIn (some ⟨b, off + 1, none⟩) l4 c4 ys4 20 wt26 wt26.heap.size (Nat.le_refl _) HBu26.out.len HBu26.out.is (by omega))
              go_wp2_with fail
              refine HPL.out.mono ?_
              rintro e wx28 ⟨rfl, rfl⟩
              clear HPL
              generalize plc ys4 20 = p at *
              by_cases hp : p < 0
              case neg =>
                go_wp2
                go_ret2
                exact HSt26.out.finq HLA.out hl11 HBu26.out.len (by omega) HBu26.out.cap HBu26.out.is (by omega) (lo_some HBu26.out.lo)
              go_wp2_with fail
              refine (pick_any g A n c bs (P + 15 + 2 * i + 1) 2 wt26 HSt26.out.rd HN.out hby hs (by omega) (by omega)).mono ?_
              rintro e wz28 ⟨x2, rfl, _, _, hrz, htz⟩
              have HSz28 := Lib.hid (HSt26.out.pick hrz htz)
              have HBz28 := Lib.hid (HBu26.out.turn htz hgd)
              clear hrz htz
              by_cases hx2 : x2 = 0
              case neg =>
                have hx2' : ((x2 : Int) == 0) = false := by simp; omega
                clear hx2
                go_wp2
                go_ret2
                exact HSz28.out.finq HLA.out hl11 HBz28.out.len (by omega) HBz28.out.cap HBz28.out.is (by omega) (lo_some HBz28.out.lo)
              have hx2' : ((x2 : Int) == 0) = true := by simp [hx2]
              clear hx2
              have HSy28 := Lib.hid (HSz28.out.below (below_new wz28 (.cells #[.int .i64 20] 3)) HSz28.out.d)
              have HBy28 := Lib.hid (HBz28.out.step (below_new wz28 (.cells #[.int .i64 20] 3)))
              go_wp2_with (at_builtin; refine wpList_app_cm2 _ rfl _ _ rfl (b := b) (off := off + 1) (l := l4) (c := c4) (ys := ys4) rfl HBy28.out (by omega) 20 ⟨wz28.heap.size, 0, none⟩ 1 rfl (by go_simp) ?_)
              intro A9 c9 w9 hc9 hI9 hlo9 hb9
              have HK := Lib.hid ((HSy28.out.below hb9 (Nat.le_refl _)).finq (Q := P + 60) HLA.out hl11 (by rw [List.length_append, ← HBy28.out.len]; rfl) (by omega) hc9 hI9 (by omega) hlo9)
              clear hI9 hlo9 hb9 HSy28 HBy28 HSz28 HBz28
              go_wp2
              go_ret2
              exact HK.out
          · have hx1' : ((x1 : Int) == 0) = false := by simp; omega
            clear hx1
            have hlc29 : la ≤ cb := HBt26.out.cap
            have h10 : la < 10 := by omega
            have HPL := Lib.hid (spec_placeIn (some ⟨b, off, none⟩) la cb ys 20 wt26 wt26.heap.size (Nat.le_refl _) HBt26.out.len HBt26.out.is (by omega))
            go_wp2_with fail
            refine HPL.out.mono ?_
            rintro e wx29 ⟨rfl, rfl⟩
            clear HPL
            generalize plc ys 20 = p at *
            by_cases hp : p < 0
            case neg =>
              go_wp2
              go_ret2
              exact HSt26.out.finq HLA.out hl11 HBt26.out.len (by omega) HBt26.out.cap HBt26.out.is (by omega) (lo_some HBt26.out.lo)
            go_wp2_with fail
            refine (pick_any g A n c bs (P + 15 + 2 * i + 1) 2 wt26 HSt26.out.rd HN.out hby hs (by omega) (by omega)).mono ?_
            rintro e wz29 ⟨x2, rfl, _, _, hrz, htz⟩
            have HSz29 := Lib.hid (HSt26.out.pick hrz htz)
            have HBz29 := Lib.hid (HBt26.out.turn htz hgd)
            clear hrz htz
            by_cases hx2 : x2 = 0
            case neg =>
              have hx2' : ((x2 : Int) == 0) = false := by simp; omega
              clear hx2
              go_wp2
              go_ret2
              exact HSz29.out.finq HLA.out hl11 HBz29.out.len (by omega) HBz29.out.cap HBz29.out.is (by omega) (lo_some HBz29.out.lo)
            have hx2' : ((x2 : Int) == 0) = true := by simp [hx2]
            clear hx2
            have HSy29 := Lib.hid (HSz29.out.below (below_new wz29 (.cells #[.int .i64 20] 3)) HSz29.out.d)
            have HBy29 := Lib.hid (HBz29.out.step (below_new wz29 (.cells #[.int .i64 20] 3)))
            go_wp2_with (at_builtin; refine wpList_app_cm2 _ rfl _ _ rfl (b := b) (off := off) (l := la) (c := cb) (ys := ys) rfl HBy29.out (by omega) 20 ⟨wz29.heap.size, 0, none⟩ 1 rfl (by go_simp) ?_)
            intro A9 c9 w9 hc9 hI9 hlo9 hb9
            have HK := Lib.hid ((HSy29.out.below hb9 (Nat.le_refl _)).finq (Q := P + 60) HLA.out hl11 (by rw [List.length_append, ← HBy29.out.len]; rfl) (by omega) hc9 hI9 (by omega) hlo9)
            clear hI9 hlo9 hb9 HSy29 HBy29 HSz29 HBz29
            go_wp2
            go_ret2
            exact HK.out
        · obtain rfl : la = 0 := by omega
          clear hl0
          have hlc30 : 0 ≤ cb := HB.out.cap
          have h10 : 0 < 10 := by omega
          have HPL := Lib.hid (spec_placeIn (some ⟨b, off, none⟩) 0 cb ys 20 wr wr.heap.size (Nat.le_refl _) HB.out.len HB.out.is (by omega))
          go_wp2_with fail
          refine HPL.out.mono ?_
          rintro e wx30 ⟨rfl, rfl⟩
          clear HPL
          generalize plc ys 20 = p at *
          by_cases hp : p < 0
          case neg =>
            go_wp2
            go_ret2
            exact HS.out.finq HLA.out hl11 HB.out.len (by omega) HB.out.cap HB.out.is (by omega) (lo_some HB.out.lo)
          go_wp2_with fail
          refine (pick_any g A n c bs (P + 15 + 2 * i) 2 wr HS.out.rd HN.out hby hs (by omega) (by omega)).mono ?_
          rintro e wz30 ⟨x2, rfl, _, _, hrz, htz⟩
          have HSz30 := Lib.hid (HS.out.pick hrz htz)
          have HBz30 := Lib.hid (HB.out.turn htz hgd)
          clear hrz htz
          by_cases hx2 : x2 = 0
          case neg =>
            have hx2' : ((x2 : Int) == 0) = false := by simp; omega
            clear hx2
            go_wp2
            go_ret2
            exact HSz30.out.finq HLA.out hl11 HBz30.out.len (by omega) HBz30.out.cap HBz30.out.is (by omega) (lo_some HBz30.out.lo)
          have hx2' : ((x2 : Int) == 0) = true := by simp [hx2]
          clear hx2
          have HSy30 := Lib.hid (HSz30.out.below (below_new wz30 (.cells #[.int .i64 20] 3)) HSz30.out.d)
          have HBy30 := Lib.hid (HBz30.out.step (below_new wz30 (.cells #[.int .i64 20] 3)))
          go_wp2_with (at_builtin; refine wpList_app_cm2 _ rfl _ _ rfl (b := b) (off := off) (l := 0) (c := cb) (ys := ys) rfl HBy30.out (by omega) 20 ⟨wz30.heap.size, 0, none⟩ 1 rfl (by go_simp) ?_)
          intro A9 c9 w9 hc9 hI9 hlo9 hb9
          have HK := Lib.hid ((HSy30.out.below hb9 (Nat.le_refl _)).finq (Q := P + 60) HLA.out hl11 (by rw [List.length_append, ← HBy30.out.len]; rfl) (by omega) hc9 hI9 (by omega) hlo9)
          clear hI9 hlo9 hb9 HSy30 HBy30 HSz30 HBz30
          go_wp2
          go_ret2
          exact HK.out
      go_wp2_with fail
      refine (pick_any g A n c bs (P + 15 + 2 * i) (la : Int) wr HS.out.rd HN.out hby hs (by omega) (by omega)).mono ?_
      rintro e w6 ⟨k, rfl, hkl, _, hr6, ht6⟩
      have hk : k < la := by have := hkl (by omega); omega
      have HS6 := Lib.hid (HS.out.pick hr6 ht6)
      have HB6 := Lib.hid (HB.out.turn ht6 hgd)
      clear hr6 ht6 hkl HS HB
      have c0 := HB6.out.cells k hk
      generalize ys.getD k 0 = z at c0
      obtain ⟨o2, ho2, hnx⟩ := HB6.out.tail (k + 1) (by omega)
      have HNX := Lib.hid hnx
      have hbw6 := HB6.out.hi
      have hwk : IntKind.i64.wrap ((k : Int) + 1) = ((k + 1 : Nat) : Int) := by rw [IntKind.wrap_i64]; omega
      have hk0 : (0 : Int) ≤ (k : Int) + 1 := by omega
      have hk1 : (k : Int) + 1 ≤ (la : Int) := by omega
      have hkc : k + 1 ≤ cb := by omega
      have hkc0 : k ≤ cb := by omega
      have HCK := Lib.hid (spec_copyIntsA (some ⟨b, off, none⟩) k cb (ys.take k) w6.drew w6.heap.size (Nat.le_refl _) (by rw [List.length_take, ← HB6.out.len]; omega) (HB6.out.is.take_ k (by rw [← HB6.out.len]; omega)) (by omega))
      have HYL := Lib.hid HB6.out.len
      clear hnx
      go_wp2
      refine wp_region_held_drew (S := fun _ => True) (by kernel_rfl) trivial (fun hHeld => ?_)
      refine wpAnyH_take (i := 0) (oi := ⟨some 44, _, _, _, _, _⟩) (v := ?_) rfl (by kernel_rfl) (by kernel_rfl) (by kernel_rfl) (fun _ _ _ h => h) (Or.inl ⟨by rfl, ?_⟩) (by assumption) ?_; rotate_left; (focus (intro w hSw; (try dsimp only at hSw); go_simp; (try with_reducible rfl))); (try simp only [Act.put, List.setIfInBounds_toArray, List.set_cons_zero, List.set_cons_succ])
      refine wpAnyH_take (i := 1) (oi := ⟨some 45, _, _, _, _, _⟩) (v := ?_) rfl (by kernel_rfl) (by kernel_rfl) (by kernel_rfl) (fun _ _ _ h => h) (Or.inl ⟨by rfl, ?_⟩) (by assumption) ?_; rotate_left; (focus (intro w hSw; (try dsimp only at hSw); go_simp; (try with_reducible rfl))); (try simp only [Act.put, List.setIfInBounds_toArray, List.set_cons_zero, List.set_cons_succ])
      refine wpAnyH_take (i := 2) (oi := ⟨some 46, _, _, _, _, _⟩) (v := ?_) rfl (by kernel_rfl) (by kernel_rfl) (by kernel_rfl) (fun _ _ _ h => h) (Or.inl ⟨by rfl, ?_⟩) (by assumption) ?_; rotate_left; (focus (intro w hSw; (try dsimp only at hSw); go_simp; (try with_reducible rfl))); (try simp only [Act.put, List.setIfInBounds_toArray, List.set_cons_zero, List.set_cons_succ])
      refine wpAnyH_take (i := 4) (oi := ⟨some 48, _, _, _, _, _⟩) (v := ?_) rfl (by kernel_rfl) (by kernel_rfl) (by kernel_rfl) (fun _ _ _ h => h) (Or.inl ⟨by rfl, ?_⟩) (by assumption) ?_; rotate_left; (focus (intro w hSw; (try dsimp only at hSw); go_simp; (try with_reducible rfl))); (try simp only [Act.put, List.setIfInBounds_toArray, List.set_cons_zero, List.set_cons_succ])
      refine wpAnyH_take (i := 5) (oi := ⟨some 49, _, _, _, _, _⟩) (v := ?_) rfl (by kernel_rfl) (by kernel_rfl) (by kernel_rfl) (fun _ _ _ h => h) (Or.inl ⟨by rfl, ?_⟩) (by assumption) ?_; rotate_left; (focus (intro w hSw; (try dsimp only at hSw); go_simp; (try with_reducible rfl))); (try simp only [Act.put, List.setIfInBounds_toArray, List.set_cons_zero, List.set_cons_succ])
      refine wpAnyH_take (i := 6) (oi := ⟨some 50, _, _, _, _, _⟩) (v := ?_) rfl (by kernel_rfl) (by kernel_rfl) (by kernel_rfl) (fun _ _ _ h => h) (Or.inl ⟨by rfl, ?_⟩) (by assumption) ?_; rotate_left; (focus (intro w hSw; (try dsimp only at hSw); go_simp; (try with_reducible rfl))); (try simp only [Act.put, List.setIfInBounds_toArray, List.set_cons_zero, List.set_cons_succ])
      refine wpAnyH_take (i := 7) (oi := ⟨some 51, _, _, _, _, _⟩) (v := ?_) rfl (by kernel_rfl) (by kernel_rfl) (by kernel_rfl) (fun _ _ _ h => h) (Or.inl ⟨by rfl, ?_⟩) (by assumption) ?_; rotate_left; (focus (intro w hSw; (try dsimp only at hSw); go_simp; (try with_reducible rfl))); (try simp only [Act.put, List.setIfInBounds_toArray, List.set_cons_zero, List.set_cons_succ])
      refine wpAnyH_ready (rs := [3]) (by kernel_rfl) (by simp) ?_; refine AllReadyH.cons (o := ⟨some 47, _, _, _, _, _⟩) rfl (fun K hK => ?_) AllReadyH.nil; go_simp
      go_at_call 36
      refine HCK.out.mono ?_
      rintro e w7 ⟨g7, c7, rfl, hown7', hb7'⟩
      have hb7 : Below w6.heap.size w6 w7 := below_of_drew hb7'
      have hown7 : w7.ownsRow w6.heap.size 3 1 (.slice (some ⟨g7, 0, none⟩) k c7) k ((ys.take k).map (Value.int .i64)) := hown7'
      have HNX7 := Lib.hid (add_cell HNX.out hb7 hbw6)
      clear hown7' hb7' HCK HNX
      refine hK.out _ _ trivial (fun hHeld => ?_); clear hK K; (try simp only [Act.put, List.setIfInBounds_toArray, List.set_cons_zero, List.set_cons_succ])
      refine wpAnyH_ready (rs := [8]) (by kernel_rfl) (by simp) ?_; refine AllReadyH.cons (o := ⟨some 52, _, _, _, _, _⟩) rfl (fun K hK => ?_) AllReadyH.nil
      refine step_append_own_at _ (by rfl) _ _ _ (by rfl) w6.heap.size 3 i0 (.int .i64 0) 1 8 Try.underlying22 hi hz0 hz1 hz2 rfl (by omega) (.slice (some ⟨g7, 0, none⟩) k c7) (k) ((ys.take k).map (Value.int .i64)) (by rfl) hown7 ⟨b, o2, none⟩ (la - (k + 1)) (cb - (k + 1)) ((ys.drop (k + 1)).map (Value.int .i64)) (by rfl) (by rw [List.length_map, List.length_drop, ← HYL.out]; omega) HNX7.out (one_ints _) (by unfold maxLen; omega) (by omega) hb7.size ?_
      intro v8 w8 hown_w8 hgrow_w8 _
      have hpos8 := hown7.lt
      have hb8 : Below w6.heap.size w6 w8 := hb7.trans ((Below.refl _ _).grown (w' := w8) (w := w7) ⟨hgrow_w8.os, hgrow_w8.tape, hgrow_w8.output, hgrow_w8.size, hgrow_w8.block⟩ hb7.size (fun q hq => (hpos8 q hq).1))
      obtain ⟨l1, hl1⟩ : ∃ l1, l1 + 1 = la := ⟨la - 1, by omega⟩
      obtain ⟨zs, hzs⟩ : ∃ zs, zs = ys.take k ++ ys.drop (k + 1) := ⟨_, rfl⟩
      have hown8 : w8.ownsRow w6.heap.size 3 1 v8 l1 (zs.map (Value.int .i64)) := by
        have e : k + (la - (k + 1)) = l1 := by omega
        rw [e] at hown_w8
        rw [hzs, List.map_append]; exact hown_w8
      obtain ⟨b8, o8, c8, hv8, HB8⟩ : ∃ b8 o8 c8, v8 = .slice (some ⟨b8, o8, none⟩) l1 c8 ∧ Hid (Cm d0 b8 o8 l1 c8 zs w8) := by
        obtain ⟨g8, c8, hv⟩ := row_form2 hown8 (by omega)
        subst hv
        exact ⟨g8, 0, c8, rfl, (Cm.of_own hown8).lower HS6.out.d⟩
      subst hv8
      have HS8 := Lib.hid (HS6.out.below hb8 HS6.out.d)
      clear hown7 hown8 hown_w8 hgrow_w8 hb7 hb8 hpos8 hzs HB6 HS6 HNX7 HYL c0
      refine hK.out _ _ trivial (fun hHeld => ?_); clear hK K; (try simp only [Act.put, List.setIfInBounds_toArray, List.set_cons_zero, List.set_cons_succ])
      refine wpAnyH_take (i := 9) (oi := ⟨some 5, _, _, _, _, _⟩) (v := ?_) rfl (by kernel_rfl) (by kernel_rfl) (by kernel_rfl) (fun _ _ _ h => h) (Or.inl ⟨by rfl, ?_⟩) (by assumption) ?_; rotate_left; (focus (intro w hSw; (try dsimp only at hSw); go_simp; (try with_reducible rfl))); (try simp only [Act.put, List.setIfInBounds_toArray, List.set_cons_zero, List.set_cons_succ])
      refine wpAnyH_done (by kernel_rfl) ?_ _
      clear hwk hk0 hk1 hkc hkc0 ho2
      have HL1 := Lib.hid hl1
      have hl1a : l1 < la := by omega
      have hl1b : la ≤ l1 + 1 := by omega
      clear hl1
      go_wp2_with fail
      refine (pick_any g A n c bs (P + 15 + 2 * i + 1) ((l1 : Int) + 1) w8 HS8.out.rd HN.out hby hs (by omega) (by omega)).mono ?_
      rintro e w9 ⟨k2, rfl, hkl, _, hr9, ht9⟩
      have hk2 : k2 ≤ l1 := by have := hkl (by omega); omega
      have HS9 := Lib.hid (HS8.out.pick hr9 ht9)
      have HB9 := Lib.hid (HB8.out.turn ht9 hgd)
      clear hr9 ht9 hkl HS8 HB8
      obtain ⟨o3, ho3, hnx⟩ := HB9.out.tail k2 hk2
      have HNX := Lib.hid hnx
      have hbw9 := HB9.out.hi
      have hlc9 : l1 ≤ c8 := HB9.out.cap
      have hk2c : k2 ≤ c8 := by omega
      have HZL := Lib.hid HB9.out.len
      have HIZ := Lib.hid (HB9.out.is.take_ k2 (by rw [← HZL.out]; exact hk2))
      have HDL := Lib.hid HS9.out.d
      clear hnx
      go_wp2
      refine wp_region_held_drew (S := fun _ => True) (by kernel_rfl) trivial (fun hHeld => ?_)
      refine wpAnyH_take (i := 0) (oi := ⟨some 58, _, _, _, _, _⟩) (v := ?_) rfl (by kernel_rfl) (by kernel_rfl) (by kernel_rfl) (fun _ _ _ h => h) (Or.inl ⟨by rfl, ?_⟩) (by assumption) ?_; rotate_left; (focus (intro w hSw; (try dsimp only at hSw); go_simp; (try with_reducible rfl))); (try simp only [Act.put, List.setIfInBounds_toArray, List.set_cons_zero, List.set_cons_succ])
      refine wpAnyH_take (i := 1) (oi := ⟨some 59, _, _, _, _, _⟩) (v := ?_) rfl (by kernel_rfl) (by kernel_rfl) (by kernel_rfl) (fun _ _ _ h => h) (Or.inl ⟨by rfl, ?_⟩) (by assumption) ?_; rotate_left; (focus (intro w hSw; (try dsimp only at hSw); go_simp; (try with_reducible rfl))); (try simp only [Act.put, List.setIfInBounds_toArray, List.set_cons_zero, List.set_cons_succ])
      refine wpAnyH_take (i := 2) (oi := ⟨some 60, _, _, _, _, _⟩) (v := ?_) rfl (by kernel_rfl) (by kernel_rfl) (by kernel_rfl) (fun _ _ _ h => h) (Or.inl ⟨by rfl, ?_⟩) (by assumption) ?_; rotate_left; (focus (intro w hSw; (try dsimp only at hSw); go_simp; (try with_reducible rfl))); (try simp only [Act.put, List.setIfInBounds_toArray, List.set_cons_zero, List.set_cons_succ])
      refine wpAnyH_take (i := 4) (oi := ⟨some 62, _, _, _, _, _⟩) (v := ?_) rfl (by kernel_rfl) (by kernel_rfl) (by kernel_rfl) (fun _ _ _ h => h) (Or.inl ⟨by rfl, ?_⟩) (by assumption) ?_; rotate_left; (focus (intro w hSw; (try dsimp only at hSw); go_simp; (try with_reducible rfl))); (try simp only [Act.put, List.setIfInBounds_toArray, List.set_cons_zero, List.set_cons_succ])
      refine wpAnyH_take (i := 7) (oi := ⟨some 65, _, _, _, _, _⟩) (v := ?_) rfl (by kernel_rfl) (by kernel_rfl) (by kernel_rfl) (fun _ _ _ h => h) (Or.inl ⟨by rfl, ?_⟩) (by assumption) ?_; rotate_left; (focus (intro w hSw; (try dsimp only at hSw); go_simp; (try with_reducible rfl))); (try simp only [Act.put, List.setIfInBounds_toArray, List.set_cons_zero, List.set_cons_succ])
      refine wpAnyH_take (i := 8) (oi := ⟨some 66, _, _, _, _, _⟩) (v := ?_) rfl (by kernel_rfl) (by kernel_rfl) (by kernel_rfl) (fun _ _ _ h => h) (Or.inl ⟨by rfl, ?_⟩) (by assumption) ?_; rotate_left; (focus (intro w hSw; (try dsimp only at hSw); go_simp; (try with_reducible rfl))); (try simp only [Act.put, List.setIfInBounds_toArray, List.set_cons_zero, List.set_cons_succ])
      refine wpAnyH_take (i := 9) (oi := ⟨some 67, _, _, _, _, _⟩) (v := ?_) rfl (by kernel_rfl) (by kernel_rfl) (by kernel_rfl) (fun _ _ _ h => h) (Or.inl ⟨by rfl, ?_⟩) (by assumption) ?_; rotate_left; (focus (intro w hSw; (try dsimp only at hSw); go_simp; (try with_reducible rfl))); (try simp only [Act.put, List.setIfInBounds_toArray, List.set_cons_zero, List.set_cons_succ])
      refine wpAnyH_ready (rs := [3, 5]) (by kernel_rfl) (by simp) ?_; refine AllReadyH.cons (o := ⟨some 61, _, _, _, _, _⟩) rfl (fun K hK => ?_) (AllReadyH.cons (o := ⟨some 63, _, _, _, _, _⟩) rfl (fun K hK => ?_) AllReadyH.nil)
      · go_simp
        go_at_call 36
        refine (spec_copyIntsA (some ⟨b8, o8, none⟩) k2 c8 (zs.take k2) w9.drew w9.heap.size (Nat.le_refl _) (by rw [List.length_take, ← HZL.out]; omega) HIZ.out (by omega)).mono ?_
        rintro e w10 ⟨g10, c10, rfl, hown10', hb10'⟩
        have hb10 : Below w9.heap.size w9 w10 := below_of_drew hb10'
        have hown10 : w10.ownsRow w9.heap.size 3 1 (.slice (some ⟨g10, 0, none⟩) k2 c10) k2 ((zs.take k2).map (Value.int .i64)) := hown10'
        have HNX1 := Lib.hid (add_cell (add_cell HNX.out hb10 hbw9) (below_new w10 (.cells #[.int .i64 z] 3)) (Nat.lt_of_lt_of_le hbw9 hb10.size))
        have hX : Below w9.heap.size w9 (w10.alloc (.cells #[.int .i64 z] 3)) := hb10.alloc hb10.size _
        have hownX := hown10.alloc (.cells #[.int .i64 z] 3)
        clear hown10' hb10' HNX hown10
        refine hK.out _ _ trivial (fun hHeld => ?_); clear hK K; (try simp only [Act.put, List.setIfInBounds_toArray, List.set_cons_zero, List.set_cons_succ])
        refine wpAnyH_ready (rs := [5]) (by kernel_rfl) (by simp) ?_; refine AllReadyH.cons (o := ⟨some 63, _, _, _, _, _⟩) rfl (fun K hK => ?_) AllReadyH.nil; go_simp
        refine hK.out _ _ trivial (fun hHeld => ?_); clear hK K; (try simp only [Act.put, List.setIfInBounds_toArray, List.set_cons_zero, List.set_cons_succ])
        refine wpAnyH_ready (rs := [6]) (by kernel_rfl) (by simp) ?_; refine AllReadyH.cons (o := ⟨some 64, _, _, _, _, _⟩) rfl (fun K hK => ?_) AllReadyH.nil
        refine step_append_own_at _ (by rfl) _ _ _ (by rfl) w9.heap.size 3 i0 (.int .i64 0) 1 8 Try.underlying22 hi hz0 hz1 hz2 rfl (by omega) (.slice (some ⟨g10, 0, none⟩) k2 c10) (k2) ((zs.take k2).map (Value.int .i64)) (by rfl) hownX ⟨w10.heap.size, 0, none⟩ (1) (1) ([.int .i64 z]) (by rfl) rfl (cell_one_new _ _ _) (by intro u hu; simp at hu; subst hu; rfl) (by unfold maxLen; omega) (by omega) hX.size ?_
        intro v11 w11 hown_w11 hgrow_w11 _
        have hpos11 := hownX.lt
        have hb11 : Below w9.heap.size w9 w11 := hX.trans ((Below.refl _ _).grown (w' := w11) (w := (w10.alloc (.cells #[.int .i64 z] 3))) ⟨hgrow_w11.os, hgrow_w11.tape, hgrow_w11.output, hgrow_w11.size, hgrow_w11.block⟩ hX.size (fun q hq => (hpos11 q hq).1))
        have hgr11 : (w10.alloc (.cells #[.int .i64 z] 3)).grownBy w11 (Value.slice (some ⟨g10, 0, none⟩) k2 c10).ownBlock := ⟨hgrow_w11.os, hgrow_w11.tape, hgrow_w11.output, hgrow_w11.size, hgrow_w11.block⟩
        have HNX2 := Lib.hid (add_cell HNX1.out ((Below.refl w9.heap.size _).grown hgr11 hX.size (fun q hq => (hpos11 q hq).1)) hbw9)
        clear hgrow_w11 hgr11 hpos11 HNX1
        refine hK.out _ _ trivial (fun hHeld => ?_); clear hK K; (try simp only [Act.put, List.setIfInBounds_toArray, List.set_cons_zero, List.set_cons_succ])
        refine wpAnyH_ready (rs := [10]) (by kernel_rfl) (by simp) ?_; refine AllReadyH.cons (o := ⟨some 68, _, _, _, _, _⟩) rfl (fun K hK => ?_) AllReadyH.nil
        refine step_append_own_at _ (by rfl) _ _ _ (by rfl) w9.heap.size 3 i0 (.int .i64 0) 1 8 Try.underlying22 hi hz0 hz1 hz2 rfl (by omega) (v11) (k2 + 1) ((zs.take k2).map (Value.int .i64) ++ [.int .i64 z]) (by rfl) hown_w11 ⟨b8, o3, none⟩ (l1 - k2) (c8 - k2) ((zs.drop k2).map (Value.int .i64)) (by rfl) (by rw [List.length_map, List.length_drop, ← HZL.out]; omega) HNX2.out (one_ints _) (by unfold maxLen; omega) (by omega) hb11.size ?_
        intro v12 w12 hown_w12 hgrow_w12 _
        have hpos12 := hown_w11.lt
        have hb12 : Below w9.heap.size w9 w12 := hb11.trans ((Below.refl _ _).grown (w' := w12) (w := w11) ⟨hgrow_w12.os, hgrow_w12.tape, hgrow_w12.output, hgrow_w12.size, hgrow_w12.block⟩ hb11.size (fun q hq => (hpos12 q hq).1))
        have hown12 : w12.ownsRow w9.heap.size 3 1 v12 la ((zs.take k2 ++ [z] ++ zs.drop k2).map (Value.int .i64)) := by
          have e : k2 + 1 + (l1 - k2) = la := by omega
          rw [e] at hown_w12
          simpa using hown_w12
        obtain ⟨b9, o9, c9, hv9, HB12⟩ : ∃ b9 o9 c9, v12 = .slice (some ⟨b9, o9, none⟩) la c9 ∧ Hid (Cm d0 b9 o9 la c9 (zs.take k2 ++ [z] ++ zs.drop k2) w12) := by
          obtain ⟨g9, c9, hv⟩ := row_form2 hown12 (by omega)
          subst hv
          exact ⟨g9, 0, c9, rfl, (Cm.of_own hown12).lower HS9.out.d⟩
        subst hv9
        have HS12 := Lib.hid (HS9.out.below hb12 HS9.out.d)
        clear hown_w11 hown_w12 hown12 hgrow_w12 hpos12 hb11 hb12 hX hownX HNX2 HB9 HS9
        refine hK.out _ _ trivial (fun hHeld => ?_); clear hK K; (try simp only [Act.put, List.setIfInBounds_toArray, List.set_cons_zero, List.set_cons_succ])
        refine wpAnyH_take (i := 11) (oi := ⟨some 5, _, _, _, _, _⟩) (v := ?_) rfl (by kernel_rfl) (by kernel_rfl) (by kernel_rfl) (fun _ _ _ h => h) (Or.inl ⟨by rfl, ?_⟩) (by assumption) ?_; rotate_left; (focus (intro w hSw; (try dsimp only at hSw); go_simp; (try with_reducible rfl))); (try simp only [Act.put, List.setIfInBounds_toArray, List.set_cons_zero, List.set_cons_succ])
        refine wpAnyH_done (by kernel_rfl) ?_ _
        go_wp2
        go_roundw
        case rel => exact ⟨i + 1, m - 1, b9, o9, c9, _, by omega, by go_num, rfl, HB12.out, HS12.out.mono (by omega)⟩
        case measure => simp [intOf]; omega
      · go_simp
        have HIB := Lib.hid (HIZ.out.below (below_new w9 (.cells #[.int .i64 z] 3)) (Nat.le_refl _))
        refine hK.out _ _ trivial (fun hHeld => ?_); clear hK K; (try simp only [Act.put, List.setIfInBounds_toArray, List.set_cons_zero, List.set_cons_succ])
        refine wpAnyH_ready (rs := [3]) (by kernel_rfl) (by simp) ?_; refine AllReadyH.cons (o := ⟨some 61, _, _, _, _, _⟩) rfl (fun K hK => ?_) AllReadyH.nil; go_simp
        go_at_call 36
        refine (spec_copyIntsA (some ⟨b8, o8, none⟩) k2 c8 (zs.take k2) (w9.drew.alloc (.cells #[.int .i64 z] 3)) w9.heap.size (by simp) (by rw [List.length_take, ← HZL.out]; omega) HIB.out (by omega)).mono ?_
        rintro e w10 ⟨g10, c10, rfl, hown10', hb10'⟩
        have hb10'' : Below (w9.alloc (.cells #[.int .i64 z] 3)).heap.size (w9.alloc (.cells #[.int .i64 z] 3)) w10 := ⟨hb10'.os, hb10'.tape, hb10'.output, hb10'.size, hb10'.block⟩
        have hX : Below w9.heap.size w9 w10 := (below_new w9 (.cells #[.int .i64 z] 3)).trans (hb10''.mono (by simp))
        have hownX : w10.ownsRow w9.heap.size 3 1 (.slice (some ⟨g10, 0, none⟩) k2 c10) k2 ((zs.take k2).map (Value.int .i64)) := own_mono hown10' (by simp)
        have HNX1 := Lib.hid (add_cell HNX.out hX hbw9)
        have hcz : ∀ j u, [Value.int .i64 z][j]? = some u → w10.cell? ((⟨w9.heap.size, 0, none⟩ : Addr).add j) = some u := add_cell (cell_one_new w9 (.int .i64 z) 3) hb10'' (by simp)
        clear hown10' hb10' hb10'' HNX
        refine hK.out _ _ trivial (fun hHeld => ?_); clear hK K; (try simp only [Act.put, List.setIfInBounds_toArray, List.set_cons_zero, List.set_cons_succ])
        refine wpAnyH_ready (rs := [6]) (by kernel_rfl) (by simp) ?_; refine AllReadyH.cons (o := ⟨some 64, _, _, _, _, _⟩) rfl (fun K hK => ?_) AllReadyH.nil
        refine step_append_own_at _ (by rfl) _ _ _ (by rfl) w9.heap.size 3 i0 (.int .i64 0) 1 8 Try.underlying22 hi hz0 hz1 hz2 rfl (by omega) (.slice (some ⟨g10, 0, none⟩) k2 c10) (k2) ((zs.take k2).map (Value.int .i64)) (by rfl) hownX ⟨w9.heap.size, 0, none⟩ (1) (1) ([.int .i64 z]) (by rfl) rfl hcz (by intro u hu; simp at hu; subst hu; rfl) (by unfold maxLen; omega) (by omega) hX.size ?_
        intro v11 w11 hown_w11 hgrow_w11 _
        have hpos11 := hownX.lt
        have hb11 : Below w9.heap.size w9 w11 := hX.trans ((Below.refl _ _).grown (w' := w11) (w := w10) ⟨hgrow_w11.os, hgrow_w11.tape, hgrow_w11.output, hgrow_w11.size, hgrow_w11.block⟩ hX.size (fun q hq => (hpos11 q hq).1))
        have hgr11 : w10.grownBy w11 (Value.slice (some ⟨g10, 0, none⟩) k2 c10).ownBlock := ⟨hgrow_w11.os, hgrow_w11.tape, hgrow_w11.output, hgrow_w11.size, hgrow_w11.block⟩
        have HNX2 := Lib.hid (add_cell HNX1.out ((Below.refl w9.heap.size _).grown hgr11 hX.size (fun q hq => (hpos11 q hq).1)) hbw9)
        clear hgrow_w11 hgr11 hpos11 HNX1
        refine hK.out _ _ trivial (fun hHeld => ?_); clear hK K; (try simp only [Act.put, List.setIfInBounds_toArray, List.set_cons_zero, List.set_cons_succ])
        refine wpAnyH_ready (rs := [10]) (by kernel_rfl) (by simp) ?_; refine AllReadyH.cons (o := ⟨some 68, _, _, _, _, _⟩) rfl (fun K hK => ?_) AllReadyH.nil
        refine step_append_own_at _ (by rfl) _ _ _ (by rfl) w9.heap.size 3 i0 (.int .i64 0) 1 8 Try.underlying22 hi hz0 hz1 hz2 rfl (by omega) (v11) (k2 + 1) ((zs.take k2).map (Value.int .i64) ++ [.int .i64 z]) (by rfl) hown_w11 ⟨b8, o3, none⟩ (l1 - k2) (c8 - k2) ((zs.drop k2).map (Value.int .i64)) (by rfl) (by rw [List.length_map, List.length_drop, ← HZL.out]; omega) HNX2.out (one_ints _) (by unfold maxLen; omega) (by omega) hb11.size ?_
        intro v12 w12 hown_w12 hgrow_w12 _
        have hpos12 := hown_w11.lt
        have hb12 : Below w9.heap.size w9 w12 := hb11.trans ((Below.refl _ _).grown (w' := w12) (w := w11) ⟨hgrow_w12.os, hgrow_w12.tape, hgrow_w12.output, hgrow_w12.size, hgrow_w12.block⟩ hb11.size (fun q hq => (hpos12 q hq).1))
        have hown12 : w12.ownsRow w9.heap.size 3 1 v12 la ((zs.take k2 ++ [z] ++ zs.drop k2).map (Value.int .i64)) := by
          have e : k2 + 1 + (l1 - k2) = la := by omega
          rw [e] at hown_w12
          simpa using hown_w12
        obtain ⟨b9, o9, c9, hv9, HB12⟩ : ∃ b9 o9 c9, v12 = .slice (some ⟨b9, o9, none⟩) la c9 ∧ Hid (Cm d0 b9 o9 la c9 (zs.take k2 ++ [z] ++ zs.drop k2) w12) := by
          obtain ⟨g9, c9, hv⟩ := row_form2 hown12 (by omega)
          subst hv
          exact ⟨g9, 0, c9, rfl, (Cm.of_own hown12).lower HS9.out.d⟩
        subst hv9
        have HS12 := Lib.hid (HS9.out.below hb12 HS9.out.d)
        clear hown_w11 hown_w12 hown12 hgrow_w12 hpos12 hb11 hb12 hX hownX HNX2 HB9 HS9
        refine hK.out _ _ trivial (fun hHeld => ?_); clear hK K; (try simp only [Act.put, List.setIfInBounds_toArray, List.set_cons_zero, List.set_cons_succ])
        refine wpAnyH_take (i := 11) (oi := ⟨some 5, _, _, _, _, _⟩) (v := ?_) rfl (by kernel_rfl) (by kernel_rfl) (by kernel_rfl) (fun _ _ _ h => h) (Or.inl ⟨by rfl, ?_⟩) (by assumption) ?_; rotate_left; (focus (intro w hSw; (try dsimp only at hSw); go_simp; (try with_reducible rfl))); (try simp only [Act.put, List.setIfInBounds_toArray, List.set_cons_zero, List.set_cons_succ])
        refine wpAnyH_done (by kernel_rfl) ?_ _
        go_wp2
        go_roundw
        case rel => exact ⟨i + 1, m - 1, b9, o9, c9, _, by omega, by go_num, rfl, HB12.out, HS12.out.mono (by omega)⟩
        case measure => simp [intOf]; omega
end Go.Proofs.Ytlbomopjldhmeaa
