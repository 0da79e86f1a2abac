/- Words and contracts for memory that the texts behind use. -/
import Derived.Test.YtdhjflhpenkchaaH0a
import Derived.Test.YtdhjflhpenkchaaH0b
import Derived.Test.YtdhjflhpenkchaaH0
import Derived.Test.YtdhjflhpenkchaaH1
import Derived.Test.YtdhjflhpenkchaaH2
import Derived.Test.YtdhjflhpenkchaaH3
import Derived.Test.YtdhjflhpenkchaaH4
import Derived.Test.YtdhjflhpenkchaaH6
import Derived.Test.YtdhjflhpenkchaaH5
import Derived.Test.YtdhjflhpenkchaaH7
import Derived.Test.YtdhjflhpenkchaaH8
import Derived.Test.YtdhjflhpenkchaaH9
import Derived.Test.YtdhjflhpenkchaaH10
import Derived.Test.YtdhjflhpenkchaaH11
import Derived.Test.YtdhjflhpenkchaaH13
import Derived.Test.YtdhjflhpenkchaaH14
import Derived.Test.YtdhjflhpenkchaaH15
import Derived.Test.YtdhjflhpenkchaaH16
import Derived.Test.YtdhjflhpenkchaaH17
import Derived.WalkKit
import Derived.Laws.OwnMore
import Derived.Deep.Draws
import Derived.Test.YtdhjflhpenkchaaProg
import Derived.WalkSpells
import Derived.WalkLawsBesides
import Derived.Outline
import Derived.Lib.Hide
import Derived.BigQuiet
import Derived.Deep.QuietTactic
import Derived.StillTailTactics
import Derived.Deep.LoopGhost
import Derived.Laws.MakeOwn
import Derived.WalkSmall
import Derived.RegionTactic
import Derived.BigRegion
import Derived.Deep.RegionWith
import Derived.Deep.RegionHeld3
import Derived.Laws.Entries
import Derived.Laws.Bits64
import Derived.IntWalk
import Derived.Maps.AppendAt
import Derived.Deep.RegionLaw
import Derived.Deep.AppendLies
import Derived.Deep.Cut
import Derived.Deep.DeepCutAuto
import Derived.Maps.Own
import Derived.Maps.Views
import Derived.Laws.CopyOwn
import Derived.ChangeAlike

namespace Go.Proofs.Ytdhjflhpenkchaa
set_option linter.unusedSimpArgs false
set_option linter.unusedVariables false
open Go.RowKit
theorem filter_take_step (P : Int → Bool) (xs : List Int) (k : Nat) (h : k < xs.length) : (xs.take (k + 1)).filter P = if P (xs.getD k 0) = true then (xs.take k).filter P ++ [xs.getD k 0] else (xs.take k).filter P := by
  have hg : xs[k] = xs.getD k 0 := by simp [List.getD, h]
  rw [List.take_succ_eq_append_getElem h, List.filter_append, hg]
  generalize xs.getD k 0 = x
  clear hg
  by_cases hp : P x = true
  · rw [if_pos hp]; simp [hp]
  · rw [if_neg hp]; simp [hp]
theorem inK_step (xs ys : List Int) (k : Nat) (h : k < xs.length) : inK (xs.take (k + 1)) ys = if xs.getD k 0 ∈ ys then inK (xs.take k) ys ++ [xs.getD k 0] else inK (xs.take k) ys := by
  unfold inK; rw [filter_take_step _ _ _ h]; simp
theorem inK_len (xs ys : List Int) : (inK xs ys).length ≤ xs.length := List.length_filter_le _ _
set_option maxRecDepth 100000 in
set_option maxHeartbeats 1600000 in
theorem spec_common (A A' : Option Addr) (n c m c' : Nat) (xs ys : List Int) (w : World) (B : Nat) (hB : B ≤ w.heap.size) (hn : n = xs.length) (hm : m = ys.length) (h : IS w B A xs) (h' : IS w B A' ys) (hs : n ≤ 2000000) (hs' : m ≤ 2000000) :
    Calls Try.prog 98 #[.slice A n c, .slice A' m c'] w fun e w' => RetI w (inK xs ys) e w' := by
  obtain ⟨i0, hi, hz0, hz1, hz2⟩ := info_parts info_int
  have H := Lib.hid h
  have HN := Lib.hid hn
  have H' := Lib.hid h'
  have HM := Lib.hid hm
  clear hn h hm h'
  go_enter Try.func98, Try.ntmps98
  go_wp2
  go_loopw [5, 6] (fun v i wr => ∃ k : Nat, k ≤ n ∧ i = .int .i64 k ∧ Hid (OwnI wr w.heap.size v (inK (xs.take k) ys)) ∧ Below w.heap.size w wr) (fun _ i _ => n - (intOf i).toNat)
  case atStart =>
    exact ⟨0, Nat.zero_le _, rfl, World.ownsRow_lit (e := 3) (size := 1) w #[] 0 (Nat.le_refl _) (by unfold maxLen; omega) rfl, (Below.refl _ _).alloc (Nat.le_refl _) _⟩
  case round =>
    obtain ⟨k, hk, rfl, HO, hb⟩ := hrel
    have hwr : w.heap.size ≤ wr.heap.size := hb.size
    by_cases hlt : k < n
    · have hkx : k < xs.length := by have := HN.out; omega
      obtain ⟨b, off, rfl, hbB, hc⟩ := H.out (by omega)
      have c0 := (hb.cell (p := ⟨b, off + k, none⟩) (by simp; omega)).trans (hc k hkx)
      clear hc
      have HP := Lib.hid (spec_placeIn A' m c' ys (xs.getD k 0) wr B (by omega) HM.out (H'.out.below hb (by omega)) hs')
      have HST := Lib.hid (inK_step xs ys k hkx)
      have hfl := inK_len (xs.take k) ys
      have hfk : (xs.take k).length ≤ k := List.length_take_le _ _
      have hpl := plc_ge ys (xs.getD k 0)
      generalize xs.getD k 0 = x at *
      generalize inK (xs.take k) ys = F at *
      by_cases hm : x ∈ ys
      · rw [decide_eq_true hm] at hpl
        have hge : 0 ≤ plc ys x := by simp at hpl; exact hpl
        have HS2 := Lib.hid (HST.out.trans (if_pos hm))
        clear hm hpl HST
        generalize plc ys x = p at *
        go_wp2_with (first | (go_at_call 97; refine HP.out.mono ?_; rintro e w' ⟨rfl, rfl⟩) | (at_builtin; refine wpList_append_own _ rfl _ _ 28 rfl w.heap.size 3 i0 (.int .i64 0) 1 8 Try.underlying28 hi hz0 hz1 hz2 rfl (by decide) _ _ _ rfl (HO.out.alloc _) ⟨wr.heap.size, 0, none⟩ 1 1 [.int .i64 x] rfl rfl (cell_one_new _ _ _) ?c2 ?c3 ?c4 ?c5 ?_))
        case c2 => first | rfl | (intro u hu; simp at hu; subst hu; rfl)
        case c3 => unfold maxLen; omega
        case c4 => omega
        case c5 => first | omega | (simp; omega)
        intro v' w1 hown' hgrow _
        have hpos := (HO.out.alloc (.cells #[.int .i64 x] 3)).lt
        have HO' : Hid (OwnI w1 w.heap.size v' (inK (xs.take (k + 1)) ys)) := by
          rw [HS2.out]
          simpa [OwnI, Hid] using hown'
        have HB' := Lib.hid ((hb.alloc hwr (.cells #[.int .i64 x] 3)).grown hgrow (by first | (simp; omega) | omega) (fun q hq => (hpos q hq).1))
        clear hown' hgrow hpos
        go_wp2
        go_roundw
        case rel => exact ⟨k + 1, by omega, by go_num, HO'.out, HB'.out⟩
        case measure => simp [intOf]; omega
      · rw [decide_eq_false hm] at hpl
        have hge : decide (0 ≤ plc ys x) = false := by exact hpl
        have HS2 := Lib.hid (HST.out.trans (if_neg hm))
        clear hm hpl HST
        generalize plc ys x = p at *
        go_wp2_with fail
        refine HP.out.mono ?_
        rintro e w' ⟨rfl, rfl⟩
        go_wp2
        go_roundw
        case rel => exact ⟨k + 1, by omega, by go_num, by rw [HS2.out]; exact HO.out, hb⟩
        case measure => simp [intOf]; omega
    · obtain rfl : k = n := by omega
      go_wp2
      go_ret
      refine ⟨_, rfl, ?_, hb⟩
      have := HO.out
      rw [HN.out, List.take_of_length_le (Nat.le_refl _)] at this
      exact this
end Go.Proofs.Ytdhjflhpenkchaa

namespace Go.Proofs.Ytdhjflhpenkchaa
set_option linter.unusedSimpArgs false
set_option linter.unusedVariables false
open Go.RowKit
theorem way_len (gs : List Nd) (M D : List Int) : ∀ (f n : Nat), (wayF gs M D f n).length ≤ f + 1 := by
  intro f
  induction f with
  | zero => intro n; simp [wayF]
  | succ f ih =>
    intro n
    simp only [wayF]
    split
    · simp
    · have := ih (nxtW gs M D n)
      simp; omega
theorem whyF_len (gs : List Nd) (xs ys : List Int) (n : Int) : (whyF gs xs ys n).length ≤ 11 := by
  unfold whyF
  split
  · exact way_len _ _ _ _ _
  · simp
end Go.Proofs.Ytdhjflhpenkchaa

namespace Go.Proofs.Ytdhjflhpenkchaa
set_option linter.unusedSimpArgs false
set_option linter.unusedVariables false
open Go.RowKit
/-- The row after some rounds of Reverse: both ends are turned. -/
def revTo (xs : List Int) : Nat → List Int
  | 0 => xs
  | k + 1 => ((revTo xs k).set k ((revTo xs k).getD (xs.length - 1 - k) 0)).set (xs.length - 1 - k) ((revTo xs k).getD k 0)
theorem revTo_len (xs : List Int) (k : Nat) : (revTo xs k).length = xs.length := by
  induction k with
  | zero => rfl
  | succ k ih => simp [revTo, ih]
theorem revTo_at (xs : List Int) (k : Nat) (hk : 2 * k ≤ xs.length) : ∀ j, j < xs.length → (revTo xs k).getD j 0 = if j < k ∨ xs.length - k ≤ j then xs.getD (xs.length - 1 - j) 0 else xs.getD j 0 := by
  induction k with
  | zero => intro j hj; rw [if_neg (by omega)]; rfl
  | succ k ih =>
    have ih := ih (by omega)
    intro j hj
    have hl := revTo_len xs k
    have e : (revTo xs (k + 1)).getD j 0 = if xs.length - 1 - k = j then (revTo xs k).getD k 0 else if k = j then (revTo xs k).getD (xs.length - 1 - k) 0 else (revTo xs k).getD j 0 := by
      simp only [revTo, List.getD, List.getElem?_set, List.length_set, hl]
      by_cases h1 : xs.length - 1 - k = j
      · rw [if_pos h1, if_pos h1, if_pos (by omega)]; rfl
      · rw [if_neg h1, if_neg h1]
        by_cases h2 : k = j
        · rw [if_pos h2, if_pos h2, if_pos (by omega)]; rfl
        · rw [if_neg h2, if_neg h2]
    rw [e]
    by_cases h1 : xs.length - 1 - k = j
    · rw [if_pos h1, ih k (by omega), if_neg (by omega), if_pos (by omega)]
      congr 1; omega
    · rw [if_neg h1]
      by_cases h2 : k = j
      · rw [if_pos h2, ih _ (by omega), if_neg (by omega), if_pos (by omega)]
        congr 1; omega
      · rw [if_neg h2, ih j hj]
        by_cases h3 : j < k ∨ xs.length - k ≤ j
        · rw [if_pos h3, if_pos (by omega)]
        · rw [if_neg h3, if_neg (by omega)]
theorem revTo_end (xs : List Int) (k : Nat) (hk : 2 * k ≤ xs.length) (hk2 : xs.length ≤ 2 * k + 1) : revTo xs k = xs.reverse := by
  apply List.ext_getElem
  · rw [revTo_len, List.length_reverse]
  · intro j h1 h2
    have hj : j < xs.length := by rw [revTo_len] at h1; exact h1
    have := revTo_at xs k hk j hj
    have h3 : xs.length - 1 - j < xs.length := by omega
    rw [List.getElem_reverse]
    simp only [List.getD, List.getElem?_eq_getElem h1, List.getElem?_eq_getElem hj, List.getElem?_eq_getElem h3, Option.getD_some] at this
    rw [this]
    by_cases h4 : j < k ∨ xs.length - k ≤ j
    · rw [if_pos h4]
    · rw [if_neg h4]
      have : xs.length - 1 - j = j := by omega
      simp only [this]
set_option maxRecDepth 100000 in
set_option maxHeartbeats 1600000 in
theorem slices_Reverse (g n cap base : Nat) (xs : List Int) (w : World) (hn : n = xs.length) (hp : 0 < n) (hs : n ≤ 2000000) (h : w.ownsRow base 3 1 (.slice (some ⟨g, 0, none⟩) n cap) n (xs.map (Value.int .i64))) :
    Calls Try.prog 96 #[.slice (some ⟨g, 0, none⟩) n cap] w fun e w' => e = .returned (.tuple #[]) ∧ w'.ownsRow base 3 1 (.slice (some ⟨g, 0, none⟩) n cap) n (xs.reverse.map (Value.int .i64)) ∧ (∀ (B : Nat) (a : World), Below B a w → B ≤ g → Below B a w') := by
  have H := Lib.hid h
  have HN := Lib.hid hn
  have hwn : IntKind.i64.wrap ((n : Int) - 1) = ((n - 1 : Nat) : Int) := by rw [IntKind.wrap_i64]; omega
  clear h hn
  go_enter Try.func96, Try.ntmps96
  go_wp2
  go_loopw [2, 3] (fun i j wr => ∃ k q : Nat, i = .int .i64 k ∧ j = .int .i64 q ∧ q + k + 1 = n ∧ 2 * k ≤ n ∧ Hid (wr.ownsRow base 3 1 (.slice (some ⟨g, 0, none⟩) n cap) n ((revTo xs k).map (Value.int .i64))) ∧ Hid (∀ (B : Nat) (a : World), Below B a w → B ≤ g → Below B a wr)) (fun i _ _ => n - (intOf i).toNat)
  case atStart => exact ⟨0, n - 1, rfl, rfl, by omega, by omega, H.out, fun B a h _ => h⟩
  case round =>
    obtain ⟨k, q, rfl, rfl, hq, hk, HO, HB⟩ := hrel
    have hkn : k < n := by omega
    have hqn : q < n := by omega
    by_cases hlt : k < q
    · have hwk : IntKind.i64.wrap ((k : Int) + 1) = ((k + 1 : Nat) : Int) := by rw [IntKind.wrap_i64]; omega
      have hwq : IntKind.i64.wrap ((q : Int) - 1) = ((q - 1 : Nat) : Int) := by rw [IntKind.wrap_i64]; omega
      have hl := revTo_len xs k
      have c0 := HO.out.cellAt k (by omega)
      have c1 := HO.out.cellAt q (by omega)
      rw [List.getElem?_map, List.getElem?_eq_getElem (by have := HN.out; omega)] at c0 c1
      have f0 := HO.out.frozenAt k
      have f1 := HO.out.frozenAt q
      have hg := (HO.out.lt g rfl).2
      have hx : (revTo xs k).getD k 0 = (revTo xs k)[k]'(by have := HN.out; omega) := by simp [List.getD, List.getElem?_eq_getElem (show k < (revTo xs k).length by have := HN.out; omega)]
      have hy : (revTo xs k).getD (xs.length - 1 - k) 0 = (revTo xs k)[q]'(by have := HN.out; omega) := by
        rw [show xs.length - 1 - k = q by have := HN.out; omega]
        simp [List.getD, List.getElem?_eq_getElem (show q < (revTo xs k).length by have := HN.out; omega)]
      have HST : Hid (revTo xs (k + 1) = ((revTo xs k).set k ((revTo xs k)[q]'(by have := HN.out; omega))).set q ((revTo xs k)[k]'(by have := HN.out; omega))) := by
        show revTo xs (k + 1) = _
        rw [revTo, hx, hy, show xs.length - 1 - k = q by have := HN.out; omega]
      clear hx hy
      simp only [Option.map_some] at c0 c1
      generalize (revTo xs k)[k]'_ = x at *
      generalize (revTo xs k)[q]'_ = y at *
      clear hl
      have HQ := Lib.hid hq
      have hkq : k + 1 ≤ n := by omega
      have hk2 : 2 * (k + 1) ≤ n := by omega
      have hq2 : q - 1 + (k + 1) + 1 = n := by omega
      have HQ2 := Lib.hid hq2
      clear hq hq2
      go_wp2
      go_region
      go_wp2
      go_roundw
      case rel =>
        refine ⟨k + 1, q - 1, by go_num, by go_num, HQ2.out, hk2, ?_, fun B a h hB => (((HB.out B a h hB).setCell (p := ⟨g, k, none⟩) hB _).setCell (p := ⟨g, q, none⟩) hB _).drew⟩
        have ho := ((HO.out.stored k (.int .i64 y)).1.stored q (.int .i64 x)).1.drew
        rw [← List.map_set, ← List.map_set] at ho
        rw [HST.out]; exact ho
      case measure => simp [intOf]; omega
    · go_wp2
      go_end0
      refine ⟨rfl, ?_, HB.out⟩
      have := HO.out
      rw [revTo_end xs k (by have := HN.out; omega) (by have := HN.out; omega)] at this
      exact this
set_option maxHeartbeats 800000 in
theorem slices_IndexFunc2 (K : FuncId) (cap cap2 : Value) (P : Int → Bool) (A : Option Addr) (n c : Nat) (xs : List Int) (hs : n ≤ 2000000) (w : World) (hcf : ∀ (q : Int) (w : World), (callFunc K #[.int .i64 q, cap, cap2]).run Try.prog w = .ok (.enter K #[.int .i64 q, cap, cap2]) w)
    (hP : ∀ (q : Int), Calls Try.prog K #[.int .i64 q, cap, cap2] w fun e w' => e = .returned (.bool (P q)) ∧ w' = w) (hn : n = xs.length) (B : Nat) (hx : IS w B A xs) (hany : 0 < (xs.filter P).length) :
    Calls Try.prog 94 #[.slice A n c, .func (.func K) #[] #[cap, cap2]] w fun e w' => (∃ i : Nat, e = .returned (.int .i64 i) ∧ i < n ∧ xs.getD i 0 = (xs.filter P).getD 0 0) ∧ w' = w := by
  have HP := Lib.hid hP
  have HCF := Lib.hid hcf
  have HX := Lib.hid hx
  have HN := Lib.hid hn
  have HANY := Lib.hid hany
  clear hP hcf hx hn hany
  go_enter Try.func94, Try.ntmps94
  go_wp2
  go_loopw [8] (fun i wr => ∃ k : Nat, k ≤ n ∧ i = .int .i64 k ∧ Hid ((xs.take k).filter P = []) ∧ wr = w) (fun i _ => n - (intOf i).toNat)
  case atStart => exact ⟨0, Nat.zero_le _, rfl, by simp [Hid], rfl⟩
  case round =>
    obtain ⟨k, hk, rfl, HA, rfl⟩ := hrel
    by_cases hlt : k < n
    · have hkx : k < xs.length := by have := HN.out; omega
      obtain ⟨b, off, rfl, hbB, hc⟩ := HX.out (by omega)
      have c0 := hc k hkx
      have hst := filter_take_step P xs k hkx
      have HNX : Hid (P (xs.getD k 0) = false → (xs.take (k + 1)).filter P = []) := fun h => by
        rw [hst, if_neg (by rw [h]; simp)]; exact HA.out
      have HYS : Hid (P (xs.getD k 0) = true → xs.getD k 0 = (xs.filter P).getD 0 0) := fun h => by
        have e : xs.filter P = (xs.take (k + 1)).filter P ++ (xs.drop (k + 1)).filter P := by rw [← List.filter_append, List.take_append_drop]
        rw [e, hst, if_pos h, HA.out]
        simp
      have HPK := Lib.hid (HP.out (xs.getD k 0))
      have hcf := HCF.out (xs.getD k 0)
      clear hst
      generalize hgx : xs.getD k 0 = x at *
      have HGX := Lib.hid hgx
      clear hgx
      generalize P x = p at *
      clear hc HX
      cases p
      · have HN2 := Lib.hid (HNX.out (by first | rfl | trivial))
        go_wp2_with fail
        refine HPK.out.mono ?_
        rintro e w2 ⟨rfl, rfl⟩
        go_wp2
        go_roundw
        case rel => exact ⟨k + 1, by omega, by go_num, HN2.out, by first | rfl | trivial⟩
        case measure => simp [intOf]; omega
      · have HY2 := Lib.hid (HYS.out (by first | rfl | trivial))
        go_wp2_with fail
        refine HPK.out.mono ?_
        rintro e w2 ⟨rfl, rfl⟩
        go_wp2
        go_ret
        exact ⟨⟨k, rfl, hlt, HGX.out.trans HY2.out⟩, rfl⟩
    · exfalso
      have : xs.take k = xs := List.take_of_length_le (by have := HN.out; omega)
      have h1 := HA.out
      rw [this] at h1
      have h2 := HANY.out
      rw [h1] at h2
      simp at h2
set_option maxHeartbeats 800000 in
theorem why1_at (g g2 : Nat) (E : Option Addr) (dn dc : Nat) (D : List (List Int)) (x q : Nat) (y : Int) (w : World) (hdn : dn = D.length) (hq : q < dn) (hs : ∀ j, (D.getD j []).length ≤ 1048576) (hdl : dn ≤ 2000000) (B : Nat) (hB : B ≤ w.heap.size) (h1 : w.cell? ⟨g, 0, none⟩ = some (.slice E dn dc)) (h2 : w.cell? ⟨g2, 0, none⟩ = some (.int .i64 q)) (h : SS w B E D) :
    Calls Try.prog 95 #[.int .i64 y, .pointer (some ⟨g, 0, none⟩), .pointer (some ⟨g2, 0, none⟩)] w fun e w' => e = .returned (.bool (decide (y ∈ D.getD q []))) ∧ w' = w := by
  obtain ⟨b3, off3, hE, hbB3, hcc⟩ := h (by omega)
  subst hE
  obtain ⟨A3, n3, c3, d1, hn3, hls⟩ := hcc q (by omega)
  have hqlt : (q : Int) < (dn : Int) := by omega
  have hb3 : b3 < w.heap.size := by omega
  have HC := Lib.hid (slices_Contains A3 n3 c3 (D.getD q []) y w B hB hn3 hls (by have := hs q; omega))
  generalize decide (y ∈ D.getD q []) = r at *
  clear hdn hn3 hls h hcc hs hbB3
  go_enter Try.func95, Try.ntmps95
  go_wp2_with fail
  refine HC.out.mono ?_
  rintro e w1 ⟨rfl, rfl⟩
  go_wp2
  go_ret
  exact ⟨rfl, rfl⟩
end Go.Proofs.Ytdhjflhpenkchaa

namespace Go.Proofs.Ytdhjflhpenkchaa
set_option linter.unusedSimpArgs false
set_option linter.unusedVariables false
open Go.RowKit
theorem row_head {w : World} {base n size : Nat} {e : TypeId} {v : Value} {xs : List Value} (h : w.ownsRow base e size v n xs) (hn : 0 < n) : ∃ g cap, v = .slice (some ⟨g, 0, none⟩) n cap := by
  rcases h.2 with ⟨hv, h0⟩ | ⟨g, cap, cur, hv, _⟩
  · omega
  · exact ⟨g, cap, hv⟩
theorem own_news {w : World} {base g n cap : Nat} {xs : List Int} (h : w.ownsRow base 3 1 (.slice (some ⟨g, 0, none⟩) n cap) n (xs.map (Value.int .i64))) : ∀ j u, (xs.map (Value.int .i64))[j]? = some u → w.cell? ((⟨g, 0, none⟩ : Addr).add j) = some u := h.cells (g := g) rfl
theorem whyF_not (gs : List Nd) (xs ys : List Int) (x : Int) (h : decide (x ∈ chgF gs xs ys) = false) : whyF gs xs ys x = [] := by
  unfold whyF
  rw [if_neg (of_decide_eq_false h)]
theorem whyF_in (gs : List Nd) (xs ys : List Int) (t : Nat) (h : decide ((t : Int) ∈ chgF gs xs ys) = true) : whyF gs xs ys t = wayF gs (mean gs xs) (chgF gs xs ys) 10 t := by
  unfold whyF
  rw [if_pos (of_decide_eq_true h)]; rfl
theorem whyF_out (gs : List Nd) (xs ys : List Int) (x : Int) (h : (chgB gs xs ys && rng x 0 ((gs.length : Int) - 1)) = false) : whyF gs xs ys x = [] := by
  apply whyF_not
  rw [decide_eq_false_iff_not]
  intro hx
  obtain ⟨hb, q, hq, rfl⟩ := chgF_bd gs xs ys x hx
  rw [hb] at h
  unfold rng at h
  simp at h
  omega
set_option maxRecDepth 100000 in
set_option maxHeartbeats 3200000 in
theorem top_spec_WhyChanged (gs : List Nd) (xs ys : List Int) (x : Int) (hG : GB gs) (hL : xs.length ≤ 1048576) (hL2 : ys.length ≤ 1048576) : ∀ (A : Option Addr) (n c : Nat) (A1 : Option Addr) (m1 c1 : Nat) (A2 : Option Addr) (m2 c2 : Nat) (w : World), n = gs.length → n ≤ c → GS w w.heap.size A gs → m1 = xs.length → IS w w.heap.size A1 xs → m2 = ys.length → IS w w.heap.size A2 ys →
    Calls Try.prog 52 #[.agg #[.slice A n c], .slice A1 m1 c1, .slice A2 m2 c2, .int .i64 x] w fun e w' => RetI w (whyF gs xs ys x) e w' := by
  intro A n c A1 m1 c1 A2 m2 c2 w hn hnc h hx h1 hy h2
  obtain ⟨i0, hi, hz0, hz1, hz2⟩ := info_parts info_int
  have hm1 : m1 ≤ 2000000 := by omega
  have hm2 : m2 ≤ 2000000 := by omega
  have hn1 : n ≤ 1048576 := by rw [hn]; exact hG.1
  have H := Lib.hid h
  have HX := Lib.hid h1
  have HY := Lib.hid h2
  have HN := Lib.hid hn
  have HC := Lib.hid fun (w' : World) (hB : w.heap.size ≤ w'.heap.size) (h : GS w' w.heap.size A gs) => spec_validGraph A n c gs w' w.heap.size hB hn h hG
  have HDX := Lib.hid fun (w' : World) (hB : w.heap.size ≤ w'.heap.size) (h : GS w' w.heap.size A gs) (h' : IS w' w.heap.size A1 xs) => spec_validCells A A1 n c m1 c1 gs xs w' w.heap.size hB hn hx h h' (by omega) hm1
  have HDY := Lib.hid fun (w' : World) (hB : w.heap.size ≤ w'.heap.size) (h : GS w' w.heap.size A gs) (h' : IS w' w.heap.size A2 ys) => spec_validCells A A2 n c m2 c2 gs ys w' w.heap.size hB hn hy h h' (by omega) hm2
  have hml1 := mean_len gs xs
  have hml2 := mean_len gs ys
  rw [← hn] at hml1 hml2
  have HMX := Lib.hid fun (hok : (validG gs && validC gs xs) = true) (w' : World) (hB : w.heap.size ≤ w'.heap.size) (h : GS w' w.heap.size A gs) (h' : IS w' w.heap.size A1 xs) => spec_meaning A A1 n c m1 c1 gs xs w' w.heap.size hB hn hx h h' hok
  have HMY := Lib.hid fun (hok : (validG gs && validC gs ys) = true) (w' : World) (hB : w.heap.size ≤ w'.heap.size) (h : GS w' w.heap.size A gs) (h' : IS w' w.heap.size A2 ys) => spec_meaning A A2 n c m2 c2 gs ys w' w.heap.size hB hn hy h h' hok
  have HDP := Lib.hid fun (hok : (validG gs && validC gs xs) = true) (A5 : Option Addr) (c5 i : Nat) (w' : World) (B : Nat) (hB : B ≤ w'.heap.size) (h : GS w' B A gs) (h' : IS w' B A5 (mean gs xs)) (hi : i < n) => spec_deps A A5 n c n c5 gs (mean gs xs) i w' B hB hn hml1.symm rfl h h' (okC_parts gs xs hok).1 (meanTo_VOK gs xs hok gs.length (Nat.le_refl _)) hi
  have HDB := Lib.hid fun (hok : (validG gs && validC gs xs) = true) (i : Nat) (hi : i < n) => depF_bd gs xs hok i (by omega)
  have HD10 := Lib.hid fun (hok : validG gs = true) => (validG_parts gs hok).1
  have hcf : chgB gs xs ys = true → chgF gs xs ys = diffTo (mean gs xs) (mean gs ys) n := fun h => by unfold chgF; rw [h, hn]; rfl
  have hcb : chgB gs xs ys = (validG gs && validC gs xs && validC gs ys) := rfl
  have hro : (validG gs && validC gs xs && validC gs ys && rng x 0 ((n : Int) - 1)) = false → whyF gs xs ys x = [] := fun h => whyF_out gs xs ys x (by rw [hcb, ← hn]; exact h)
  have hrn := whyF_not gs xs ys x
  have hri := fun (t : Nat) (e : x = (t : Int)) (h : decide ((t : Int) ∈ chgF gs xs ys) = true) => (by rw [e]; exact whyF_in gs xs ys t h : whyF gs xs ys x = wayF gs (mean gs xs) (chgF gs xs ys) 10 t)
  have hws := way_step gs (mean gs xs) (chgF gs xs ys) (step_why gs xs ys)
  have hwc := way_cell gs (mean gs xs) (chgF gs xs ys)
  have hsw := step_why gs xs ys
  have hcl := chgF_len gs xs ys
  rw [hcb] at hcf
  generalize whyF gs xs ys x = R at *
  generalize chgF gs xs ys = D at *
  have HGX : Hid (rng x 0 ((n : Int) - 1) = true → ∃ t : Nat, x = (t : Int) ∧ t < n) := fun h => by
    unfold rng at h
    simp only [decide_eq_true_eq] at h
    exact ⟨x.toNat, by omega, by omega⟩
  have HML1 := Lib.hid hml1
  have HML2 := Lib.hid hml2
  have HCF := Lib.hid hcf
  have HRO := Lib.hid hro
  have HRN := Lib.hid hrn
  have HRI := Lib.hid hri
  have HWS := Lib.hid hws
  have HWC := Lib.hid hwc
  have HSW := Lib.hid hsw
  have HCL := Lib.hid hcl
  clear h h1 h2 hn hx hy hG hml1 hml2 hcb hcf hro hrn hri hws hwc hsw hcl hL hL2
  generalize validG gs = b0 at *
  generalize validC gs xs = b1 at *
  generalize validC gs ys = b2 at *
  generalize hr3 : rng x 0 ((n : Int) - 1) = b3 at *
  generalize mean gs xs = MX at *
  generalize mean gs ys = MY at *
  cases b3
  · clear HGX
    go_enter Try.func52, Try.ntmps52
    go_wp2_with fail
    refine (HC.out _ (by simp) (H.out.alloc (Nat.le_refl _) _)).mono ?_
    rintro e w1 ⟨rfl, hb⟩
    have q1 : w1.cell? ⟨w.heap.size, 0, none⟩ = some (.slice A n c) := (hb.cell (p := ⟨w.heap.size, 0, none⟩) (by simp)).trans (by go_simp)
    have HG1 := Lib.hid ((H.out.alloc (Nat.le_refl _) (.cells #[.slice A n c] 25)).below hb (by simp))
    have HX1 := Lib.hid ((HX.out.alloc (Nat.le_refl _) (.cells #[.slice A n c] 25)).below hb (by simp))
    have HY1 := Lib.hid ((HY.out.alloc (Nat.le_refl _) (.cells #[.slice A n c] 25)).below hb (by simp))
    have hB1 : Below w.heap.size w w1 := ((Below.refl _ _).alloc (Nat.le_refl _) _).trans (hb.mono (by simp))
    have hl1 : w.heap.size < w1.heap.size := by have := hb.size; simp at this; omega
    clear hb
    cases b0
    · have HR0 := Lib.hid (HRO.out rfl)
      go_wp2
      go_ret
      rw [HR0.out]
      exact RetI.nil hB1
    have hn10 : n ≤ 10 := by have h1 := HD10.out rfl; have h2 := HN.out; omega
    go_wp2_with fail
    refine (HDX.out _ hB1.size HG1.out HX1.out).mono ?_
    rintro e w2 ⟨rfl, hb⟩
    have q2 := (hb.cell (p := ⟨w.heap.size, 0, none⟩) hl1).trans q1
    have HG2 := Lib.hid (HG1.out.below hb hB1.size)
    have HX2 := Lib.hid (HX1.out.below hb hB1.size)
    have HY2 := Lib.hid (HY1.out.below hb hB1.size)
    have hB2 := hB1.trans (hb.mono hB1.size)
    have hl2 : w.heap.size < w2.heap.size := Nat.lt_of_lt_of_le hl1 hb.size
    clear hb q1 HG1 HX1 HY1 hB1 hl1
    cases b1
    · have HR0 := Lib.hid (HRO.out rfl)
      go_wp2
      go_ret
      rw [HR0.out]
      exact RetI.nil hB2
    go_wp2_with fail
    refine (HDY.out _ hB2.size HG2.out HY2.out).mono ?_
    rintro e w3 ⟨rfl, hb⟩
    have q3 := (hb.cell (p := ⟨w.heap.size, 0, none⟩) hl2).trans q2
    have HG3 := Lib.hid (HG2.out.below hb hB2.size)
    have HX3 := Lib.hid (HX2.out.below hb hB2.size)
    have HY3 := Lib.hid (HY2.out.below hb hB2.size)
    have hB3 := hB2.trans (hb.mono hB2.size)
    have hl3 : w.heap.size < w3.heap.size := Nat.lt_of_lt_of_le hl2 hb.size
    clear hb q2 HG2 HX2 HY2 hB2 hl2
    cases b2
    · have HR0 := Lib.hid (HRO.out rfl)
      go_wp2
      go_ret
      rw [HR0.out]
      exact RetI.nil hB3
    go_wp2_with (go_at_call 58; refine (spec_inRange _ _ _ _).mono ?_; rintro e w' ⟨rfl, rfl⟩)
    go_ret
    rw [HRO.out rfl]
    exact RetI.nil hB3
  · obtain ⟨t, rfl, htn⟩ := HGX.out rfl
    have hpd := plc_lt D (t : Int)
    generalize hpm : decide ((t : Int) ∈ D) = pm at *
    have HPM := Lib.hid hpm
    generalize hdl : D.length = dl at *
    have HDL := Lib.hid hdl
    have hdl2 := HCL.out
    clear hpm hdl HGX HCL
    go_enter Try.func52, Try.ntmps52
    go_wp2_with fail
    refine (HC.out _ (by simp) (H.out.alloc (Nat.le_refl _) _)).mono ?_
    rintro e w1 ⟨rfl, hb⟩
    have q1 : w1.cell? ⟨w.heap.size, 0, none⟩ = some (.slice A n c) := (hb.cell (p := ⟨w.heap.size, 0, none⟩) (by simp)).trans (by go_simp)
    have HG1 := Lib.hid ((H.out.alloc (Nat.le_refl _) (.cells #[.slice A n c] 25)).below hb (by simp))
    have HX1 := Lib.hid ((HX.out.alloc (Nat.le_refl _) (.cells #[.slice A n c] 25)).below hb (by simp))
    have HY1 := Lib.hid ((HY.out.alloc (Nat.le_refl _) (.cells #[.slice A n c] 25)).below hb (by simp))
    have hB1 : Below w.heap.size w w1 := ((Below.refl _ _).alloc (Nat.le_refl _) _).trans (hb.mono (by simp))
    have hl1 : w.heap.size < w1.heap.size := by have := hb.size; simp at this; omega
    clear hb
    cases b0
    · have HR0 := Lib.hid (HRO.out rfl)
      go_wp2
      go_ret
      rw [HR0.out]
      exact RetI.nil hB1
    have hn10 : n ≤ 10 := by have h1 := HD10.out rfl; have h2 := HN.out; omega
    go_wp2_with fail
    refine (HDX.out _ hB1.size HG1.out HX1.out).mono ?_
    rintro e w2 ⟨rfl, hb⟩
    have q2 := (hb.cell (p := ⟨w.heap.size, 0, none⟩) hl1).trans q1
    have HG2 := Lib.hid (HG1.out.below hb hB1.size)
    have HX2 := Lib.hid (HX1.out.below hb hB1.size)
    have HY2 := Lib.hid (HY1.out.below hb hB1.size)
    have hB2 := hB1.trans (hb.mono hB1.size)
    have hl2 : w.heap.size < w2.heap.size := Nat.lt_of_lt_of_le hl1 hb.size
    clear hb q1 HG1 HX1 HY1 hB1 hl1
    cases b1
    · have HR0 := Lib.hid (HRO.out rfl)
      go_wp2
      go_ret
      rw [HR0.out]
      exact RetI.nil hB2
    go_wp2_with fail
    refine (HDY.out _ hB2.size HG2.out HY2.out).mono ?_
    rintro e w3 ⟨rfl, hb⟩
    have q3 := (hb.cell (p := ⟨w.heap.size, 0, none⟩) hl2).trans q2
    have HG3 := Lib.hid (HG2.out.below hb hB2.size)
    have HX3 := Lib.hid (HX2.out.below hb hB2.size)
    have HY3 := Lib.hid (HY2.out.below hb hB2.size)
    have hB3 := hB2.trans (hb.mono hB2.size)
    have hl3 : w.heap.size < w3.heap.size := Nat.lt_of_lt_of_le hl2 hb.size
    clear hb q2 HG2 HX2 HY2 hB2 hl2
    cases b2
    · have HR0 := Lib.hid (HRO.out rfl)
      go_wp2
      go_ret
      rw [HR0.out]
      exact RetI.nil hB3
    go_wp2_with (go_at_call 58; refine (spec_inRange _ _ _ _).mono ?_; rintro e w' ⟨rfl, rfl⟩)
    refine (HMX.out rfl _ hB3.size HG3.out HX3.out).mono ?_
    rintro e w4 ⟨v4, rfl, ho, hb⟩
    obtain ⟨A4, c4, rfl, hI4⟩ := OwnI.at_ ho HML1.out
    have q4 := (hb.cell (p := ⟨w.heap.size, 0, none⟩) hl3).trans q3
    have HI4 := Lib.hid hI4
    have HG4 := Lib.hid (HG3.out.below hb hB3.size)
    have HY4 := Lib.hid (HY3.out.below hb hB3.size)
    have hB4 := hB3.trans (hb.mono hB3.size)
    have hl4 : w.heap.size < w4.heap.size := Nat.lt_of_lt_of_le hl3 hb.size
    clear hb ho hI4 q3 HG3 HX3 HY3 hB3 hl3
    go_wp2_with fail
    refine (HMY.out rfl _ hB4.size HG4.out HY4.out).mono ?_
    rintro e w8 ⟨v8, rfl, ho, hb⟩
    obtain ⟨A8, c8, rfl, hI8⟩ := OwnI.at_ ho HML2.out
    have q8 := (hb.cell (p := ⟨w.heap.size, 0, none⟩) hl4).trans q4
    have HI8 := Lib.hid hI8
    have HM8 := Lib.hid ((HI4.out.below hb (Nat.le_refl _)).more (B' := w8.heap.size) hb.size)
    have HG8 := Lib.hid (HG4.out.below hb hB4.size)
    have hB8 := hB4.trans (hb.mono hB4.size)
    have hl8 : w.heap.size < w8.heap.size := Nat.lt_of_lt_of_le hl4 hb.size
    clear hb ho hI8 q4 HG4 HY4 hB4 hl4 HI4
    go_wp2_with fail
    refine (spec_differing A4 A8 n c4 c8 MX MY w8 w8.heap.size (Nat.le_refl _) HML1.out.symm HML2.out.symm HM8.out HI8.out (by omega)).mono ?_
    rw [← HCF.out rfl]
    rintro e w5 ⟨v5, rfl, ho, hb⟩
    obtain ⟨A5, c5, rfl, hI5⟩ := OwnI.at_ ho HDL.out
    have q5 := (hb.cell (p := ⟨w.heap.size, 0, none⟩) hl8).trans q8
    have HI5 := Lib.hid hI5
    have HM5 := Lib.hid ((HM8.out.below hb (Nat.le_refl _)).more (B' := w5.heap.size) hb.size)
    have HG5 := Lib.hid ((HG8.out.below hb hB8.size).more (B' := w5.heap.size) (Nat.le_trans hB8.size hb.size))
    have hB5 := hB8.trans (hb.mono hB8.size)
    have hl5 : w.heap.size < w5.heap.size := Nat.lt_of_lt_of_le hl8 hb.size
    have HRW := Lib.hid (World.ownsRow_lit (e := 3) (size := 1) (base := w5.heap.size) w5 #[] 0 (Nat.le_refl _) (by unfold maxLen; omega) rfl)
    clear hb ho hI5 q8 HG8 hB8 hl8 HM8 HI8
    go_wp2_with fail
    refine (spec_placeIn A5 dl c5 D (t : Int) _ w5.heap.size (by simp) HDL.out.symm (HI5.out.alloc (Nat.le_refl _) _) (by omega)).mono ?_
    rintro e w9 ⟨rfl, rfl⟩
    cases pm
    · have HR0 := Lib.hid (HRN.out rfl)
      simp only [Bool.not_false] at hpd
      go_wp2
      go_ret
      rw [HR0.out]
      exact retI_lit hB5 _ _ 0 rfl (Nat.zero_le _) rfl _ rfl
    have HRW2 := Lib.hid (HRI.out t rfl HPM.out)
    simp only [Bool.not_true] at hpd
    have htd : (t : Int) ∈ D := of_decide_eq_true HPM.out
    have HTD := Lib.hid htd
    clear htd
    go_wp2
    go_loopw [3, 11] (fun nv ov wr => ∃ (m l b cc : Nat) (L : List Int), nv = .int .i64 m ∧ ov = .slice (some ⟨b, 0, none⟩) l cc ∧ l + m ≤ 10 ∧ m < n ∧ Hid ((m : Int) ∈ D) ∧ Hid (l = L.length) ∧ Hid (wr.ownsRow w5.heap.size 3 1 (.slice (some ⟨b, 0, none⟩) l cc) l (L.map (Value.int .i64))) ∧ Hid (R = wayF gs MX D 10 m ++ L) ∧ Hid (Below w5.heap.size w5 wr) ∧ w5.heap.size ≤ wr.heap.size) (fun nv _ _ => (intOf nv).toNat)
    case atStart =>
      exact ⟨t, 0, w5.heap.size, 0, [], rfl, rfl, by omega, htn, HTD.out, rfl, HRW.out, by rw [List.append_nil]; exact HRW2.out, (Below.refl _ _).alloc (Nat.le_refl _) _, by simp⟩
    case round =>
      obtain ⟨m, l, b, cc, L, rfl, rfl, hlm, hmn, HMD, HLL, HO, HW, HB, hwr⟩ := hrel
      have q6 := (HB.out.cell (p := ⟨w.heap.size, 0, none⟩) hl5).trans q5
      have HGR := Lib.hid (HG5.out.below HB.out (Nat.le_refl _))
      have HIR := Lib.hid (HM5.out.below HB.out (Nat.le_refl _))
      have HI5R := Lib.hid (HI5.out.below HB.out (Nat.le_refl _))
      obtain ⟨bg, og, hA, hbg, c0, _⟩ := HGR.out.at_ m (by have := HN.out; omega)
      have hbgw : bg < wr.heap.size := by omega
      have HNEW : Hid ((wr.alloc (.cells #[.int .i64 m] 3)).ownsRow w5.heap.size 3 1 (.slice (some ⟨wr.heap.size, 0, none⟩) 1 1) 1 [.int .i64 m]) := World.ownsRow_lit (e := 3) (size := 1) (base := w5.heap.size) wr #[.int .i64 m] 1 hwr (by unfold maxLen; omega) rfl
      have HNS := Lib.hid (own_news (HO.out.alloc (.cells #[.int .i64 m] 3)))
      have HSM := Lib.hid ((HSW.out m HMD.out).2)
      have HWSM := Lib.hid (HWS.out (by have := HN.out; omega) m HMD.out)
      have HWCM := Lib.hid (HWC.out m 10)
      have HAN := Lib.hid hA
      generalize (gs.getD m default).k = kd at *
      cases hk : (kd == 0)
      · have hne : (kd != 0) = true := by simp [bne, hk]
        obtain ⟨hnx, hnd, hkl, hk0⟩ := HSM.out hk
        have HND := Lib.hid hnd
        have HKL := Lib.hid hkl
        have HK0 := Lib.hid hk0
        have HWM := Lib.hid (HWSM.out hk)
        have HDPM := Lib.hid fun (w' : World) (B : Nat) (hB : B ≤ w'.heap.size) (h : GS w' B A gs) (h' : IS w' B A4 MX) => HDP.out rfl A4 c4 m w' B hB h h' hmn
        have hdb := HDB.out rfl m hmn
        have hkb := inK_len D (depF gs MX m)
        clear hk hnd hkl hk0 HWCM HWSM HSM
        generalize nxtW gs MX D m = m2 at *
        generalize depF gs MX m = F at *
        generalize hfl : F.length = fl at *
        have HFL := Lib.hid hfl
        clear hfl hA
        obtain rfl := HAN.out
        clear HAN
        go_wp2_with (at_builtin; refine wpList_append_own_at _ rfl _ _ 28 rfl w5.heap.size 3 i0 (.int .i64 0) 1 8 Try.underlying28 hi hz0 hz1 hz2 rfl (by decide) _ _ _ rfl HNEW.out ⟨b, 0, none⟩ l cc (L.map (Value.int .i64)) rfl ?d1 HNS.out (ints_one L) ?d3 ?d4 ?d5 ?_)
        case d1 => rw [List.length_map, ← HLL.out]; omega
        case d3 => unfold maxLen; omega
        case d4 => omega
        case d5 => first | omega | (simp; omega)
        intro v' w6 hown' hgrow _ _
        have hown'' : w6.ownsRow w5.heap.size 3 1 v' (1 + l) (((m : Int) :: L).map (Value.int .i64)) := by simpa using hown'
        obtain ⟨g6, c6, rfl⟩ := row_head hown'' (by omega)
        have HO6 := Lib.hid hown''
        have HB6 : Hid (Below w5.heap.size w5 w6) := (HB.out.alloc hwr (.cells #[.int .i64 m] 3)).grown hgrow (by simp; omega) (fun q hq => by simp [Value.ownBlock] at hq; omega)
        have hz6 : w5.heap.size ≤ w6.heap.size := HB6.out.size
        have q7 := (HB6.out.cell (p := ⟨w.heap.size, 0, none⟩) hl5).trans q5
        clear hown' hown'' hgrow q6 c0
        go_wp2_with fail
        refine (HDPM.out w6 w5.heap.size hz6 (HG5.out.below HB6.out (Nat.le_refl _)) (HM5.out.below HB6.out (Nat.le_refl _))).mono ?_
        rintro e w7 ⟨v7, rfl, ho7, hb7⟩
        obtain ⟨A7, c7, rfl, hI7⟩ := OwnI.at_ ho7 HFL.out
        have HO7 := Lib.hid (own_below HO6.out hb7)
        have HB7 := Lib.hid (HB6.out.trans (hb7.mono hz6))
        have hz7 : w5.heap.size ≤ w7.heap.size := HB7.out.size
        have HI7 := Lib.hid hI7
        have HID7 := Lib.hid ((HI5.out.below HB7.out (Nat.le_refl _)).more (B' := w7.heap.size) hz7)
        clear ho7 hb7 hI7 HO6 HB6
        go_wp2_with fail
        refine (spec_common A5 A7 dl c5 fl c7 D F w7 w7.heap.size (Nat.le_refl _) HDL.out.symm HFL.out.symm HID7.out HI7.out (by omega) (by omega)).mono ?_
        generalize inK D F = K at *
        rintro e w8' ⟨v8', rfl, ho8, hb8⟩
        obtain ⟨A8', c8', rfl, hI8⟩ := OwnI.form ho8
        have HO8 := Lib.hid (own_below HO7.out hb8)
        have HB8 := Lib.hid (HB7.out.trans (hb8.mono hz7))
        have hz8 : w5.heap.size ≤ w8'.heap.size := HB8.out.size
        obtain ⟨b8, o8, rfl, hb8w, hc8⟩ := hI8 HKL.out
        have k0 := hc8 0 HKL.out
        rw [HK0.out, Nat.add_zero] at k0
        have hkp := HKL.out
        generalize K.length = kl at *
        clear ho8 hb8 hI8 hc8 HO7 HB7
        go_wp2
        go_roundw
        case rel => exact ⟨m2, 1 + l, g6, c6, (m : Int) :: L, rfl, rfl, by omega, by omega, HND.out, by rw [List.length_cons, ← HLL.out]; exact Nat.add_comm _ _, HO8.out, by show R = _; rw [HW.out, HWM.out]; simp, HB8.out, hz8⟩
        case measure => simp [intOf]; omega
      · have hne : (kd != 0) = false := by simp [bne, hk]
        have HWM := Lib.hid (HWCM.out hk)
        clear hk HWCM HWSM HSM hA
        obtain rfl := HAN.out
        clear HAN
        go_wp2_with (at_builtin; refine wpList_append_own_at _ rfl _ _ 28 rfl w5.heap.size 3 i0 (.int .i64 0) 1 8 Try.underlying28 hi hz0 hz1 hz2 rfl (by decide) _ _ _ rfl HNEW.out ⟨b, 0, none⟩ l cc (L.map (Value.int .i64)) rfl ?d1 HNS.out (ints_one L) ?d3 ?d4 ?d5 ?_)
        case d1 => rw [List.length_map, ← HLL.out]; omega
        case d3 => unfold maxLen; omega
        case d4 => omega
        case d5 => first | omega | (simp; omega)
        intro v' w6 hown' hgrow _ _
        go_wp2
        go_ret
        refine ⟨_, rfl, ?_, hB5.trans (((HB.out.alloc hwr (.cells #[.int .i64 m] 3)).grown hgrow (by simp; omega) (fun q hq => by simp [Value.ownBlock] at hq; omega)).mono hB5.size)⟩
        have : R = (m : Int) :: L := by rw [HW.out, HWM.out]; rfl
        rw [this]
        unfold OwnI
        rw [show ((m : Int) :: L).length = 1 + l by rw [List.length_cons, ← HLL.out]; exact Nat.add_comm _ _]
        exact own_mono (by simpa using hown') hB5.size
end Go.Proofs.Ytdhjflhpenkchaa

namespace Go.Proofs.Ytdhjflhpenkchaa
set_option linter.unusedSimpArgs false
set_option linter.unusedVariables false
open Go.RowKit
/-- What WhyChanged's loop keeps: its boxes, the graph, what has changed, what is read. -/
structure WhI (g g10 : Nat) (A : Option Addr) (n c : Nat) (gs : List Nd) (A5 : Option Addr) (dl c5 : Nat) (D : List Int) (E : Option Addr) (en ec : Nat) (DD : List (List Int)) (w : World) : Prop where
  l10 : g + 2 ≤ g10
  l11 : g10 < w.heap.size
  c0 : w.cell? ⟨g, 0, none⟩ = some (.slice A n c)
  c10 : w.cell? ⟨g10, 0, none⟩ = some (.slice E en ec)
  f7 : w.frozen? ⟨g + 1, 0, none⟩ = false
  gr : GS w g A gs
  ch : OwR (g + 2) g10 3 1 (.slice A5 dl c5) dl (D.map (Value.int .i64)) w
  dp : OwSS (g + 2) g10 (.slice E en ec) en DD w
theorem WhI.keep {g g10 : Nat} {A : Option Addr} {n c : Nat} {gs : List Nd} {A5 : Option Addr} {dl c5 : Nat} {D : List Int} {E : Option Addr} {en ec : Nat} {DD : List (List Int)} {w w' : World} (h : WhI g g10 A n c gs A5 dl c5 D E en ec DD w) (hs : w.heap.size ≤ w'.heap.size) (hf : w'.frozen? ⟨g + 1, 0, none⟩ = false) (hk : ∀ k, k < g10 + 1 → k ≠ g + 1 → w'.heap[k]? = w.heap[k]?) : WhI g g10 A n c gs A5 dl c5 D E en ec DD w' := by
  have hl := h.l10
  refine ⟨h.l10, Nat.lt_of_lt_of_le h.l11 hs, ?_, ?_, hf, ?_, ?_, ?_⟩
  · exact (World.cell?_of_block (w := w) (a := ⟨g, 0, none⟩) (hk g (by omega) (by omega))).trans h.c0
  · exact (World.cell?_of_block (w := w) (a := ⟨g10, 0, none⟩) (hk g10 (by omega) (by omega))).trans h.c10
  · exact h.gr.keep fun p hp => World.cell?_of_block (w := w) (hk p.block (by omega) (by omega))
  · exact h.ch.keep fun k h1 h2 => hk k (by omega) (by omega)
  · exact OwSS.loc _ _ _ _ _ _ _ h.dp fun k h1 h2 => hk k (by omega) (by omega)
theorem WhI.below {g g10 : Nat} {A : Option Addr} {n c : Nat} {gs : List Nd} {A5 : Option Addr} {dl c5 : Nat} {D : List Int} {E : Option Addr} {en ec : Nat} {DD : List (List Int)} {w w' : World} (h : WhI g g10 A n c gs A5 dl c5 D E en ec DD w) (hb : Below (g10 + 1) w w') : WhI g g10 A n c gs A5 dl c5 D E en ec DD w' :=
  h.keep hb.size ((hb.frozen (p := ⟨g + 1, 0, none⟩) (by have := h.l10; show g + 1 < g10 + 1; omega)).trans h.f7) fun k h1 _ => hb.block k h1
theorem WhI.setn {g g10 : Nat} {A : Option Addr} {n c : Nat} {gs : List Nd} {A5 : Option Addr} {dl c5 : Nat} {D : List Int} {E : Option Addr} {en ec : Nat} {DD : List (List Int)} {w : World} (h : WhI g g10 A n c gs A5 dl c5 D E en ec DD w) (u : Value) : WhI g g10 A n c gs A5 dl c5 D E en ec DD (w.setCell ⟨g + 1, 0, none⟩ u) :=
  h.keep (by simp [World.setCell]) ((World.frozen?_setCell _ _ _ _).trans h.f7) fun k _ h2 => Below.heap_setCell _ _ _ _ (by simpa using h2)
/-- How long a slice is. -/
def slLen : Value → Nat
  | .slice _ n _ => n
  | _ => 0
set_option maxRecDepth 100000 in
set_option maxHeartbeats 3200000 in
theorem top_impl_WhyChanged (gs : List Nd) (xs ys : List Int) (x : Int) (hG : GB gs) (hL : xs.length ≤ 1048576) (hL2 : ys.length ≤ 1048576) : ∀ (A : Option Addr) (n c : Nat) (A1 : Option Addr) (m1 c1 : Nat) (A2 : Option Addr) (m2 c2 : Nat) (w : World), n = gs.length → n ≤ c → GS w w.heap.size A gs → m1 = xs.length → IS w w.heap.size A1 xs → m2 = ys.length → IS w w.heap.size A2 ys →
    Calls Try.prog 51 #[.agg #[.slice A n c], .slice A1 m1 c1, .slice A2 m2 c2, .int .i64 x] w fun e w' => RetI w (whyF gs xs ys x) e w' := by
  intro A n c A1 m1 c1 A2 m2 c2 w hn hnc h hx h1 hy h2
  obtain ⟨i0, hi, hz0, hz1, hz2⟩ := info_parts info_int
  have H := Lib.hid h
  have HX := Lib.hid h1
  have HY := Lib.hid h2
  have HN := Lib.hid hn
  have HCH := Lib.hid fun (w' : World) (h : GS w' w'.heap.size A gs) (h' : IS w' w'.heap.size A1 xs) (h'' : IS w' w'.heap.size A2 ys) => top_impl_ChangedBy gs xs ys hG hL hL2 A n c A1 m1 c1 A2 m2 c2 w' hn hnc h hx h' hy h''
  have HDE := Lib.hid fun (w' : World) (h : GS w' w'.heap.size A gs) (h' : IS w' w'.heap.size A1 xs) => top_impl_DepsOf gs xs hG hL A n c A1 m1 c1 w' hn hnc h hx h'
  have hcl := chgF_len gs xs ys
  cases hmem : decide (x ∈ chgF gs xs ys)
  · have hR := whyF_not gs xs ys x hmem
    rw [hR]
    generalize chgF gs xs ys = D at *
    generalize hdl : D.length = dl at *
    have HDL := Lib.hid hdl
    have HMEM := Lib.hid hmem
    clear hmem hR hdl h h1 h2 hn hx hy hG hL hL2 HDE
    go_enter Try.func51, Try.ntmps51
    go_wp2_with fail
    refine (HCH.out _ (((H.out.alloc (Nat.le_refl _) _).alloc (by simp) _).more (by simp; omega)) (((HX.out.alloc (Nat.le_refl _) _).alloc (by simp) _).more (by simp; omega)) (((HY.out.alloc (Nat.le_refl _) _).alloc (by simp) _).more (by simp; omega))).mono ?_
    rintro e w1 ⟨v1, rfl, ho, hb⟩
    obtain ⟨A5, c5, rfl, hI5⟩ := OwnI.at_ ho HDL.out
    have p1 : w1.cell? ⟨w.heap.size + 1, 0, none⟩ = some (.int .i64 x) := (hb.cell (p := ⟨w.heap.size + 1, 0, none⟩) (by simp)).trans (by go_simp)
    have hl1 : w.heap.size + 1 < w1.heap.size := by have := hb.size; simp at this; omega
    have hB1 : Below w.heap.size w w1 := ((((Below.refl _ _).alloc (Nat.le_refl _) _).alloc (by simp) _)).trans (hb.mono (by simp; omega))
    have HI5 := Lib.hid hI5
    clear ho hb hI5
    go_wp2_with fail
    refine (slices_Contains A5 dl c5 D x w1 w1.heap.size (Nat.le_refl _) HDL.out.symm HI5.out (by omega)).mono ?_
    rw [HMEM.out]
    rintro e w2 ⟨rfl, rfl⟩
    go_wp2
    go_ret
    exact RetI.nil hB1
  · obtain ⟨hcb, t, htg, rfl⟩ := chgF_bd gs xs ys x (of_decide_eq_true hmem)
    obtain ⟨hok, _⟩ := chgB_parts gs xs ys hcb
    have hn10 : n ≤ 10 := by have := (validG_parts gs (okC_parts gs xs hok).1).1; omega
    have htn : t < n := by omega
    have hR := whyF_in gs xs ys t hmem
    have hdd : depsF gs xs = depTo gs (mean gs xs) gs.length := by unfold depsF; rw [hok]; rfl
    have hws := way_step gs (mean gs xs) (chgF gs xs ys) (step_why gs xs ys) (by omega)
    have hwc := way_cell gs (mean gs xs) (chgF gs xs ys)
    have hsw := step_why gs xs ys
    have hdsl := (depsF_len gs xs).1.2
    have hdlen : (depsF gs xs).length = n := by rw [hdd, depTo_len, hn]
    have hdat : ∀ j, j < n → (depsF gs xs).getD j [] = depF gs (mean gs xs) j := fun j hj => by rw [hdd]; exact depTo_at _ _ _ _ (by omega)
    have htd : (t : Int) ∈ chgF gs xs ys := of_decide_eq_true hmem
    rw [hR]
    clear hR
    generalize hRR : wayF gs (mean gs xs) (chgF gs xs ys) 10 t = R at *
    generalize chgF gs xs ys = D at *
    generalize depsF gs xs = DD at *
    generalize mean gs xs = MX at *
    generalize hdl : D.length = dl at *
    have HDL := Lib.hid hdl
    have HMEM := Lib.hid hmem
    have HTD := Lib.hid htd
    have HRR := Lib.hid hRR
    have HWS := Lib.hid hws
    have HWC := Lib.hid hwc
    have HSW := Lib.hid hsw
    have HDSL := Lib.hid hdsl
    have HDLEN := Lib.hid hdlen
    have HDAT := Lib.hid hdat
    have HNN := Lib.hid hn
    clear hmem htd hRR hws hwc hsw hdsl hdlen hdat hdd hdl hcb hok htg h h1 h2 hn hx hy hG hL hL2
    go_enter Try.func51, Try.ntmps51
    go_wp2_with fail
    refine (HCH.out _ (((H.out.alloc (Nat.le_refl _) _).alloc (by simp) _).more (by simp; omega)) (((HX.out.alloc (Nat.le_refl _) _).alloc (by simp) _).more (by simp; omega)) (((HY.out.alloc (Nat.le_refl _) _).alloc (by simp) _).more (by simp; omega))).mono ?_
    rintro e w1 ⟨v1, rfl, ho, hb⟩
    obtain ⟨A5, c5, rfl, hI5⟩ := OwnI.at_ ho HDL.out
    have q1 : w1.cell? ⟨w.heap.size, 0, none⟩ = some (.slice A n c) := (hb.cell (p := ⟨w.heap.size, 0, none⟩) (by simp; omega)).trans (by go_simp)
    have p1 : w1.cell? ⟨w.heap.size + 1, 0, none⟩ = some (.int .i64 t) := (hb.cell (p := ⟨w.heap.size + 1, 0, none⟩) (by simp)).trans (by go_simp)
    have r1 : w1.frozen? ⟨w.heap.size + 1, 0, none⟩ = false := (hb.frozen (p := ⟨w.heap.size + 1, 0, none⟩) (by simp)).trans (by go_simp)
    have hl1 : w.heap.size + 1 < w1.heap.size := by have := hb.size; simp at this; omega
    have hB1 : Below w.heap.size w w1 := ((((Below.refl _ _).alloc (Nat.le_refl _) _).alloc (by simp) _)).trans (hb.mono (by simp; omega))
    have HI5 := Lib.hid hI5
    have HO1 : Hid (OwR (w.heap.size + 2) w1.heap.size 3 1 (.slice A5 dl c5) dl (D.map (Value.int .i64)) w1) := by
      unfold OwnI at ho
      rw [HDL.out] at ho
      exact OwR.start (own_mono ho (by simp))
    clear ho hb hI5
    go_wp2_with fail
    refine (slices_Contains A5 dl c5 D t w1 w1.heap.size (Nat.le_refl _) HDL.out.symm HI5.out (by omega)).mono ?_
    rw [HMEM.out]
    rintro e w2 ⟨rfl, rfl⟩
    go_wp2_with fail
    refine (HDE.out _ ((H.out.below hB1 (Nat.le_refl _)).more hB1.size) ((HX.out.below hB1 (Nat.le_refl _)).more hB1.size)).mono ?_
    rintro e w2 ⟨v2, rfl, ho, hb⟩
    obtain ⟨E, ec, rfl⟩ := ho.form
    rw [HDLEN.out] at ho
    have hen : DD.length = n := HDLEN.out
    rw [hen]
    have q2 := (hb.cell (p := ⟨w.heap.size, 0, none⟩) (by show w.heap.size < w1.heap.size; omega)).trans q1
    have p2 := (hb.cell (p := ⟨w.heap.size + 1, 0, none⟩) hl1).trans p1
    have r2 := (hb.frozen (p := ⟨w.heap.size + 1, 0, none⟩) hl1).trans r1
    have hl2 : w.heap.size + 1 < w2.heap.size := Nat.lt_of_lt_of_le hl1 hb.size
    have hB2 := hB1.trans (hb.mono hB1.size)
    have HW2 : Hid (WhI w.heap.size w2.heap.size A n c gs A5 dl c5 D E n ec DD (w2.alloc (.cells #[.slice E n ec] 46))) := by
      have hba : Below w2.heap.size w2 (w2.alloc (.cells #[.slice E n ec] 46)) := (Below.refl _ _).alloc (Nat.le_refl _) _
      refine ⟨by omega, by simp, ?_, by go_simp, ?_, ?_, ?_, ?_⟩
      · exact (hba.cell (p := ⟨w.heap.size, 0, none⟩) (by show w.heap.size < w2.heap.size; omega)).trans q2
      · exact (hba.frozen (p := ⟨w.heap.size + 1, 0, none⟩) hl2).trans r2
      · exact (H.out.below (hB2.trans (hba.mono hB2.size)) (Nat.le_refl _))
      · exact (HO1.out.keep fun k h1 h2 => (hba.block k (Nat.lt_of_lt_of_le h2 hb.size)).trans (hb.block k h2)).mono (Nat.le_refl _) hb.size
      · exact OwSS.loc _ _ _ _ _ _ _ (ho.mono (by omega) (Nat.le_refl _)) fun k h1 h2 => hba.block k h2
    have HP2 : Hid ((w2.alloc (.cells #[.slice E n ec] 46)).cell? ⟨w.heap.size + 1, 0, none⟩ = some (.int .i64 t)) := (((Below.refl w2.heap.size w2).alloc (Nat.le_refl _) (.cells #[.slice E n ec] 46)).cell (p := ⟨w.heap.size + 1, 0, none⟩) hl2).trans p2
    have HB3 : Hid (Below w.heap.size w (w2.alloc (.cells #[.slice E n ec] 46))) := hB2.alloc hB2.size _
    clear hen ho hb q1 p1 r1 q2 p2 r2 hl1 hB1 hB2 HI5 HO1
    go_upto_region 5 with fail
    obtain ⟨w3, hw3⟩ : ∃ w3, w3 = w2.alloc (.cells #[.slice E n ec] 46) := ⟨_, rfl⟩
    have HZ3 : Hid (w3.heap.size = w2.heap.size + 1) := by rw [hw3]; simp [Hid]
    rw [← hw3] at HW2 HP2 HB3
    rw [← hw3]
    clear hw3
    have hl3 : w.heap.size + 1 < w3.heap.size := by have := HZ3.out; omega
    have hl23 : w2.heap.size + 1 ≤ w3.heap.size := by have := HZ3.out; omega
    have p3 := HP2.out
    have HR3 : Hid ((w3.alloc (.cells #[.int .i64 t] 3)).ownsRow (w2.heap.size + 1) 3 1 (.slice (some ⟨w3.heap.size, 0, none⟩) 1 1) 1 [.int .i64 t]) := World.ownsRow_lit (e := 3) (size := 1) (base := w2.heap.size + 1) w3 #[.int .i64 t] 1 hl23 (by unfold maxLen; omega) rfl
    have hba3 : Below (w2.heap.size + 1) w3 (w3.alloc (.cells #[.int .i64 t] 3)) := (Below.refl _ _).alloc hl23 _
    have HW4 := Lib.hid (HW2.out.below hba3)
    have HP4 := Lib.hid ((hba3.cell (p := ⟨w.heap.size + 1, 0, none⟩) (by show w.heap.size + 1 < w2.heap.size + 1; omega)).trans p3)
    have HB4 := Lib.hid (HB3.out.alloc HB3.out.size (.cells #[.int .i64 t] 3))
    clear hba3
    go_wp2
    go_loopw [11] (fun ov wr => ∃ (m l b cc : Nat) (T : List Int), ov = .slice (some ⟨b, 0, none⟩) l cc ∧ l + m ≤ 11 ∧ m < n ∧ 0 < l ∧ Hid ((m : Int) ∈ D) ∧ Hid (l = T.length + 1) ∧ Hid (wr.ownsRow (w2.heap.size + 1) 3 1 (.slice (some ⟨b, 0, none⟩) l cc) l ((T.reverse ++ [(m : Int)]).map (Value.int .i64))) ∧ Hid (R = wayF gs MX D 10 m ++ T) ∧ Hid (wr.cell? ⟨w.heap.size + 1, 0, none⟩ = some (.int .i64 m)) ∧ Hid (WhI w.heap.size w2.heap.size A n c gs A5 dl c5 D E n ec DD wr) ∧ Hid (Below w.heap.size w wr)) (fun ov _ => 20 - slLen ov)
    case atStart =>
      exact ⟨t, 1, w3.heap.size, 1, [], rfl, by omega, htn, by omega, HTD.out, rfl, by simpa [Hid] using HR3.out, by rw [List.append_nil]; exact HRR.out.symm, HP4.out, HW4.out, HB4.out⟩
    case round =>
      obtain ⟨m, l, b, cc, T, rfl, hlm, hmn, hl0, HMD, HLL, HO, HW, HP, HWI, HB⟩ := hrel
      have hzw : w2.heap.size < wr.heap.size := HWI.out.l11
      have hzg : w.heap.size < wr.heap.size := by omega
      have hzg1 : w.heap.size + 1 < wr.heap.size := by omega
      have q0 := HWI.out.c0
      have q7 := HP.out
      have f7 := HWI.out.f7
      obtain ⟨bg, og, hA, hbg, c0, _⟩ := HWI.out.gr.at_ m (by have := HNN.out; omega)
      have hbgw : bg < wr.heap.size := by omega
      have HSM := Lib.hid ((HSW.out m HMD.out).2)
      have HWSM := Lib.hid (HWS.out m HMD.out)
      have HWCM := Lib.hid (HWC.out m 10)
      have HAN := Lib.hid hA
      generalize (gs.getD m default).k = kd at *
      cases hk : (kd == 0)
      · have hne : (kd != 0) = true := by simp [bne, hk]
        obtain ⟨hnx, hnd, hkl, hk0⟩ := HSM.out hk
        have HND := Lib.hid hnd
        have HWM := Lib.hid (HWSM.out hk)
        have hDDm := HDAT.out m hmn
        have hIc : IS wr w2.heap.size A5 D := HWI.out.ch.ints
        have HIX := Lib.hid (slices_IndexFunc2 95 (.pointer (some ⟨w2.heap.size, 0, none⟩)) (.pointer (some ⟨w.heap.size + 1, 0, none⟩)) (fun y => decide (y ∈ DD.getD m [])) A5 dl c5 D (by omega) wr (fun q w => by kernel_rfl)
          (fun y => why1_at w2.heap.size (w.heap.size + 1) E n ec DD 0 m y wr HDLEN.out.symm hmn HDSL.out (by omega) w2.heap.size (by omega) HWI.out.c10 HP.out HWI.out.dp.lists) HDL.out.symm w2.heap.size hIc (by rw [hDDm]; exact hkl))
        have hKE : (D.filter fun y => decide (y ∈ DD.getD m [])).getD 0 0 = ((nxtW gs MX D m : Nat) : Int) := by rw [hDDm]; exact hk0
        rw [hKE] at HIX
        have HIC := Lib.hid hIc
        clear hk hnd hkl hk0 HWCM HWSM HSM hDDm hKE hIc
        generalize nxtW gs MX D m = m2 at *
        clear hA
        obtain rfl := HAN.out
        clear HAN
        go_wp2_with fail
        refine HIX.out.mono ?_
        rintro e w5 ⟨⟨i, rfl, hil, hiD⟩, rfl⟩
        obtain ⟨bd, od, rfl, hbd, hcd⟩ := HIC.out (by have := HDL.out; omega)
        have d0 := hcd i (by have := HDL.out; omega)
        rw [hiD] at d0
        have hbdw : bd < w5.heap.size := by omega
        clear hcd hiD HIX HIC hbg hbd
        have HO6 := Lib.hid ((ownsRow_setCell_below HO.out (a := ⟨w.heap.size + 1, 0, none⟩) (by show w.heap.size + 1 < w2.heap.size + 1; omega) (.int .i64 m2)))
        have HW6 := Lib.hid (HWI.out.setn (.int .i64 m2))
        have HP6 : Hid ((w5.setCell ⟨w.heap.size + 1, 0, none⟩ (.int .i64 m2)).cell? ⟨w.heap.size + 1, 0, none⟩ = some (.int .i64 m2)) := World.cell?_setCell_same _ _ _ q7
        have HB6 := Lib.hid (HB.out.setCell (p := ⟨w.heap.size + 1, 0, none⟩) (by show w.heap.size ≤ w.heap.size + 1; omega) (.int .i64 m2))
        go_upto_region 9 with fail
        obtain ⟨w6, hw6⟩ : ∃ w6, w6 = w5.setCell ⟨w.heap.size + 1, 0, none⟩ (.int .i64 m2) := ⟨_, rfl⟩
        have HZ6 : Hid (w6.heap.size = w5.heap.size) := by rw [hw6]; simp [Hid, World.setCell]
        rw [← hw6] at HO6 HW6 HP6 HB6
        rw [← hw6]
        have p6 := HP6.out
        have hl6 : w2.heap.size + 1 ≤ w6.heap.size := by have := HZ6.out; omega
        have hl6b : w.heap.size + 1 < w6.heap.size := by have := HZ6.out; omega
        clear hw6 HO HWI HP HB q0 q7 f7 c0 d0 hzw hzg hzg1 hbgw hbdw
        go_wp2_with (at_builtin; refine wpList_append_own _ rfl _ _ 28 rfl (w2.heap.size + 1) 3 i0 (.int .i64 0) 1 8 Try.underlying28 hi hz0 hz1 hz2 rfl (by decide) _ _ _ rfl (HO6.out.alloc _) ⟨_, 0, none⟩ 1 1 [.int .i64 m2] rfl rfl (cell_one_new _ _ _) ?c2 ?c3 ?c4 ?c5 ?_)
        case c2 => first | rfl | (intro u hu; simp at hu; subst hu; rfl)
        case c3 => unfold maxLen; omega
        case c4 => omega
        case c5 => first | omega | (simp; omega)
        intro v' w7 hown' hgrow _
        have hpos := (HO6.out.alloc (.cells #[.int .i64 m2] 3)).lt
        have hba7 : Below (w2.heap.size + 1) w6 w7 := ((Below.refl _ _).alloc hl6 (.cells #[.int .i64 m2] 3)).grown hgrow (by simp; omega) (fun q hq => (hpos q hq).1)
        obtain ⟨g7, c7, rfl⟩ := row_head hown' (by omega)
        have hown'' : w7.ownsRow (w2.heap.size + 1) 3 1 (.slice (some ⟨g7, 0, none⟩) (l + 1) c7) (l + 1) ((((m : Int) :: T).reverse ++ [(m2 : Int)]).map (Value.int .i64)) := by simpa using hown'
        have HO7 := Lib.hid hown''
        have HW7 := Lib.hid (HW6.out.below hba7)
        have HP7 := Lib.hid ((hba7.cell (p := ⟨w.heap.size + 1, 0, none⟩) (by show w.heap.size + 1 < w2.heap.size + 1; omega)).trans p6)
        have HB7 := Lib.hid (HB6.out.trans (hba7.mono (by omega)))
        clear hown' hown'' hgrow hpos hba7 p6
        go_wp2
        go_roundw
        case rel => exact ⟨m2, l + 1, g7, c7, (m : Int) :: T, rfl, by omega, by omega, by omega, HND.out, by show l + 1 = _; rw [HLL.out, List.length_cons], HO7.out, by show R = _; rw [HW.out, HWM.out]; simp, HP7.out, HW7.out, HB7.out⟩
        case measure => simp [slLen]; omega
      · have hne : (kd != 0) = false := by simp [bne, hk]
        have HWM := Lib.hid (HWCM.out hk)
        clear hk HWCM HWSM HSM hA
        obtain rfl := HAN.out
        clear HAN
        have HRV := Lib.hid (slices_Reverse b l cc (w2.heap.size + 1) (T.reverse ++ [(m : Int)]) wr (by have := HLL.out; simp; omega) hl0 (by omega) HO.out)
        go_wp2_with fail
        refine HRV.out.mono ?_
        rintro e w8 ⟨rfl, ho8, hb8⟩
        have HO8 := Lib.hid ho8
        have HB8 := Lib.hid (hb8 _ _ HB.out (by have := (HO.out.lt b rfl).1; omega))
        clear ho8 hb8
        go_wp2
        go_ret
        refine ⟨_, rfl, ?_, HB8.out⟩
        have hR : R = (m : Int) :: T := by rw [HW.out, HWM.out]; rfl
        have ho := HO8.out
        rw [show (T.reverse ++ [(m : Int)]).reverse = (m : Int) :: T by simp] at ho
        rw [hR]
        unfold OwnI
        rw [show ((m : Int) :: T).length = l by rw [HLL.out, List.length_cons]]
        exact own_mono ho (by omega)
end Go.Proofs.Ytdhjflhpenkchaa
