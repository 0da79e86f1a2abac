/- Words and contracts for memory that the texts behind use. -/
import Derived.Test.YtboieimahdmpaaaQ0
import Derived.Test.YtboieimahdmpaaaQ1
import Derived.Test.YtboieimahdmpaaaQ2
import Derived.Test.YtboieimahdmpaaaQ3
import Derived.Test.YtboieimahdmpaaaQ4
import Derived.Test.YtboieimahdmpaaaQ5
import Derived.WalkKit
import Derived.Laws.OwnMore
import Derived.Deep.Draws
import Derived.Test.YtboieimahdmpaaaProg
import Derived.WalkSpells
import Derived.WalkLawsBesides
import Derived.Outline
import Derived.Lib.Hide
import Derived.BigQuiet
import Derived.Deep.QuietTactic
import Derived.StillTailTactics
import Derived.Deep.LoopGhost
import Derived.Laws.MakeOwn
import Derived.WalkSmall
import Derived.RegionTactic
import Derived.BigRegion
import Derived.Deep.RegionWith
import Derived.Deep.RegionHeld3
import Derived.Laws.Entries
import Derived.Laws.Bits64
import Derived.IntWalk
import Derived.Maps.AppendAt
import Derived.Deep.RegionLaw
import Derived.Deep.AppendLies
import Derived.Deep.Cut
import Derived.Deep.DeepCutAuto
import Derived.Laws.CopyOwn

namespace Go.Proofs.Ytboieimahdmpaaa
set_option linter.unusedSimpArgs false
set_option linter.unusedVariables false
open Go.RowKit
/-- The slice value is one of the call's own, of numbers. -/
def OwnI (w : World) (base : Nat) (v : Value) (xs : List Int) : Prop := w.ownsRow base 3 1 v xs.length (xs.map (Value.int .i64))
theorem OwnI.form {w : World} {base : Nat} {v : Value} {xs : List Int} (h : OwnI w base v xs) : ∃ A c, v = .slice A xs.length c ∧ IS w w.heap.size A xs := by
  have h' := h
  rcases h.2 with ⟨hv, h0⟩ | ⟨g, cap, cur, hv, _⟩
  · have hx : xs = [] := List.eq_nil_of_length_eq_zero h0
    subst hx
    exact ⟨none, 0, hv, IS.nil _ _ _⟩
  · subst hv
    exact ⟨_, _, rfl, IS.of_own h'⟩
end Go.Proofs.Ytboieimahdmpaaa

namespace Go.Proofs.Ytboieimahdmpaaa
set_option linter.unusedSimpArgs false
set_option linter.unusedVariables false
open Go.RowKit
/-- Returns a fresh slice of numbers. -/
def RetI (w : World) (xs : List Int) (e : Ending) (w' : World) : Prop := ∃ v, e = .returned v ∧ OwnI w' w.heap.size v xs ∧ Below w.heap.size w w'
end Go.Proofs.Ytboieimahdmpaaa

namespace Go.Proofs.Ytboieimahdmpaaa
set_option linter.unusedSimpArgs false
set_option linter.unusedVariables false
open Go.RowKit
theorem RetI.mono {w w0 w' : World} {xs : List Int} {e : Ending} (h : RetI w xs e w') (hb : Below w0.heap.size w0 w) : RetI w0 xs e w' := by
  obtain ⟨v, he, ho, hb'⟩ := h
  exact ⟨v, he, own_mono ho hb.size, hb.trans (hb'.mono hb.size)⟩
theorem RetI.nil {w w' : World} (hb : Below w.heap.size w w') : RetI w [] (.returned (.slice none 0 0)) w' := ⟨_, rfl, World.ownsRow_nil _ _ _ _, hb⟩
end Go.Proofs.Ytboieimahdmpaaa

namespace Go.Proofs.Ytboieimahdmpaaa
set_option linter.unusedSimpArgs false
set_option linter.unusedVariables false
open Go.RowKit
set_option maxHeartbeats 800000 in
theorem laws_isIn (A : Option Addr) (n c : Nat) (xs : List Int) (x : Int) (w : World) (B : Nat) (hB : B ≤ w.heap.size) (hn : n = xs.length) (h : IS w B A xs) (hs : n ≤ 2000000) :
    Calls Try.prog 16 #[.slice A n c, .int .i64 x] w fun e w' => e = .returned (.bool (decide (x ∈ xs))) ∧ w = w' := by
  have H := Lib.hid h
  have HN := Lib.hid hn
  clear hn h
  go_enter Try.func16, Try.ntmps16
  go_wp2
  go_loop [5] (fun i => ∃ k : Nat, k ≤ n ∧ i = .int .i64 k ∧ Hid (∀ j, j < k → xs.getD j 0 ≠ x)) (fun i => n - (intOf i).toNat)
  case atStart => exact ⟨0, Nat.zero_le _, rfl, fun j hj => by omega⟩
  case round =>
    obtain ⟨k, hk, rfl, HA⟩ := hrel
    by_cases hlt : k < n
    · obtain ⟨b, off, rfl, hbB, hc⟩ := H.out (by have := HN.out; omega)
      have c0 := hc k (by have := HN.out; omega)
      clear hc H
      generalize hp : xs.getD k 0 = p at *
      have HP := Lib.hid hp
      clear hp
      cases hr : (p == x)
      · have HR := Lib.hid hr
        go_wp2
        go_round
        case rel => exact ⟨k + 1, by omega, by go_num, fun j hj => by
          rcases Nat.lt_or_ge j k with h1 | h1
          · exact HA.out j h1
          · obtain rfl : j = k := by omega
            rw [HP.out]; simpa using HR.out⟩
        case measure => simp [intOf]; omega
      · have HR := Lib.hid hr
        go_wp2
        go_ret
        refine ⟨ret_b ?_, rfl⟩
        symm
        apply decide_eq_true
        have h1 : k < xs.length := by have := HN.out; omega
        have h2 := HP.out
        have h3 : p = x := by simpa using HR.out
        rw [← h3, ← h2]
        simp [List.getD, h1]
    · go_wp2
      go_ret
      refine ⟨ret_b ?_, rfl⟩
      symm
      apply decide_eq_false
      intro hm
      obtain ⟨j, hj, he⟩ := List.mem_iff_getElem.1 hm
      exact HA.out j (by have := HN.out; omega) (by simp [List.getD, hj, he])
end Go.Proofs.Ytboieimahdmpaaa

namespace Go.Proofs.Ytboieimahdmpaaa
set_option linter.unusedSimpArgs false
set_option linter.unusedVariables false
open Go.RowKit
set_option maxHeartbeats 800000 in
theorem laws_equalInts (A A' : Option Addr) (n n' c c' : Nat) (a b : List Int) (w : World) (B : Nat) (hB : B ≤ w.heap.size) (hn : n = a.length) (hn' : n' = b.length) (h : IS w B A a) (h' : IS w B A' b) (hs : n ≤ 2000000) (hs' : n' ≤ 2000000) :
    Calls Try.prog 14 #[.slice A n c, .slice A' n' c'] w fun e w' => e = .returned (.bool (decide (a = b))) ∧ Below w.heap.size w w' := by
  by_cases hl : n = n'
  · have hne : ((n : Int) != (n' : Int)) = false := by simp [hl]
    have HL := Lib.hid hl
    have HN := Lib.hid hn
    have HN' := Lib.hid hn'
    have H := Lib.hid h
    have H' := Lib.hid h'
    clear hl hn hn' h h'
    go_enter Try.func14, Try.ntmps14
    go_wp2
    go_loopw [5] (fun i wr => ∃ k : Nat, k ≤ n ∧ i = .int .i64 k ∧ Hid (∀ j, j < k → a.getD j 0 = b.getD j 0) ∧ Below w.heap.size w wr) (fun i _ => n - (intOf i).toNat)
    case atStart => exact ⟨0, Nat.zero_le _, rfl, fun j hj => by omega, Below.refl _ _⟩
    case round =>
      obtain ⟨k, hk, rfl, HT, hb⟩ := hrel
      by_cases hlt : k < n
      · have hlt' : k < n' := by have := HL.out; omega
        obtain ⟨b1, off, rfl, hbB, hc⟩ := H.out (by have := HN.out; omega)
        obtain ⟨b2, off', rfl, hbB', hc'⟩ := H'.out (by have := HN'.out; omega)
        have d1 := hc k (by have := HN.out; omega)
        have d2 := hc' k (by have := HN'.out; omega)
        have e1 := (hb.cell (p := ⟨b1, off + k, none⟩) (by simp; omega)).trans d1
        have e2 := (hb.cell (p := ⟨b2, off' + k, none⟩) (by simp; omega)).trans d2
        clear hc hc' d1 d2 H H'
        have HNE : Hid (a.getD k 0 ≠ b.getD k 0 → decide (a = b) = false) := fun hh => by rw [decide_eq_false_iff_not]; rintro rfl; exact hh rfl
        have HEQ : Hid (a.getD k 0 = b.getD k 0 → ∀ j, j < k + 1 → a.getD j 0 = b.getD j 0) := fun hh j hj => by
          rcases Nat.lt_or_ge j k with h1 | h1
          · exact HT.out j h1
          · obtain rfl : j = k := by omega
            exact hh
        generalize a.getD k 0 = x at *
        generalize b.getD k 0 = y at *
        cases hxy : (x == y)
        · have hne2 : (x != y) = true := by simp [bne, hxy]
          have HF := Lib.hid (HNE.out (by simpa using hxy))
          clear hxy
          go_wp2
          go_region
          go_wp2
          go_ret
          exact ⟨ret_b HF.out.symm, hb.drew⟩
        · have hne2 : (x != y) = false := by simp [bne, hxy]
          have HF := Lib.hid (HEQ.out (by simpa using hxy))
          clear hxy
          go_wp2
          go_region
          go_wp2
          go_roundw
          case rel => exact ⟨k + 1, by omega, by go_num, HF.out, hb.drew⟩
          case measure => simp [intOf]; omega
      · obtain rfl : k = n := by omega
        go_wp2
        go_ret
        refine ⟨ret_b ?_, hb⟩
        symm
        apply decide_eq_true
        have h1 := HN.out
        have h2 := HN'.out
        have h3 := HL.out
        apply List.ext_getElem (by omega)
        intro j hj hj'
        have := HT.out j (by omega)
        simpa [List.getD, hj, hj'] using this
  · have hne : ((n : Int) != (n' : Int)) = true := by simp; omega
    have hf : decide (a = b) = false := by rw [decide_eq_false_iff_not]; rintro rfl; omega
    rw [hf]
    clear hl hn hn' h h' hf
    go_enter Try.func14, Try.ntmps14
    go_wp2
    go_ret
    exact ⟨rfl, Below.refl _ _⟩
set_option maxHeartbeats 800000 in
theorem laws_within (A A' : Option Addr) (n c m c' : Nat) (xs ys : List Int) (w : World) (B : Nat) (hB : B ≤ w.heap.size) (hn : n = xs.length) (h : IS w B A xs) (hs : n ≤ 2000000) (hm : m = ys.length) (h' : IS w B A' ys) (hs' : m ≤ 2000000) (hd : ∀ x ∈ xs, x ∈ ys) :
    Calls Try.prog 17 #[.slice A n c, .slice A' m c'] w fun e w' => e = .returned (.bool true) ∧ w = w' := by
  have H := Lib.hid h
  have HN := Lib.hid hn
  have HIN := Lib.hid fun (y : Int) => laws_isIn A' m c' ys y w B hB hm h' hs'
  have HD := Lib.hid hd
  clear hn h hd hm h'
  go_enter Try.func17, Try.ntmps17
  go_wp2
  go_loop [5] (fun i => ∃ k : Nat, k ≤ n ∧ i = .int .i64 k) (fun i => n - (intOf i).toNat)
  case atStart => exact ⟨0, Nat.zero_le _, rfl⟩
  case round =>
    obtain ⟨k, hk, rfl⟩ := hrel
    by_cases hlt : k < n
    · have hkx : k < xs.length := by have := HN.out; omega
      obtain ⟨b, off, rfl, hbB, hc⟩ := H.out (by have := HN.out; omega)
      have c0 := hc k hkx
      have HC := Lib.hid (HIN.out (xs.getD k 0))
      rw [decide_eq_true (HD.out (xs.getD k 0) (by simp [List.getD, hkx]))] at HC
      clear hc
      generalize xs.getD k 0 = x at *
      go_wp2_with fail
      refine HC.out.mono ?_
      rintro e w' ⟨rfl, rfl⟩
      go_wp2
      go_round
      case rel => exact ⟨k + 1, by omega, by go_num⟩
      case measure => simp [intOf]; omega
    · go_wp2
      go_ret
      exact ⟨rfl, rfl⟩
end Go.Proofs.Ytboieimahdmpaaa

namespace Go.Proofs.Ytboieimahdmpaaa
set_option linter.unusedSimpArgs false
set_option linter.unusedVariables false
open Go.RowKit
def notK (xs ys : List Int) : List Int := xs.filter fun x => !decide (x ∈ ys)
theorem filter_take_step (P : Int → Bool) (xs : List Int) (k : Nat) (h : k < xs.length) : (xs.take (k + 1)).filter P = if P (xs.getD k 0) = true then (xs.take k).filter P ++ [xs.getD k 0] else (xs.take k).filter P := by
  have hg : xs[k] = xs.getD k 0 := by simp [List.getD, h]
  rw [List.take_succ_eq_append_getElem h, List.filter_append, hg]
  generalize xs.getD k 0 = x
  clear hg
  by_cases hp : P x = true
  · rw [if_pos hp]; simp [hp]
  · rw [if_neg hp]; simp [hp]
theorem notK_step (xs ys : List Int) (k : Nat) (h : k < xs.length) : notK (xs.take (k + 1)) ys = if ¬ xs.getD k 0 ∈ ys then notK (xs.take k) ys ++ [xs.getD k 0] else notK (xs.take k) ys := by
  unfold notK; rw [filter_take_step _ _ _ h]; simp
theorem notK_len (xs ys : List Int) : (notK xs ys).length ≤ xs.length := List.length_filter_le _ _
theorem validK_len (xs : List Int) (h : validK xs = true) : xs.length ≤ 10 := by
  unfold validK at h; simp at h; exact h.1
/-- Both lists are keys. -/
def bothK (xs ys : List Int) : Bool := validK xs && validK ys
theorem bothK_parts (xs ys : List Int) (h : bothK xs ys = true) : validK xs = true ∧ validK ys = true := by unfold bothK at h; simpa using h
set_option maxRecDepth 100000 in
set_option maxHeartbeats 1600000 in
theorem spec_missing (A A' : Option Addr) (n c m c' : Nat) (xs ys : List Int) (w : World) (B : Nat) (hB : B ≤ w.heap.size) (hn : n = xs.length) (hm : m = ys.length) (h : IS w B A xs) (h' : IS w B A' ys) (hs : n ≤ 2000000) (hs' : m ≤ 2000000) :
    Calls Try.prog 37 #[.slice A n c, .slice A' m c'] w fun e w' => RetI w (notK xs ys) e w' := by
  obtain ⟨i0, hi, hz0, hz1, hz2⟩ := info_parts info_int
  have H := Lib.hid h
  have HN := Lib.hid hn
  have H' := Lib.hid h'
  have HM := Lib.hid hm
  clear hn h hm h'
  go_enter Try.func37, Try.ntmps37
  go_wp2
  go_loopw [5, 6] (fun v i wr => ∃ k : Nat, k ≤ n ∧ i = .int .i64 k ∧ Hid (OwnI wr w.heap.size v (notK (xs.take k) ys)) ∧ Below w.heap.size w wr) (fun _ i _ => n - (intOf i).toNat)
  case atStart =>
    exact ⟨0, Nat.zero_le _, rfl, World.ownsRow_lit (e := 3) (size := 1) w #[] 0 (Nat.le_refl _) (by unfold maxLen; omega) rfl, (Below.refl _ _).alloc (Nat.le_refl _) _⟩
  case round =>
    obtain ⟨k, hk, rfl, HO, hb⟩ := hrel
    have hwr : w.heap.size ≤ wr.heap.size := hb.size
    by_cases hlt : k < n
    · have hkx : k < xs.length := by have := HN.out; omega
      obtain ⟨b, off, rfl, hbB, hc⟩ := H.out (by omega)
      have c0 := (hb.cell (p := ⟨b, off + k, none⟩) (by simp; omega)).trans (hc k hkx)
      clear hc
      have HP := Lib.hid (spec_placeIn A' m c' ys (xs.getD k 0) wr B (by omega) HM.out (H'.out.below hb (by omega)) hs')
      have HST := Lib.hid (notK_step xs ys k hkx)
      have hfl := notK_len (xs.take k) ys
      have hfk : (xs.take k).length ≤ k := List.length_take_le _ _
      have hpl := plc_ge ys (xs.getD k 0)
      generalize xs.getD k 0 = x at *
      generalize notK (xs.take k) ys = F at *
      by_cases hm : x ∈ ys
      · rw [decide_eq_true hm] at hpl
        have hge : decide (plc ys x < 0) = false := by simp at hpl; simp; omega
        have HS2 := Lib.hid (HST.out.trans (if_neg (not_not_intro hm)))
        clear hm hpl HST
        generalize plc ys x = p at *
        go_wp2_with fail
        refine HP.out.mono ?_
        rintro e w' ⟨rfl, rfl⟩
        go_wp2
        go_roundw
        case rel => exact ⟨k + 1, by omega, by go_num, by rw [HS2.out]; exact HO.out, hb⟩
        case measure => simp [intOf]; omega
      · rw [decide_eq_false hm] at hpl
        have hge : plc ys x < 0 := by simpa using hpl
        have HS2 := Lib.hid (HST.out.trans (if_pos hm))
        clear hm hpl HST
        generalize plc ys x = p at *
        go_wp2_with (first | (go_at_call 51; refine HP.out.mono ?_; rintro e w' ⟨rfl, rfl⟩) | (at_builtin; refine wpList_append_own _ rfl _ _ 23 rfl w.heap.size 3 i0 (.int .i64 0) 1 8 Try.underlying23 hi hz0 hz1 hz2 rfl (by decide) _ _ _ rfl (HO.out.alloc _) ⟨wr.heap.size, 0, none⟩ 1 1 [.int .i64 x] rfl rfl (cell_one_new _ _ _) ?c2 ?c3 ?c4 ?c5 ?_))
        case c2 => first | rfl | (intro u hu; simp at hu; subst hu; rfl)
        case c3 => unfold maxLen; omega
        case c4 => omega
        case c5 => first | omega | (simp; omega)
        intro v' w1 hown' hgrow _
        have hpos := (HO.out.alloc (.cells #[.int .i64 x] 3)).lt
        have HO' : Hid (OwnI w1 w.heap.size v' (notK (xs.take (k + 1)) ys)) := by
          rw [HS2.out]
          simpa [OwnI, Hid] using hown'
        have HB' := Lib.hid ((hb.alloc hwr (.cells #[.int .i64 x] 3)).grown hgrow (by first | (simp; omega) | omega) (fun q hq => (hpos q hq).1))
        clear hown' hgrow hpos
        go_wp2
        go_roundw
        case rel => exact ⟨k + 1, by omega, by go_num, HO'.out, HB'.out⟩
        case measure => simp [intOf]; omega
    · obtain rfl : k = n := by omega
      go_wp2
      go_ret
      refine ⟨_, rfl, ?_, hb⟩
      have := HO.out
      rw [HN.out, List.take_of_length_le (Nat.le_refl _)] at this
      exact this
set_option maxRecDepth 100000 in
set_option maxHeartbeats 1600000 in
theorem impl_keysWhere1 (K : FuncId) (cap : Value) (P : Int → Bool) (I : World → Prop) (A : Option Addr) (n c : Nat) (xs : List Int) (hs : n ≤ 2000000)
    (hI : ∀ w w' : World, I w → Below w.heap.size w w' → I w') (hcf : ∀ (q : Int) (w : World), (callFunc K #[.int .i64 q, cap]).run Try.prog w = .ok (.enter K #[.int .i64 q, cap]) w)
    (hP : ∀ (q : Int) (w : World), I w → Calls Try.prog K #[.int .i64 q, cap] w fun e w' => e = .returned (.bool (P q)) ∧ w' = w) (w : World) (h : I w) (hn : n = xs.length) (B : Nat) (hB : B ≤ w.heap.size) (hx : IS w B A xs) :
    Calls Try.prog 55 #[.slice A n c, .func (.func K) #[] #[cap]] w fun e w' => RetI w (xs.filter P) e w' := by
  obtain ⟨i0, hi, hz0, hz1, hz2⟩ := info_parts info_int
  have HI := Lib.hid hI
  have HP := Lib.hid hP
  have H := Lib.hid h
  have HCF := Lib.hid hcf
  have HX := Lib.hid hx
  have HN := Lib.hid hn
  clear hI hP h hcf hx hn
  go_enter Try.func55, Try.ntmps55
  go_wp2
  go_loopw [5, 10] (fun v i wr => ∃ k : Nat, k ≤ n ∧ i = .int .i64 k ∧ Hid (OwnI wr w.heap.size v ((xs.take k).filter P)) ∧ Below w.heap.size w wr) (fun _ i _ => n - (intOf i).toNat)
  case atStart => exact ⟨0, Nat.zero_le _, rfl, World.ownsRow_nil _ _ _ _, Below.refl _ _⟩
  case round =>
    obtain ⟨k, hk, rfl, HO, hb⟩ := hrel
    have hwr : w.heap.size ≤ wr.heap.size := hb.size
    by_cases hlt : k < n
    · have hkx : k < xs.length := by have := HN.out; omega
      obtain ⟨b, off, rfl, hbB, hc⟩ := HX.out (by omega)
      have c0 := (hb.cell (p := ⟨b, off + k, none⟩) (by simp; omega)).trans (hc k hkx)
      clear hc
      have HPK := Lib.hid (HP.out (xs.getD k 0) wr (HI.out _ _ H.out hb))
      have hcf := HCF.out (xs.getD k 0)
      have HST := Lib.hid (filter_take_step P xs k hkx)
      have hfl := List.length_filter_le P (xs.take k)
      have hfk : (xs.take k).length ≤ k := List.length_take_le _ _
      generalize xs.getD k 0 = x at *
      generalize (xs.take k).filter P = F at *
      generalize hp : P x = p at *
      cases p
      · have HS2 := Lib.hid (HST.out.trans (if_neg (by simp)))
        clear hp HST
        go_wp2_with fail
        refine HPK.out.mono ?_
        rintro e w2 ⟨rfl, rfl⟩
        go_wp2
        go_roundw
        case rel => exact ⟨k + 1, by omega, by go_num, by rw [HS2.out]; exact HO.out, hb⟩
        case measure => simp [intOf]; omega
      · have HS2 := Lib.hid (HST.out.trans (if_pos rfl))
        clear hp HST
        go_wp2_with fail
        refine HPK.out.mono ?_
        rintro e w2 ⟨rfl, rfl⟩
        clear hcf
        go_wp2_with (at_builtin; refine wpList_append_own _ rfl _ _ 23 rfl w.heap.size 3 i0 (.int .i64 0) 1 8 Try.underlying23 hi hz0 hz1 hz2 rfl (by decide) _ _ _ rfl (HO.out.alloc _) ⟨_, 0, none⟩ 1 1 [.int .i64 x] rfl rfl (cell_one_new _ _ _) ?c2 ?c3 ?c4 ?c5 ?_)
        case c2 => first | rfl | (intro u hu; simp at hu; subst hu; rfl)
        case c3 => unfold maxLen; omega
        case c4 => omega
        case c5 => first | omega | (simp; omega)
        intro v' w3 hown' hgrow _
        have hpos := (HO.out.alloc (.cells #[.int .i64 x] 3)).lt
        have HO' : Hid (OwnI w3 w.heap.size v' ((xs.take (k + 1)).filter P)) := by
          rw [HS2.out]
          simpa [OwnI, Hid] using hown'
        have HB' := Lib.hid ((hb.alloc hwr (.cells #[.int .i64 x] 3)).grown hgrow (by first | (simp; omega) | omega) (fun q hq => (hpos q hq).1))
        clear hown' hgrow hpos
        go_wp2
        go_roundw
        case rel => exact ⟨k + 1, by omega, by go_num, HO'.out, HB'.out⟩
        case measure => simp [intOf]; omega
    · obtain rfl : k = n := by omega
      go_wp2
      go_ret
      refine ⟨_, rfl, ?_, hb⟩
      have := HO.out
      rw [HN.out, List.take_of_length_le (Nat.le_refl _)] at this
      exact this
set_option maxHeartbeats 800000 in
theorem keysNotIn1_at (g : Nat) (A : Option Addr) (lc c : Nat) (q : Int) (C : List Int) (w : World) (hl : lc = C.length) (hs : lc ≤ 2000000) (B : Nat) (hB : B ≤ w.heap.size) (h1 : w.cell? ⟨g, 0, none⟩ = some (.slice A lc c)) (h : IS w B A C) :
    Calls Try.prog 56 #[.int .i64 q, .pointer (some ⟨g, 0, none⟩)] w fun e w' => e = .returned (.bool (!decide (q ∈ C))) ∧ w' = w := by
  have HC := Lib.hid (slices_Contains A lc c C q w B hB hl h hs)
  generalize decide (q ∈ C) = r at *
  clear hl h
  go_enter Try.func56, Try.ntmps56
  go_wp2_with fail
  refine HC.out.mono ?_
  rintro e w1 ⟨rfl, rfl⟩
  go_wp2
  go_ret
  exact ⟨rfl, rfl⟩
set_option maxHeartbeats 800000 in
theorem impl_keysNotIn (A A' : Option Addr) (n c m c' : Nat) (xs ys : List Int) (w : World) (B : Nat) (hB : B ≤ w.heap.size) (hn : n = xs.length) (hm : m = ys.length) (h : IS w B A xs) (h' : IS w B A' ys) (hs : n ≤ 2000000) (hs' : m ≤ 2000000) :
    Calls Try.prog 36 #[.slice A n c, .slice A' m c'] w fun e w' => RetI w (notK xs ys) e w' := by
  have HC := Lib.hid (impl_keysWhere1 56 (.pointer (some ⟨w.heap.size, 0, none⟩)) (fun x => !decide (x ∈ ys))
    (fun w' => w.heap.size + 1 ≤ w'.heap.size ∧ w'.cell? ⟨w.heap.size, 0, none⟩ = some (.slice A' m c') ∧ IS w' B A' ys) A n c xs hs
    (fun wa wb h hb => ⟨Nat.le_trans h.1 hb.size, (hb.cell (p := ⟨w.heap.size, 0, none⟩) h.1).trans h.2.1, h.2.2.below hb (by have := h.1; omega)⟩)
    (fun q w => by kernel_rfl)
    (fun q wa h => keysNotIn1_at w.heap.size A' m c' q ys wa hm hs' B (by have := h.1; omega) h.2.1 h.2.2)
    (w.alloc (.cells #[.slice A' m c'] 23)) ⟨by simp, by go_simp, h'.alloc hB _⟩ hn B (by simp; omega) (h.alloc hB _))
  clear hn h hm h'
  go_enter Try.func36, Try.ntmps36
  go_wp2_with fail
  refine HC.out.mono ?_
  rintro e w1 ⟨v, rfl, ho, hb⟩
  go_wp2
  go_ret
  exact ⟨v, by simp, own_mono ho (by simp), ((Below.refl _ _).alloc (Nat.le_refl _) _).trans (hb.mono (by simp))⟩
set_option maxHeartbeats 800000 in
theorem impl_areBothKeys (A A' : Option Addr) (n c m c' : Nat) (xs ys : List Int) (w : World) (B : Nat) (hB : B ≤ w.heap.size) (hn : n = xs.length) (hnc : n ≤ c) (hm : m = ys.length) (hmc : m ≤ c') (h : IS w B A xs) (h' : IS w B A' ys) (hs : n ≤ 2000000) (hs' : m ≤ 2000000) :
    Calls Try.prog 35 #[.slice A n c, .slice A' m c'] w fun e w' => e = .returned (.bool (bothK xs ys)) ∧ Below w.heap.size w w' := by
  have HC := Lib.hid (impl_ValidKeys A n c xs w B hB hn hnc h hs)
  have HD := Lib.hid fun (w' : World) (hb : Below w.heap.size w w') => impl_ValidKeys A' m c' ys w' B (by have := hb.size; omega) hm hmc (h'.below hb hB) hs'
  have hbk : bothK xs ys = (validK xs && validK ys) := rfl
  rw [hbk]
  generalize validK xs = r at *
  generalize validK ys = s at *
  clear hn h hm h' hbk hnc hmc
  cases r
  · go_enter Try.func35, Try.ntmps35
    go_wp2_with fail
    refine HC.out.mono ?_
    rintro e w1 ⟨rfl, hb⟩
    go_wp2
    go_ret
    exact ⟨ret_b (by simp), hb⟩
  · go_enter Try.func35, Try.ntmps35
    go_wp2_with fail
    refine HC.out.mono ?_
    rintro e w1 ⟨rfl, hb⟩
    go_wp2_with fail
    refine (HD.out _ hb).mono ?_
    rintro e w2 ⟨rfl, hb2⟩
    go_wp2
    go_ret
    exact ⟨ret_b (by simp), hb.trans (hb2.mono hb.size)⟩
/-- What NewKeys answers. -/
def newK (xs ys : List Int) : List Int := if bothK xs ys then notK ys xs else []
theorem newK_len (xs ys : List Int) : (newK xs ys).length ≤ 10 := by
  unfold newK
  split
  · rename_i h
    exact Nat.le_trans (notK_len _ _) (validK_len _ (bothK_parts _ _ h).2)
  · simp
theorem RetI_nil {w w' : World} (hb : Below w.heap.size w w') : RetI w [] (.returned (.slice none 0 0)) w' := ⟨_, rfl, World.ownsRow_nil _ _ _ _, hb⟩
set_option maxHeartbeats 1600000 in
theorem top_impl_NewKeys (xs ys : List Int) (hL : xs.length ≤ 1048576) (hL2 : ys.length ≤ 1048576) : ∀ (A : Option Addr) (n c : Nat) (A' : Option Addr) (m c' : Nat) (w : World), n = xs.length → n ≤ c → IS w w.heap.size A xs → m = ys.length → m ≤ c' → IS w w.heap.size A' ys →
    Calls Try.prog 13 #[.slice A n c, .slice A' m c'] w fun e w' => RetI w (newK xs ys) e w' := by
  intro A n c A' m c' w hn hnc h hm hmc h'
  have hn2 : n ≤ 2000000 := by omega
  have hm2 : m ≤ 2000000 := by omega
  have HC := Lib.hid (impl_areBothKeys A A' n c m c' xs ys w w.heap.size (Nat.le_refl _) hn hnc hm hmc h h' hn2 hm2)
  have HD := Lib.hid fun (w' : World) (hb : Below w.heap.size w w') => impl_keysNotIn A' A m c' n c ys xs w' w.heap.size hb.size hm hn (h'.below hb (Nat.le_refl _)) (h.below hb (Nat.le_refl _)) hm2 hn2
  unfold newK
  generalize bothK xs ys = r at *
  generalize notK ys xs = F at *
  clear hn h hm h' hnc hmc hL hL2
  cases r
  · simp only [Bool.false_eq_true, if_false]
    go_enter Try.func13, Try.ntmps13
    go_wp2_with fail
    refine HC.out.mono ?_
    rintro e w1 ⟨rfl, hb⟩
    go_wp2
    go_ret
    exact RetI_nil hb
  · simp only [if_true]
    go_enter Try.func13, Try.ntmps13
    go_wp2_with fail
    refine HC.out.mono ?_
    rintro e w1 ⟨rfl, hb⟩
    go_wp2_with fail
    refine (HD.out _ hb).mono ?_
    rintro e w2 ⟨v, rfl, ho, hb2⟩
    go_wp2
    go_ret
    exact ⟨v, by simp, own_mono ho hb.size, hb.trans (hb2.mono hb.size)⟩
set_option maxHeartbeats 1600000 in
theorem top_spec_NewKeys (xs ys : List Int) (hL : xs.length ≤ 1048576) (hL2 : ys.length ≤ 1048576) : ∀ (A : Option Addr) (n c : Nat) (A' : Option Addr) (m c' : Nat) (w : World), n = xs.length → n ≤ c → IS w w.heap.size A xs → m = ys.length → m ≤ c' → IS w w.heap.size A' ys →
    Calls Try.prog 15 #[.slice A n c, .slice A' m c'] w fun e w' => RetI w (newK xs ys) e w' := by
  intro A n c A' m c' w hn hnc h hm hmc h'
  have hn2 : n ≤ 2000000 := by omega
  have hm2 : m ≤ 2000000 := by omega
  have HC := Lib.hid (spec_validKeys A n c xs w w.heap.size (Nat.le_refl _) hn hnc h hn2)
  have HE := Lib.hid fun (w' : World) (hb : Below w.heap.size w w') => spec_validKeys A' m c' ys w' w.heap.size hb.size hm hmc (h'.below hb (Nat.le_refl _)) hm2
  have HD := Lib.hid fun (w' : World) (hb : Below w.heap.size w w') => spec_missing A' A m c' n c ys xs w' w.heap.size hb.size hm hn (h'.below hb (Nat.le_refl _)) (h.below hb (Nat.le_refl _)) hm2 hn2
  unfold newK bothK
  generalize validK xs = r at *
  generalize validK ys = s at *
  generalize notK ys xs = F at *
  clear hn h hm h' hnc hmc hL hL2
  cases r
  · simp only [Bool.false_and, Bool.false_eq_true, if_false]
    go_enter Try.func15, Try.ntmps15
    go_wp2_with fail
    refine HC.out.mono ?_
    rintro e w1 ⟨rfl, hb⟩
    go_wp2
    go_ret
    exact RetI_nil hb
  · cases s
    · simp only [Bool.and_false, Bool.false_eq_true, if_false]
      go_enter Try.func15, Try.ntmps15
      go_wp2_with fail
      refine HC.out.mono ?_
      rintro e w1 ⟨rfl, hb⟩
      go_wp2_with fail
      refine (HE.out _ hb).mono ?_
      rintro e w2 ⟨rfl, hb2⟩
      go_wp2
      go_ret
      exact RetI_nil (hb.trans (hb2.mono hb.size))
    · simp only [Bool.and_self, if_true]
      go_enter Try.func15, Try.ntmps15
      go_wp2_with fail
      refine HC.out.mono ?_
      rintro e w1 ⟨rfl, hb⟩
      go_wp2_with fail
      refine (HE.out _ hb).mono ?_
      rintro e w2 ⟨rfl, hb2⟩
      have hb3 := hb.trans (hb2.mono hb.size)
      go_wp2_with fail
      refine (HD.out _ hb3).mono ?_
      rintro e w3 ⟨v, rfl, ho, hb4⟩
      go_wp2
      go_ret
      exact ⟨v, by simp, own_mono ho hb3.size, hb3.trans (hb4.mono hb3.size)⟩
end Go.Proofs.Ytboieimahdmpaaa
