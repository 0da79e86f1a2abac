/- Keys that are in both lists, and those that are in one alone: both sides; NewKeys. -/
import Derived.Test.YtjlfabfejnpaaaaS2
import Derived.Test.YtjlfabfejnpaaaaK1

namespace Go.Proofs.Ytjlfabfejnpaaaa
set_option linter.unusedSimpArgs false
set_option linter.unusedVariables false
open Go.RowKit

/-- The numbers of a list that are in another one, and those that are not. -/
def inK (xs ys : List Int) : List Int := xs.filter fun x => decide (x ∈ ys)
def notK (xs ys : List Int) : List Int := xs.filter fun x => !decide (x ∈ ys)

theorem filter_take_step (P : Int → Bool) (xs : List Int) (k : Nat) (h : k < xs.length) : (xs.take (k + 1)).filter P = if P (xs.getD k 0) = true then (xs.take k).filter P ++ [xs.getD k 0] else (xs.take k).filter P := by
  have hg : xs[k] = xs.getD k 0 := by simp [List.getD, h]
  rw [List.take_succ_eq_append_getElem h, List.filter_append, hg]
  generalize xs.getD k 0 = x
  clear hg
  by_cases hp : P x = true
  · rw [if_pos hp]; simp [hp]
  · rw [if_neg hp]; simp [hp]
theorem inK_step (xs ys : List Int) (k : Nat) (h : k < xs.length) : inK (xs.take (k + 1)) ys = if xs.getD k 0 ∈ ys then inK (xs.take k) ys ++ [xs.getD k 0] else inK (xs.take k) ys := by
  unfold inK; rw [filter_take_step _ _ _ h]; simp
theorem notK_step (xs ys : List Int) (k : Nat) (h : k < xs.length) : notK (xs.take (k + 1)) ys = if ¬ xs.getD k 0 ∈ ys then notK (xs.take k) ys ++ [xs.getD k 0] else notK (xs.take k) ys := by
  unfold notK; rw [filter_take_step _ _ _ h]; simp
theorem inK_len (xs ys : List Int) : (inK xs ys).length ≤ xs.length := List.length_filter_le _ _
theorem notK_len (xs ys : List Int) : (notK xs ys).length ≤ xs.length := List.length_filter_le _ _
theorem validK_len (xs : List Int) (h : validK xs = true) : xs.length ≤ 10 := by
  unfold validK at h; simp at h; exact h.1
/-- Both lists are keys. -/
def bothK (xs ys : List Int) : Bool := validK xs && validK ys
theorem bothK_parts (xs ys : List Int) (h : bothK xs ys = true) : validK xs = true ∧ validK ys = true := by unfold bothK at h; simpa using h

set_option maxRecDepth 100000 in
set_option maxHeartbeats 1600000 in
theorem spec_common (A A' : Option Addr) (n c m c' : Nat) (xs ys : List Int) (w : World) (B : Nat) (hB : B ≤ w.heap.size) (hn : n = xs.length) (hm : m = ys.length) (h : IS w B A xs) (h' : IS w B A' ys) (hs : n ≤ 2000000) (hs' : m ≤ 2000000) :
    Calls Try.prog 75 #[.slice A n c, .slice A' m c'] w fun e w' => RetI w (inK xs ys) e w' := by
  obtain ⟨i0, hi, hz0, hz1, hz2⟩ := info_parts info_int
  have H := Lib.hid h
  have HN := Lib.hid hn
  have H' := Lib.hid h'
  have HM := Lib.hid hm
  clear hn h hm h'
  go_enter Try.func75, Try.ntmps75
  go_wp2
  go_loopw [5, 6] (fun v i wr => ∃ k : Nat, k ≤ n ∧ i = .int .i64 k ∧ Hid (OwnI wr w.heap.size v (inK (xs.take k) ys)) ∧ Below w.heap.size w wr) (fun _ i _ => n - (intOf i).toNat)
  case atStart =>
    exact ⟨0, Nat.zero_le _, rfl, World.ownsRow_lit (e := 3) (size := 1) w #[] 0 (Nat.le_refl _) (by unfold maxLen; omega) rfl, (Below.refl _ _).alloc (Nat.le_refl _) _⟩
  case round =>
    obtain ⟨k, hk, rfl, HO, hb⟩ := hrel
    have hwr : w.heap.size ≤ wr.heap.size := hb.size
    by_cases hlt : k < n
    · have hkx : k < xs.length := by have := HN.out; omega
      obtain ⟨b, off, rfl, hbB, hc⟩ := H.out (by omega)
      have c0 := (hb.cell (p := ⟨b, off + k, none⟩) (by simp; omega)).trans (hc k hkx)
      clear hc
      have HP := Lib.hid (spec_placeIn A' m c' ys (xs.getD k 0) wr B (by omega) HM.out (H'.out.below hb (by omega)) hs')
      have HST := Lib.hid (inK_step xs ys k hkx)
      have hfl := inK_len (xs.take k) ys
      have hfk : (xs.take k).length ≤ k := List.length_take_le _ _
      have hpl := plc_ge ys (xs.getD k 0)
      generalize xs.getD k 0 = x at *
      generalize inK (xs.take k) ys = F at *
      by_cases hm : x ∈ ys
      · rw [decide_eq_true hm] at hpl
        have hge : 0 ≤ plc ys x := by simp at hpl; exact hpl
        have HS2 := Lib.hid (HST.out.trans (if_pos hm))
        clear hm hpl HST
        generalize plc ys x = p at *
        go_wp2_with (first | (go_at_call 67; refine HP.out.mono ?_; rintro e w' ⟨rfl, rfl⟩) | (at_builtin; refine wpList_append_own _ rfl _ _ 22 rfl w.heap.size 3 i0 (.int .i64 0) 1 8 Try.underlying22 hi hz0 hz1 hz2 rfl (by decide) _ _ _ rfl (HO.out.alloc _) ⟨wr.heap.size, 0, none⟩ 1 1 [.int .i64 x] rfl rfl (cell_one_new _ _ _) ?c2 ?c3 ?c4 ?c5 ?_))
        case c2 => first | rfl | (intro u hu; simp at hu; subst hu; rfl)
        case c3 => unfold maxLen; omega
        case c4 => omega
        case c5 => first | omega | (simp; omega)
        intro v' w1 hown' hgrow _
        have hpos := (HO.out.alloc (.cells #[.int .i64 x] 3)).lt
        have HO' : Hid (OwnI w1 w.heap.size v' (inK (xs.take (k + 1)) ys)) := by
          rw [HS2.out]
          simpa [OwnI, Hid] using hown'
        have HB' := Lib.hid ((hb.alloc hwr (.cells #[.int .i64 x] 3)).grown hgrow (by first | (simp; omega) | omega) (fun q hq => (hpos q hq).1))
        clear hown' hgrow hpos
        go_wp2
        go_roundw
        case rel => exact ⟨k + 1, by omega, by go_num, HO'.out, HB'.out⟩
        case measure => simp [intOf]; omega
      · rw [decide_eq_false hm] at hpl
        have hge : decide (0 ≤ plc ys x) = false := by exact hpl
        have HS2 := Lib.hid (HST.out.trans (if_neg hm))
        clear hm hpl HST
        generalize plc ys x = p at *
        go_wp2_with fail
        refine HP.out.mono ?_
        rintro e w' ⟨rfl, rfl⟩
        go_wp2
        go_roundw
        case rel => exact ⟨k + 1, by omega, by go_num, by rw [HS2.out]; exact HO.out, hb⟩
        case measure => simp [intOf]; omega
    · obtain rfl : k = n := by omega
      go_wp2
      go_ret
      refine ⟨_, rfl, ?_, hb⟩
      have := HO.out
      rw [HN.out, List.take_of_length_le (Nat.le_refl _)] at this
      exact this

set_option maxRecDepth 100000 in
set_option maxHeartbeats 1600000 in
theorem spec_missing (A A' : Option Addr) (n c m c' : Nat) (xs ys : List Int) (w : World) (B : Nat) (hB : B ≤ w.heap.size) (hn : n = xs.length) (hm : m = ys.length) (h : IS w B A xs) (h' : IS w B A' ys) (hs : n ≤ 2000000) (hs' : m ≤ 2000000) :
    Calls Try.prog 50 #[.slice A n c, .slice A' m c'] w fun e w' => RetI w (notK xs ys) e w' := by
  obtain ⟨i0, hi, hz0, hz1, hz2⟩ := info_parts info_int
  have H := Lib.hid h
  have HN := Lib.hid hn
  have H' := Lib.hid h'
  have HM := Lib.hid hm
  clear hn h hm h'
  go_enter Try.func50, Try.ntmps50
  go_wp2
  go_loopw [5, 6] (fun v i wr => ∃ k : Nat, k ≤ n ∧ i = .int .i64 k ∧ Hid (OwnI wr w.heap.size v (notK (xs.take k) ys)) ∧ Below w.heap.size w wr) (fun _ i _ => n - (intOf i).toNat)
  case atStart =>
    exact ⟨0, Nat.zero_le _, rfl, World.ownsRow_lit (e := 3) (size := 1) w #[] 0 (Nat.le_refl _) (by unfold maxLen; omega) rfl, (Below.refl _ _).alloc (Nat.le_refl _) _⟩
  case round =>
    obtain ⟨k, hk, rfl, HO, hb⟩ := hrel
    have hwr : w.heap.size ≤ wr.heap.size := hb.size
    by_cases hlt : k < n
    · have hkx : k < xs.length := by have := HN.out; omega
      obtain ⟨b, off, rfl, hbB, hc⟩ := H.out (by omega)
      have c0 := (hb.cell (p := ⟨b, off + k, none⟩) (by simp; omega)).trans (hc k hkx)
      clear hc
      have HP := Lib.hid (spec_placeIn A' m c' ys (xs.getD k 0) wr B (by omega) HM.out (H'.out.below hb (by omega)) hs')
      have HST := Lib.hid (notK_step xs ys k hkx)
      have hfl := notK_len (xs.take k) ys
      have hfk : (xs.take k).length ≤ k := List.length_take_le _ _
      have hpl := plc_ge ys (xs.getD k 0)
      generalize xs.getD k 0 = x at *
      generalize notK (xs.take k) ys = F at *
      by_cases hm : x ∈ ys
      · rw [decide_eq_true hm] at hpl
        have hge : decide (plc ys x < 0) = false := by simp at hpl; simp; omega
        have HS2 := Lib.hid (HST.out.trans (if_neg (not_not_intro hm)))
        clear hm hpl HST
        generalize plc ys x = p at *
        go_wp2_with fail
        refine HP.out.mono ?_
        rintro e w' ⟨rfl, rfl⟩
        go_wp2
        go_roundw
        case rel => exact ⟨k + 1, by omega, by go_num, by rw [HS2.out]; exact HO.out, hb⟩
        case measure => simp [intOf]; omega
      · rw [decide_eq_false hm] at hpl
        have hge : plc ys x < 0 := by simpa using hpl
        have HS2 := Lib.hid (HST.out.trans (if_pos hm))
        clear hm hpl HST
        generalize plc ys x = p at *
        go_wp2_with (first | (go_at_call 67; refine HP.out.mono ?_; rintro e w' ⟨rfl, rfl⟩) | (at_builtin; refine wpList_append_own _ rfl _ _ 22 rfl w.heap.size 3 i0 (.int .i64 0) 1 8 Try.underlying22 hi hz0 hz1 hz2 rfl (by decide) _ _ _ rfl (HO.out.alloc _) ⟨wr.heap.size, 0, none⟩ 1 1 [.int .i64 x] rfl rfl (cell_one_new _ _ _) ?c2 ?c3 ?c4 ?c5 ?_))
        case c2 => first | rfl | (intro u hu; simp at hu; subst hu; rfl)
        case c3 => unfold maxLen; omega
        case c4 => omega
        case c5 => first | omega | (simp; omega)
        intro v' w1 hown' hgrow _
        have hpos := (HO.out.alloc (.cells #[.int .i64 x] 3)).lt
        have HO' : Hid (OwnI w1 w.heap.size v' (notK (xs.take (k + 1)) ys)) := by
          rw [HS2.out]
          simpa [OwnI, Hid] using hown'
        have HB' := Lib.hid ((hb.alloc hwr (.cells #[.int .i64 x] 3)).grown hgrow (by first | (simp; omega) | omega) (fun q hq => (hpos q hq).1))
        clear hown' hgrow hpos
        go_wp2
        go_roundw
        case rel => exact ⟨k + 1, by omega, by go_num, HO'.out, HB'.out⟩
        case measure => simp [intOf]; omega
    · obtain rfl : k = n := by omega
      go_wp2
      go_ret
      refine ⟨_, rfl, ?_, hb⟩
      have := HO.out
      rw [HN.out, List.take_of_length_le (Nat.le_refl _)] at this
      exact this

set_option maxRecDepth 100000 in
set_option maxHeartbeats 1600000 in
theorem impl_keysWhere1 (K : FuncId) (cap : Value) (P : Int → Bool) (I : World → Prop) (A : Option Addr) (n c : Nat) (xs : List Int) (hs : n ≤ 2000000)
    (hI : ∀ w w' : World, I w → Below w.heap.size w w' → I w') (hcf : ∀ (q : Int) (w : World), (callFunc K #[.int .i64 q, cap]).run Try.prog w = .ok (.enter K #[.int .i64 q, cap]) w)
    (hP : ∀ (q : Int) (w : World), I w → Calls Try.prog K #[.int .i64 q, cap] w fun e w' => e = .returned (.bool (P q)) ∧ w' = w) (w : World) (h : I w) (hn : n = xs.length) (B : Nat) (hB : B ≤ w.heap.size) (hx : IS w B A xs) :
    Calls Try.prog 73 #[.slice A n c, .func (.func K) #[] #[cap]] w fun e w' => RetI w (xs.filter P) e w' := by
  obtain ⟨i0, hi, hz0, hz1, hz2⟩ := info_parts info_int
  have HI := Lib.hid hI
  have HP := Lib.hid hP
  have H := Lib.hid h
  have HCF := Lib.hid hcf
  have HX := Lib.hid hx
  have HN := Lib.hid hn
  clear hI hP h hcf hx hn
  go_enter Try.func73, Try.ntmps73
  go_wp2
  go_loopw [5, 10] (fun v i wr => ∃ k : Nat, k ≤ n ∧ i = .int .i64 k ∧ Hid (OwnI wr w.heap.size v ((xs.take k).filter P)) ∧ Below w.heap.size w wr) (fun _ i _ => n - (intOf i).toNat)
  case atStart => exact ⟨0, Nat.zero_le _, rfl, World.ownsRow_nil _ _ _ _, Below.refl _ _⟩
  case round =>
    obtain ⟨k, hk, rfl, HO, hb⟩ := hrel
    have hwr : w.heap.size ≤ wr.heap.size := hb.size
    by_cases hlt : k < n
    · have hkx : k < xs.length := by have := HN.out; omega
      obtain ⟨b, off, rfl, hbB, hc⟩ := HX.out (by omega)
      have c0 := (hb.cell (p := ⟨b, off + k, none⟩) (by simp; omega)).trans (hc k hkx)
      clear hc
      have HPK := Lib.hid (HP.out (xs.getD k 0) wr (HI.out _ _ H.out hb))
      have hcf := HCF.out (xs.getD k 0)
      have HST := Lib.hid (filter_take_step P xs k hkx)
      have hfl := List.length_filter_le P (xs.take k)
      have hfk : (xs.take k).length ≤ k := List.length_take_le _ _
      generalize xs.getD k 0 = x at *
      generalize (xs.take k).filter P = F at *
      generalize hp : P x = p at *
      cases p
      · have HS2 := Lib.hid (HST.out.trans (if_neg (by simp)))
        clear hp HST
        go_wp2_with fail
        refine HPK.out.mono ?_
        rintro e w2 ⟨rfl, rfl⟩
        go_wp2
        go_roundw
        case rel => exact ⟨k + 1, by omega, by go_num, by rw [HS2.out]; exact HO.out, hb⟩
        case measure => simp [intOf]; omega
      · have HS2 := Lib.hid (HST.out.trans (if_pos rfl))
        clear hp HST
        go_wp2_with fail
        refine HPK.out.mono ?_
        rintro e w2 ⟨rfl, rfl⟩
        clear hcf
        go_wp2_with (at_builtin; refine wpList_append_own _ rfl _ _ 22 rfl w.heap.size 3 i0 (.int .i64 0) 1 8 Try.underlying22 hi hz0 hz1 hz2 rfl (by decide) _ _ _ rfl (HO.out.alloc _) ⟨_, 0, none⟩ 1 1 [.int .i64 x] rfl rfl (cell_one_new _ _ _) ?c2 ?c3 ?c4 ?c5 ?_)
        case c2 => first | rfl | (intro u hu; simp at hu; subst hu; rfl)
        case c3 => unfold maxLen; omega
        case c4 => omega
        case c5 => first | omega | (simp; omega)
        intro v' w3 hown' hgrow _
        have hpos := (HO.out.alloc (.cells #[.int .i64 x] 3)).lt
        have HO' : Hid (OwnI w3 w.heap.size v' ((xs.take (k + 1)).filter P)) := by
          rw [HS2.out]
          simpa [OwnI, Hid] using hown'
        have HB' := Lib.hid ((hb.alloc hwr (.cells #[.int .i64 x] 3)).grown hgrow (by first | (simp; omega) | omega) (fun q hq => (hpos q hq).1))
        clear hown' hgrow hpos
        go_wp2
        go_roundw
        case rel => exact ⟨k + 1, by omega, by go_num, HO'.out, HB'.out⟩
        case measure => simp [intOf]; omega
    · obtain rfl : k = n := by omega
      go_wp2
      go_ret
      refine ⟨_, rfl, ?_, hb⟩
      have := HO.out
      rw [HN.out, List.take_of_length_le (Nat.le_refl _)] at this
      exact this

set_option maxHeartbeats 800000 in
theorem keysIn1_at (g : Nat) (A : Option Addr) (lc c : Nat) (q : Int) (C : List Int) (w : World) (hl : lc = C.length) (hs : lc ≤ 2000000) (B : Nat) (hB : B ≤ w.heap.size) (h1 : w.cell? ⟨g, 0, none⟩ = some (.slice A lc c)) (h : IS w B A C) :
    Calls Try.prog 74 #[.int .i64 q, .pointer (some ⟨g, 0, none⟩)] w fun e w' => e = .returned (.bool (decide (q ∈ C))) ∧ w' = w := by
  have HC := Lib.hid (slices_Contains A lc c C q w B hB hl h hs)
  generalize decide (q ∈ C) = r at *
  clear hl h
  go_enter Try.func74, Try.ntmps74
  go_wp2_with fail
  refine HC.out.mono ?_
  rintro e w1 ⟨rfl, rfl⟩
  go_wp2
  go_ret
  exact ⟨rfl, rfl⟩

set_option maxHeartbeats 800000 in
theorem impl_keysIn (A A' : Option Addr) (n c m c' : Nat) (xs ys : List Int) (w : World) (B : Nat) (hB : B ≤ w.heap.size) (hn : n = xs.length) (hm : m = ys.length) (h : IS w B A xs) (h' : IS w B A' ys) (hs : n ≤ 2000000) (hs' : m ≤ 2000000) :
    Calls Try.prog 46 #[.slice A n c, .slice A' m c'] w fun e w' => RetI w (inK xs ys) e w' := by
  have HC := Lib.hid (impl_keysWhere1 74 (.pointer (some ⟨w.heap.size, 0, none⟩)) (fun x => decide (x ∈ ys))
    (fun w' => w.heap.size + 1 ≤ w'.heap.size ∧ w'.cell? ⟨w.heap.size, 0, none⟩ = some (.slice A' m c') ∧ IS w' B A' ys) A n c xs hs
    (fun wa wb h hb => ⟨Nat.le_trans h.1 hb.size, (hb.cell (p := ⟨w.heap.size, 0, none⟩) h.1).trans h.2.1, h.2.2.below hb (by have := h.1; omega)⟩)
    (fun q w => by kernel_rfl)
    (fun q wa h => keysIn1_at w.heap.size A' m c' q ys wa hm hs' B (by have := h.1; omega) h.2.1 h.2.2)
    (w.alloc (.cells #[.slice A' m c'] 22)) ⟨by simp, by go_simp, h'.alloc hB _⟩ hn B (by simp; omega) (h.alloc hB _))
  clear hn h hm h'
  go_enter Try.func46, Try.ntmps46
  go_wp2_with fail
  refine HC.out.mono ?_
  rintro e w1 ⟨v, rfl, ho, hb⟩
  go_wp2
  go_ret
  exact ⟨v, by simp, own_mono ho (by simp), ((Below.refl _ _).alloc (Nat.le_refl _) _).trans (hb.mono (by simp))⟩

set_option maxHeartbeats 800000 in
theorem keysNotIn1_at (g : Nat) (A : Option Addr) (lc c : Nat) (q : Int) (C : List Int) (w : World) (hl : lc = C.length) (hs : lc ≤ 2000000) (B : Nat) (hB : B ≤ w.heap.size) (h1 : w.cell? ⟨g, 0, none⟩ = some (.slice A lc c)) (h : IS w B A C) :
    Calls Try.prog 76 #[.int .i64 q, .pointer (some ⟨g, 0, none⟩)] w fun e w' => e = .returned (.bool (!decide (q ∈ C))) ∧ w' = w := by
  have HC := Lib.hid (slices_Contains A lc c C q w B hB hl h hs)
  generalize decide (q ∈ C) = r at *
  clear hl h
  go_enter Try.func76, Try.ntmps76
  go_wp2_with fail
  refine HC.out.mono ?_
  rintro e w1 ⟨rfl, rfl⟩
  go_wp2
  go_ret
  exact ⟨rfl, rfl⟩

set_option maxHeartbeats 800000 in
theorem impl_keysNotIn (A A' : Option Addr) (n c m c' : Nat) (xs ys : List Int) (w : World) (B : Nat) (hB : B ≤ w.heap.size) (hn : n = xs.length) (hm : m = ys.length) (h : IS w B A xs) (h' : IS w B A' ys) (hs : n ≤ 2000000) (hs' : m ≤ 2000000) :
    Calls Try.prog 51 #[.slice A n c, .slice A' m c'] w fun e w' => RetI w (notK xs ys) e w' := by
  have HC := Lib.hid (impl_keysWhere1 76 (.pointer (some ⟨w.heap.size, 0, none⟩)) (fun x => !decide (x ∈ ys))
    (fun w' => w.heap.size + 1 ≤ w'.heap.size ∧ w'.cell? ⟨w.heap.size, 0, none⟩ = some (.slice A' m c') ∧ IS w' B A' ys) A n c xs hs
    (fun wa wb h hb => ⟨Nat.le_trans h.1 hb.size, (hb.cell (p := ⟨w.heap.size, 0, none⟩) h.1).trans h.2.1, h.2.2.below hb (by have := h.1; omega)⟩)
    (fun q w => by kernel_rfl)
    (fun q wa h => keysNotIn1_at w.heap.size A' m c' q ys wa hm hs' B (by have := h.1; omega) h.2.1 h.2.2)
    (w.alloc (.cells #[.slice A' m c'] 22)) ⟨by simp, by go_simp, h'.alloc hB _⟩ hn B (by simp; omega) (h.alloc hB _))
  clear hn h hm h'
  go_enter Try.func51, Try.ntmps51
  go_wp2_with fail
  refine HC.out.mono ?_
  rintro e w1 ⟨v, rfl, ho, hb⟩
  go_wp2
  go_ret
  exact ⟨v, by simp, own_mono ho (by simp), ((Below.refl _ _).alloc (Nat.le_refl _) _).trans (hb.mono (by simp))⟩

set_option maxHeartbeats 800000 in
theorem impl_areBothKeys (A A' : Option Addr) (n c m c' : Nat) (xs ys : List Int) (w : World) (B : Nat) (hB : B ≤ w.heap.size) (hn : n = xs.length) (hnc : n ≤ c) (hm : m = ys.length) (hmc : m ≤ c') (h : IS w B A xs) (h' : IS w B A' ys) (hs : n ≤ 2000000) (hs' : m ≤ 2000000) :
    Calls Try.prog 44 #[.slice A n c, .slice A' m c'] w fun e w' => e = .returned (.bool (bothK xs ys)) ∧ Below w.heap.size w w' := by
  have HC := Lib.hid (impl_ValidKeys A n c xs w B hB hn hnc h hs)
  have HD := Lib.hid fun (w' : World) (hb : Below w.heap.size w w') => impl_ValidKeys A' m c' ys w' B (by have := hb.size; omega) hm hmc (h'.below hb hB) hs'
  have hbk : bothK xs ys = (validK xs && validK ys) := rfl
  rw [hbk]
  generalize validK xs = r at *
  generalize validK ys = s at *
  clear hn h hm h' hbk hnc hmc
  cases r
  · go_enter Try.func44, Try.ntmps44
    go_wp2_with fail
    refine HC.out.mono ?_
    rintro e w1 ⟨rfl, hb⟩
    go_wp2
    go_ret
    exact ⟨ret_b (by simp), hb⟩
  · go_enter Try.func44, Try.ntmps44
    go_wp2_with fail
    refine HC.out.mono ?_
    rintro e w1 ⟨rfl, hb⟩
    go_wp2_with fail
    refine (HD.out _ hb).mono ?_
    rintro e w2 ⟨rfl, hb2⟩
    go_wp2
    go_ret
    exact ⟨ret_b (by simp), hb.trans (hb2.mono hb.size)⟩

/-- What NewKeys answers. -/
def newK (xs ys : List Int) : List Int := if bothK xs ys then notK ys xs else []
theorem newK_len (xs ys : List Int) : (newK xs ys).length ≤ 10 := by
  unfold newK
  split
  · rename_i h
    exact Nat.le_trans (notK_len _ _) (validK_len _ (bothK_parts _ _ h).2)
  · simp
theorem RetI_nil {w w' : World} (hb : Below w.heap.size w w') : RetI w [] (.returned (.slice none 0 0)) w' := ⟨_, rfl, World.ownsRow_nil _ _ _ _, hb⟩

set_option maxHeartbeats 1600000 in
theorem top_impl_NewKeys (xs ys : List Int) (hL : xs.length ≤ 1048576) (hL2 : ys.length ≤ 1048576) : ∀ (A : Option Addr) (n c : Nat) (A' : Option Addr) (m c' : Nat) (w : World), n = xs.length → n ≤ c → IS w w.heap.size A xs → m = ys.length → m ≤ c' → IS w w.heap.size A' ys →
    Calls Try.prog 22 #[.slice A n c, .slice A' m c'] w fun e w' => RetI w (newK xs ys) e w' := by
  intro A n c A' m c' w hn hnc h hm hmc h'
  have hn2 : n ≤ 2000000 := by omega
  have hm2 : m ≤ 2000000 := by omega
  have HC := Lib.hid (impl_areBothKeys A A' n c m c' xs ys w w.heap.size (Nat.le_refl _) hn hnc hm hmc h h' hn2 hm2)
  have HD := Lib.hid fun (w' : World) (hb : Below w.heap.size w w') => impl_keysNotIn A' A m c' n c ys xs w' w.heap.size hb.size hm hn (h'.below hb (Nat.le_refl _)) (h.below hb (Nat.le_refl _)) hm2 hn2
  unfold newK
  generalize bothK xs ys = r at *
  generalize notK ys xs = F at *
  clear hn h hm h' hnc hmc hL hL2
  cases r
  · simp only [Bool.false_eq_true, if_false]
    go_enter Try.func22, Try.ntmps22
    go_wp2_with fail
    refine HC.out.mono ?_
    rintro e w1 ⟨rfl, hb⟩
    go_wp2
    go_ret
    exact RetI_nil hb
  · simp only [if_true]
    go_enter Try.func22, Try.ntmps22
    go_wp2_with fail
    refine HC.out.mono ?_
    rintro e w1 ⟨rfl, hb⟩
    go_wp2_with fail
    refine (HD.out _ hb).mono ?_
    rintro e w2 ⟨v, rfl, ho, hb2⟩
    go_wp2
    go_ret
    exact ⟨v, by simp, own_mono ho hb.size, hb.trans (hb2.mono hb.size)⟩

set_option maxHeartbeats 1600000 in
theorem top_spec_NewKeys (xs ys : List Int) (hL : xs.length ≤ 1048576) (hL2 : ys.length ≤ 1048576) : ∀ (A : Option Addr) (n c : Nat) (A' : Option Addr) (m c' : Nat) (w : World), n = xs.length → n ≤ c → IS w w.heap.size A xs → m = ys.length → m ≤ c' → IS w w.heap.size A' ys →
    Calls Try.prog 21 #[.slice A n c, .slice A' m c'] w fun e w' => RetI w (newK xs ys) e w' := by
  intro A n c A' m c' w hn hnc h hm hmc h'
  have hn2 : n ≤ 2000000 := by omega
  have hm2 : m ≤ 2000000 := by omega
  have HC := Lib.hid (spec_validKeys A n c xs w w.heap.size (Nat.le_refl _) hn hnc h hn2)
  have HE := Lib.hid fun (w' : World) (hb : Below w.heap.size w w') => spec_validKeys A' m c' ys w' w.heap.size hb.size hm hmc (h'.below hb (Nat.le_refl _)) hm2
  have HD := Lib.hid fun (w' : World) (hb : Below w.heap.size w w') => spec_missing A' A m c' n c ys xs w' w.heap.size hb.size hm hn (h'.below hb (Nat.le_refl _)) (h.below hb (Nat.le_refl _)) hm2 hn2
  unfold newK bothK
  generalize validK xs = r at *
  generalize validK ys = s at *
  generalize notK ys xs = F at *
  clear hn h hm h' hnc hmc hL hL2
  cases r
  · simp only [Bool.false_and, Bool.false_eq_true, if_false]
    go_enter Try.func21, Try.ntmps21
    go_wp2_with fail
    refine HC.out.mono ?_
    rintro e w1 ⟨rfl, hb⟩
    go_wp2
    go_ret
    exact RetI_nil hb
  · cases s
    · simp only [Bool.and_false, Bool.false_eq_true, if_false]
      go_enter Try.func21, Try.ntmps21
      go_wp2_with fail
      refine HC.out.mono ?_
      rintro e w1 ⟨rfl, hb⟩
      go_wp2_with fail
      refine (HE.out _ hb).mono ?_
      rintro e w2 ⟨rfl, hb2⟩
      go_wp2
      go_ret
      exact RetI_nil (hb.trans (hb2.mono hb.size))
    · simp only [Bool.and_self, if_true]
      go_enter Try.func21, Try.ntmps21
      go_wp2_with fail
      refine HC.out.mono ?_
      rintro e w1 ⟨rfl, hb⟩
      go_wp2_with fail
      refine (HE.out _ hb).mono ?_
      rintro e w2 ⟨rfl, hb2⟩
      have hb3 := hb.trans (hb2.mono hb.size)
      go_wp2_with fail
      refine (HD.out _ hb3).mono ?_
      rintro e w3 ⟨v, rfl, ho, hb4⟩
      go_wp2
      go_ret
      exact ⟨v, by simp, own_mono ho hb3.size, hb3.trans (hb4.mono hb3.size)⟩
end Go.Proofs.Ytjlfabfejnpaaaa
