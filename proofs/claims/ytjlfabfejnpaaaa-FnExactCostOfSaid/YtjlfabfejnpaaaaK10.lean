/- spec.patch, spec.PatchOf. (Made by k10.py.) -/
import Derived.Test.YtjlfabfejnpaaaaK9
import Derived.Test.YtjlfabfejnpaaaaC2
import Derived.Test.YtjlfabfejnpaaaaS17

namespace Go.Proofs.Ytjlfabfejnpaaaa
set_option linter.unusedSimpArgs false
set_option linter.unusedVariables false
open Go.RowKit

/-- The keys that are taken away, from the last one to the first one. -/
def pt1 (G : List Int) (k : Nat) : List Ac := (List.range k).map fun j => ⟨0, G.getD (G.length - 1 - j) 0, -1⟩
theorem pt1_succ (G : List Int) (k : Nat) : pt1 G (k + 1) = pt1 G k ++ [⟨0, G.getD (G.length - 1 - k) 0, -1⟩] := by simp [pt1, List.range_succ]
theorem pt1_len (G : List Int) (k : Nat) : (pt1 G k).length = k := by simp [pt1]
/-- The key ahead. -/
def prevK (ys : List Int) : Nat → Int
  | 0 => -1
  | k + 1 => ys.getD k 0
/-- What is put in and moved, of the first k keys. -/
def pt2 (xs st ys : List Int) : Nat → List Ac
  | 0 => []
  | k + 1 => if ys.getD k 0 ∈ xs then (if ys.getD k 0 ∈ st then pt2 xs st ys k else pt2 xs st ys k ++ [⟨2, ys.getD k 0, prevK ys k⟩]) else pt2 xs st ys k ++ [⟨1, ys.getD k 0, prevK ys k⟩]
theorem pt2_len (xs st ys : List Int) (k : Nat) : (pt2 xs st ys k).length ≤ k := by
  induction k with
  | zero => exact Nat.le_refl _
  | succ k ih =>
    unfold pt2
    split
    · split
      · omega
      · simp; omega
    · simp; omega
theorem pt2_new (xs st ys : List Int) (k : Nat) (h : ¬ ys.getD k 0 ∈ xs) : pt2 xs st ys (k + 1) = pt2 xs st ys k ++ [⟨1, ys.getD k 0, prevK ys k⟩] := by
  show (if _ then _ else _) = _
  rw [if_neg h]
theorem pt2_move (xs st ys : List Int) (k : Nat) (h : ys.getD k 0 ∈ xs) (h2 : ¬ ys.getD k 0 ∈ st) : pt2 xs st ys (k + 1) = pt2 xs st ys k ++ [⟨2, ys.getD k 0, prevK ys k⟩] := by
  show (if _ then (if _ then _ else _) else _) = _
  rw [if_pos h, if_neg h2]
theorem pt2_stay (xs st ys : List Int) (k : Nat) (h : ys.getD k 0 ∈ xs) (h2 : ys.getD k 0 ∈ st) : pt2 xs st ys (k + 1) = pt2 xs st ys k := by
  show (if _ then (if _ then _ else _) else _) = _
  rw [if_pos h, if_pos h2]
/-- All changes. -/
def patchK (xs ys : List Int) : List Ac := pt1 (notK xs ys) (notK xs ys).length ++ pt2 xs (stK xs ys) ys ys.length
theorem patchK_len (xs ys : List Int) : (patchK xs ys).length ≤ xs.length + ys.length := by
  unfold patchK
  rw [List.length_append, pt1_len]
  have := notK_len xs ys
  have := pt2_len xs (stK xs ys) ys ys.length
  omega
def patchF (xs ys : List Int) : List Ac := if bothK xs ys then patchK xs ys else []
theorem patchF_len (xs ys : List Int) : (patchF xs ys).length ≤ 20 := by
  unfold patchF
  split
  · rename_i h
    have h1 := validK_len _ (bothK_parts _ _ h).1
    have h2 := validK_len _ (bothK_parts _ _ h).2
    have := patchK_len xs ys
    omega
  · simp
def costF (xs ys : List Int) : Int := if bothK xs ys then ((patchK xs ys).length : Int) else -1

theorem own_keepC {w w3 : World} {o : Obj} {B B' : Nat} {gv v : Value} {G : List Int} {F : List Ac} (hI : OwnI w B gv G) (hC : OwnC w B' v F) (hg : (w.alloc o).grownBy w3 v.ownBlock) : OwnI w3 B gv G :=
  World.ownsRow.kept (World.ownsRow.alloc hI o) hg (blocks_ne (World.ownsRow.alloc hI o) (World.ownsRow.alloc hC o) (by decide))
theorem own_intsI {w : World} {B n c : Nat} {A : Option Addr} {G : List Int} (h : OwnI w B (.slice A n c) G) : IS w w.heap.size A G := by
  obtain ⟨A', c', e, hi⟩ := h.form
  simp only [Value.slice.injEq] at e
  obtain ⟨rfl, _, _⟩ := e
  exact hi


set_option maxHeartbeats 400000 in
theorem spec_goneFrom (A A' : Option Addr) (n c m c' : Nat) (xs ys : List Int) (w : World) (B : Nat) (hB : B ≤ w.heap.size) (hn : n = xs.length) (hm : m = ys.length) (h : IS w B A xs) (h' : IS w B A' ys) (hs : n ≤ 2000000) (hs' : m ≤ 2000000) :
    Calls Try.prog 77 #[.slice A n c, .slice A' m c'] w fun e w' => RetI w (notK xs ys) e w' := by
  have HC := Lib.hid (spec_missing A A' n c m c' xs ys w B hB hn hm h h' hs hs')
  clear hn hm h h'
  go_enter Try.func77, Try.ntmps77
  go_wp2_with fail
  refine HC.out.mono ?_
  rintro e w1 ⟨v, rfl, ho, hb⟩
  go_wp2
  go_ret
  exact ⟨v, by simp, ho, hb⟩

set_option maxRecDepth 100000 in
set_option maxHeartbeats 3200000 in
theorem spec_patch (A A' : Option Addr) (n c m c' : Nat) (xs ys : List Int) (w : World) (hn : n = xs.length) (hm : m = ys.length) (h : IS w w.heap.size A xs) (h' : IS w w.heap.size A' ys) (hs : n ≤ 1048576) (hs' : m ≤ 1048576) :
    Calls Try.prog 52 #[.slice A n c, .slice A' m c'] w fun e w' => RetC w (patchK xs ys) e w' := by
  obtain ⟨i1, hi1, hy0, hy1, hy2⟩ := info_parts info_chg
  have HGO := Lib.hid fun (w' : World) (hb : Below w.heap.size w w') => spec_goneFrom A A' n c m c' xs ys w' w.heap.size hb.size hn hm (h.below hb (Nat.le_refl _)) (h'.below hb (Nat.le_refl _)) (by omega) (by omega)
  have HST := Lib.hid fun (w' : World) (hb : Below w.heap.size w w') => spec_stays A A' n c m c' xs ys w' w.heap.size hb.size hn hm (h.below hb (Nat.le_refl _)) (h'.below hb (Nat.le_refl _)) (by omega) hs'
  have hgl := notK_len xs ys
  have hsl := Nat.le_trans (stK_len xs ys) (inK_len ys xs)
  unfold patchK
  generalize notK xs ys = G at *
  generalize stK xs ys = S at *
  obtain ⟨l, hl⟩ : ∃ l : Nat, l = G.length := ⟨_, rfl⟩
  obtain ⟨ls, hls⟩ : ∃ ls : Nat, ls = S.length := ⟨_, rfl⟩
  have hl1 : l ≤ 1048576 := by omega
  have hls1 : ls ≤ 1048576 := by omega
  rw [← hl, ← hm]
  have HL := Lib.hid hl
  have HLS := Lib.hid hls
  have H := Lib.hid h
  have HN := Lib.hid hn
  have H' := Lib.hid h'
  have HM := Lib.hid hm
  have hb0 : Below w.heap.size w (w.alloc (.cells #[] 55)) := (Below.refl _ _).alloc (Nat.le_refl _) _
  have ho0 : OwnC (w.alloc (.cells #[] 55)) w.heap.size (.slice (some ⟨w.heap.size, 0, none⟩) 0 0) [] := World.ownsRow_lit (e := 55) (size := 3) w #[] 0 (Nat.le_refl _) (by unfold maxLen; omega) rfl
  have HB0 := Lib.hid hb0
  have HO0 := Lib.hid ho0
  clear hn h hm h' hl hls hgl hsl hb0 ho0
  go_enter Try.func52, Try.ntmps52
  go_wp2_with fail
  refine (HGO.out _ HB0.out).mono ?_
  rintro e w1 ⟨v1, rfl, ho1, hb1⟩
  obtain ⟨A1, c1, rfl, _, _, _⟩ := ho1.form' l HL.out
  have HO1 : Hid (OwnC w1 w.heap.size (.slice (some ⟨w.heap.size, 0, none⟩) 0 0) []) := own_below HO0.out hb1
  have HG1 : Hid (OwnI w1 w.heap.size (.slice A1 l c1) G) := own_mono ho1 HB0.out.size
  have HB1 := Lib.hid (HB0.out.trans (hb1.mono HB0.out.size))
  clear ho1 hb1 HB0 HO0 HGO
  go_wp2
  go_loopw [5, 7] (fun v i wr => ∃ k : Nat, k ≤ l ∧ i = .int .i64 ((l : Int) - 1 - k) ∧ Hid (OwnC wr w.heap.size v (pt1 G k)) ∧ Hid (OwnI wr w.heap.size (.slice A1 l c1) G) ∧ Hid (Below w.heap.size w wr)) (fun _ i _ => (intOf i + 1).toNat)
  case atStart => exact ⟨0, Nat.zero_le _, by simp, HO1.out, HG1.out, HB1.out⟩
  case round =>
    obtain ⟨k, hk, rfl, HO, HG, HB⟩ := hrel
    have hwr : w.heap.size ≤ wr.heap.size := HB.out.size
    by_cases hlt : k < l
    · obtain ⟨q, hq⟩ : ∃ q : Nat, q = l - 1 - k := ⟨_, rfl⟩
      have hqi : (l : Int) - 1 - k = (q : Int) := by omega
      have hql : q < l := by omega
      obtain ⟨b, off, rfl, hbB, hc⟩ := (own_intsI HG.out) (by have := HL.out; omega)
      have c0 := hc q (by have := HL.out; omega)
      have HST2 : Hid (pt1 G (k + 1) = pt1 G k ++ [⟨0, G.getD q 0, -1⟩]) := by rw [hq, HL.out]; exact pt1_succ G k
      have hfl := pt1_len G k
      generalize pt1 G k = F at *
      have HFL := Lib.hid hfl
      have HQ := Lib.hid hqi
      rw [hqi]
      generalize G.getD q 0 = x at *
      clear hc hfl hq hqi
      go_wp2_with (at_builtin; refine wpList_append_own _ rfl _ _ 29 rfl w.heap.size 55 i1 _ 3 24 Try.underlying29 hi1 hy0 hy1 hy2 rfl (by decide) _ _ _ rfl (HO.out.alloc _) ⟨_, 0, none⟩ 1 1 (Ac.cells ⟨0, x, -1⟩) rfl rfl (acells_new _ _ _ _ rfl) ?c2 ?c3 ?c4 ?c5 ?_)
      case c2 => intro u hu; simp [Ac.cells] at hu; rcases hu with rfl | rfl | rfl <;> rfl
      case c3 => have := HFL.out; unfold maxLen; omega
      case c4 => have := HFL.out; omega
      case c5 => first | omega | (simp; omega)
      intro v' w3 hown' hgrow _
      have hpos := (HO.out.alloc (.cells #[.int .i64 (0), .int .i64 (x), .int .i64 (-1)] 55)).lt
      have HO' : Hid (OwnC w3 w.heap.size v' (F ++ [⟨0, x, -1⟩])) := by
        unfold OwnC
        rw [List.length_append, List.flatMap_append]
        simpa [Hid] using hown'
      have HB' := Lib.hid ((HB.out.alloc hwr (.cells #[.int .i64 (0), .int .i64 (x), .int .i64 (-1)] 55)).grown hgrow (by first | (simp; omega) | omega) (fun q hq => (hpos q hq).1))
      have HG' := Lib.hid (own_keepC HG.out HO.out hgrow)
      clear hown' hgrow hpos
      go_wp2
      go_roundw
      case rel => exact ⟨k + 1, by omega, by have := HQ.out; go_num, by rw [HST2.out]; exact HO'.out, HG'.out, HB'.out⟩
      case measure => have := HQ.out; simp [intOf]
    · obtain rfl : k = l := by omega
      have hneg : decide ((0 : Int) ≤ (k : Int) - 1 - k) = false := decide_eq_false (by omega)
      have hp1 := pt1_len G k
      generalize hP1 : pt1 G k = P1 at *
      have HP1 := Lib.hid hP1
      have HP1L := Lib.hid hp1
      clear hP1 hp1
      go_wp2_with fail
      refine (HST.out _ HB.out).mono ?_
      rintro e w4 ⟨v4, rfl, ho4, hb4⟩
      obtain ⟨A5, c5, rfl, _, _, _⟩ := ho4.form' ls HLS.out
      have HO4 : Hid (OwnC w4 w.heap.size _ P1) := own_below HO.out hb4
      have HG4 : Hid (OwnI w4 w.heap.size (.slice A5 ls c5) S) := own_mono ho4 hwr
      have HB4 := Lib.hid (HB.out.trans (hb4.mono hwr))
      have HP0 : Hid (prevK ys 0 = -1) := rfl
      clear ho4 hb4 HO HG HB HST HO1 HG1 HB1 hwr hneg
      go_wp2
      go_loopw [5, 9, 10] (fun v a i wr => ∃ r : Nat, r ≤ m ∧ i = .int .i64 r ∧ a = .int .i64 (prevK ys r) ∧ Hid (OwnC wr w.heap.size v (P1 ++ pt2 xs S ys r)) ∧ Hid (OwnI wr w.heap.size (.slice A5 ls c5) S) ∧ Hid (Below w.heap.size w wr)) (fun _ _ i _ => m - (intOf i).toNat)
      case atStart => exact ⟨0, Nat.zero_le _, rfl, by rw [HP0.out], by simpa [pt2, Hid] using HO4.out, HG4.out, HB4.out⟩
      case round =>
        obtain ⟨r, hr, rfl, rfl, HO, HG, HB⟩ := hrel
        have hwr : w.heap.size ≤ wr.heap.size := HB.out.size
        by_cases hrm : r < m
        · have hrx : r < ys.length := by have := HM.out; omega
          obtain ⟨b, off, rfl, hbB, hc⟩ := (H'.out.below HB.out (Nat.le_refl _)) (by omega)
          have c0 := hc r hrx
          have HPX := Lib.hid (spec_placeIn A n c xs (ys.getD r 0) wr w.heap.size hwr HN.out (H.out.below HB.out (Nat.le_refl _)) (by omega))
          have HPS := Lib.hid (spec_placeIn A5 ls c5 S (ys.getD r 0) wr wr.heap.size (Nat.le_refl _) HLS.out (own_intsI HG.out) (by omega))
          have hpl := plc_ge xs (ys.getD r 0)
          have hps := plc_ge S (ys.getD r 0)
          have HNW := Lib.hid (pt2_new xs S ys r)
          have HMV := Lib.hid (pt2_move xs S ys r)
          have HSY := Lib.hid (pt2_stay xs S ys r)
          have HPV : Hid (prevK ys (r + 1) = ys.getD r 0) := rfl
          have hfl : (P1 ++ pt2 xs S ys r).length ≤ 2097152 := by
            have := pt2_len xs S ys r
            have := HP1L.out
            rw [List.length_append]; omega
          have HFL := Lib.hid hfl
          generalize pt2 xs S ys r = F at *
          generalize prevK ys r = at_ at *
          generalize ys.getD r 0 = x at *
          clear hc hfl
          by_cases hx : x ∈ xs
          · rw [decide_eq_true hx] at hpl
            have hge : decide (plc xs x < 0) = false := by simp at hpl; simp; omega
            by_cases hx2 : x ∈ S
            · rw [decide_eq_true hx2] at hps
              have hge2 : decide (plc S x < 0) = false := by simp at hps; simp; omega
              have HS2 := Lib.hid (HSY.out hx hx2)
              clear hx hx2 hpl hps HNW HMV HSY
              generalize plc xs x = p at *
              generalize plc S x = s at *
              go_wp2_with fail
              refine HPX.out.mono ?_
              rintro e w5 ⟨rfl, rfl⟩
              go_wp2_with fail
              refine HPS.out.mono ?_
              rintro e w6 ⟨rfl, rfl⟩
              go_wp2
              go_roundw
              case rel => exact ⟨r + 1, by omega, by go_num, by rw [HPV.out], by rw [HS2.out]; exact HO.out, HG.out, HB.out⟩
              case measure => simp [intOf]; omega
            · rw [decide_eq_false hx2] at hps
              have hge2 : plc S x < 0 := by simpa using hps
              have HS2 := Lib.hid (HMV.out hx hx2)
              clear hx hx2 hpl hps HNW HMV HSY
              generalize plc xs x = p at *
              generalize plc S x = s at *
              go_wp2_with fail
              refine HPX.out.mono ?_
              rintro e w5 ⟨rfl, rfl⟩
              go_wp2_with fail
              refine HPS.out.mono ?_
              rintro e w6 ⟨rfl, rfl⟩
              go_wp2_with (at_builtin; refine wpList_append_own _ rfl _ _ 29 rfl w.heap.size 55 i1 _ 3 24 Try.underlying29 hi1 hy0 hy1 hy2 rfl (by decide) _ _ _ rfl (HO.out.alloc _) ⟨_, 0, none⟩ 1 1 (Ac.cells ⟨2, x, at_⟩) rfl rfl (acells_new _ _ _ _ rfl) ?d2 ?d3 ?d4 ?d5 ?_)
              case d2 => intro u hu; simp [Ac.cells] at hu; rcases hu with rfl | rfl | rfl <;> rfl
              case d3 => have := HFL.out; unfold maxLen; omega
              case d4 => have := HFL.out; omega
              case d5 => first | omega | (simp; omega)
              intro v' w3 hown' hgrow _
              have hpos := (HO.out.alloc (.cells #[.int .i64 (2), .int .i64 (x), .int .i64 (at_)] 55)).lt
              have HO' : Hid (OwnC w3 w.heap.size v' ((P1 ++ F) ++ [⟨2, x, at_⟩])) := by
                unfold OwnC
                rw [List.length_append, List.flatMap_append]
                simpa [Hid] using hown'
              have HB' := Lib.hid ((HB.out.alloc hwr (.cells #[.int .i64 (2), .int .i64 (x), .int .i64 (at_)] 55)).grown hgrow (by first | (simp; omega) | omega) (fun q hq => (hpos q hq).1))
              have HG' := Lib.hid (own_keepC HG.out HO.out hgrow)
              clear hown' hgrow hpos
              have c1 := (HB'.out.cell (p := ⟨b, off + r, none⟩) hbB).trans ((HB.out.cell (p := ⟨b, off + r, none⟩) hbB).symm.trans c0)
              go_wp2
              go_roundw
              case rel => exact ⟨r + 1, by omega, by go_num, by rw [HPV.out], by rw [HS2.out, ← List.append_assoc]; exact HO'.out, HG'.out, HB'.out⟩
              case measure => simp [intOf]; omega
          · rw [decide_eq_false hx] at hpl
            have hge : plc xs x < 0 := by simpa using hpl
            have HS2 := Lib.hid (HNW.out hx)
            clear hx hpl hps HNW HMV HSY HPS
            generalize plc xs x = p at *
            go_wp2_with fail
            refine HPX.out.mono ?_
            rintro e w5 ⟨rfl, rfl⟩
            go_wp2_with (at_builtin; refine wpList_append_own _ rfl _ _ 29 rfl w.heap.size 55 i1 _ 3 24 Try.underlying29 hi1 hy0 hy1 hy2 rfl (by decide) _ _ _ rfl (HO.out.alloc _) ⟨_, 0, none⟩ 1 1 (Ac.cells ⟨1, x, at_⟩) rfl rfl (acells_new _ _ _ _ rfl) ?e2 ?e3 ?e4 ?e5 ?_)
            case e2 => intro u hu; simp [Ac.cells] at hu; rcases hu with rfl | rfl | rfl <;> rfl
            case e3 => have := HFL.out; unfold maxLen; omega
            case e4 => have := HFL.out; omega
            case e5 => first | omega | (simp; omega)
            intro v' w3 hown' hgrow _
            have hpos := (HO.out.alloc (.cells #[.int .i64 (1), .int .i64 (x), .int .i64 (at_)] 55)).lt
            have HO' : Hid (OwnC w3 w.heap.size v' ((P1 ++ F) ++ [⟨1, x, at_⟩])) := by
              unfold OwnC
              rw [List.length_append, List.flatMap_append]
              simpa [Hid] using hown'
            have HB' := Lib.hid ((HB.out.alloc hwr (.cells #[.int .i64 (1), .int .i64 (x), .int .i64 (at_)] 55)).grown hgrow (by first | (simp; omega) | omega) (fun q hq => (hpos q hq).1))
            have HG' := Lib.hid (own_keepC HG.out HO.out hgrow)
            clear hown' hgrow hpos
            have c1 := (HB'.out.cell (p := ⟨b, off + r, none⟩) hbB).trans ((HB.out.cell (p := ⟨b, off + r, none⟩) hbB).symm.trans c0)
            go_wp2
            go_roundw
            case rel => exact ⟨r + 1, by omega, by go_num, by rw [HPV.out], by rw [HS2.out, ← List.append_assoc]; exact HO'.out, HG'.out, HB'.out⟩
            case measure => simp [intOf]; omega
        · obtain rfl : r = m := by omega
          go_wp2
          go_ret
          rw [HP1.out]
          exact ⟨_, rfl, HO.out, HB.out⟩

set_option maxHeartbeats 1600000 in
theorem top_spec_PatchOf (xs ys : List Int) (hL : xs.length ≤ 1048576) (hL2 : ys.length ≤ 1048576) : ∀ (A : Option Addr) (n c : Nat) (A' : Option Addr) (m c' : Nat) (w : World), n = xs.length → n ≤ c → IS w w.heap.size A xs → m = ys.length → m ≤ c' → IS w w.heap.size A' ys →
    Calls Try.prog 23 #[.slice A n c, .slice A' m c'] w fun e w' => RetC w (patchF xs ys) e w' := by
  intro A n c A' m c' w hn hnc h hm hmc h'
  have hn2 : n ≤ 2000000 := by omega
  have hm2 : m ≤ 2000000 := by omega
  have HC := Lib.hid (spec_validKeys A n c xs w w.heap.size (Nat.le_refl _) hn hnc h hn2)
  have HE := Lib.hid fun (w' : World) (hb : Below w.heap.size w w') => spec_validKeys A' m c' ys w' w.heap.size hb.size hm hmc (h'.below hb (Nat.le_refl _)) hm2
  have HD := Lib.hid fun (w' : World) (hb : Below w.heap.size w w') => spec_patch A A' n c m c' xs ys w' hn hm ((h.below hb (Nat.le_refl _)).more hb.size) ((h'.below hb (Nat.le_refl _)).more hb.size) (by omega) (by omega)
  have hpl := patchK_len xs ys
  unfold patchF
  generalize patchK xs ys = F at *
  obtain ⟨l, hl⟩ : ∃ l : Nat, l = F.length := ⟨_, rfl⟩
  have hl1 : l ≤ 2097152 := by omega
  have HL := Lib.hid hl
  unfold bothK
  generalize validK xs = r at *
  generalize validK ys = s at *
  clear hn h hm h' hnc hmc hL hL2 hl hpl
  cases r
  · simp only [Bool.false_and, Bool.false_eq_true, if_false]
    go_enter Try.func23, Try.ntmps23
    go_wp2_with fail
    refine HC.out.mono ?_
    rintro e w1 ⟨rfl, hb⟩
    go_wp2
    go_ret
    exact ⟨_, rfl, World.ownsRow_nil _ _ _ _, hb⟩
  · cases s
    · simp only [Bool.and_false, Bool.false_eq_true, if_false]
      go_enter Try.func23, Try.ntmps23
      go_wp2_with fail
      refine HC.out.mono ?_
      rintro e w1 ⟨rfl, hb⟩
      go_wp2_with fail
      refine (HE.out _ hb).mono ?_
      rintro e w2 ⟨rfl, hb2⟩
      go_wp2
      go_ret
      exact ⟨_, rfl, World.ownsRow_nil _ _ _ _, (hb.trans (hb2.mono hb.size))⟩
    · simp only [Bool.and_self, if_true]
      go_enter Try.func23, Try.ntmps23
      go_wp2_with fail
      refine HC.out.mono ?_
      rintro e w1 ⟨rfl, hb⟩
      go_wp2_with fail
      refine (HE.out _ hb).mono ?_
      rintro e w2 ⟨rfl, hb2⟩
      have hb3 := hb.trans (hb2.mono hb.size)
      go_wp2_with fail
      refine (HD.out _ hb3).mono ?_
      rintro e w3 ⟨v, rfl, ho, hb4⟩
      go_wp2
      go_ret
      exact ⟨v, by simp, own_mono ho hb3.size, hb3.trans (hb4.mono hb3.size)⟩

set_option maxHeartbeats 1600000 in
theorem top_spec_CostOf (xs ys : List Int) (hL : xs.length ≤ 1048576) (hL2 : ys.length ≤ 1048576) : ∀ (A : Option Addr) (n c : Nat) (A' : Option Addr) (m c' : Nat) (w : World), n = xs.length → n ≤ c → IS w w.heap.size A xs → m = ys.length → m ≤ c' → IS w w.heap.size A' ys →
    Calls Try.prog 39 #[.slice A n c, .slice A' m c'] w fun e w' => e = .returned (.int .i64 (costF xs ys)) ∧ Below w.heap.size w w' := by
  intro A n c A' m c' w hn hnc h hm hmc h'
  have hn2 : n ≤ 2000000 := by omega
  have hm2 : m ≤ 2000000 := by omega
  have HC := Lib.hid (spec_validKeys A n c xs w w.heap.size (Nat.le_refl _) hn hnc h hn2)
  have HE := Lib.hid fun (w' : World) (hb : Below w.heap.size w w') => spec_validKeys A' m c' ys w' w.heap.size hb.size hm hmc (h'.below hb (Nat.le_refl _)) hm2
  have HD := Lib.hid fun (w' : World) (hb : Below w.heap.size w w') => spec_patch A A' n c m c' xs ys w' hn hm ((h.below hb (Nat.le_refl _)).more hb.size) ((h'.below hb (Nat.le_refl _)).more hb.size) (by omega) (by omega)
  have hpl := patchK_len xs ys
  unfold costF
  generalize patchK xs ys = F at *
  obtain ⟨l, hl⟩ : ∃ l : Nat, l = F.length := ⟨_, rfl⟩
  have hl1 : l ≤ 2097152 := by omega
  have HL := Lib.hid hl
  unfold bothK
  generalize validK xs = r at *
  generalize validK ys = s at *
  clear hn h hm h' hnc hmc hL hL2 hl hpl
  cases r
  · simp only [Bool.false_and, Bool.false_eq_true, if_false]
    go_enter Try.func39, Try.ntmps39
    go_wp2_with fail
    refine HC.out.mono ?_
    rintro e w1 ⟨rfl, hb⟩
    go_wp2
    go_ret
    exact ⟨rfl, hb⟩
  · cases s
    · simp only [Bool.and_false, Bool.false_eq_true, if_false]
      go_enter Try.func39, Try.ntmps39
      go_wp2_with fail
      refine HC.out.mono ?_
      rintro e w1 ⟨rfl, hb⟩
      go_wp2_with fail
      refine (HE.out _ hb).mono ?_
      rintro e w2 ⟨rfl, hb2⟩
      go_wp2
      go_ret
      exact ⟨rfl, (hb.trans (hb2.mono hb.size))⟩
    · simp only [Bool.and_self, if_true]
      go_enter Try.func39, Try.ntmps39
      go_wp2_with fail
      refine HC.out.mono ?_
      rintro e w1 ⟨rfl, hb⟩
      go_wp2_with fail
      refine (HE.out _ hb).mono ?_
      rintro e w2 ⟨rfl, hb2⟩
      have hb3 := hb.trans (hb2.mono hb.size)
      go_wp2_with fail
      refine (HD.out _ hb3).mono ?_
      rintro e w3 ⟨v, rfl, ho, hb4⟩
      unfold OwnC at ho
      rw [← HL.out] at ho
      obtain ⟨A3, c3, rfl⟩ := own_form ho
      clear ho
      go_wp2
      go_ret
      exact ⟨ret_i (by rw [← HL.out]), hb3.trans (hb4.mono hb3.size)⟩
end Go.Proofs.Ytjlfabfejnpaaaa
