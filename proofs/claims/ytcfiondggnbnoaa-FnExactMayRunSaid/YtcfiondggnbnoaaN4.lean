/- gather, and nodesFrom. -/
import Derived.Test.YtcfiondggnbnoaaN3
import Derived.Test.YtcfiondggnbnoaaS4

namespace Go.Proofs.Ytcfiondggnbnoaa
set_option linter.unusedSimpArgs false
set_option linter.unusedVariables false
open Go.RowKit Go.Maps

set_option maxHeartbeats 800000 in
theorem impl_needsOf (g : Nat) (v : Value) (w : World) (hg : g < w.heap.size) (h : w.cell? ⟨g, 1, none⟩ = some v) :
    Calls Try.prog 39 #[.pointer (some ⟨g, 0, none⟩)] w fun e w' => e = .returned v ∧ w' = w := by
  go_enter Try.func39, Try.ntmps39
  go_wp2
  go_ret
  exact ⟨rfl, rfl⟩
set_option maxHeartbeats 800000 in
theorem impl_usersOf (g : Nat) (v : Value) (w : World) (hg : g < w.heap.size) (h : w.cell? ⟨g, 2, none⟩ = some v) :
    Calls Try.prog 37 #[.pointer (some ⟨g, 0, none⟩)] w fun e w' => e = .returned v ∧ w' = w := by
  go_enter Try.func37, Try.ntmps37
  go_wp2
  go_ret
  exact ⟨rfl, rfl⟩

/-- How many stores gather makes at most. -/
def CG : Nat → Nat
  | 0 => 0
  | f + 1 => 1 + 10 * CG f
theorem CG_le (f : Nat) (h : f ≤ 11) : CG f ≤ 11111111111 := by
  have : ∀ f, f < 12 → CG f ≤ 11111111111 := by decide
  exact this f (by omega)

/-- A set of links, as a map holds it. -/
def inS (lb : List Nat) (S : Nat → Bool) (j : Nat) : Option Nat := if S j then lb[j]? else none
theorem inS_put (lb : List Nat) (S : Nat → Bool) (x g : Nat) (h : lb[x]? = some g) : (fun j => if j = x then some g else inS lb S j) = inS lb (fun y => if y = x then true else S y) := by
  funext j
  unfold inS
  by_cases e : j = x
  · subst e; simp [h]
  · simp [e]
theorem LkS.grown {B mb : Nat} {lb : List Nat} {R : Nat → List Nat} {w w' : World} (h : LkS B lb R w) (hg : w.grownBy w' (some mb)) (hB : B ≤ mb) (hw : B ≤ w.heap.size) : LkS B lb R w' :=
  h.keep fun p hp => World.cell?_of_block (w := w) (hg.block p.block (by omega) (by simp; omega))

set_option maxRecDepth 100000 in
set_option maxHeartbeats 3200000 in
theorem gather_any (K : FuncId) (fld : Nat) (B mb : Nat) (lb : List Nat) (R : Nat → List Nat) (rank : Nat → Nat) (hfl : fld < 2) (hlb : lb.length ≤ 10) (hB : B ≤ mb)
    (hcf : ∀ (g : Nat) (w : World), (callFunc K #[.pointer (some ⟨g, 0, none⟩)]).run Try.prog w = .ok (.enter K #[.pointer (some ⟨g, 0, none⟩)]) w)
    (hK : ∀ (g : Nat) (v : Value) (w : World), g < w.heap.size → w.cell? ⟨g, 1 + fld, none⟩ = some v → Calls Try.prog K #[.pointer (some ⟨g, 0, none⟩)] w fun e w' => e = .returned v ∧ w' = w)
    (hR10 : ∀ k, (R k).length ≤ 10) (hst : ∀ x, x < lb.length → ∀ y ∈ R (2 * x + fld), rank y < rank x) :
    ∀ (f : Nat), f ≤ 11 → ∀ (x g n : Nat) (S : Nat → Bool) (w : World), rank x < f → lb[x]? = some g → LkS B lb R w → mb < w.heap.size → MpI w mb n (inS lb S) → n + CG f ≤ 1000000000000 →
    Calls Try.prog 58 #[.map (some mb), .pointer (some ⟨g, 0, none⟩), .func (.func K) #[] #[]] w fun e w' => e = .returned (.tuple #[]) ∧ ∃ n', n' ≤ n + CG f ∧ MpI w' mb n' (inS lb (gth (fun x => R (2 * x + fld)) f S x)) ∧ w.grownBy w' (some mb) := by
  intro f
  induction f with
  | zero => intro _ x g n S w h; omega
  | succ f ih =>
    intro hf11 x g n S w hx hgx hL hmb hM hn
    have hxl : x < lb.length := (List.getElem?_eq_some_iff.1 hgx).1
    have hcg := CG_le f (by omega)
    have hcs : CG (f + 1) = 1 + 10 * CG f := rfl
    obtain ⟨hgB, c0, hA, hA'⟩ := hL.it x g hgx
    have hlook := hM.look x (by omega)
    have HIH := Lib.hid ih
    have HK := Lib.hid hK
    have HCF := Lib.hid hcf
    have HST := Lib.hid hst
    have HL := Lib.hid hL
    have HM := Lib.hid hM
    have hgw : g < w.heap.size := by omega
    cases hS : S x
    · have hS1 : inS lb S x = none := by unfold inS; rw [hS]; rfl
      rw [hS1] at hlook
      replace hlook : (Instr.lookup 51 (.map (some mb)) (.int .i64 x) false).run Try.prog w = .ok (.pointer none) w := hlook
      obtain ⟨A, m, c, cR, hm, hps⟩ : ∃ A m c, w.cell? ⟨g, 1 + fld, none⟩ = some (.slice A m c) ∧ m = (R (2 * x + fld)).length ∧ PtS w B A lb (R (2 * x + fld)) := by
        rcases (show fld = 0 ∨ fld = 1 by omega) with e | e
        · rw [e]; exact hA
        · rw [e]; exact hA'
      have hm10 : m ≤ 10 := by rw [hm]; exact hR10 _
      have hgt : gth (fun x => R (2 * x + fld)) (f + 1) S x = (R (2 * x + fld)).foldl (gth (fun x => R (2 * x + fld)) f) (fun y => if y = x then true else S y) := by
        rw [gth, if_neg (by rw [hS]; simp)]
      rw [hgt]
      have HSM := Lib.hid fun (k q : Nat) => hL.small k q
      have HSX := Lib.hid (hst x hxl)
      have HPS := Lib.hid hps
      have HMM := Lib.hid hm
      have HGX := Lib.hid hgx
      have HCR := Lib.hid cR
      clear hS hgt hS1 hA hA' hL hM hK hcf hst hps hm hR10 ih hgx cR
      go_enter Try.func58, Try.ntmps58
      go_wp2_with (at_mapUpdate; refine wpList_store_ptr _ rfl _ _ _ rfl mb n _ rfl HM.out (by unfold maxLen; omega) x g (by omega) rfl rfl ?_)
      intro w1 hm1 hg1
      rw [inS_put lb S x g HGX.out] at hm1
      have HM1 := Lib.hid hm1
      have HL1 := Lib.hid (HL.out.grown hg1 hB (by omega))
      have HG1 := Lib.hid hg1
      have cR1 : w1.cell? ⟨g, 1 + fld, none⟩ = some (.slice A m c) := (World.cell?_of_block (w := w) (a := ⟨g, 1 + fld, none⟩) (hg1.block g hgw (by simp; omega))).trans HCR.out
      have hz1 := hg1.size
      have hcf1 := HCF.out g w1
      have HK1 := Lib.hid (HK.out g _ w1 (by omega) cR1)
      have HPS1 : Hid (PtS w1 B A lb (R (2 * x + fld))) := HPS.out.keep fun p hp => World.cell?_of_block (w := w) (hg1.block p.block (by omega) (by simp; omega))
      clear hm1 hg1 cR1 hlook c0
      go_wp2_with fail
      refine HK1.out.mono ?_
      rintro e w2 ⟨rfl, rfl⟩
      clear hcf1
      go_wp2
      go_loopw [25] (fun u wr => ∃ (q n1 : Nat), q ≤ m ∧ u = .int .i64 q ∧ n1 ≤ n + 1 + q * CG f ∧ Hid (MpI wr mb n1 (inS lb (((R (2 * x + fld)).take q).foldl (gth (fun x => R (2 * x + fld)) f) (fun y => if y = x then true else S y)))) ∧ Hid (w.grownBy wr (some mb))) (fun u _ => m - (intOf u).toNat)
      case atStart => exact ⟨0, n + 1, Nat.zero_le _, rfl, by omega, HM1.out, HG1.out⟩
      case round =>
        obtain ⟨q, n1, hq, rfl, hn1, HMq, HGq⟩ := hrel
        have hzr := HGq.out.size
        by_cases hlt : q < m
        · have hql : q < (R (2 * x + fld)).length := by rw [← HMM.out]; exact hlt
          have HPSq : Hid (PtS wr B A lb (R (2 * x + fld))) := HPS.out.keep fun p hp => World.cell?_of_block (w := w) (HGq.out.block p.block (by omega) (by simp; omega))
          obtain ⟨y, hy⟩ : ∃ y, (R (2 * x + fld))[q]? = some y := ⟨_, List.getElem?_eq_getElem hql⟩
          have hym : y ∈ R (2 * x + fld) := List.mem_of_getElem? hy
          have hyl := HSM.out _ _ hym
          obtain ⟨g2, hg2⟩ : ∃ g2, lb[y]? = some g2 := ⟨_, List.getElem?_eq_getElem hyl⟩
          obtain ⟨bp, op, rfl, hbp, hcp⟩ := HPSq.out (by omega)
          have d0 := hcp q y hy
          rw [hg2] at d0
          have d0 : wr.cell? ⟨bp, op + q, none⟩ = some (.pointer (some ⟨g2, 0, none⟩)) := d0
          have hry := HSX.out y hym
          have hmul : (q + 1) * CG f = q * CG f + CG f := Nat.succ_mul _ _
          have hmul2 : q * CG f ≤ 10 * CG f := Nat.mul_le_mul_right _ (by omega)
          have hmul3 : (q + 1) * CG f ≤ 10 * CG f := Nat.mul_le_mul_right _ (by omega)
          have htk : (R (2 * x + fld)).take (q + 1) = (R (2 * x + fld)).take q ++ [y] := by rw [List.take_add_one, hy]; rfl
          have HST2 : Hid (((R (2 * x + fld)).take (q + 1)).foldl (gth (fun x => R (2 * x + fld)) f) (fun y => if y = x then true else S y) = gth (fun x => R (2 * x + fld)) f (((R (2 * x + fld)).take q).foldl (gth (fun x => R (2 * x + fld)) f) (fun y => if y = x then true else S y)) y) := by
            show _ = _
            rw [htk, List.foldl_append]; rfl
          have HC := Lib.hid (HIH.out (by omega) y g2 n1 _ wr (by omega) hg2 (HL.out.grown HGq.out hB (by omega)) (by omega) HMq.out (by omega))
          clear hcp hy hym htk hg2
          generalize hcc : q * CG f = cc at *
          go_wp2_with fail
          refine HC.out.mono ?_
          rintro e w3 ⟨rfl, n2, hn2, hM3, hG3⟩
          have HM3 := Lib.hid hM3
          have HG3 := Lib.hid (HGq.out.trans hG3)
          clear hM3 hG3
          go_wp2
          go_roundw
          case rel => exact ⟨q + 1, n2, by omega, by go_num, by omega, by rw [HST2.out]; exact HM3.out, HG3.out⟩
          case measure => simp [intOf]; omega
        · obtain rfl : q = m := by omega
          have hmul2 : q * CG f ≤ 10 * CG f := Nat.mul_le_mul_right _ (by omega)
          go_wp2
          go_end0
          refine ⟨rfl, n1, by omega, ?_, HGq.out⟩
          have := HMq.out
          rw [List.take_of_length_le (by rw [← HMM.out]; exact Nat.le_refl _)] at this
          exact this
    · have hS1 : inS lb S x = some g := by unfold inS; rw [hS]; exact hgx
      rw [hS1] at hlook
      replace hlook : (Instr.lookup 51 (.map (some mb)) (.int .i64 x) false).run Try.prog w = .ok (.pointer (some ⟨g, 0, none⟩)) w := hlook
      have hgt : gth (fun x => R (2 * x + fld)) (f + 1) S x = S := by rw [gth, if_pos hS]
      rw [hgt]
      clear hS hgt hS1 hA hA' hL hM hK hcf hst hR10 ih
      go_enter Try.func58, Try.ntmps58
      go_wp2
      refine bodyPost_ret (results_none rfl _ _ _) rfl ?_
      exact ⟨rfl, n, by omega, HM.out, ⟨rfl, rfl, rfl, Nat.le_refl _, fun _ _ _ => rfl⟩⟩
end Go.Proofs.Ytcfiondggnbnoaa
