/- Words and contracts for memory that the texts behind use. -/
import Derived.Test.YtdhjflhpenkchaaH0a
import Derived.Test.YtdhjflhpenkchaaH0b
import Derived.Test.YtdhjflhpenkchaaH0
import Derived.Test.YtdhjflhpenkchaaH1
import Derived.Test.YtdhjflhpenkchaaH2
import Derived.Test.YtdhjflhpenkchaaH3
import Derived.Test.YtdhjflhpenkchaaH4
import Derived.Test.YtdhjflhpenkchaaH6
import Derived.Test.YtdhjflhpenkchaaH5
import Derived.WalkKit
import Derived.Laws.OwnMore
import Derived.Deep.Draws
import Derived.Test.YtdhjflhpenkchaaProg
import Derived.WalkSpells
import Derived.WalkLawsBesides
import Derived.Outline
import Derived.Lib.Hide
import Derived.BigQuiet
import Derived.Deep.QuietTactic
import Derived.StillTailTactics
import Derived.Deep.LoopGhost
import Derived.Laws.MakeOwn
import Derived.WalkSmall
import Derived.RegionTactic
import Derived.BigRegion
import Derived.Deep.RegionWith
import Derived.Deep.RegionHeld3
import Derived.Laws.Entries
import Derived.Laws.Bits64
import Derived.IntWalk
import Derived.Maps.AppendAt
import Derived.Deep.RegionLaw
import Derived.Deep.AppendLies
import Derived.Deep.Cut
import Derived.Deep.DeepCutAuto
import Derived.Maps.Own
import Derived.Maps.Views
import Derived.Laws.CopyOwn
import Derived.ChangeAlike

namespace Go.Proofs.Ytdhjflhpenkchaa
set_option linter.unusedSimpArgs false
set_option linter.unusedVariables false
/-- A part with the indices of the first parts below it. -/
def Pt.sub (p : Pt) (at_ : List Int) : Pt := ⟨p.k, at_.getD 0 p.a, at_.getD 1 p.b, at_.getD 2 p.c, p.n⟩
end Go.Proofs.Ytdhjflhpenkchaa

namespace Go.Proofs.Ytdhjflhpenkchaa
set_option linter.unusedSimpArgs false
set_option linter.unusedVariables false
open Go.RowKit
/-- What gather adds to a set. -/
def gth (steps : Nat → List Nat) : Nat → (Nat → Bool) → Nat → (Nat → Bool)
  | 0, S, x => S
  | f + 1, S, x => if S x then S else (steps x).foldl (gth steps f) (fun y => if y = x then true else S y)
/-- What gathering is good for, from a set S and starts l to a set S'. -/
structure GtS (steps : Nat → List Nat) (S S' : Nat → Bool) (l : List Nat) : Prop where
  sub : ∀ y, S y = true → S' y = true
  has : ∀ x ∈ l, S' x = true
  least : ∀ T, ClS steps T → (∀ y, S y = true → T y = true) → (∀ x ∈ l, T x = true) → ∀ y, S' y = true → T y = true
  cl : ∀ y, S' y = true → S y = true ∨ ∀ z ∈ steps y, S' z = true
theorem GtS.nil (steps : Nat → List Nat) (S : Nat → Bool) : GtS steps S S [] := ⟨fun _ h => h, fun x h => by simp at h, fun T _ h _ y hy => h y hy, fun y h => .inl h⟩
theorem GtS.cons {steps : Nat → List Nat} {S S1 S2 : Nat → Bool} {x : Nat} {l : List Nat} (h1 : GtS steps S S1 [x]) (h2 : GtS steps S1 S2 l) : GtS steps S S2 (x :: l) := by
  refine ⟨fun y h => h2.sub y (h1.sub y h), fun y hy => ?_, fun T hT hS hl y hy => ?_, fun y hy => ?_⟩
  · rcases List.mem_cons.1 hy with rfl | hy
    · exact h2.sub _ (h1.has _ (by simp))
    · exact h2.has y hy
  · exact h2.least T hT (fun z hz => h1.least T hT hS (fun w hw => by simp at hw; subst hw; exact hl w (by simp)) z hz) (fun z hz => hl z (by simp [hz])) y hy
  · rcases h2.cl y hy with h | h
    · rcases h1.cl y h with h | h
      · exact .inl h
      · exact .inr fun z hz => h2.sub z (h z hz)
    · exact .inr h
theorem gth_good (steps : Nat → List Nat) (rank : Nat → Nat) : ∀ (f : Nat), (∀ x, rank x < f → ∀ y ∈ steps x, rank y < rank x) → ∀ (S : Nat → Bool) (x : Nat), rank x < f → GtS steps S (gth steps f S x) [x] := by
  intro f
  induction f with
  | zero => intro _ S x h; omega
  | succ f ih =>
    intro hst S x hx
    unfold gth
    by_cases hS : S x = true
    · rw [if_pos hS]
      exact ⟨fun _ h => h, fun y hy => by simp at hy; subst hy; exact hS, fun T _ h _ y hy => h y hy, fun y h => .inl h⟩
    · rw [if_neg hS]
      have hfold : ∀ (l : List Nat) (S : Nat → Bool), (∀ y ∈ l, rank y < f) → GtS steps S (l.foldl (gth steps f) S) l := by
        intro l
        induction l with
        | nil => intro S _; exact GtS.nil _ _
        | cons y l ihl =>
          intro S hl
          rw [List.foldl_cons]
          exact GtS.cons (ih (fun z hz => hst z (by omega)) S y (hl y (by simp))) (ihl _ fun z hz => hl z (by simp [hz]))
      have h := hfold (steps x) (fun y => if y = x then true else S y) (fun y hy => by have := hst x hx y hy; omega)
      refine ⟨fun y hy => h.sub y (by by_cases e : y = x <;> simp [e, hy]), fun y hy => ?_, fun T hT hS2 hl y hy => ?_, fun y hy => ?_⟩
      · simp at hy; subst hy; exact h.sub _ (by simp)
      · have hTx := hl x (by simp)
        refine h.least T hT (fun z hz => ?_) (fun z hz => hT x hTx z hz) y hy
        by_cases e : z = x
        · subst e; exact hTx
        · simp [e] at hz; exact hS2 z hz
      · rcases h.cl y hy with h3 | h3
        · by_cases e : y = x
          · subst e; exact .inr fun z hz => h.has z hz
          · simp [e] at h3; exact .inl h3
        · exact .inr h3
theorem fold_good (steps : Nat → List Nat) (rank : Nat → Nat) (f : Nat) (hst : ∀ x, rank x < f → ∀ y ∈ steps x, rank y < rank x) : ∀ (l : List Nat) (S : Nat → Bool), (∀ y ∈ l, rank y < f) → GtS steps S (l.foldl (gth steps f) S) l := by
  intro l
  induction l with
  | nil => intro S _; exact GtS.nil _ _
  | cons y l ihl =>
    intro S hl
    rw [List.foldl_cons]
    exact GtS.cons (gth_good steps rank f hst S y (hl y (by simp))) (ihl _ fun z hz => hl z (by simp [hz]))
/-- What is gathered from nothing: the least closed set with the starts. -/
theorem fold_is (steps : Nat → List Nat) (rank : Nat → Nat) (f : Nat) (hst : ∀ x, rank x < f → ∀ y ∈ steps x, rank y < rank x) (l : List Nat) (hl : ∀ y ∈ l, rank y < f) (T : Nat → Bool) (hT : ClS steps T) (hlT : ∀ x ∈ l, T x = true)
    (hmin : ∀ S, ClS steps S → (∀ x ∈ l, S x = true) → ∀ y, T y = true → S y = true) : ∀ y, (l.foldl (gth steps f) (fun _ => false)) y = T y := by
  have h := fold_good steps rank f hst l (fun _ => false) hl
  intro y
  have h1 : (l.foldl (gth steps f) (fun _ => false)) y = true → T y = true := h.least T hT (fun y hy => by simp at hy) hlT y
  have h2 : T y = true → (l.foldl (gth steps f) (fun _ => false)) y = true := hmin _ (fun x hx z hz => by
    rcases h.cl x hx with h3 | h3
    · simp at h3
    · exact h3 z hz) h.has y
  cases hA : (l.foldl (gth steps f) (fun _ => false)) y
  · cases hB : T y
    · rfl
    · rw [h2 hB] at hA; cases hA
  · exact (h1 hA).symm
theorem reachTo_len (gs : List Nd) (st : List Int) (k : Nat) : (reachTo gs st k).length ≤ k := by
  induction k with
  | zero => simp [reachTo]
  | succ k ih => simp only [reachTo, List.length_append]; split <;> simp <;> omega
end Go.Proofs.Ytdhjflhpenkchaa

namespace Go.Proofs.Ytdhjflhpenkchaa
set_option linter.unusedSimpArgs false
set_option linter.unusedVariables false
open Go.RowKit
set_option maxRecDepth 100000 in
set_option maxHeartbeats 1600000 in
theorem impl_nodesWhere1 (K : FuncId) (cap : Value) (P : Nat → Bool) (I : World → Prop) (A : Option Addr) (n c : Nat) (hs : n ≤ 2000000)
    (hI : ∀ w w' : World, I w → Below w.heap.size w w' → I w') (hcf : ∀ (q : Nat) (w : World), (callFunc K #[.int .i64 q, cap]).run Try.prog w = .ok (.enter K #[.int .i64 q, cap]) w)
    (hP : ∀ (q : Nat) (w : World), q < n → I w → Calls Try.prog K #[.int .i64 q, cap] w fun e w' => e = .returned (.bool (P q)) ∧ Below w.heap.size w w') (w : World) (h : I w) :
    Calls Try.prog 68 #[.agg #[.slice A n c], .func (.func K) #[] #[cap]] w fun e w' => RetI w (nwTo P n) e w' := by
  obtain ⟨i0, hi, hz0, hz1, hz2⟩ := info_parts info_int
  have HI := Lib.hid hI
  have HP := Lib.hid hP
  have H := Lib.hid h
  have HCF := Lib.hid hcf
  clear hI hP h hcf
  go_enter Try.func68, Try.ntmps68
  go_wp2
  go_loopw [5, 10] (fun v i wr => ∃ k : Nat, k ≤ n ∧ i = .int .i64 k ∧ Hid (OwnI wr (w.heap.size + 1) v (nwTo P k)) ∧ Below (w.heap.size + 1) (w.alloc (.cells #[.slice A n c] 25)) wr) (fun _ i _ => n - (intOf i).toNat)
  case atStart => exact ⟨0, Nat.zero_le _, rfl, World.ownsRow_nil _ _ _ _, Below.refl _ _⟩
  case round =>
    obtain ⟨k, hk, rfl, HO, hbr⟩ := hrel
    have hwr : w.heap.size + 1 ≤ wr.heap.size := by have := hbr.size; simpa using this
    by_cases hlt : k < n
    · have HST := Lib.hid (nwTo_step P k)
      have hdl := nwTo_len P k
      have HIR := Lib.hid (HI.out _ _ H.out (((Below.refl _ _).alloc (Nat.le_refl _) _).trans (hbr.mono (by omega))))
      have HPK := Lib.hid fun (w' : World) (h : I w') => HP.out k w' hlt h
      have hcf := HCF.out k
      generalize nwTo P k = D at *
      generalize P k = p at *
      cases p
      · go_wp2_with fail
        refine (HPK.out _ HIR.out).mono ?_
        rintro e w2 ⟨rfl, hb2⟩
        go_wp2
        go_roundw
        case rel => exact ⟨k + 1, by omega, by go_num, by rw [HST.out]; simpa [OwnI, Hid] using own_below HO.out hb2, hbr.trans (hb2.mono hwr)⟩
        case measure => simp [intOf]; omega
      · go_wp2_with fail
        refine (HPK.out _ HIR.out).mono ?_
        rintro e w2 ⟨rfl, hb2⟩
        have HO2 := Lib.hid (own_below HO.out hb2)
        have hbr2 := hbr.trans (hb2.mono hwr)
        have hw2 : w.heap.size + 1 ≤ w2.heap.size := by have := hb2.size; omega
        clear hcf
        go_wp2_with (at_builtin; refine wpList_append_own _ rfl _ _ 28 rfl (w.heap.size + 1) 3 i0 (.int .i64 0) 1 8 Try.underlying28 hi hz0 hz1 hz2 rfl (by decide) _ _ _ rfl (HO2.out.alloc _) ⟨_, 0, none⟩ 1 1 [.int .i64 k] rfl rfl (cell_one_new _ _ _) ?c2 ?c3 ?c4 ?c5 ?_)
        case c2 => first | rfl | (intro u hu; simp at hu; subst hu; rfl)
        case c3 => unfold maxLen; omega
        case c4 => omega
        case c5 => first | omega | (simp; omega)
        intro v' w3 hown' hgrow _
        have hpos := (HO2.out.alloc (.cells #[.int .i64 k] 3)).lt
        have HO' : Hid (OwnI w3 (w.heap.size + 1) v' (nwTo P (k + 1))) := by
          rw [HST.out]
          simpa [OwnI, Hid] using hown'
        have HB' := Lib.hid ((hbr2.alloc hw2 (.cells #[.int .i64 k] 3)).grown hgrow (by first | (simp; omega) | omega) (fun q hq => (hpos q hq).1))
        clear hown' hgrow hpos
        go_wp2
        go_roundw
        case rel => exact ⟨k + 1, by omega, by go_num, HO'.out, HB'.out⟩
        case measure => simp [intOf]; omega
    · obtain rfl : k = n := by omega
      go_wp2
      go_ret
      exact ⟨_, rfl, own_mono HO.out (by omega), ((Below.refl _ _).alloc (Nat.le_refl _) _).trans (hbr.mono (by omega))⟩
end Go.Proofs.Ytdhjflhpenkchaa

namespace Go.Proofs.Ytdhjflhpenkchaa
set_option linter.unusedSimpArgs false
set_option linter.unusedVariables false
open Go.RowKit Go.Maps
set_option maxHeartbeats 800000 in
theorem impl_needsOf (g : Nat) (v : Value) (w : World) (hg : g < w.heap.size) (h : w.cell? ⟨g, 1, none⟩ = some v) :
    Calls Try.prog 65 #[.pointer (some ⟨g, 0, none⟩)] w fun e w' => e = .returned v ∧ w' = w := by
  go_enter Try.func65, Try.ntmps65
  go_wp2
  go_ret
  exact ⟨rfl, rfl⟩
set_option maxHeartbeats 800000 in
theorem impl_usersOf (g : Nat) (v : Value) (w : World) (hg : g < w.heap.size) (h : w.cell? ⟨g, 2, none⟩ = some v) :
    Calls Try.prog 63 #[.pointer (some ⟨g, 0, none⟩)] w fun e w' => e = .returned v ∧ w' = w := by
  go_enter Try.func63, Try.ntmps63
  go_wp2
  go_ret
  exact ⟨rfl, rfl⟩
/-- How many stores gather makes at most. -/
def CG : Nat → Nat
  | 0 => 0
  | f + 1 => 1 + 10 * CG f
theorem CG_le (f : Nat) (h : f ≤ 11) : CG f ≤ 11111111111 := by
  have : ∀ f, f < 12 → CG f ≤ 11111111111 := by decide
  exact this f (by omega)
/-- A set of links, as a map holds it. -/
def inS (lb : List Nat) (S : Nat → Bool) (j : Nat) : Option Nat := if S j then lb[j]? else none
theorem inS_put (lb : List Nat) (S : Nat → Bool) (x g : Nat) (h : lb[x]? = some g) : (fun j => if j = x then some g else inS lb S j) = inS lb (fun y => if y = x then true else S y) := by
  funext j
  unfold inS
  by_cases e : j = x
  · subst e; simp [h]
  · simp [e]
set_option maxRecDepth 100000 in
set_option maxHeartbeats 3200000 in
theorem gather_any (K : FuncId) (fld : Nat) (B mb : Nat) (lb : List Nat) (R : Nat → List Nat) (rank : Nat → Nat) (hfl : fld < 2) (hlb : lb.length ≤ 10) (hB : B ≤ mb)
    (hcf : ∀ (g : Nat) (w : World), (callFunc K #[.pointer (some ⟨g, 0, none⟩)]).run Try.prog w = .ok (.enter K #[.pointer (some ⟨g, 0, none⟩)]) w)
    (hK : ∀ (g : Nat) (v : Value) (w : World), g < w.heap.size → w.cell? ⟨g, 1 + fld, none⟩ = some v → Calls Try.prog K #[.pointer (some ⟨g, 0, none⟩)] w fun e w' => e = .returned v ∧ w' = w)
    (hR10 : ∀ k, (R k).length ≤ 10) (hst : ∀ x, x < lb.length → ∀ y ∈ R (2 * x + fld), rank y < rank x) :
    ∀ (f : Nat), f ≤ 11 → ∀ (x g n : Nat) (S : Nat → Bool) (w : World), rank x < f → lb[x]? = some g → LkS B lb R w → mb < w.heap.size → MpI w mb n (inS lb S) → n + CG f ≤ 1000000000000 →
    Calls Try.prog 105 #[.map (some mb), .pointer (some ⟨g, 0, none⟩), .func (.func K) #[] #[]] w fun e w' => e = .returned (.tuple #[]) ∧ ∃ n', n' ≤ n + CG f ∧ MpI w' mb n' (inS lb (gth (fun x => R (2 * x + fld)) f S x)) ∧ w.grownBy w' (some mb) := by
  intro f
  induction f with
  | zero => intro _ x g n S w h; omega
  | succ f ih =>
    intro hf11 x g n S w hx hgx hL hmb hM hn
    have hxl : x < lb.length := (List.getElem?_eq_some_iff.1 hgx).1
    have hcg := CG_le f (by omega)
    have hcs : CG (f + 1) = 1 + 10 * CG f := rfl
    obtain ⟨hgB, c0, hA, hA'⟩ := hL.it x g hgx
    have hlook := hM.look x (by omega)
    have HIH := Lib.hid ih
    have HK := Lib.hid hK
    have HCF := Lib.hid hcf
    have HST := Lib.hid hst
    have HL := Lib.hid hL
    have HM := Lib.hid hM
    have hgw : g < w.heap.size := by omega
    cases hS : S x
    · have hS1 : inS lb S x = none := by unfold inS; rw [hS]; rfl
      rw [hS1] at hlook
      replace hlook : (Instr.lookup 66 (.map (some mb)) (.int .i64 x) false).run Try.prog w = .ok (.pointer none) w := hlook
      obtain ⟨A, m, c, cR, hm, hps⟩ : ∃ A m c, w.cell? ⟨g, 1 + fld, none⟩ = some (.slice A m c) ∧ m = (R (2 * x + fld)).length ∧ PtS w B A lb (R (2 * x + fld)) := by
        rcases (show fld = 0 ∨ fld = 1 by omega) with e | e
        · rw [e]; exact hA
        · rw [e]; exact hA'
      have hm10 : m ≤ 10 := by rw [hm]; exact hR10 _
      have hgt : gth (fun x => R (2 * x + fld)) (f + 1) S x = (R (2 * x + fld)).foldl (gth (fun x => R (2 * x + fld)) f) (fun y => if y = x then true else S y) := by
        rw [gth, if_neg (by rw [hS]; simp)]
      rw [hgt]
      have HSM := Lib.hid fun (k q : Nat) => hL.small k q
      have HSX := Lib.hid (hst x hxl)
      have HPS := Lib.hid hps
      have HMM := Lib.hid hm
      have HGX := Lib.hid hgx
      have HCR := Lib.hid cR
      clear hS hgt hS1 hA hA' hL hM hK hcf hst hps hm hR10 ih hgx cR
      go_enter Try.func105, Try.ntmps105
      go_wp2_with (at_mapUpdate; refine wpList_store_ptr _ rfl _ _ _ rfl mb n _ rfl HM.out (by unfold maxLen; omega) x g (by omega) rfl rfl ?_)
      intro w1 hm1 hg1
      rw [inS_put lb S x g HGX.out] at hm1
      have HM1 := Lib.hid hm1
      have HL1 := Lib.hid (HL.out.grown hg1 hB (by omega))
      have HG1 := Lib.hid hg1
      have cR1 : w1.cell? ⟨g, 1 + fld, none⟩ = some (.slice A m c) := (World.cell?_of_block (w := w) (a := ⟨g, 1 + fld, none⟩) (hg1.block g hgw (by simp; omega))).trans HCR.out
      have hz1 := hg1.size
      have hcf1 := HCF.out g w1
      have HK1 := Lib.hid (HK.out g _ w1 (by omega) cR1)
      have HPS1 : Hid (PtS w1 B A lb (R (2 * x + fld))) := HPS.out.keep fun p hp => World.cell?_of_block (w := w) (hg1.block p.block (by omega) (by simp; omega))
      clear hm1 hg1 cR1 hlook c0
      go_wp2_with fail
      refine HK1.out.mono ?_
      rintro e w2 ⟨rfl, rfl⟩
      clear hcf1
      go_wp2
      go_loopw [25] (fun u wr => ∃ (q n1 : Nat), q ≤ m ∧ u = .int .i64 q ∧ n1 ≤ n + 1 + q * CG f ∧ Hid (MpI wr mb n1 (inS lb (((R (2 * x + fld)).take q).foldl (gth (fun x => R (2 * x + fld)) f) (fun y => if y = x then true else S y)))) ∧ Hid (w.grownBy wr (some mb))) (fun u _ => m - (intOf u).toNat)
      case atStart => exact ⟨0, n + 1, Nat.zero_le _, rfl, by omega, HM1.out, HG1.out⟩
      case round =>
        obtain ⟨q, n1, hq, rfl, hn1, HMq, HGq⟩ := hrel
        have hzr := HGq.out.size
        by_cases hlt : q < m
        · have hql : q < (R (2 * x + fld)).length := by rw [← HMM.out]; exact hlt
          have HPSq : Hid (PtS wr B A lb (R (2 * x + fld))) := HPS.out.keep fun p hp => World.cell?_of_block (w := w) (HGq.out.block p.block (by omega) (by simp; omega))
          obtain ⟨y, hy⟩ : ∃ y, (R (2 * x + fld))[q]? = some y := ⟨_, List.getElem?_eq_getElem hql⟩
          have hym : y ∈ R (2 * x + fld) := List.mem_of_getElem? hy
          have hyl := HSM.out _ _ hym
          obtain ⟨g2, hg2⟩ : ∃ g2, lb[y]? = some g2 := ⟨_, List.getElem?_eq_getElem hyl⟩
          obtain ⟨bp, op, rfl, hbp, hcp⟩ := HPSq.out (by omega)
          have d0 := hcp q y hy
          rw [hg2] at d0
          have d0 : wr.cell? ⟨bp, op + q, none⟩ = some (.pointer (some ⟨g2, 0, none⟩)) := d0
          have hry := HSX.out y hym
          have hmul : (q + 1) * CG f = q * CG f + CG f := Nat.succ_mul _ _
          have hmul2 : q * CG f ≤ 10 * CG f := Nat.mul_le_mul_right _ (by omega)
          have hmul3 : (q + 1) * CG f ≤ 10 * CG f := Nat.mul_le_mul_right _ (by omega)
          have htk : (R (2 * x + fld)).take (q + 1) = (R (2 * x + fld)).take q ++ [y] := by rw [List.take_add_one, hy]; rfl
          have HST2 : Hid (((R (2 * x + fld)).take (q + 1)).foldl (gth (fun x => R (2 * x + fld)) f) (fun y => if y = x then true else S y) = gth (fun x => R (2 * x + fld)) f (((R (2 * x + fld)).take q).foldl (gth (fun x => R (2 * x + fld)) f) (fun y => if y = x then true else S y)) y) := by
            show _ = _
            rw [htk, List.foldl_append]; rfl
          have HC := Lib.hid (HIH.out (by omega) y g2 n1 _ wr (by omega) hg2 (HL.out.grown HGq.out hB (by omega)) (by omega) HMq.out (by omega))
          clear hcp hy hym htk hg2
          generalize hcc : q * CG f = cc at *
          go_wp2_with fail
          refine HC.out.mono ?_
          rintro e w3 ⟨rfl, n2, hn2, hM3, hG3⟩
          have HM3 := Lib.hid hM3
          have HG3 := Lib.hid (HGq.out.trans hG3)
          clear hM3 hG3
          go_wp2
          go_roundw
          case rel => exact ⟨q + 1, n2, by omega, by go_num, by omega, by rw [HST2.out]; exact HM3.out, HG3.out⟩
          case measure => simp [intOf]; omega
        · obtain rfl : q = m := by omega
          have hmul2 : q * CG f ≤ 10 * CG f := Nat.mul_le_mul_right _ (by omega)
          go_wp2
          go_end0
          refine ⟨rfl, n1, by omega, ?_, HGq.out⟩
          have := HMq.out
          rw [List.take_of_length_le (by rw [← HMM.out]; exact Nat.le_refl _)] at this
          exact this
    · have hS1 : inS lb S x = some g := by unfold inS; rw [hS]; exact hgx
      rw [hS1] at hlook
      replace hlook : (Instr.lookup 66 (.map (some mb)) (.int .i64 x) false).run Try.prog w = .ok (.pointer (some ⟨g, 0, none⟩)) w := hlook
      have hgt : gth (fun x => R (2 * x + fld)) (f + 1) S x = S := by rw [gth, if_pos hS]
      rw [hgt]
      clear hS hgt hS1 hA hA' hL hM hK hcf hst hR10 ih
      go_enter Try.func105, Try.ntmps105
      go_wp2
      refine bodyPost_ret (results_none rfl _ _ _) rfl ?_
      exact ⟨rfl, n, by omega, HM.out, ⟨rfl, rfl, rfl, Nat.le_refl _, fun _ _ _ => rfl⟩⟩
end Go.Proofs.Ytdhjflhpenkchaa

namespace Go.Proofs.Ytdhjflhpenkchaa
set_option linter.unusedSimpArgs false
set_option linter.unusedVariables false
open Go.RowKit Go.Maps
theorem linkR_len (gs : List Nd) (n k : Nat) (hn : n ≤ 10) : (linkR gs n k).length ≤ 10 := by
  unfold linkR
  split
  · split
    · unfold rdsN
      rw [List.length_map]
      have hlm := mayR_len (gs.getD (k / 2) default).ps 10
      rw [mayR_below] at hlm
      exact hlm
    · simp
  · unfold usN
    have := List.length_filter_le (fun u => decide (((k / 2 : Nat) : Int) ∈ mayR (gs.getD u default).ps)) (List.range n)
    rw [List.length_range] at this
    omega
set_option maxHeartbeats 800000 in
theorem from1_at (g mb n1 : Nat) (lb : List Nat) (S : Nat → Bool) (q : Nat) (w : World) (hq : q < lb.length) (hq2 : q ≤ 1000) (h1 : w.cell? ⟨g, 0, none⟩ = some (.map (some mb))) (hg : g < w.heap.size) (h : MpI w mb n1 (inS lb S)) :
    Calls Try.prog 106 #[.int .i64 q, .pointer (some ⟨g, 0, none⟩)] w fun e w' => e = .returned (.bool (S q)) ∧ Below w.heap.size w w' := by
  have hlook := h.look q hq2
  cases hS : S q
  · have e : inS lb S q = none := by unfold inS; rw [hS]; rfl
    rw [e] at hlook
    replace hlook : (Instr.lookup 66 (.map (some mb)) (.int .i64 q) false).run Try.prog w = .ok (.pointer none) w := hlook
    clear e h hS
    go_enter Try.func106, Try.ntmps106
    go_wp2
    go_ret
    exact ⟨ret_b (by simp), Below.refl _ _⟩
  · have e : inS lb S q = some lb[q] := by unfold inS; rw [hS, if_pos rfl]; exact List.getElem?_eq_getElem hq
    rw [e] at hlook
    generalize lb[q] = g9 at hlook
    replace hlook : (Instr.lookup 66 (.map (some mb)) (.int .i64 q) false).run Try.prog w = .ok (.pointer (some ⟨g9, 0, none⟩)) w := hlook
    clear e h hS
    go_enter Try.func106, Try.ntmps106
    go_wp2
    go_ret
    exact ⟨ret_b (by simp), Below.refl _ _⟩
set_option maxRecDepth 100000 in
set_option maxHeartbeats 3200000 in
theorem impl_nodesFrom (K : FuncId) (fld : Nat) (rank : Nat → Nat) (T : Nat → Bool) (A A1 : Option Addr) (n c m c1 : Nat) (gs : List Nd) (xs : List Int) (w : World) (B : Nat) (hB : B ≤ w.heap.size) (hn : n = gs.length) (hm : m = xs.length) (h : GS w B A gs) (hx : IS w B A1 xs) (hv : validG gs = true) (hG : GB gs) (hm10 : m ≤ 10) (hxs : ∀ x ∈ xs, 0 ≤ x ∧ x < (n : Int)) (hfl : fld < 2)
    (hcf : ∀ (g : Nat) (w : World), (callFunc K #[.pointer (some ⟨g, 0, none⟩)]).run Try.prog w = .ok (.enter K #[.pointer (some ⟨g, 0, none⟩)]) w)
    (hK : ∀ (g : Nat) (v : Value) (w : World), g < w.heap.size → w.cell? ⟨g, 1 + fld, none⟩ = some v → Calls Try.prog K #[.pointer (some ⟨g, 0, none⟩)] w fun e w' => e = .returned v ∧ w' = w)
    (hrk : ∀ x, x < n → rank x < 11) (hst : ∀ x, x < n → ∀ y ∈ linkR gs n (2 * x + fld), rank y < rank x)
    (hT : ∀ i, i < n → ((xs.map Int.toNat).foldl (gth (fun x => linkR gs n (2 * x + fld)) 11) (fun _ => false)) i = T i) :
    Calls Try.prog 62 #[.agg #[.slice A n c], .slice A1 m c1, .func (.func K) #[] #[]] w fun e w' => RetI w (nwTo T n) e w' := by
  have hmm := @run_makeMap Try.prog
  have hn10 : n ≤ 10 := by have := (validG_parts gs hv).1; omega
  have HLK := Lib.hid fun (w' : World) (hB : B ≤ w'.heap.size) (h : GS w' B A gs) => impl_linksOf A n c gs w' B hB hn h hv hG
  have HGA := Lib.hid fun (B mb : Nat) (lb : List Nat) (hlb : lb.length = n) (hB : B ≤ mb) => gather_any K fld B mb lb (linkR gs n) rank hfl (by omega) hB hcf hK (fun k => linkR_len gs n k hn10) (fun x hx => hst x (by omega)) 11 (by omega)
  have H := Lib.hid h
  have HX := Lib.hid hx
  have HM := Lib.hid hm
  have HXS := Lib.hid hxs
  have HT := Lib.hid hT
  have HRK := Lib.hid hrk
  have HNT := Lib.hid (fun (P Q : Nat → Bool) (h : ∀ i, i < n → P i = Q i) => (show nwTo P n = nwTo Q n by
    unfold nwTo
    congr 1
    exact List.filter_congr fun i hi => h i (List.mem_range.1 hi)))
  generalize hsx : (fun x => linkR gs n (2 * x + fld)) = stp at *
  have hcg : CG 11 ≤ 11111111111 := CG_le 11 (by omega)
  clear h hx hn hm hv hG hxs hT hcf hK hst hsx hrk
  go_enter Try.func62, Try.ntmps62
  go_wp2_with fail
  refine (HLK.out _ (by simp; omega) (H.out.alloc hB _)).mono ?_
  rintro e w2 ⟨lb, rfl, hlb, hL2, hM2, hb2⟩
  have hz2 : w.heap.size + 1 ≤ w2.heap.size := by have := hb2.size; simpa using this
  have q2 : w2.cell? ⟨w.heap.size, 0, none⟩ = some (.slice A n c) := (hb2.cell (p := ⟨w.heap.size, 0, none⟩) (by simp)).trans (by go_simp)
  have hB2 : Below w.heap.size w w2 := ((Below.refl _ _).alloc (Nat.le_refl _) _).trans (hb2.mono (by simp))
  have hsz1 : (w.alloc (.cells #[.slice A n c] 25)).heap.size + 1 = w.heap.size + 2 := by simp
  rw [hsz1] at hM2
  have hmlt := hM2.lt
  have HL2 := Lib.hid hL2
  have HM2 := Lib.hid hM2
  have HLB := Lib.hid hlb
  clear hb2 hL2 hM2 hlb hsz1
  go_upto_region 3 with fail
  obtain ⟨w4, hw4⟩ : ∃ w4, w4 = (w2.alloc (.map #[] 0)).alloc (.cells #[.map (some w2.heap.size)] 66) := ⟨_, rfl⟩
  have hb4 : Below w2.heap.size w2 w4 := by rw [hw4]; exact ((Below.refl _ _).alloc (Nat.le_refl _) _).alloc (by simp) _
  have hz4 : w4.heap.size = w2.heap.size + 2 := by rw [hw4]; simp
  have hM4 : MpI w4 w2.heap.size 0 (inS lb fun _ => false) := by
    have h1 := (MpI.made w2).alloc (.cells #[.map (some w2.heap.size)] 66)
    have e : inS lb (fun _ => false) = fun _ => none := by funext j; rfl
    rw [hw4, e]; exact h1
  have c8 : w4.cell? ⟨w2.heap.size + 1, 0, none⟩ = some (.map (some w2.heap.size)) := by rw [hw4]; go_simp
  rw [← hw4]
  have q4 := (hb4.cell (p := ⟨w.heap.size, 0, none⟩) (by show w.heap.size < w2.heap.size; omega)).trans q2
  have HM4 := Lib.hid hM4
  have HML4 := Lib.hid (HM2.out.step hb4)
  have HL4 := Lib.hid (HL2.out.keep fun p hp => hb4.cell hp)
  have HB4 := Lib.hid (hB2.trans (hb4.mono (by omega)))
  have HX4 := Lib.hid (HX.out.below HB4.out hB)
  have HZ4 := Lib.hid hz4
  have hz4a : w2.heap.size + 2 ≤ w4.heap.size := by omega
  clear hw4 hb4 hM4 hB2 q2 HM2 HL2 hz4
  go_wp2
  go_loopw [16] (fun u wr => ∃ (k n1 : Nat), k ≤ m ∧ u = .int .i64 k ∧ n1 ≤ k * CG 11 ∧ Hid (MpI wr w2.heap.size n1 (inS lb (((xs.take k).map Int.toNat).foldl (gth stp 11) (fun _ => false)))) ∧ Hid (w4.grownBy wr (some w2.heap.size))) (fun u _ => m - (intOf u).toNat)
  case atStart => exact ⟨0, 0, Nat.zero_le _, rfl, by omega, HM4.out, ⟨rfl, rfl, rfl, Nat.le_refl _, fun _ _ _ => rfl⟩⟩
  case round =>
    obtain ⟨k, n1, hk, rfl, hn1, HMk, HGk⟩ := hrel
    have hzr := HGk.out.size
    have hkeep : ∀ p : Addr, p.block < w2.heap.size → wr.cell? p = w4.cell? p := fun p hp => World.cell?_of_block (w := w4) (HGk.out.block p.block (by omega) (by simp; omega))
    have c8r : wr.cell? ⟨w2.heap.size + 1, 0, none⟩ = some (.map (some w2.heap.size)) := (World.cell?_of_block (w := w4) (a := ⟨w2.heap.size + 1, 0, none⟩) (HGk.out.block (w2.heap.size + 1) (by omega) (by simp))).trans c8
    by_cases hlt : k < m
    · have hkx : k < xs.length := by have := HM.out; omega
      obtain ⟨b, off, rfl, hbB, hc⟩ := HX4.out (by omega)
      have d0 := (hkeep ⟨b, off + k, none⟩ (by show b < w2.heap.size; omega)).trans (hc k hkx)
      have hxk : xs.getD k 0 = xs[k] := by simp [List.getD, hkx]
      obtain ⟨hx0, hx1⟩ := HXS.out xs[k] (List.getElem_mem hkx)
      obtain ⟨y, hy⟩ : ∃ y : Nat, xs[k] = (y : Int) := ⟨xs[k].toNat, by omega⟩
      rw [hxk, hy] at d0
      have hyn : y < n := by omega
      have hyl : y < lb.length := by have := HLB.out; omega
      obtain ⟨g2, hg2⟩ : ∃ g2, lb[y]? = some g2 := ⟨_, List.getElem?_eq_getElem hyl⟩
      have hlook := (HML4.out.grown HGk.out (by simp; omega)).look y (by omega)
      rw [hg2] at hlook
      replace hlook : (Instr.lookup 66 (.map (some (w.heap.size + 2))) (.int .i64 y) false).run Try.prog wr = .ok (.pointer (some ⟨g2, 0, none⟩)) wr := hlook
      have htk : (xs.take (k + 1)).map Int.toNat = (xs.take k).map Int.toNat ++ [y] := by
        rw [List.take_succ_eq_append_getElem hkx, List.map_append, hy]; rfl
      have HST : Hid (((xs.take (k + 1)).map Int.toNat).foldl (gth stp 11) (fun _ => false) = gth stp 11 (((xs.take k).map Int.toNat).foldl (gth stp 11) (fun _ => false)) y) := by
        show _ = _
        rw [htk, List.foldl_append]; rfl
      have hmul : (k + 1) * CG 11 = k * CG 11 + CG 11 := Nat.succ_mul _ _
      have hmul2 : k * CG 11 ≤ 10 * CG 11 := Nat.mul_le_mul_right _ (by omega)
      have HC := Lib.hid (HGA.out w2.heap.size w2.heap.size lb HLB.out (Nat.le_refl _) y g2 n1 _ wr (HRK.out y hyn) hg2 (HL4.out.keep hkeep) (by omega) HMk.out (by omega))
      clear hc hxk hx0 hx1 hy htk hg2 hkeep
      generalize hcc : k * CG 11 = cc at *
      go_wp2_with fail
      refine HC.out.mono ?_
      rintro e w5 ⟨rfl, n2, hn2, hM5, hG5⟩
      have HM5 := Lib.hid hM5
      have HG5 := Lib.hid (HGk.out.trans hG5)
      clear hM5 hG5
      go_wp2
      go_roundw
      case rel => exact ⟨k + 1, n2, by omega, by go_num, by omega, by rw [HST.out]; exact HM5.out, HG5.out⟩
      case measure => simp [intOf]; omega
    · obtain rfl : k = m := by omega
      have q5 := (hkeep ⟨w.heap.size, 0, none⟩ (by show w.heap.size < w2.heap.size; omega)).trans q4
      have htk : xs.take k = xs := List.take_of_length_le (by have := HM.out; omega)
      have hMk := HMk.out
      rw [htk] at hMk
      have HNW := Lib.hid (impl_nodesWhere1 106 (.pointer (some ⟨w2.heap.size + 1, 0, none⟩)) ((xs.map Int.toNat).foldl (gth stp 11) (fun _ => false))
        (fun w' => w2.heap.size + 1 < w'.heap.size ∧ w'.cell? ⟨w2.heap.size + 1, 0, none⟩ = some (.map (some w2.heap.size)) ∧ MpI w' w2.heap.size n1 (inS lb ((xs.map Int.toNat).foldl (gth stp 11) (fun _ => false)))) A n c (by omega)
        (fun wa wb h hb => ⟨Nat.lt_of_lt_of_le h.1 hb.size, (hb.cell (p := ⟨w2.heap.size + 1, 0, none⟩) h.1).trans h.2.1, h.2.2.step hb⟩)
        (fun q w => by kernel_rfl)
        (fun q wa hq h => from1_at (w2.heap.size + 1) w2.heap.size n1 lb _ q wa (by have := HLB.out; omega) (by omega) h.2.1 h.1 h.2.2)
        wr ⟨by omega, c8r, hMk⟩)
      rw [HNT.out _ T HT.out] at HNW
      have HB5 : Hid (Below w.heap.size w wr) := HB4.out.grown HGk.out HB4.out.size (fun q hq => by simp at hq; omega)
      clear hMk htk hkeep c8r
      go_wp2_with fail
      refine HNW.out.mono ?_
      rintro e w6 ⟨v, rfl, ho, hb⟩
      go_wp2
      go_ret
      exact ⟨v, by simp, own_mono ho HB5.out.size, HB5.out.trans (hb.mono HB5.out.size)⟩
end Go.Proofs.Ytdhjflhpenkchaa

namespace Go.Proofs.Ytdhjflhpenkchaa
set_option linter.unusedSimpArgs false
set_option linter.unusedVariables false
open Go.RowKit Go.Maps
theorem reachF_len (gs : List Nd) (x : Int) : (reachF gs x).length ≤ 10 := by
  unfold reachF
  split
  · rename_i h
    have := (hasB_parts gs x h).2.1
    have := reachTo_len gs [x] gs.length
    omega
  · simp
theorem linkR_needs (gs : List Nd) : (fun x => linkR gs gs.length (2 * x + 0)) = rdsN gs := by
  funext x
  unfold linkR
  rw [if_pos (by omega), show (2 * x + 0) / 2 = x by omega]
  by_cases h : x < gs.length
  · rw [if_pos h]
  · rw [if_neg h, rdsN_out gs x (by omega)]
theorem st_mem {gs : List Nd} {xs : List Int} (h : stOK gs xs) (y : Nat) : y ∈ xs.map Int.toNat ↔ (y : Int) ∈ xs := by
  rw [List.mem_map]
  constructor
  · rintro ⟨x, hx, rfl⟩
    rw [Int.toNat_of_nonneg (h x hx).1]; exact hx
  · intro hy; exact ⟨_, hy, by simp⟩
theorem from_users (A A1 : Option Addr) (n c m c1 : Nat) (gs : List Nd) (xs : List Int) (w : World) (B : Nat) (hB : B ≤ w.heap.size) (hn : n = gs.length) (hm : m = xs.length) (h : GS w B A gs) (hx : IS w B A1 xs) (hv : validG gs = true) (hG : GB gs) (hm10 : m ≤ 10) (hxs : stOK gs xs) :
    Calls Try.prog 62 #[.agg #[.slice A n c], .slice A1 m c1, .func (.func 63) #[] #[]] w fun e w' => RetI w (reachTo gs xs gs.length) e w' := by
  subst hn
  have h10 := (validG_parts gs hv).1
  rw [reachTo_nwTo gs xs gs.length gs.length (Nat.le_refl _)]
  have hst : ∀ x, x < gs.length → ∀ y ∈ linkR gs gs.length (2 * x + 1), gs.length - y < gs.length - x := fun x hxl y hy => by
    have e := congrFun (linkR_users gs) x
    rw [e] at hy
    have h1 := usN_gt gs hv _ _ _ (Nat.le_refl _) hy
    omega
  refine impl_nodesFrom 63 1 (fun x => gs.length - x) _ A A1 gs.length c m c1 gs xs w B hB rfl hm h hx hv hG hm10 hxs (by omega) (fun g w => by kernel_rfl) (fun g v w hg hc => impl_usersOf g v w hg hc) (fun x _ => by show gs.length - x < 11; omega) hst ?_
  intro i hi
  rw [linkR_users]
  exact fold_is (usN gs gs.length) (fun x => gs.length - x) 11 (fun x _ y hy => by have h1 := usN_gt gs hv _ _ _ (Nat.le_refl _) hy; have := ((mem_usN _ _ _ _).1 hy).1; show gs.length - y < gs.length - x; omega) _ (fun y _ => by show gs.length - y < 11; omega) _ (reach_cl gs hv xs)
    (fun y hy => by
      have h1 := (st_mem hxs y).1 hy
      have h2 := hxs _ h1
      exact decide_eq_true ((reachTo_iff gs xs _ y (by omega)).2 (.inl h1)))
    (fun S hS hl y hy => reach_min gs hv xs S hS (fun x h1 _ => hl x ((st_mem hxs x).2 h1)) y (of_decide_eq_true hy)) i
theorem from_needs (A A1 : Option Addr) (n c m c1 : Nat) (gs : List Nd) (xs : List Int) (w : World) (B : Nat) (hB : B ≤ w.heap.size) (hn : n = gs.length) (hm : m = xs.length) (h : GS w B A gs) (hx : IS w B A1 xs) (hv : validG gs = true) (hG : GB gs) (hm10 : m ≤ 10) (hxs : stOK gs xs) :
    Calls Try.prog 62 #[.agg #[.slice A n c], .slice A1 m c1, .func (.func 65) #[] #[]] w fun e w' => RetI w (needTo gs xs) e w' := by
  subst hn
  have h10 := (validG_parts gs hv).1
  have hst : ∀ x, x < gs.length → ∀ y ∈ linkR gs gs.length (2 * x + 0), y < x := fun x hxl y hy => by
    have e := congrFun (linkR_needs gs) x
    rw [e] at hy
    exact rdsN_lt gs hv x y hxl hy
  have hrk : ∀ x, x < 11 → ∀ y ∈ rdsN gs x, y < x := fun x _ y hy => by
    rcases Nat.lt_or_ge x gs.length with h1 | h1
    · exact rdsN_lt gs hv x y h1 hy
    · rw [rdsN_out gs x h1] at hy; cases hy
  refine impl_nodesFrom 65 0 (fun x => x) _ A A1 gs.length c m c1 gs xs w B hB rfl hm h hx hv hG hm10 hxs (by omega) (fun g w => by kernel_rfl) (fun g v w hg hc => impl_needsOf g v w hg hc) (fun x hx => by show x < 11; omega) hst ?_
  intro i hi
  rw [linkR_needs]
  exact fold_is (rdsN gs) (fun x => x) 11 hrk _ (fun y hy => by
      have h2 := hxs _ ((st_mem hxs y).1 hy)
      show y < 11; omega) (fun i => (metF gs xs).getD i false) (need_cl gs hv xs)
    (fun y hy => by
      have h1 := (st_mem hxs y).1 hy
      have h2 := hxs _ h1
      exact need_has gs hv xs y (by omega) h1)
    (fun S hS hl y hy => need_min gs hv xs S hS (fun x h1 _ => hl x ((st_mem hxs x).2 h1)) y hy) i
set_option maxRecDepth 100000 in
set_option maxHeartbeats 1600000 in
theorem top_impl_ReachOf (gs : List Nd) (x : Int) (hG : GB gs) : ∀ (A : Option Addr) (n c : Nat) (w : World), n = gs.length → n ≤ c → GS w w.heap.size A gs →
    Calls Try.prog 22 #[.agg #[.slice A n c], .int .i64 x] w fun e w' => RetI w (reachF gs x) e w' := by
  intro A n c w hn hnc h
  have HH := Lib.hid (impl_hasNode A n c gs x (w.alloc (.cells #[.slice A n c] 25)) w.heap.size (by simp) hn hnc (h.alloc (Nat.le_refl _) _) hG)
  have hhb : (validG gs && hasN gs x) = hasB gs x := rfl
  rw [hhb] at HH
  have H := Lib.hid h
  cases hb : hasB gs x
  · have hr : reachF gs x = [] := by unfold reachF; rw [hb]; rfl
    rw [hr]
    rw [hb] at HH
    clear hb hr hhb h hn hG
    go_enter Try.func22, Try.ntmps22
    go_wp2_with fail
    refine HH.out.mono ?_
    rintro e w1 ⟨rfl, hb⟩
    go_wp2
    go_ret
    exact RetI.nil (((Below.refl _ _).alloc (Nat.le_refl _) _).trans (hb.mono (by simp)))
  · obtain ⟨hv, h10, t, rfl, ht⟩ := hasB_parts gs x hb
    have hr : reachF gs t = reachTo gs [(t : Int)] gs.length := by unfold reachF; rw [hb]; rfl
    rw [hr]
    rw [hb] at HH
    have HFU := Lib.hid fun (A1 : Option Addr) (c1 : Nat) (w' : World) (hB : w.heap.size ≤ w'.heap.size) (h : GS w' w.heap.size A gs) (hx : IS w' w'.heap.size A1 [(t : Int)]) => from_users A A1 n c 1 c1 gs [(t : Int)] w' w'.heap.size (Nat.le_refl _) hn rfl (h.more hB) hx hv hG (by omega) (fun x hx => by simp at hx; subst hx; omega)
    generalize reachTo gs [(t : Int)] gs.length = R at *
    clear hb hr hhb h hn hG
    go_enter Try.func22, Try.ntmps22
    go_wp2_with fail
    refine HH.out.mono ?_
    rintro e w1 ⟨rfl, hb⟩
    have q1 : w1.cell? ⟨w.heap.size, 0, none⟩ = some (.slice A n c) := (hb.cell (p := ⟨w.heap.size, 0, none⟩) (by simp)).trans (by go_simp)
    have HG1 := Lib.hid ((H.out.alloc (Nat.le_refl _) (.cells #[.slice A n c] 25)).below hb (by simp))
    have hB1 : Below w.heap.size w w1 := ((Below.refl _ _).alloc (Nat.le_refl _) _).trans (hb.mono (by simp))
    have hl1 : w.heap.size < w1.heap.size := by have := hb.size; simp at this; omega
    have HI1 : Hid (IS (w1.alloc (.cells #[.int .i64 t] 3)) (w1.alloc (.cells #[.int .i64 t] 3)).heap.size (some ⟨w1.heap.size, 0, none⟩) [(t : Int)]) := fun _ => ⟨w1.heap.size, 0, rfl, by simp, fun j hj => by
      have : j = 0 := by simp at hj; omega
      subst this; go_simp⟩
    have HG2 := Lib.hid (HG1.out.alloc hB1.size (.cells #[.int .i64 t] 3))
    have hB2 := Lib.hid (hB1.alloc hB1.size (.cells #[.int .i64 t] 3))
    clear hb HG1
    go_wp2_with fail
    refine (HFU.out _ _ _ hB2.out.size HG2.out HI1.out).mono ?_
    rintro e w2 ⟨v, rfl, ho, hb2⟩
    go_wp2
    go_ret
    exact ⟨v, by simp, own_mono ho hB2.out.size, hB2.out.trans (hb2.mono hB2.out.size)⟩
set_option maxRecDepth 100000 in
set_option maxHeartbeats 1600000 in
theorem top_impl_NeedOf (gs : List Nd) (x : Int) (hG : GB gs) : ∀ (A : Option Addr) (n c : Nat) (w : World), n = gs.length → n ≤ c → GS w w.heap.size A gs →
    Calls Try.prog 25 #[.agg #[.slice A n c], .int .i64 x] w fun e w' => RetI w (needF gs x) e w' := by
  intro A n c w hn hnc h
  have HH := Lib.hid (impl_hasNode A n c gs x (w.alloc (.cells #[.slice A n c] 25)) w.heap.size (by simp) hn hnc (h.alloc (Nat.le_refl _) _) hG)
  have hhb : (validG gs && hasN gs x) = hasB gs x := rfl
  rw [hhb] at HH
  have H := Lib.hid h
  cases hb : hasB gs x
  · have hr : needF gs x = [] := by unfold needF; rw [hb]; rfl
    rw [hr]
    rw [hb] at HH
    clear hb hr hhb h hn hG
    go_enter Try.func25, Try.ntmps25
    go_wp2_with fail
    refine HH.out.mono ?_
    rintro e w1 ⟨rfl, hb⟩
    go_wp2
    go_ret
    exact RetI.nil (((Below.refl _ _).alloc (Nat.le_refl _) _).trans (hb.mono (by simp)))
  · obtain ⟨hv, h10, t, rfl, ht⟩ := hasB_parts gs x hb
    have hr : needF gs t = needTo gs [(t : Int)] := by unfold needF; rw [hb]; rfl
    rw [hr]
    rw [hb] at HH
    have HFU := Lib.hid fun (A1 : Option Addr) (c1 : Nat) (w' : World) (hB : w.heap.size ≤ w'.heap.size) (h : GS w' w.heap.size A gs) (hx : IS w' w'.heap.size A1 [(t : Int)]) => from_needs A A1 n c 1 c1 gs [(t : Int)] w' w'.heap.size (Nat.le_refl _) hn rfl (h.more hB) hx hv hG (by omega) (fun x hx => by simp at hx; subst hx; omega)
    generalize needTo gs [(t : Int)] = R at *
    clear hb hr hhb h hn hG
    go_enter Try.func25, Try.ntmps25
    go_wp2_with fail
    refine HH.out.mono ?_
    rintro e w1 ⟨rfl, hb⟩
    have q1 : w1.cell? ⟨w.heap.size, 0, none⟩ = some (.slice A n c) := (hb.cell (p := ⟨w.heap.size, 0, none⟩) (by simp)).trans (by go_simp)
    have HG1 := Lib.hid ((H.out.alloc (Nat.le_refl _) (.cells #[.slice A n c] 25)).below hb (by simp))
    have hB1 : Below w.heap.size w w1 := ((Below.refl _ _).alloc (Nat.le_refl _) _).trans (hb.mono (by simp))
    have hl1 : w.heap.size < w1.heap.size := by have := hb.size; simp at this; omega
    have HI1 : Hid (IS (w1.alloc (.cells #[.int .i64 t] 3)) (w1.alloc (.cells #[.int .i64 t] 3)).heap.size (some ⟨w1.heap.size, 0, none⟩) [(t : Int)]) := fun _ => ⟨w1.heap.size, 0, rfl, by simp, fun j hj => by
      have : j = 0 := by simp at hj; omega
      subst this; go_simp⟩
    have HG2 := Lib.hid (HG1.out.alloc hB1.size (.cells #[.int .i64 t] 3))
    have hB2 := Lib.hid (hB1.alloc hB1.size (.cells #[.int .i64 t] 3))
    clear hb HG1
    go_wp2_with fail
    refine (HFU.out _ _ _ hB2.out.size HG2.out HI1.out).mono ?_
    rintro e w2 ⟨v, rfl, ho, hb2⟩
    go_wp2
    go_ret
    exact ⟨v, by simp, own_mono ho hB2.out.size, hB2.out.trans (hb2.mono hB2.out.size)⟩
end Go.Proofs.Ytdhjflhpenkchaa

namespace Go.Proofs.Ytdhjflhpenkchaa
set_option linter.unusedSimpArgs false
set_option linter.unusedVariables false
open Go.RowKit
/-- What reach adds for the node at k. -/
def rchB (gs : List Nd) (st : List Int) (k : Nat) : Bool := decide ((k : Int) ∈ st) || (mayR (gs.getD k default).ps).any fun r => decide (r ∈ reachTo gs st k)
theorem reachTo_step (gs : List Nd) (st : List Int) (k : Nat) : reachTo gs st (k + 1) = reachTo gs st k ++ if rchB gs st k then [(k : Int)] else [] := rfl
theorem any_take (L M : List Int) (b : Bool) (j : Nat) (hj : j < L.length) : (b || (L.take (j + 1)).any fun r => decide (r ∈ M)) = ((b || (L.take j).any fun r => decide (r ∈ M)) || decide (L.getD j 0 ∈ M)) := by
  rw [List.take_succ_eq_append_getElem hj, List.any_append, Bool.or_assoc]
  simp [List.getD, hj]
set_option maxRecDepth 100000 in
set_option maxHeartbeats 1600000 in
theorem spec_reach (A A' : Option Addr) (n c m c' : Nat) (gs : List Nd) (st : List Int) (w : World) (B : Nat) (hB : B ≤ w.heap.size) (hn : n = gs.length) (hm : m = st.length) (h : GS w B A gs) (hx : IS w B A' st) (hv : validG gs = true) (hG : GB gs) (hms : m ≤ 2000000) :
    Calls Try.prog 64 #[.agg #[.slice A n c], .slice A' m c'] w fun e w' => RetI w (reachTo gs st n) e w' := by
  obtain ⟨i0, hi, hz0, hz1, hz2⟩ := info_parts info_int
  have hn10 : n ≤ 10 := by have := (validG_parts gs hv).1; omega
  have H := Lib.hid h
  have HX := Lib.hid hx
  have HN := Lib.hid hn
  have HM := Lib.hid hm
  have HV := Lib.hid hv
  have HS := Lib.hid hG
  clear h hn hv hG hx hm
  go_enter Try.func64, Try.ntmps64
  go_wp2
  go_loopw [5, 6] (fun v i wr => ∃ k : Nat, k ≤ n ∧ i = .int .i64 k ∧ Hid (OwnI wr (w.heap.size + 1) v (reachTo gs st k)) ∧ Below (w.heap.size + 1) (w.alloc (.cells #[.slice A n c] 25)) wr) (fun _ i _ => n - (intOf i).toNat)
  case atStart =>
    refine ⟨0, by omega, rfl, ?_, (Below.refl _ _).alloc (by simp) _⟩
    have := World.ownsRow_lit (e := 3) (size := 1) (base := w.heap.size + 1) (w.alloc (.cells #[.slice A n c] 25)) #[] 0 (by simp) (by unfold maxLen; omega) rfl
    simpa [OwnI, Hid, reachTo] using this
  case round =>
    obtain ⟨k, hk, rfl, HO, hbr⟩ := hrel
    have hbox : wr.cell? ⟨w.heap.size, 0, none⟩ = some (.slice A n c) := (hbr.cell (p := ⟨w.heap.size, 0, none⟩) (by simp)).trans (by go_simp)
    have hwr : w.heap.size + 1 ≤ wr.heap.size := by have := hbr.size; simpa using this
    by_cases hlt : k < n
    · have hkg : k < gs.length := by have := HN.out; omega
      obtain ⟨b, off, rfl, hbB, c0, A1, n1, c1, c2, hn1', hps⟩ := H.out.at_ k hkg
      have hx := HS.out.2 k
      have e1 : wr.cell? ⟨b, off + k * 2 + 1, none⟩ = _ := ((hbr.cell (p := ⟨b, off + k * 2 + 1, none⟩) (by simp; omega)).trans (World.cell?_alloc_lt _ _ _ (by simp; omega))).trans c2
      have HPS := Lib.hid (((hps.alloc hB (.cells #[.slice (some ⟨b, off, none⟩) n c] 25)).below hbr (by omega)).more (B' := wr.heap.size) (by omega))
      have HXR := Lib.hid (((HX.out.alloc hB (.cells #[.slice (some ⟨b, off, none⟩) n c] 25)).below hbr (by omega)).more (B' := wr.heap.size) (by omega))
      have HST := Lib.hid (reachTo_step gs st k)
      have hml := reachTo_len gs st k
      have hrb : rchB gs st k = (decide ((k : Int) ∈ st) || (mayR (gs.getD k default).ps).any fun r => decide (r ∈ reachTo gs st k)) := rfl
      generalize gs.getD k default = d at *
      have HMR := Lib.hid fun (w' : World) (hB : wr.heap.size ≤ w'.heap.size) (h : PS w' wr.heap.size A1 d.ps) => spec_mayRead A1 n1 c1 d.ps w' wr.heap.size hB hn1' h (by omega)
      have hlm := mayR_len d.ps 10
      rw [mayR_below] at hlm
      generalize mayR d.ps = L at *
      generalize reachTo gs st k = M at *
      have HRB := Lib.hid hrb
      generalize hl : L.length = l at *
      have HL := Lib.hid hl
      generalize hdk : decide ((k : Int) ∈ st) = b0 at *
      have hpl0 := plc_ge st (k : Int)
      rw [hdk] at hpl0
      have HMLE := Lib.hid hml
      obtain ⟨A4, c4, hv4, hI4⟩ := HO.out.form
      subst hv4
      generalize hmm : M.length = mm at *
      have HMM := Lib.hid hmm
      have HI4 := Lib.hid hI4
      clear hl hn1' hx c0 c2 hps hrb hdk hmm hI4
      go_wp2_with fail
      refine (spec_placeIn A' m c' st (k : Int) wr wr.heap.size (Nat.le_refl _) HM.out HXR.out hms).mono ?_
      rintro e w3 ⟨rfl, rfl⟩
      generalize plc st (k : Int) = p0 at *
      go_wp2_with fail
      refine (HMR.out _ (Nat.le_refl _) HPS.out).mono ?_
      rintro e w2 ⟨v2, rfl, hown2, hb2⟩
      obtain ⟨g, cL, hgv, hbg, hgw⟩ := hown2.form
      rw [HL.out] at hgv
      subst hgv
      have hIL : IS w2 w2.heap.size (some ⟨g, 0, none⟩) L := by have := hown2.1; rw [HL.out] at this; exact IS.of_own this
      have HIL := Lib.hid hIL
      have HO2 := Lib.hid (own_below HO.out hb2)
      have HI2 := Lib.hid ((HI4.out.below hb2 (Nat.le_refl _)).more (B' := w2.heap.size) hb2.size)
      have hbr2 := hbr.trans (hb2.mono hwr)
      have hw2 : w.heap.size + 1 ≤ w2.heap.size := by have := hb2.size; omega
      clear hown2 hIL hb2 HO HI4 HPS HXR
      go_wp2
      go_loopw [7, 9] (fun mv jv wx => ∃ j : Nat, j ≤ l ∧ jv = .int .i64 j ∧ mv = .bool (b0 || (L.take j).any fun r => decide (r ∈ M)) ∧ wx = w2) (fun _ jv _ => l - (intOf jv).toNat)
      case atStart => exact ⟨0, Nat.zero_le _, rfl, by rw [List.take_zero, List.any_nil, Bool.or_false], rfl⟩
      case round =>
        obtain ⟨j, hj, rfl, rfl, rfl⟩ := hrel
        by_cases hjl : j < l
        · obtain ⟨b', off', e', _, hc⟩ := HIL.out (by have := HL.out; omega)
          cases e'
          have hxj := hc j (by have := HL.out; omega)
          have hat := any_take L M b0 j (by have := HL.out; omega)
          have hplj := plc_ge M (L.getD j 0)
          rw [Nat.zero_add] at hxj
          clear hc
          generalize L.getD j 0 = x at *
          generalize (b0 || (L.take j).any fun r => decide (r ∈ M)) = bj at *
          have HAT := Lib.hid hat
          clear hat
          cases bj
          · go_wp2_with fail
            refine (spec_placeIn A4 mm c4 M x wr wr.heap.size (Nat.le_refl _) HMM.out.symm HI2.out (by omega)).mono ?_
            rintro e w5 ⟨rfl, rfl⟩
            generalize plc M x = p1 at *
            go_wp2
            go_roundw
            case rel => exact ⟨j + 1, by omega, by go_num, by rw [HAT.out, Bool.false_or, ← hplj], by first | rfl | trivial⟩
            case measure => simp [intOf]; omega
          · go_wp2
            go_roundw
            case rel => exact ⟨j + 1, by omega, by go_num, by rw [HAT.out, Bool.true_or], by first | rfl | trivial⟩
            case measure => simp [intOf]; omega
        · obtain rfl : j = l := by omega
          have hLt : L.take j = L := List.take_of_length_le (by have := HL.out; omega)
          rw [hLt, ← HRB.out]
          clear hLt
          generalize rchB gs st k = rb at *
          cases rb
          · have HST2 := Lib.hid (HST.out.trans (by rw [if_neg (by simp), List.append_nil]))
            go_wp2
            go_roundw
            case rel => exact ⟨k + 1, by omega, by go_num, by rw [HST2.out]; exact HO2.out, hbr2⟩
            case measure => simp [intOf]; omega
          · have HST2 := Lib.hid (HST.out.trans (by rw [if_pos rfl]))
            have HO2' : Hid (wr.ownsRow (w.heap.size + 1) 3 1 (.slice A4 mm c4) mm (M.map (Value.int .i64))) := by
              have := HO2.out
              unfold OwnI at this
              rw [HMM.out] at this
              exact this
            have hmm10 : mm ≤ k := HMLE.out
            go_wp2_with (at_builtin; refine wpList_append_own _ rfl _ _ 28 rfl (w.heap.size + 1) 3 i0 (.int .i64 0) 1 8 Try.underlying28 hi hz0 hz1 hz2 rfl (by decide) _ _ _ rfl (HO2'.out.alloc _) ⟨_, 0, none⟩ 1 1 [.int .i64 k] rfl rfl (cell_one_new _ _ _) ?c2 ?c3 ?c4 ?c5 ?_)
            case c2 => first | rfl | (intro u hu; simp at hu; subst hu; rfl)
            case c3 => unfold maxLen; omega
            case c4 => omega
            case c5 => first | omega | (simp; omega)
            intro v' w4 hown' hgrow _
            have hpos := (HO2'.out.alloc (.cells #[.int .i64 k] 3)).lt
            have HO' : Hid (OwnI w4 (w.heap.size + 1) v' (reachTo gs st (k + 1))) := by
              rw [HST2.out]
              unfold OwnI
              rw [List.length_append, HMM.out]
              simpa [OwnI, Hid] using hown'
            have HB' := Lib.hid ((hbr2.alloc hw2 (.cells #[.int .i64 k] 3)).grown hgrow (by simp; omega) (fun q hq => (hpos q hq).1))
            clear hown' hgrow hpos
            go_wp2
            go_roundw
            case rel => exact ⟨k + 1, by omega, by go_num, HO'.out, HB'.out⟩
            case measure => simp [intOf]; omega
    · obtain rfl : k = n := by omega
      go_wp2
      go_ret
      exact ⟨_, rfl, own_mono HO.out (by omega), ((Below.refl _ _).alloc (Nat.le_refl _) _).trans (hbr.mono (by omega))⟩
end Go.Proofs.Ytdhjflhpenkchaa

namespace Go.Proofs.Ytdhjflhpenkchaa
set_option linter.unusedSimpArgs false
set_option linter.unusedVariables false
open Go.RowKit Go.Maps
set_option maxRecDepth 100000 in
set_option maxHeartbeats 1600000 in
theorem top_spec_ReachOf (gs : List Nd) (x : Int) (hG : GB gs) : ∀ (A : Option Addr) (n c : Nat) (w : World), n = gs.length → n ≤ c → GS w w.heap.size A gs →
    Calls Try.prog 23 #[.agg #[.slice A n c], .int .i64 x] w fun e w' => RetI w (reachF gs x) e w' := by
  intro A n c w hn hnc h
  have HH := Lib.hid (spec_validGraph A n c gs (w.alloc (.cells #[.slice A n c] 25)) w.heap.size (by simp) hn (h.alloc (Nat.le_refl _) _) hG)
  have H := Lib.hid h
  have hn1 : n ≤ 1048576 := by rw [hn]; exact hG.1
  have hrg : rng x 0 ((n : Int) - 1) = hasN gs x := by rw [hn]; rfl
  cases hb : hasB gs x
  · have hr : reachF gs x = [] := by unfold reachF; rw [hb]; rfl
    rw [hr]
    have hbb : (validG gs && hasN gs x) = false := hb
    generalize validG gs = b0 at *
    generalize hasN gs x = b1 at *
    clear hb hr h hn hG
    go_enter Try.func23, Try.ntmps23
    go_wp2_with fail
    refine HH.out.mono ?_
    rintro e w1 ⟨rfl, hb⟩
    have q1 : w1.cell? ⟨w.heap.size, 0, none⟩ = some (.slice A n c) := (hb.cell (p := ⟨w.heap.size, 0, none⟩) (by simp)).trans (by go_simp)
    have hB1 : Below w.heap.size w w1 := ((Below.refl _ _).alloc (Nat.le_refl _) _).trans (hb.mono (by simp))
    have hl1 : w.heap.size < w1.heap.size := by have := hb.size; simp at this; omega
    clear hb
    cases b0
    · go_wp2
      go_ret
      exact RetI.nil hB1
    · have hb1 : b1 = false := by simpa using hbb
      subst hb1
      go_wp2_with (go_at_call 58; refine (spec_inRange _ _ _ _).mono ?_; rintro e w' ⟨rfl, rfl⟩)
      go_ret
      exact RetI.nil hB1
  · obtain ⟨hv, h10, t, rfl, ht⟩ := hasB_parts gs x hb
    have hr : reachF gs t = reachTo gs [(t : Int)] gs.length := by unfold reachF; rw [hb]; rfl
    have hhn : hasN gs (t : Int) = true := by unfold hasB at hb; simp only [Bool.and_eq_true] at hb; exact hb.2
    rw [hr]
    rw [hv] at HH
    rw [hhn] at hrg
    have htn : t < n := by omega
    have HFU := Lib.hid fun (A1 : Option Addr) (c1 : Nat) (w' : World) (hB : w.heap.size ≤ w'.heap.size) (h : GS w' w.heap.size A gs) (hx : IS w' w'.heap.size A1 [(t : Int)]) => (by rw [← hn]; exact spec_reach A A1 n c 1 c1 gs [(t : Int)] w' w'.heap.size (Nat.le_refl _) hn rfl (h.more hB) hx hv hG (by omega) : Calls Try.prog 64 #[.agg #[.slice A n c], .slice A1 1 c1] w' fun e w'' => RetI w' (reachTo gs [(t : Int)] gs.length) e w'')
    generalize reachTo gs [(t : Int)] gs.length = R at *
    clear hb hr h hn hG hhn
    go_enter Try.func23, Try.ntmps23
    go_wp2_with fail
    refine HH.out.mono ?_
    rintro e w1 ⟨rfl, hb⟩
    have q1 : w1.cell? ⟨w.heap.size, 0, none⟩ = some (.slice A n c) := (hb.cell (p := ⟨w.heap.size, 0, none⟩) (by simp)).trans (by go_simp)
    have HG1 := Lib.hid ((H.out.alloc (Nat.le_refl _) (.cells #[.slice A n c] 25)).below hb (by simp))
    have hB1 : Below w.heap.size w w1 := ((Below.refl _ _).alloc (Nat.le_refl _) _).trans (hb.mono (by simp))
    have hl1 : w.heap.size < w1.heap.size := by have := hb.size; simp at this; omega
    clear hb
    go_wp2_with (go_at_call 58; refine (spec_inRange _ _ _ _).mono ?_; rintro e w' ⟨rfl, rfl⟩)
    have HI1 : Hid (IS (w1.alloc (.cells #[.int .i64 t] 3)) (w1.alloc (.cells #[.int .i64 t] 3)).heap.size (some ⟨w1.heap.size, 0, none⟩) [(t : Int)]) := fun _ => ⟨w1.heap.size, 0, rfl, by simp, fun j hj => by
      have : j = 0 := by simp at hj; omega
      subst this; go_simp⟩
    have HG2 := Lib.hid (HG1.out.alloc hB1.size (.cells #[.int .i64 t] 3))
    have hB2 := Lib.hid (hB1.alloc hB1.size (.cells #[.int .i64 t] 3))
    refine (HFU.out _ _ _ hB2.out.size HG2.out HI1.out).mono ?_
    rintro e w2 ⟨v, rfl, ho, hb2⟩
    go_wp2
    go_ret
    exact ⟨v, by simp, own_mono ho hB2.out.size, hB2.out.trans (hb2.mono hB2.out.size)⟩
end Go.Proofs.Ytdhjflhpenkchaa
