/- impl.treeOf. -/
import Derived.Test.YtkfglodjnnlbkaaV22
import Derived.Test.YtkfglodjnnlbkaaT2b
import Derived.BigQuiet
import Derived.Deep.QuietTactic
import Derived.Deep.RegionHeld3
import Derived.Deep.Cut

namespace Go.Proofs.Ytkfglodjnnlbkaa
set_option linter.unusedSimpArgs false
set_option linter.unusedVariables false
open Go.RowKit Go.Maps

section
variable {lo k : Nat} {lb : Nat → Option Nat} {R : Nat → List Nat} {V : List Value} {C X : Nat → Value} {ds : List On} {w w' : World}
theorem TrW.mid (h : TrW lo k lb R V C X ds w) {j : Nat} {Y : Value} {o : Obj} (hY : V[j]? = some Y) (hg : (w.alloc o).grownBy w' Y.ownBlock) :
    ∀ (i g' : Nat), lb i = some g' → Bx g' [.int .i64 i, V.getD i undef, .int .i64 (ds.getD i default).p, .bool true, C i, X i] w' ∧ Tg g' 80 w' := by
  have hs := h.step ((Below.refl _ _).alloc (Nat.le_refl _) o)
  have hjl : j < V.length := (List.getElem?_eq_some_iff.1 hY).1
  intro i g' hi
  have h1 := (hs.bx i g' hi).2
  have e := hg.block g' h1.1.lt (fun e => by
    obtain ⟨A, m, c, e1, e2, e3⟩ := hs.rows.row j hjl
    rw [hY] at e1
    cases e1
    exact own_tag e3.1 h1.2.1 hold_ne_ptr e.symm)
  exact ⟨Bx.keepE h1.1 e hg.size, h1.2.1.keep e⟩
theorem TrW.row (h : TrW lo k lb R V C X ds w) {j : Nat} (hj : j < k) :
    ∃ A c, V[j]? = some (.slice A (R j).length c) ∧ V.getD j undef = .slice A (R j).length c ∧ w.ownsRow lo 57 1 (.slice A (R j).length c) (R j).length ((R j).map fun q => ptrV (lb q)) := by
  obtain ⟨A, m, c, e1, e2, e3⟩ := h.rows.row j (by have := h.vl; omega)
  subst e2
  exact ⟨A, c, e1, by simp [List.getD, e1], e3.1⟩
theorem TrW.rows' {R' : Nat → List Nat} (h : TrW lo k lb R V C X ds w) (e : ∀ j, R' j = R j) : TrW lo k lb R' V C X ds w := by
  have : R' = R := funext e
  rw [this]; exact h
end
/-- Where the holder of a number lies. -/
def mf (lb : Nat → Option Nat) : Int → Option Nat := fun x => if x < 0 then none else lb x.toNat
theorem mf_nat (lb : Nat → Option Nat) (q : Nat) : mf lb (q : Int) = lb q := by unfold mf; rw [if_neg (by omega)]; simp
theorem mf_put (lb : Nat → Option Nat) (k g : Nat) (j : Int) : mf (fun j => if j = k then some g else lb j) j = if j = (k : Int) then some g else mf lb j := by
  unfold mf
  by_cases h0 : j < 0
  · rw [if_pos h0, if_neg (by omega), if_pos h0]
  · rw [if_neg h0, if_neg h0]
    by_cases h1 : j = (k : Int)
    · rw [if_pos h1]; dsimp only; rw [if_pos (by omega)]
    · rw [if_neg h1]; dsimp only; rw [if_neg (by omega)]
/-- What the tree is when k owners are in it. -/
def TrS (w0 : World) (k : Nat) (ds : List On) (C X : Nat → Value) (w : World) : Prop :=
  ∃ (lb : Nat → Option Nat) (V : List Value) (c : Nat), c ≤ k ∧ (∀ j, (lb j).isSome = (decide (j < k) && isO ds j)) ∧ TrW (w0.heap.size + 2) k lb (kdN ds k) V C X ds w ∧ MpH w w0.heap.size c (mf lb) ∧
    Bx (w0.heap.size + 1) [.map (some w0.heap.size), .slice none 0 0] w ∧ Tg (w0.heap.size + 1) 60 w ∧ Below w0.heap.size w0 w
theorem TrS.shut {w0 w : World} {k : Nat} {ds : List On} {C X : Nat → Value} (h : TrS w0 k ds C X w) (ho : isO ds k = false) : TrS w0 (k + 1) ds C X w := by
  obtain ⟨lb, V, c, h1, h2, h3, h4, h5, h6, h7⟩ := h
  refine ⟨lb, _, c, by omega, fun j => ?_, h3.shut.rows' fun j => ?_, h4, h5, h6, h7⟩
  · rw [h2]
    by_cases e : j = k
    · subst e; simp [ho]
    · have e2 : decide (j < k) = decide (j < k + 1) := by rw [decide_eq_decide]; omega
      rw [e2]
  · rw [kdN_succ]
    have : kidB ds (j : Int) k = false := by unfold kidB; unfold isO at ho; rw [ho]; rfl
    rw [this]; simp
theorem TrS.step {w0 w w' : World} {k : Nat} {ds : List On} {C X : Nat → Value} (h : TrS w0 k ds C X w) (hb : Below w.heap.size w w') : TrS w0 k ds C X w' := by
  obtain ⟨lb, V, c, h1, h2, h3, h4, h5, h6, h7⟩ := h
  exact ⟨lb, V, c, h1, h2, h3.step hb, h4.step hb, h5.step hb, h6.below hb h5.lt, h7.trans (hb.mono h7.size)⟩
end Go.Proofs.Ytkfglodjnnlbkaa
