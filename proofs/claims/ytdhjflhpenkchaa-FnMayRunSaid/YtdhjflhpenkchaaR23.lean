/- What the law on what may run draws: a graph and nodes. (Made by r23.py.) -/
import Derived.Test.YtdhjflhpenkchaaH23
import Derived.Test.YtdhjflhpenkchaaR8
import Derived.Test.YtdhjflhpenkchaaD8
import Derived.Test.YtdhjflhpenkchaaD9
import Derived.Test.YtdhjflhpenkchaaD18
import Derived.Test.YtdhjflhpenkchaaD19

namespace Go.Proofs.Ytdhjflhpenkchaa
set_option linter.unusedSimpArgs false
set_option linter.unusedVariables false
open Go.RowKit

/-- Returns a graph and nodes that lie in memory. -/
def DrGN (w : World) (e : Ending) (w' : World) : Prop :=
  ∃ (A : Option Addr) (n c : Nat) (gs : List Nd) (E : Option Addr) (m d : Nat) (xs : List Int), e = .returned (.tuple #[.agg #[.slice A n c], .slice E m d]) ∧ n = gs.length ∧ 2 ≤ n ∧ n ≤ 10 ∧ n ≤ c ∧ (∀ j, (gs.getD j default).ps.length ≤ 40) ∧ m = xs.length ∧ m ≤ 3 ∧ m ≤ d ∧ (∀ x ∈ xs, 0 ≤ x ∧ x < (n : Int)) ∧ GS w' w'.heap.size A gs ∧ IS w' w'.heap.size E xs ∧ Below w.heap.size w w'

set_option maxHeartbeats 3200000 in
theorem spec_DrawMayRun (A : Option Addr) (n c : Nat) (bs : List Int) (w : World) (hn : n = bs.length) (hnc : n ≤ c) (h : BS w w.heap.size A bs) (hy : BY bs) (hs : n ≤ 1048576) :
    Calls Try.prog 47 #[.slice A n c] w fun e w' => DrGN w e w' := by
  have h1 : BS (w.alloc (.cells #[.slice none 0 0] 25)) w.heap.size A bs := h.keep fun p hp => World.cell?_alloc_lt w _ p (by omega)
  have HC := Lib.hid (spec_newReader A n c bs _ w.heap.size (by simp) hn hnc h1 hy hs)
  clear hn hnc h h1 hy hs
  go_enter Try.func47, Try.ntmps47
  go_wp2_with fail
  refine HC.out.mono ?_
  rintro e w1 ⟨g, A1, n1, c1, ds, rfl, hn1, hn2, hy1, hr, hg, hb⟩
  have q0 : w1.cell? ⟨w.heap.size, 0, none⟩ = some (.slice none 0 0) := (hb.cell (p := ⟨w.heap.size, 0, none⟩) (by simp)).trans (by go_simp)
  have f0 : w1.frozen? ⟨w.heap.size, 0, none⟩ = false := (hb.frozen (p := ⟨w.heap.size, 0, none⟩) (by simp)).trans (by go_simp)
  have hl1 : w.heap.size < w1.heap.size := by have := hb.size; simp at this; omega
  have hgw : w.heap.size < g := by simp at hg; omega
  have HB1 := Lib.hid (((Below.refl w.heap.size w).alloc (Nat.le_refl _) (.cells #[.slice none 0 0] 25)).trans (hb.mono (by simp)))
  have HS := Lib.hid (someGraph_any g A1 n1 c1 ds 0 w1 hr hn1 hy1 hn2 (by omega))
  have HNN := Lib.hid hn1
  have hby := hy1
  have hg0 := hr.lt
  clear hn1 hr hb HC hy1
  go_wp2_with fail
  refine HS.out.mono ?_
  rintro e w2 ⟨V, k, gs, rfl, hk2, hk10, hsm, ho, hr2, ht⟩
  obtain ⟨gn, cg, rfl⟩ := ho.pos (by omega)
  have hz2 := ht.size
  have HO2 : Hid (As w1.heap.size w2.heap.size (OwG w1.heap.size w2.heap.size (.slice (some ⟨gn, 0, none⟩) k cg) k gs) w2) := graph_start ho
  have HB1' : Hid (As w.heap.size (w.heap.size + 1) (fun w' => w'.cell? ⟨w.heap.size, 0, none⟩ = some (.slice none 0 0) ∧ w'.frozen? ⟨w.heap.size, 0, none⟩ = false) w1) := ⟨⟨q0, f0⟩, by omega, fun w w' h hk => ⟨(World.cell?_of_block (a := ⟨_, 0, none⟩) (hk _ (Nat.le_refl _) (Nat.lt_succ_self _))).trans h.1, (World.frozen?_of_block (a := ⟨_, 0, none⟩) (hk _ (Nat.le_refl _) (Nat.lt_succ_self _))).trans h.2⟩⟩
  have HB2 := Lib.hid (HB1'.out.turn ht (.inr (by omega)))
  have HL2 := Lib.hid (HB1.out.trans (ht.below (B := w.heap.size) (by omega) (by omega)))
  have HR2 := Lib.hid hr2
  clear ho ht q0 f0 HB1 HB1' hr2
  go_wp2_with fail
  obtain ⟨w3, hw3⟩ : ∃ W, W = w2.alloc (.cells #[.slice (some ⟨gn, 0, none⟩) k cg] 25) := ⟨_, rfl⟩
  rw [← hw3]
  have hb3 : Below w2.heap.size w2 w3 := by rw [hw3]; exact (Below.refl _ _).alloc (Nat.le_refl _) _
  have hz3 : w2.heap.size + 1 = w3.heap.size := by rw [hw3]; simp
  have HGn := box_new w2 (.slice (some ⟨gn, 0, none⟩) k cg) 25
  rw [← hw3] at HGn
  have HG3 := Lib.hid HGn
  have HO3 := Lib.hid (HO2.out.step hb3)
  have HB3 := Lib.hid (HB2.out.step hb3)
  have HR3 := Lib.hid (HR2.out.step hb3)
  have HL3 := Lib.hid (HL2.out.trans (hb3.mono (by omega)))
  clear HGn hb3 HO2 HB2 HR2 HL2 hw3
  refine (someWrites_any g A1 n1 c1 ds _ (some ⟨gn, 0, none⟩) k cg w1.heap.size w2.heap.size gs w3 HR3.out HNN.out hby hn2 (by omega) HO3.out (by omega) (by omega) hk10).mono ?_
  rintro e w4 ⟨vN, vV, xs, ys, rfl, hxy, hx3, hxk, hoN, hoV, hr4, hf4⟩
  have ht4 := hf4.tch
  have hz4 := ht4.size
  obtain ⟨AN, cN, rfl⟩ := row_form' hoN
  obtain ⟨AV, cV, rfl⟩ := row_form' hoV
  have hnc := own_ncap hoN
  obtain ⟨m, hm⟩ : ∃ m, m = xs.length := ⟨_, rfl⟩
  rw [← hm] at hoN hx3 hnc
  rw [← hm]
  have HM := Lib.hid hm
  have HO4 := Lib.hid (HO3.out.turn ht4 (.inl (by omega)))
  have HB4 := Lib.hid (HB3.out.turn ht4 (.inr (by omega)))
  have HG4 := Lib.hid (HG3.out.turn ht4 (.inl (by omega)))
  have HL4 := Lib.hid (HL3.out.trans (ht4.below (B := w.heap.size) (by omega) (by omega)))
  have HN4 := Lib.hid hoN
  have q4 := HG4.out.it
  obtain ⟨r0, r1⟩ := HB4.out.it
  clear hr4 hf4 ht4 HO3 HB3 HG3 HL3 HR3 hoN hoV hm hxy
  have r2 : (w4.setCell ⟨w.heap.size, 0, none⟩ (.slice (some ⟨gn, 0, none⟩) k cg)).cell? ⟨w.heap.size, 0, none⟩ = some (.slice (some ⟨gn, 0, none⟩) k cg) := World.cell?_setCell_same _ _ _ r0
  go_wp2
  refine bodyPost_ret (v := .tuple #[.agg #[.slice (some ⟨gn, 0, none⟩) k cg], .slice AN m cN]) (by simp [results, Try.results47, go_sem, r2]) rfl ?_
  have h3 : OwG w1.heap.size w2.heap.size (.slice (some ⟨gn, 0, none⟩) k cg) k gs (w4.setCell ⟨w.heap.size, 0, none⟩ (.slice (some ⟨gn, 0, none⟩) k cg)) := OwG.loc _ _ _ _ _ _ _ HO4.out.it fun b x y => Below.heap_setCell _ _ _ _ (by show b ≠ w.heap.size; omega)
  have h4 := own_keep HN4.out (w' := (w4.setCell ⟨w.heap.size, 0, none⟩ (.slice (some ⟨gn, 0, none⟩) k cg))) fun b x y => Below.heap_setCell _ _ _ _ (by show b ≠ w.heap.size; omega)
  exact ⟨_, k, cg, gs, AN, m, cN, xs, rfl, h3.1, hk2, hk10, h3.ncap, hsm, HM.out, hx3, hnc, hxk, h3.nodes.more (by simp [World.setCell]; omega), IS.of_own h4, below_set0 HL4.out _⟩
end Go.Proofs.Ytdhjflhpenkchaa
