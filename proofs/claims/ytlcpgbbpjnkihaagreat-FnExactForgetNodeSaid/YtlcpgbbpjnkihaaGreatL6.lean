/- Words and contracts for memory that the texts behind use. -/
import Derived.Test.YtlcpgbbpjnkihaaGreatL0
import Derived.Test.YtlcpgbbpjnkihaaGreatL1
import Derived.Test.YtlcpgbbpjnkihaaGreatL2
import Derived.Test.YtlcpgbbpjnkihaaGreatL3
import Derived.Test.YtlcpgbbpjnkihaaGreatL4
import Derived.Test.YtlcpgbbpjnkihaaGreatL5
import Derived.WalkKit
import Derived.Laws.OwnMore
import Derived.Deep.Draws
import Derived.Test.YtlcpgbbpjnkihaaGreatProg
import Derived.WalkSpells
import Derived.WalkLawsBesides
import Derived.Outline
import Derived.Lib.Hide
import Derived.BigQuiet
import Derived.Deep.QuietTactic
import Derived.StillTailTactics
import Derived.Deep.LoopGhost
import Derived.Laws.MakeOwn
import Derived.WalkSmall
import Derived.RegionTactic
import Derived.BigRegion
import Derived.Deep.RegionWith
import Derived.Deep.RegionHeld3
import Derived.Maps.AppendAt
import Derived.Laws.CopyOwn
import Derived.Deep.Cut
import Derived.Laws.Entries
import Derived.Laws.Bits64
import Derived.IntWalk
import Derived.Deep.RegionLaw
import Derived.Deep.AppendLies
import Derived.Deep.DeepCutAuto
import Derived.Maps.Own
import Derived.Maps.Views
import Derived.ChangeAlike

namespace Go.Proofs.YtlcpgbbpjnkihaaGreat
set_option linter.unusedSimpArgs false
set_option linter.unusedVariables false
open Go.RowKit
set_option maxHeartbeats 400000 in
theorem slices_Index (A : Option Addr) (n c : Nat) (xs : List Int) (x : Int) (w : World) (B : Nat) (hB : B ≤ w.heap.size) (hn : n = xs.length) (h : IS w B A xs) (hs : n ≤ 2000000) :
    Calls Tryz.prog 96 #[.slice A n c, .int .i64 x] w fun e w' => e = .returned (.int .i64 (plc xs x)) ∧ w = w' := by
  have H := Lib.hid h
  have HN := Lib.hid hn
  clear hn h
  go_enter Tryz.func96, Tryz.ntmps96
  go_wp2
  go_loop [8] (fun i => ∃ k : Nat, k ≤ n ∧ i = .int .i64 k ∧ Hid (∀ j, j < k → xs.getD j 0 ≠ x)) (fun i => n - (intOf i).toNat)
  case atStart => exact ⟨0, Nat.zero_le _, rfl, fun j hj => by omega⟩
  case round =>
    obtain ⟨k, hk, rfl, HA⟩ := hrel
    by_cases hlt : k < n
    · obtain ⟨b, off, rfl, hbB, hc⟩ := H.out (by have := HN.out; omega)
      have c0 := hc k (by have := HN.out; omega)
      clear hc H
      generalize hp : xs.getD k 0 = p at *
      have HP := Lib.hid hp
      clear hp
      cases hr : (x == p)
      · have HR := Lib.hid hr
        go_wp2
        go_round
        case rel => exact ⟨k + 1, by omega, by go_num, fun j hj => by
          rcases Nat.lt_or_ge j k with h1 | h1
          · exact HA.out j h1
          · obtain rfl : j = k := by omega
            rw [HP.out]; intro e; have := HR.out; rw [e] at this; simp at this⟩
        case measure => simp [intOf]; omega
      · have HR := Lib.hid hr
        go_wp2
        go_ret
        refine ⟨ret_i ?_, rfl⟩
        exact (plc_at xs x k (by have := HN.out; omega) (by rw [HP.out]; have := HR.out; simp at this; exact this.symm) HA.out).symm
    · go_wp2
      go_ret
      refine ⟨ret_i ?_, rfl⟩
      exact (plc_none xs x fun j hj => HA.out j (by have := HN.out; omega)).symm
set_option maxHeartbeats 400000 in
theorem slices_Contains (A : Option Addr) (n c : Nat) (xs : List Int) (x : Int) (w : World) (B : Nat) (hB : B ≤ w.heap.size) (hn : n = xs.length) (h : IS w B A xs) (hs : n ≤ 2000000) :
    Calls Tryz.prog 75 #[.slice A n c, .int .i64 x] w fun e w' => e = .returned (.bool (decide (x ∈ xs))) ∧ w = w' := by
  have H := Lib.hid h
  have HN := Lib.hid hn
  have HP := Lib.hid (plc_ge xs x)
  clear hn h
  go_enter Tryz.func75, Tryz.ntmps75
  go_wp2_with fail
  refine (slices_Index A n c xs x _ B hB HN.out H.out hs).mono ?_
  rintro e w' ⟨rfl, rfl⟩
  go_wp2
  all_goals
    go_ret
    exact ⟨ret_b (by rw [← HP.out]; try simp), rfl⟩
end Go.Proofs.YtlcpgbbpjnkihaaGreat

namespace Go.Proofs.YtlcpgbbpjnkihaaGreat
set_option linter.unusedSimpArgs false
set_option linter.unusedVariables false
open Go.RowKit
/-- Block b has cells of type t. -/
def Tg (b : Nat) (t : TypeId) (w : World) : Prop := ∃ arr fr, w.heap[b]? = some (.cells arr t fr)
theorem Tg.new (w : World) (a : Array Value) (t : TypeId) (fr : Nat × Nat) : Tg w.heap.size t (w.alloc (.cells a t fr)) := ⟨a, fr, heap_alloc_new w _⟩
theorem Tg.keep {b : Nat} {t : TypeId} {w w' : World} (h : Tg b t w) (e : w'.heap[b]? = w.heap[b]?) : Tg b t w' := by
  obtain ⟨a, fr, h⟩ := h; exact ⟨a, fr, e.trans h⟩
theorem Tg.below {b C : Nat} {t : TypeId} {w w' : World} (h : Tg b t w) (hb : Below C w w') (hC : b < C) : Tg b t w' := h.keep (hb.block b hC)
theorem Tg.set {b : Nat} {t : TypeId} {w : World} (h : Tg b t w) (a : Addr) (u : Value) : Tg b t (w.setCell a u) := by
  by_cases e : a.block = b
  · obtain ⟨arr, fr, h⟩ := h
    subst e
    refine ⟨if a.spot.isSome then arr else arr.setIfInBounds a.off u, fr, ?_⟩
    simp [World.setCell, Array.getElem?_modify, h]
  · exact h.keep (Below.heap_setCell _ _ _ _ (fun e' => e e'.symm))
end Go.Proofs.YtlcpgbbpjnkihaaGreat

namespace Go.Proofs.YtlcpgbbpjnkihaaGreat
set_option linter.unusedSimpArgs false
set_option linter.unusedVariables false
open Go.RowKit
theorem WF.mono {B B' n cr : Nat} {Er : Option Addr} {U : List Value} {vs ch rn : List Int} {rs : List (List Int)} {w : World} (h : WF B Er cr n U vs ch rn rs w) (hb : B' ≤ B) : WF B' Er cr n U vs ch rn rs w :=
  ⟨h.ul, h.rl, h.fam.mono hb (Nat.le_refl _), own_mono h.top hb⟩
end Go.Proofs.YtlcpgbbpjnkihaaGreat

namespace Go.Proofs.YtlcpgbbpjnkihaaGreat
set_option linter.unusedSimpArgs false
set_option linter.unusedVariables false
open Go.RowKit
theorem slices_IndexFuncM (K : FuncId) (cap : Value) (P : Int → Bool) (A : Option Addr) (n c : Nat) (xs : List Int) (hs : n ≤ 2000000) (w : World) (hcf : ∀ (q : Int) (w : World), (callFunc K #[.int .i64 q, cap]).run Tryz.prog w = .ok (.enter K #[.int .i64 q, cap]) w)
    (hP : ∀ q ∈ xs, Calls Tryz.prog K #[.int .i64 q, cap] w fun e w' => e = .returned (.bool (P q)) ∧ w' = w) (hn : n = xs.length) (B : Nat) (hx : IS w B A xs) :
    Calls Tryz.prog 95 #[.slice A n c, .func (.func K) #[] #[cap]] w fun e w' => (∃ r : Int, e = .returned (.int .i64 r) ∧ decide (r ≥ 0) = xs.any P) ∧ w' = w := by
  have HP := Lib.hid hP
  have HCF := Lib.hid hcf
  have HX := Lib.hid hx
  have HN := Lib.hid hn
  clear hP hcf hx hn
  go_enter Tryz.func95, Tryz.ntmps95
  go_wp2
  go_loopw [8] (fun i wr => ∃ k : Nat, k ≤ n ∧ i = .int .i64 k ∧ Hid (∀ j, j < k → P (xs.getD j 0) = false) ∧ wr = w) (fun i _ => n - (intOf i).toNat)
  case atStart => exact ⟨0, Nat.zero_le _, rfl, fun j hj => by omega, rfl⟩
  case round =>
    obtain ⟨k, hk, rfl, HA, rfl⟩ := hrel
    by_cases hlt : k < n
    · have hkx : k < xs.length := by have := HN.out; omega
      obtain ⟨b, off, rfl, hbB, hc⟩ := HX.out (by omega)
      have c0 := hc k hkx
      have HNX : Hid (P (xs.getD k 0) = false → ∀ j, j < k + 1 → P (xs.getD j 0) = false) := fun h j hj => by
        rcases Nat.lt_or_ge j k with h1 | h1
        · exact HA.out j h1
        · obtain rfl : j = k := by omega
          exact h
      have HYS : Hid (P (xs.getD k 0) = true → xs.any P = true) := fun h => List.any_eq_true.2 ⟨xs.getD k 0, by simp [List.getD, hkx], h⟩
      have HPK := Lib.hid (HP.out (xs.getD k 0) (by rw [show xs.getD k 0 = xs[k] by simp [List.getD, hkx]]; exact List.getElem_mem hkx))
      have hcf := HCF.out (xs.getD k 0)
      generalize xs.getD k 0 = x at *
      generalize P x = p at *
      clear hc HX
      cases p
      · have HN2 := Lib.hid (HNX.out (by first | rfl | trivial))
        go_wp2_with fail
        refine HPK.out.mono ?_
        rintro e w2 ⟨rfl, rfl⟩
        go_wp2
        go_roundw
        case rel => exact ⟨k + 1, by omega, by go_num, HN2.out, by first | rfl | trivial⟩
        case measure => simp [intOf]; omega
      · have HY2 := Lib.hid (HYS.out (by first | rfl | trivial))
        go_wp2_with fail
        refine HPK.out.mono ?_
        rintro e w2 ⟨rfl, rfl⟩
        go_wp2
        go_ret
        exact ⟨⟨k, rfl, by rw [HY2.out]; simp⟩, rfl⟩
    · go_wp2
      go_ret
      refine ⟨⟨-1, rfl, ?_⟩, rfl⟩
      have : xs.any P = false := by
        rw [List.any_eq_false]
        intro x hx
        obtain ⟨j, hj, he⟩ := List.mem_iff_getElem.1 hx
        have := HA.out j (by have := HN.out; omega)
        rw [show xs.getD j 0 = x by simp [List.getD, hj, he]] at this
        simp [this]
      rw [this]; rfl
set_option maxHeartbeats 800000 in
theorem slices_ContainsFuncM (K : FuncId) (cap : Value) (P : Int → Bool) (A : Option Addr) (n c : Nat) (xs : List Int) (hs : n ≤ 2000000) (w : World) (hcf : ∀ (q : Int) (w : World), (callFunc K #[.int .i64 q, cap]).run Tryz.prog w = .ok (.enter K #[.int .i64 q, cap]) w)
    (hP : ∀ q ∈ xs, Calls Tryz.prog K #[.int .i64 q, cap] w fun e w' => e = .returned (.bool (P q)) ∧ w' = w) (hn : n = xs.length) (B : Nat) (hx : IS w B A xs) :
    Calls Tryz.prog 74 #[.slice A n c, .func (.func K) #[] #[cap]] w fun e w' => e = .returned (.bool (xs.any P)) ∧ w' = w := by
  have HC := Lib.hid (slices_IndexFuncM K cap P A n c xs hs w hcf hP hn B hx)
  generalize xs.any P = r at *
  clear hcf hP hn hx
  go_enter Tryz.func74, Tryz.ntmps74
  go_wp2_with fail
  refine HC.out.mono ?_
  rintro e w1 ⟨⟨q, rfl, hq⟩, rfl⟩
  cases r
  all_goals
    go_wp2
    go_ret
    exact ⟨rfl, rfl⟩
end Go.Proofs.YtlcpgbbpjnkihaaGreat

namespace Go.Proofs.YtlcpgbbpjnkihaaGreat
set_option linter.unusedSimpArgs false
set_option linter.unusedVariables false
open Go.RowKit
/-- The array that says which nodes changed. -/
structure AR (b : Nat) (f : Nat → Bool) (w : World) : Prop where
  lt : b < w.heap.size
  c : ∀ j, j < 10 → w.cell? ⟨b, j, none⟩ = some (.bool (f j))
  z : ∀ j, w.frozen? ⟨b, j, none⟩ = false
  t : Tg b 98 w
section
variable {b : Nat} {f g : Nat → Bool} {w w' : World}
theorem AR.keepB (h : AR b f w) (e : w'.heap[b]? = w.heap[b]?) (hs : w.heap.size ≤ w'.heap.size) : AR b f w' :=
  ⟨Nat.lt_of_lt_of_le h.lt hs, fun j hj => (World.cell?_of_block (w := w) (a := ⟨b, j, none⟩) e).trans (h.c j hj), fun j => (World.frozen?_of_block (w := w) (a := ⟨b, j, none⟩) e).trans (h.z j), h.t.keep e⟩
theorem AR.step (h : AR b f w) (hb : Below w.heap.size w w') : AR b f w' := h.keepB (hb.block b h.lt) hb.size
theorem AR.grown {row : Option Nat} (h : AR b f w) (hg : w.grownBy w' row) (hr : row ≠ some b) : AR b f w' := h.keepB (hg.block b h.lt fun e => hr e.symm) hg.size
theorem AR.other (h : AR b f w) {a : Addr} (ha : a.block ≠ b) (u : Value) : AR b f (w.setCell a u) :=
  ⟨by simpa [World.setCell] using h.lt, fun j hj => (World.cell?_setCell_other _ _ _ _ (by intro e; apply ha; rw [e])).trans (h.c j hj), fun j => (World.frozen?_setCell _ _ _ _).trans (h.z j), h.t.set _ _⟩
theorem AR.put (h : AR b f w) {k : Nat} (hk : k < 10) (v : Bool) (hg : ∀ j, j < 10 → g j = if j = k then v else f j) : AR b g (w.setCell ⟨b, k, none⟩ (.bool v)) := by
  refine ⟨by simpa [World.setCell] using h.lt, fun j hj => ?_, fun j => (World.frozen?_setCell _ _ _ _).trans (h.z j), h.t.set _ _⟩
  rw [hg j hj]
  by_cases e : j = k
  · subst e
    rw [if_pos rfl]
    exact World.cell?_setCell_same _ _ _ (h.c j hj)
  · rw [if_neg e]
    exact (World.cell?_setCell_other _ _ _ _ (by simp; try omega)).trans (h.c j hj)
theorem AR.new (w : World) : AR w.heap.size (fun _ => false) (w.alloc (.cells #[.bool false, .bool false, .bool false, .bool false, .bool false, .bool false, .bool false, .bool false, .bool false, .bool false] 98)) := by
  have h := Bx.start w #[.bool false, .bool false, .bool false, .bool false, .bool false, .bool false, .bool false, .bool false, .bool false, .bool false] 98
  refine ⟨h.lt, fun j hj => h.c j _ ?_, h.f, Tg.new _ _ _ _⟩
  have : j = 0 ∨ j = 1 ∨ j = 2 ∨ j = 3 ∨ j = 4 ∨ j = 5 ∨ j = 6 ∨ j = 7 ∨ j = 8 ∨ j = 9 := by omega
  rcases this with rfl | rfl | rfl | rfl | rfl | rfl | rfl | rfl | rfl | rfl <;> rfl
end
end Go.Proofs.YtlcpgbbpjnkihaaGreat
