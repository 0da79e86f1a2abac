/- Parts in order: impl.appendParts, formulaOf; how a row grows from call to call. -/
import Derived.Test.YteeljfblncffpaaM3
import Derived.Test.YteeljfblncffpaaA17
import Derived.Test.YteeljfblncffpaaA20
import Derived.StillTailTactics
namespace Go.Proofs.Yteeljfblncffpaa
set_option linter.unusedSimpArgs false
set_option linter.unusedVariables false
open Go.RowKit

/-- From w to w' nothing that was there has turned but the block of v; v' lies in that block or in a new one. -/
def Gr (w : World) (v : Value) (w' : World) (v' : Value) : Prop := w.grownBy w' v.ownBlock ∧ (v'.ownBlock = v.ownBlock ∨ ∀ k, v'.ownBlock = some k → w.heap.size ≤ k)

theorem Gr.refl (w : World) (v : Value) : Gr w v w v := ⟨grown_refl _ _, .inl rfl⟩

theorem Gr.trans {w w1 w2 : World} {v v1 v2 : Value} (h : Gr w v w1 v1) (k : Gr w1 v1 w2 v2) : Gr w v w2 v2 := by
  refine ⟨⟨k.1.os.trans h.1.os, k.1.tape.trans h.1.tape, k.1.output.trans h.1.output, Nat.le_trans h.1.size k.1.size, fun i hi hr => ?_⟩, ?_⟩
  · have h1 := h.1.block i hi hr
    have h2 : some i ≠ v1.ownBlock := by
      rcases h.2 with e | e
      · rw [e]; exact hr
      · intro e'; have := e i e'.symm; omega
    exact (k.1.block i (Nat.lt_of_lt_of_le hi h.1.size) h2).trans h1
  · rcases k.2 with e | e
    · rw [e]; exact h.2
    · exact .inr fun i hi => Nat.le_trans h.1.size (e i hi)

theorem Gr.below {w w1 w2 : World} {v v1 : Value} (h : Gr w v w1 v1) (hb : Below w1.heap.size w1 w2) : Gr w v w2 v1 := h.trans ⟨grown_below hb _, .inl rfl⟩
theorem Gr.alloc {w w1 : World} {v v1 : Value} (h : Gr w v w1 v1) (o : Obj) : Gr w v (w1.alloc o) v1 := h.below (below_new w1 o)
theorem Gr.size {w w1 : World} {v v1 : Value} (h : Gr w v w1 v1) : w.heap.size ≤ w1.heap.size := h.1.size

/-- Two rows that do not lie in one block. -/
def Apart (v u : Value) : Prop := ∀ k, v.ownBlock = some k → u.ownBlock ≠ some k

theorem Apart.symm {v u : Value} (h : Apart v u) : Apart u v := fun k hk e => h k e hk

/-- What another row becomes. -/
theorem Gr.other {w w' : World} {v v' u : Value} {base n size : Nat} {e : TypeId} {xs : List Value} (h : Gr w v w' v') (ho : w.ownsRow base e size u n xs) (ha : Apart v u) : w'.ownsRow base e size u n xs ∧ Apart v' u := by
  refine ⟨ho.kept h.1 ?_, fun k hk e' => ?_⟩
  · cases hu : u.ownBlock with
    | none => exact .inl rfl
    | some k => right; intro e'; exact ha k e'.symm hu
  · rcases h.2 with e2 | e2
    · exact ha k (by rw [← e2]; exact hk) e'
    · have h1 := e2 k hk
      have h2 := (ho.lt k e').2
      omega

theorem Gr.bel {w w' : World} {v v' : Value} (h : Gr w v w' v') {B : Nat} (hB : ∀ k, v.ownBlock = some k → B ≤ k) (hs : B ≤ w.heap.size) : Below B w w' :=
  (Below.refl _ _).grown h.1 hs hB

theorem info_ints : (Try.prog.info? 3).map (fun i => (i.zero, i.size, i.bytes)) = some (some (.int .i64 0), 1, 8) := by kernel_rfl

/-- Returns a part. -/
def RetPt (w : World) (p : Pt) (e : Ending) (w' : World) : Prop := e = .returned (.agg #[.int .i64 p.k, .int .i64 p.a, .int .i64 p.b, .int .i64 p.c, .int .i64 p.n]) ∧ Below w.heap.size w w'

set_option maxHeartbeats 400000 in
theorem number_part (v : Int) (A : Option Addr) (n c : Nat) (w : World) : Calls Try.prog 102 #[.agg #[.int .i64 v], .slice A n c] w fun e w' => RetPt w ⟨0, -1, -1, -1, v⟩ e w' := by
  go_enter Try.func102, Try.ntmps102
  go_wp2
  refine bodyPost_ret (v := .agg #[.int .i64 0, .int .i64 (-1), .int .i64 (-1), .int .i64 (-1), .int .i64 v]) (by simp [results, Try.results102, go_sem]) rfl ⟨rfl, ?_⟩
  repeat (first | exact Below.refl _ _ | refine Below.setCell ?_ (by simp) _ | refine Below.alloc ?_ (by simp) _)

set_option maxHeartbeats 400000 in
theorem reading_part (v : Int) (A : Option Addr) (n c : Nat) (w : World) : Calls Try.prog 104 #[.agg #[.int .i64 v], .slice A n c] w fun e w' => RetPt w ⟨1, -1, -1, -1, v⟩ e w' := by
  go_enter Try.func104, Try.ntmps104
  go_wp2
  refine bodyPost_ret (v := .agg #[.int .i64 1, .int .i64 (-1), .int .i64 (-1), .int .i64 (-1), .int .i64 v]) (by simp [results, Try.results104, go_sem]) rfl ⟨rfl, ?_⟩
  repeat (first | exact Below.refl _ _ | refine Below.setCell ?_ (by simp) _ | refine Below.alloc ?_ (by simp) _)

set_option maxRecDepth 100000 in
set_option maxHeartbeats 800000 in
theorem pair_part (K : Int) (l r : Tm) (x y : Int) (b off c : Nat) (w : World) (hb : b < w.heap.size) (h0 : w.cell? ⟨b, off, none⟩ = some (.int .i64 x)) (h1 : w.cell? ⟨b, off + 1, none⟩ = some (.int .i64 y)) : Calls Try.prog 106 #[.agg #[.int .i64 K, l.val, r.val], .slice (some ⟨b, off, none⟩) 2 c] w fun e w' => RetPt w ⟨K, x, y, -1, 0⟩ e w' := by
  obtain ⟨T1, x1, e1⟩ := l.val_form
  obtain ⟨T2, x2, e2⟩ := r.val_form
  rw [e1, e2]
  clear e1 e2
  go_enter Try.func106, Try.ntmps106
  go_wp2
  go_region
  go_wp2
  refine bodyPost_ret (v := .agg #[.int .i64 K, .int .i64 x, .int .i64 y, .int .i64 (-1), .int .i64 0]) (by simp [results, Try.results106, go_sem]) rfl ⟨rfl, ?_⟩
  repeat (first | exact Below.refl _ _ | refine Below.setCell ?_ (by simp) _ | refine Below.alloc ?_ (by simp) _ | refine Below.drew ?_)

set_option maxRecDepth 100000 in
set_option maxHeartbeats 800000 in
theorem choice_part (t l r : Tm) (x y z : Int) (b off c : Nat) (w : World) (hb : b < w.heap.size) (h0 : w.cell? ⟨b, off, none⟩ = some (.int .i64 x)) (h1 : w.cell? ⟨b, off + 1, none⟩ = some (.int .i64 y)) (h2 : w.cell? ⟨b, off + 2, none⟩ = some (.int .i64 z)) : Calls Try.prog 108 #[.agg #[t.val, l.val, r.val], .slice (some ⟨b, off, none⟩) 3 c] w fun e w' => RetPt w ⟨8, x, y, z, 0⟩ e w' := by
  obtain ⟨T1, x1, e1⟩ := l.val_form
  obtain ⟨T2, x2, e2⟩ := r.val_form
  obtain ⟨T3, x3, e3⟩ := t.val_form
  rw [e1, e2, e3]
  clear e1 e2 e3
  go_enter Try.func108, Try.ntmps108
  go_wp2
  go_region
  go_wp2
  refine bodyPost_ret (v := .agg #[.int .i64 8, .int .i64 x, .int .i64 y, .int .i64 z, .int .i64 0]) (by simp [results, Try.results108, go_sem]) rfl ⟨rfl, ?_⟩
  repeat (first | exact Below.refl _ _ | refine Below.setCell ?_ (by simp) _ | refine Below.alloc ?_ (by simp) _ | refine Below.drew ?_)

/-- What a walk needs of a term's two methods. -/
theorem both_inv (t : Tm) : ∃ (T : TypeId) (x : Value) (fn fp : FuncId), t.val = .iface T x ∧ (∀ w, (method 218 T x "loop.example/signalgraph/impl.below").run Try.prog w = .ok (fn, x) w) ∧ (∀ w, (callFunc fn #[x]).run Try.prog w = .ok (.enter fn #[x]) w) ∧ (∀ w, Calls Try.prog fn #[x] w fun e w' => RetTs w t.kids e w') ∧
    (∀ w, (method 218 T x "loop.example/signalgraph/impl.part").run Try.prog w = .ok (fp, x) w) ∧ (∀ y w, (callFunc fp #[x, y]).run Try.prog w = .ok (.enter fp #[x, y]) w) ∧
    (∀ (w : World) (A : Option Addr) (n c : Nat) (at_ : List Int), at_.length = t.kids.length → n = t.kids.length → IS w w.heap.size A at_ → Calls Try.prog fp #[x, .slice A n c] w fun e w' => RetPt w (t.own at_) e w') := by
  cases t with
  | num v => exact ⟨_, _, 101, 102, rfl, fun w => by kernel_rfl, fun w => by kernel_rfl, fun w => number_below v w, fun w => by kernel_rfl, fun y w => by kernel_rfl, fun w A n c at_ _ _ _ => number_part v A n c w⟩
  | rd v => exact ⟨_, _, 103, 104, rfl, fun w => by kernel_rfl, fun w => by kernel_rfl, fun w => reading_below v w, fun w => by kernel_rfl, fun y w => by kernel_rfl, fun w A n c at_ _ _ _ => reading_part v A n c w⟩
  | pr k l r =>
    refine ⟨_, _, 105, 106, rfl, fun w => by kernel_rfl, fun w => by kernel_rfl, fun w => pair_below k l r w, fun w => by kernel_rfl, fun y w => by kernel_rfl, fun w A n c at_ hl hn h => ?_⟩
    simp only [Tm.kids, List.length_cons, List.length_nil] at hl hn
    subst hn
    obtain ⟨b, off, rfl, hb, hc⟩ := h (by omega)
    exact pair_part k l r _ _ b off c w hb (hc 0 (by omega)) (hc 1 (by omega))
  | ch t a b =>
    refine ⟨_, _, 107, 108, rfl, fun w => by kernel_rfl, fun w => by kernel_rfl, fun w => choice_below t a b w, fun w => by kernel_rfl, fun y w => by kernel_rfl, fun w A n c at_ hl hn h => ?_⟩
    simp only [Tm.kids, List.length_cons, List.length_nil] at hl hn
    subst hn
    obtain ⟨b', off, rfl, hb, hc⟩ := h (by omega)
    exact choice_part t a b _ _ _ b' off c w hb (hc 0 (by omega)) (hc 1 (by omega)) (hc 2 (by omega))

theorem cells_new (w : World) (cs : Array Value) (t : TypeId) (xs : List Value) (hx : cs.toList = xs) : ∀ j u, xs[j]? = some u → (w.alloc (.cells cs t)).cell? ((⟨w.heap.size, 0, none⟩ : Addr).add j) = some u := by
  subst hx
  intro j u hj
  have hadd : (⟨w.heap.size, 0, none⟩ : Addr).add j = ⟨w.heap.size, j, none⟩ := by unfold Addr.add; split <;> simp_all
  rw [hadd, cell_of_row _ w.heap.size j cs t (0, 0) (heap_alloc_new w _)]
  simpa using hj

/-- Returns a row of parts that has grown out of v. -/
def RetG (w : World) (v : Value) (base n : Nat) (ps : List Pt) (e : Ending) (w' : World) : Prop := ∃ v', e = .returned v' ∧ w'.ownsRow base 51 5 v' n (ps.flatMap Pt.cells) ∧ Gr w v w' v'

theorem Gr.elsewhere {w wr w' : World} {v0 v : Value} {row : Option Nat} (h : Gr w v0 wr v) (hg : wr.grownBy w' row) (hu : ∀ k, row = some k → w.heap.size ≤ k) : Gr w v0 w' v := by
  refine ⟨⟨hg.os.trans h.1.os, hg.tape.trans h.1.tape, hg.output.trans h.1.output, Nat.le_trans h.1.size hg.size, fun i hi hr => ?_⟩, h.2⟩
  have h1 := h.1.block i hi hr
  exact (hg.block i (Nat.lt_of_lt_of_le hi h.1.size) (fun e => by have := hu i e.symm; omega)).trans h1

theorem Gr.of_append {w w' : World} {v v' : Value} (h : w.grownBy w' v.ownBlock) (ha : v'.ownBlock = v.ownBlock ∨ v'.ownBlock = some w.heap.size) : Gr w v w' v' := by
  refine ⟨h, ?_⟩
  rcases ha with e | e
  · exact .inl e
  · right
    intro k hk
    rw [e] at hk
    cases hk
    exact Nat.le_refl _

/-- What holds at the head of the loop of appendParts. -/
structure LP (w : World) (v0 vk : Value) (base n L : Nat) (ps : List Pt) (ks : List Tm) (m nm : Nat) (v u : Value) (wr : World) : Prop where
  num : nm = n + ksize (ks.take m)
  row : wr.ownsRow base 51 5 v nm ((ps ++ kpost (ks.take m) n).flatMap Pt.cells)
  at_ : wr.ownsRow w.heap.size 3 1 u m ((kat (ks.take m) n).map (Value.int .i64))
  kids : wr.ownsRow w.heap.size 61 1 vk L (ks.map Tm.val)
  gr : Gr w v0 wr v
  avu : Apart v u
  avk : Apart v vk
  auk : Apart u vk

theorem take_succ_tm (ks : List Tm) (m : Nat) (h : m < ks.length) : ks.take (m + 1) = ks.take m ++ [ks.getD m default] := by
  rw [List.take_succ_eq_append_getElem h]; simp [List.getD, h]
end Go.Proofs.Yteeljfblncffpaa
