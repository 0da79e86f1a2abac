/- Texts put together: A14 A15 LW A20 G0 G1 M4 A16. -/
import Derived.Test.YthnilpibpmlaeaaZ02
import Derived.Deep.RegionWith
/- The contract of impl.evaluate, whatever it looks nodes up with. -/
namespace Go.Proofs.Ythnilpibpmlaeaa
set_option linter.unusedSimpArgs false
set_option linter.unusedVariables false
open Go.RowKit

theorem ta_NN (x : Value) (w : World) : (Instr.typeAssert (.iface 120 x) 116 120 true).run Try.prog w = .ok (.tuple #[x, .bool true]) w := by kernel_rfl
theorem ta_RN (x : Value) (w : World) : (Instr.typeAssert (.iface 122 x) 116 120 true).run Try.prog w = .ok (.tuple #[.agg #[.int .i64 0], .bool false]) w := by kernel_rfl
theorem ta_RR (x : Value) (w : World) : (Instr.typeAssert (.iface 122 x) 116 122 true).run Try.prog w = .ok (.tuple #[x, .bool true]) w := by kernel_rfl
theorem ta_PN (x : Value) (w : World) : (Instr.typeAssert (.iface 124 x) 116 120 true).run Try.prog w = .ok (.tuple #[.agg #[.int .i64 0], .bool false]) w := by kernel_rfl
theorem ta_PR (x : Value) (w : World) : (Instr.typeAssert (.iface 124 x) 116 122 true).run Try.prog w = .ok (.tuple #[.agg #[.int .i64 0], .bool false]) w := by kernel_rfl
theorem ta_PP (x : Value) (w : World) : (Instr.typeAssert (.iface 124 x) 116 124 true).run Try.prog w = .ok (.tuple #[x, .bool true]) w := by kernel_rfl
theorem ta_CN (x : Value) (w : World) : (Instr.typeAssert (.iface 126 x) 116 120 true).run Try.prog w = .ok (.tuple #[.agg #[.int .i64 0], .bool false]) w := by kernel_rfl
theorem ta_CR (x : Value) (w : World) : (Instr.typeAssert (.iface 126 x) 116 122 true).run Try.prog w = .ok (.tuple #[.agg #[.int .i64 0], .bool false]) w := by kernel_rfl
theorem ta_CP (x : Value) (w : World) : (Instr.typeAssert (.iface 126 x) 116 124 true).run Try.prog w = .ok (.tuple #[.agg #[.int .i64 0, .nilIface, .nilIface], .bool false]) w := by kernel_rfl
theorem ta_CC (x : Value) (w : World) : (Instr.typeAssert (.iface 126 x) 116 126 true).run Try.prog w = .ok (.tuple #[x, .bool true]) w := by kernel_rfl

/-- From w to w' only blocks of the footprint have turned; the footprint has got new blocks alone. -/
structure Fr (foot : World → Nat → Prop) (w w' : World) : Prop where
  size : w.heap.size ≤ w'.heap.size
  block : ∀ k, k < w.heap.size → ¬ foot w k → w'.heap[k]? = w.heap[k]?
  foot : ∀ k, foot w' k → foot w k ∨ w.heap.size ≤ k

theorem Fr.tr {foot : World → Nat → Prop} {a b c : World} (h : Fr foot a b) (k : Fr foot b c) : Fr foot a c :=
  ⟨Nat.le_trans h.size k.size, fun i hi hn => (k.block i (Nat.lt_of_lt_of_le hi h.size) fun hb => by
    rcases h.foot i hb with h1 | h1
    · exact hn h1
    · omega).trans (h.block i hi hn), fun i hi => by
    rcases k.foot i hi with h1 | h1
    · exact h.foot i h1
    · exact .inr (Nat.le_trans h.size h1)⟩

theorem Fr.cell {foot : World → Nat → Prop} {w w' : World} (h : Fr foot w w') {a : Addr} {v : Value} (hl : a.block < w.heap.size) (hn : ¬ foot w a.block) (hc : w.cell? a = some v) : w'.cell? a = some v :=
  (World.cell?_of_block (h.block a.block hl hn)).trans hc

theorem Fr.of_below {foot : World → Nat → Prop} {w w' : World} (h : Below w.heap.size w w') (hf : ∀ k, foot w' k → foot w k) : Fr foot w w' :=
  ⟨h.size, fun k hk _ => h.block k hk, fun k hk => .inl (hf k hk)⟩

set_option maxRecDepth 100000 in
set_option maxHeartbeats 3200000 in
theorem impl_evaluate1 (K : FuncId) (cap : Value) (vs : List Int) (hv : VOK vs) (foot : World → Nat → Prop) (I : List Int → World → Prop) (hG : ∀ acc w k, I acc w → foot w k → k < w.heap.size) (hI : ∀ acc w w', I acc w → Below w.heap.size w w' → I acc w' ∧ ∀ k, foot w' k → foot w k)
    (hcf : ∀ (q : Nat) (w : World), (callFunc K #[.int .i64 q, cap]).run Try.prog w = .ok (.enter K #[.int .i64 q, cap]) w)
    (hlook : ∀ (q : Nat) acc w, q < vs.length → I acc w → Calls Try.prog K #[.int .i64 q, cap] w fun e w' => e = .returned (.int .i64 (vs.getD q 0)) ∧ I (acc ++ [(q : Int)]) w' ∧ Fr foot w w') (t : Tm) :
    ∀ (acc : List Int) (w : World), t.ok vs.length → I acc w →
    Calls Try.prog 97 #[t.val, .func (.func K) #[] #[cap]] w fun e w' => e = .returned (.int .i64 (t.ev vs)) ∧ I (acc ++ t.rds vs) w' ∧ Fr foot w w' := by
  have HI := Lib.hid hI
  have HL := Lib.hid hlook
  have HV := Lib.hid hv
  have HG := Lib.hid hG
  have HCF := Lib.hid hcf
  clear hI hlook hv hG hcf
  induction t with
  | num v =>
    intro acc w hok h
    have H := Lib.hid h
    clear h hok
    show Calls _ _ #[.iface 120 (.agg #[.int .i64 v]), _] _ _
    have t1 := fun w => ta_NN (.agg #[.int .i64 v]) w
    go_enter Try.func97, Try.ntmps97
    go_wp2
    go_ret
    refine ⟨by simp [Tm.ev], ?_, Fr.of_below ((Below.refl w.heap.size w).alloc (Nat.le_refl _) _) (HI.out _ _ _ H.out ((Below.refl w.heap.size w).alloc (Nat.le_refl _) _)).2⟩
    have h1 := (HI.out _ _ _ H.out ((Below.refl w.heap.size w).alloc (Nat.le_refl _) (.cells #[.int .i64 v] 120))).1
    simpa [Tm.rds] using h1
  | rd v =>
    intro acc w hok h
    simp only [Tm.ok] at hok
    obtain ⟨q, rfl⟩ : ∃ q : Nat, v = (q : Int) := ⟨v.toNat, by omega⟩
    have hq : q < vs.length := by omega
    have HW0 := HI.out _ _ _ h ((Below.refl w.heap.size w).alloc (Nat.le_refl _) (.cells #[.int .i64 q] 122))
    have HW := Lib.hid HW0.1
    have HFR := Lib.hid (Fr.of_below (foot := foot) ((Below.refl w.heap.size w).alloc (Nat.le_refl _) (.cells #[.int .i64 q] 122)) HW0.2)
    have HNF := Lib.hid (show ¬ foot _ w.heap.size from fun hf => Nat.lt_irrefl _ (HG.out _ _ w.heap.size h (HW0.2 _ hf)))
    clear HW0
    clear h hok
    show Calls _ _ #[.iface 122 (.agg #[.int .i64 q]), _] _ _
    have t1 := fun w => ta_RN (.agg #[.int .i64 q]) w
    have t2 := fun w => ta_RR (.agg #[.int .i64 q]) w
    have hc := HCF.out q
    go_enter Try.func97, Try.ntmps97
    go_wp2_with fail
    refine (HL.out q acc _ hq HW.out).mono ?_
    rintro e w1 ⟨rfl, hI1, hg1⟩
    have H1 := Lib.hid hI1
    have HG1 := Lib.hid hg1
    clear hI1 hg1
    go_wp2
    go_ret
    exact ⟨by simp [Tm.ev, hq], H1.out, HFR.out.tr HG1.out⟩
  | pr k l r hl hr =>
    intro acc w hok h
    simp only [Tm.ok] at hok
    obtain ⟨T1, x1, e1⟩ := l.val_form
    obtain ⟨T2, x2, e2⟩ := r.val_form
    have HW0 := HI.out _ _ _ h ((Below.refl w.heap.size w).alloc (Nat.le_refl _) (.cells #[.int .i64 k, .iface T1 x1, .iface T2 x2] 124))
    have HW := Lib.hid HW0.1
    have HFR := Lib.hid (Fr.of_below (foot := foot) ((Below.refl w.heap.size w).alloc (Nat.le_refl _) (.cells #[.int .i64 k, .iface T1 x1, .iface T2 x2] 124)) HW0.2)
    have HNF := Lib.hid (show ¬ foot _ w.heap.size from fun hf => Nat.lt_irrefl _ (HG.out _ _ w.heap.size h (HW0.2 _ hf)))
    clear HW0
    obtain ⟨ex1, ex2⟩ := Tm.ev_bd vs HV.out l hok.1
    obtain ⟨ey1, ey2⟩ := Tm.ev_bd vs HV.out r hok.2
    have HLC := Lib.hid (fun acc w => hl acc w hok.1)
    have HRC := Lib.hid (fun acc w => hr acc w hok.2)
    have hev : (Tm.pr k l r).ev vs = jn k (l.ev vs) (r.ev vs) := rfl
    have hrd : (Tm.pr k l r).rds vs = l.rds vs ++ r.rds vs := rfl
    rw [hev, hrd]
    show Calls _ _ #[.iface 124 (.agg #[.int .i64 k, l.val, r.val]), _] _ _
    rw [e1, e2]
    rw [e1] at HLC
    rw [e2] at HRC
    generalize l.ev vs = xa at *
    generalize r.ev vs = xb at *
    generalize l.rds vs = ra at *
    generalize r.rds vs = rb at *
    clear h hok hl hr hev hrd e1 e2
    have t1 := fun w => ta_PN (.agg #[.int .i64 k, .iface T1 x1, .iface T2 x2]) w
    have t2 := fun w => ta_PR (.agg #[.int .i64 k, .iface T1 x1, .iface T2 x2]) w
    have t3 := fun w => ta_PP (.agg #[.int .i64 k, .iface T1 x1, .iface T2 x2]) w
    go_enter Try.func97, Try.ntmps97
    go_wp2_with fail
    refine (HLC.out acc _ HW.out).mono ?_
    rintro e w1 ⟨rfl, hI1, hg1⟩
    have q0 : w1.cell? ⟨w.heap.size, 0, none⟩ = some (.int .i64 k) := hg1.cell (a := ⟨w.heap.size, 0, none⟩) (by simp) HNF.out (by go_simp)
    have q2 : w1.cell? ⟨w.heap.size, 2, none⟩ = some (.iface T2 x2) := hg1.cell (a := ⟨w.heap.size, 2, none⟩) (by simp) HNF.out (by go_simp)
    have H1 := Lib.hid hI1
    have HG1 := Lib.hid (HFR.out.tr hg1)
    have hs1 : w.heap.size < w1.heap.size := by have := hg1.size; simp at this; omega
    have HNF1 := Lib.hid (show ¬ foot w1 w.heap.size from fun hf => (hg1.foot w.heap.size hf).elim HNF.out (fun h9 => by simp at h9; try omega))
    clear hI1 hg1
    go_wp2_with fail
    refine (HRC.out _ _ H1.out).mono ?_
    rintro e w2 ⟨rfl, hI2, hg2⟩
    have q0' : w2.cell? ⟨w.heap.size, 0, none⟩ = some (.int .i64 k) := hg2.cell (a := ⟨w.heap.size, 0, none⟩) hs1 HNF1.out q0
    have H2 := Lib.hid hI2
    have HG2 := Lib.hid (HG1.out.tr hg2)
    clear hI2 hg2 q0 q2
    go_wp2_with (go_at_call 102; refine (impl_combine k xa xb (by omega) (by omega) (by omega) (by omega) _).mono ?_; rintro e w3 ⟨rfl, rfl⟩)
    go_ret
    exact ⟨by simp, by rw [← List.append_assoc]; exact H2.out, HG2.out⟩
  | ch t a b ht ha hb =>
    intro acc w hok h
    simp only [Tm.ok] at hok
    obtain ⟨T1, x1, e1⟩ := t.val_form
    obtain ⟨T2, x2, e2⟩ := a.val_form
    obtain ⟨T3, x3, e3⟩ := b.val_form
    have HW0 := HI.out _ _ _ h ((Below.refl w.heap.size w).alloc (Nat.le_refl _) (.cells #[.iface T1 x1, .iface T2 x2, .iface T3 x3] 126))
    have HW := Lib.hid HW0.1
    have HFR := Lib.hid (Fr.of_below (foot := foot) ((Below.refl w.heap.size w).alloc (Nat.le_refl _) (.cells #[.iface T1 x1, .iface T2 x2, .iface T3 x3] 126)) HW0.2)
    have HNF := Lib.hid (show ¬ foot _ w.heap.size from fun hf => Nat.lt_irrefl _ (HG.out _ _ w.heap.size h (HW0.2 _ hf)))
    clear HW0
    have HTC := Lib.hid (fun acc w => ht acc w hok.1)
    have HAC := Lib.hid (fun acc w => ha acc w hok.2.1)
    have HBC := Lib.hid (fun acc w => hb acc w hok.2.2)
    have hev : (Tm.ch t a b).ev vs = if t.ev vs == 0 then b.ev vs else a.ev vs := rfl
    have hrd : (Tm.ch t a b).rds vs = t.rds vs ++ (if t.ev vs == 0 then b.rds vs else a.rds vs) := rfl
    rw [hev, hrd]
    show Calls _ _ #[.iface 126 (.agg #[t.val, a.val, b.val]), _] _ _
    rw [e1, e2, e3]
    rw [e1] at HTC
    rw [e2] at HAC
    rw [e3] at HBC
    have t1 := fun w => ta_CN (.agg #[.iface T1 x1, .iface T2 x2, .iface T3 x3]) w
    have t2 := fun w => ta_CR (.agg #[.iface T1 x1, .iface T2 x2, .iface T3 x3]) w
    have t3 := fun w => ta_CP (.agg #[.iface T1 x1, .iface T2 x2, .iface T3 x3]) w
    have t4 := fun w => ta_CC (.agg #[.iface T1 x1, .iface T2 x2, .iface T3 x3]) w
    cases hz : (t.ev vs == 0)
    · have hz' : (t.ev vs != 0) = true := by simp [bne, hz]
      simp only [Bool.false_eq_true, if_false]
      generalize t.ev vs = xt at *
      generalize a.ev vs = xa at *
      generalize t.rds vs = rt at *
      generalize a.rds vs = ra at *
      clear h hok ht ha hb hev hrd e1 e2 e3 hz
      go_enter Try.func97, Try.ntmps97
      go_wp2_with fail
      refine (HTC.out acc _ HW.out).mono ?_
      rintro e w1 ⟨rfl, hI1, hg1⟩
      have q1 : w1.cell? ⟨w.heap.size, 1, none⟩ = some (.iface T2 x2) := hg1.cell (a := ⟨w.heap.size, 1, none⟩) (by simp) HNF.out (by go_simp)
      have H1 := Lib.hid hI1
      have HG1 := Lib.hid (HFR.out.tr hg1)
      clear hI1 hg1
      go_wp2_with fail
      refine (HAC.out _ _ H1.out).mono ?_
      rintro e w2 ⟨rfl, hI2, hg2⟩
      have H2 := Lib.hid hI2
      have HG2 := Lib.hid (HG1.out.tr hg2)
      clear hI2 hg2
      go_wp2
      go_ret
      exact ⟨by simp, by rw [← List.append_assoc]; exact H2.out, HG2.out⟩
    · have hz' : (t.ev vs != 0) = false := by simp [bne, hz]
      simp only [if_true]
      generalize t.ev vs = xt at *
      generalize b.ev vs = xb at *
      generalize t.rds vs = rt at *
      generalize b.rds vs = rb at *
      clear h hok ht ha hb hev hrd e1 e2 e3 hz
      go_enter Try.func97, Try.ntmps97
      go_wp2_with fail
      refine (HTC.out acc _ HW.out).mono ?_
      rintro e w1 ⟨rfl, hI1, hg1⟩
      have q1 : w1.cell? ⟨w.heap.size, 2, none⟩ = some (.iface T3 x3) := hg1.cell (a := ⟨w.heap.size, 2, none⟩) (by simp) HNF.out (by go_simp)
      have H1 := Lib.hid hI1
      have HG1 := Lib.hid (HFR.out.tr hg1)
      clear hI1 hg1
      go_wp2_with fail
      refine (HBC.out _ _ H1.out).mono ?_
      rintro e w2 ⟨rfl, hI2, hg2⟩
      have H2 := Lib.hid hI2
      have HG2 := Lib.hid (HG1.out.tr hg2)
      clear hI2 hg2
      go_wp2
      go_ret
      exact ⟨by simp, by rw [← List.append_assoc]; exact H2.out, HG2.out⟩

set_option maxRecDepth 100000 in
set_option maxHeartbeats 3200000 in
theorem impl_evaluate2 (K : FuncId) (cap cap2 : Value) (vs : List Int) (hv : VOK vs) (foot : World → Nat → Prop) (I : List Int → World → Prop) (hG : ∀ acc w k, I acc w → foot w k → k < w.heap.size) (hI : ∀ acc w w', I acc w → Below w.heap.size w w' → I acc w' ∧ ∀ k, foot w' k → foot w k)
    (hcf : ∀ (q : Nat) (w : World), (callFunc K #[.int .i64 q, cap, cap2]).run Try.prog w = .ok (.enter K #[.int .i64 q, cap, cap2]) w)
    (hlook : ∀ (q : Nat) acc w, q < vs.length → I acc w → Calls Try.prog K #[.int .i64 q, cap, cap2] w fun e w' => e = .returned (.int .i64 (vs.getD q 0)) ∧ I (acc ++ [(q : Int)]) w' ∧ Fr foot w w') (t : Tm) :
    ∀ (acc : List Int) (w : World), t.ok vs.length → I acc w →
    Calls Try.prog 97 #[t.val, .func (.func K) #[] #[cap, cap2]] w fun e w' => e = .returned (.int .i64 (t.ev vs)) ∧ I (acc ++ t.rds vs) w' ∧ Fr foot w w' := by
  have HI := Lib.hid hI
  have HL := Lib.hid hlook
  have HV := Lib.hid hv
  have HG := Lib.hid hG
  have HCF := Lib.hid hcf
  clear hI hlook hv hG hcf
  induction t with
  | num v =>
    intro acc w hok h
    have H := Lib.hid h
    clear h hok
    show Calls _ _ #[.iface 120 (.agg #[.int .i64 v]), _] _ _
    have t1 := fun w => ta_NN (.agg #[.int .i64 v]) w
    go_enter Try.func97, Try.ntmps97
    go_wp2
    go_ret
    refine ⟨by simp [Tm.ev], ?_, Fr.of_below ((Below.refl w.heap.size w).alloc (Nat.le_refl _) _) (HI.out _ _ _ H.out ((Below.refl w.heap.size w).alloc (Nat.le_refl _) _)).2⟩
    have h1 := (HI.out _ _ _ H.out ((Below.refl w.heap.size w).alloc (Nat.le_refl _) (.cells #[.int .i64 v] 120))).1
    simpa [Tm.rds] using h1
  | rd v =>
    intro acc w hok h
    simp only [Tm.ok] at hok
    obtain ⟨q, rfl⟩ : ∃ q : Nat, v = (q : Int) := ⟨v.toNat, by omega⟩
    have hq : q < vs.length := by omega
    have HW0 := HI.out _ _ _ h ((Below.refl w.heap.size w).alloc (Nat.le_refl _) (.cells #[.int .i64 q] 122))
    have HW := Lib.hid HW0.1
    have HFR := Lib.hid (Fr.of_below (foot := foot) ((Below.refl w.heap.size w).alloc (Nat.le_refl _) (.cells #[.int .i64 q] 122)) HW0.2)
    have HNF := Lib.hid (show ¬ foot _ w.heap.size from fun hf => Nat.lt_irrefl _ (HG.out _ _ w.heap.size h (HW0.2 _ hf)))
    clear HW0
    clear h hok
    show Calls _ _ #[.iface 122 (.agg #[.int .i64 q]), _] _ _
    have t1 := fun w => ta_RN (.agg #[.int .i64 q]) w
    have t2 := fun w => ta_RR (.agg #[.int .i64 q]) w
    have hc := HCF.out q
    go_enter Try.func97, Try.ntmps97
    go_wp2_with fail
    refine (HL.out q acc _ hq HW.out).mono ?_
    rintro e w1 ⟨rfl, hI1, hg1⟩
    have H1 := Lib.hid hI1
    have HG1 := Lib.hid hg1
    clear hI1 hg1
    go_wp2
    go_ret
    exact ⟨by simp [Tm.ev, hq], H1.out, HFR.out.tr HG1.out⟩
  | pr k l r hl hr =>
    intro acc w hok h
    simp only [Tm.ok] at hok
    obtain ⟨T1, x1, e1⟩ := l.val_form
    obtain ⟨T2, x2, e2⟩ := r.val_form
    have HW0 := HI.out _ _ _ h ((Below.refl w.heap.size w).alloc (Nat.le_refl _) (.cells #[.int .i64 k, .iface T1 x1, .iface T2 x2] 124))
    have HW := Lib.hid HW0.1
    have HFR := Lib.hid (Fr.of_below (foot := foot) ((Below.refl w.heap.size w).alloc (Nat.le_refl _) (.cells #[.int .i64 k, .iface T1 x1, .iface T2 x2] 124)) HW0.2)
    have HNF := Lib.hid (show ¬ foot _ w.heap.size from fun hf => Nat.lt_irrefl _ (HG.out _ _ w.heap.size h (HW0.2 _ hf)))
    clear HW0
    obtain ⟨ex1, ex2⟩ := Tm.ev_bd vs HV.out l hok.1
    obtain ⟨ey1, ey2⟩ := Tm.ev_bd vs HV.out r hok.2
    have HLC := Lib.hid (fun acc w => hl acc w hok.1)
    have HRC := Lib.hid (fun acc w => hr acc w hok.2)
    have hev : (Tm.pr k l r).ev vs = jn k (l.ev vs) (r.ev vs) := rfl
    have hrd : (Tm.pr k l r).rds vs = l.rds vs ++ r.rds vs := rfl
    rw [hev, hrd]
    show Calls _ _ #[.iface 124 (.agg #[.int .i64 k, l.val, r.val]), _] _ _
    rw [e1, e2]
    rw [e1] at HLC
    rw [e2] at HRC
    generalize l.ev vs = xa at *
    generalize r.ev vs = xb at *
    generalize l.rds vs = ra at *
    generalize r.rds vs = rb at *
    clear h hok hl hr hev hrd e1 e2
    have t1 := fun w => ta_PN (.agg #[.int .i64 k, .iface T1 x1, .iface T2 x2]) w
    have t2 := fun w => ta_PR (.agg #[.int .i64 k, .iface T1 x1, .iface T2 x2]) w
    have t3 := fun w => ta_PP (.agg #[.int .i64 k, .iface T1 x1, .iface T2 x2]) w
    go_enter Try.func97, Try.ntmps97
    go_wp2_with fail
    refine (HLC.out acc _ HW.out).mono ?_
    rintro e w1 ⟨rfl, hI1, hg1⟩
    have q0 : w1.cell? ⟨w.heap.size, 0, none⟩ = some (.int .i64 k) := hg1.cell (a := ⟨w.heap.size, 0, none⟩) (by simp) HNF.out (by go_simp)
    have q2 : w1.cell? ⟨w.heap.size, 2, none⟩ = some (.iface T2 x2) := hg1.cell (a := ⟨w.heap.size, 2, none⟩) (by simp) HNF.out (by go_simp)
    have H1 := Lib.hid hI1
    have HG1 := Lib.hid (HFR.out.tr hg1)
    have hs1 : w.heap.size < w1.heap.size := by have := hg1.size; simp at this; omega
    have HNF1 := Lib.hid (show ¬ foot w1 w.heap.size from fun hf => (hg1.foot w.heap.size hf).elim HNF.out (fun h9 => by simp at h9; try omega))
    clear hI1 hg1
    go_wp2_with fail
    refine (HRC.out _ _ H1.out).mono ?_
    rintro e w2 ⟨rfl, hI2, hg2⟩
    have q0' : w2.cell? ⟨w.heap.size, 0, none⟩ = some (.int .i64 k) := hg2.cell (a := ⟨w.heap.size, 0, none⟩) hs1 HNF1.out q0
    have H2 := Lib.hid hI2
    have HG2 := Lib.hid (HG1.out.tr hg2)
    clear hI2 hg2 q0 q2
    go_wp2_with (go_at_call 102; refine (impl_combine k xa xb (by omega) (by omega) (by omega) (by omega) _).mono ?_; rintro e w3 ⟨rfl, rfl⟩)
    go_ret
    exact ⟨by simp, by rw [← List.append_assoc]; exact H2.out, HG2.out⟩
  | ch t a b ht ha hb =>
    intro acc w hok h
    simp only [Tm.ok] at hok
    obtain ⟨T1, x1, e1⟩ := t.val_form
    obtain ⟨T2, x2, e2⟩ := a.val_form
    obtain ⟨T3, x3, e3⟩ := b.val_form
    have HW0 := HI.out _ _ _ h ((Below.refl w.heap.size w).alloc (Nat.le_refl _) (.cells #[.iface T1 x1, .iface T2 x2, .iface T3 x3] 126))
    have HW := Lib.hid HW0.1
    have HFR := Lib.hid (Fr.of_below (foot := foot) ((Below.refl w.heap.size w).alloc (Nat.le_refl _) (.cells #[.iface T1 x1, .iface T2 x2, .iface T3 x3] 126)) HW0.2)
    have HNF := Lib.hid (show ¬ foot _ w.heap.size from fun hf => Nat.lt_irrefl _ (HG.out _ _ w.heap.size h (HW0.2 _ hf)))
    clear HW0
    have HTC := Lib.hid (fun acc w => ht acc w hok.1)
    have HAC := Lib.hid (fun acc w => ha acc w hok.2.1)
    have HBC := Lib.hid (fun acc w => hb acc w hok.2.2)
    have hev : (Tm.ch t a b).ev vs = if t.ev vs == 0 then b.ev vs else a.ev vs := rfl
    have hrd : (Tm.ch t a b).rds vs = t.rds vs ++ (if t.ev vs == 0 then b.rds vs else a.rds vs) := rfl
    rw [hev, hrd]
    show Calls _ _ #[.iface 126 (.agg #[t.val, a.val, b.val]), _] _ _
    rw [e1, e2, e3]
    rw [e1] at HTC
    rw [e2] at HAC
    rw [e3] at HBC
    have t1 := fun w => ta_CN (.agg #[.iface T1 x1, .iface T2 x2, .iface T3 x3]) w
    have t2 := fun w => ta_CR (.agg #[.iface T1 x1, .iface T2 x2, .iface T3 x3]) w
    have t3 := fun w => ta_CP (.agg #[.iface T1 x1, .iface T2 x2, .iface T3 x3]) w
    have t4 := fun w => ta_CC (.agg #[.iface T1 x1, .iface T2 x2, .iface T3 x3]) w
    cases hz : (t.ev vs == 0)
    · have hz' : (t.ev vs != 0) = true := by simp [bne, hz]
      simp only [Bool.false_eq_true, if_false]
      generalize t.ev vs = xt at *
      generalize a.ev vs = xa at *
      generalize t.rds vs = rt at *
      generalize a.rds vs = ra at *
      clear h hok ht ha hb hev hrd e1 e2 e3 hz
      go_enter Try.func97, Try.ntmps97
      go_wp2_with fail
      refine (HTC.out acc _ HW.out).mono ?_
      rintro e w1 ⟨rfl, hI1, hg1⟩
      have q1 : w1.cell? ⟨w.heap.size, 1, none⟩ = some (.iface T2 x2) := hg1.cell (a := ⟨w.heap.size, 1, none⟩) (by simp) HNF.out (by go_simp)
      have H1 := Lib.hid hI1
      have HG1 := Lib.hid (HFR.out.tr hg1)
      clear hI1 hg1
      go_wp2_with fail
      refine (HAC.out _ _ H1.out).mono ?_
      rintro e w2 ⟨rfl, hI2, hg2⟩
      have H2 := Lib.hid hI2
      have HG2 := Lib.hid (HG1.out.tr hg2)
      clear hI2 hg2
      go_wp2
      go_ret
      exact ⟨by simp, by rw [← List.append_assoc]; exact H2.out, HG2.out⟩
    · have hz' : (t.ev vs != 0) = false := by simp [bne, hz]
      simp only [if_true]
      generalize t.ev vs = xt at *
      generalize b.ev vs = xb at *
      generalize t.rds vs = rt at *
      generalize b.rds vs = rb at *
      clear h hok ht ha hb hev hrd e1 e2 e3 hz
      go_enter Try.func97, Try.ntmps97
      go_wp2_with fail
      refine (HTC.out acc _ HW.out).mono ?_
      rintro e w1 ⟨rfl, hI1, hg1⟩
      have q1 : w1.cell? ⟨w.heap.size, 2, none⟩ = some (.iface T3 x3) := hg1.cell (a := ⟨w.heap.size, 2, none⟩) (by simp) HNF.out (by go_simp)
      have H1 := Lib.hid hI1
      have HG1 := Lib.hid (HFR.out.tr hg1)
      clear hI1 hg1
      go_wp2_with fail
      refine (HBC.out _ _ H1.out).mono ?_
      rintro e w2 ⟨rfl, hI2, hg2⟩
      have H2 := Lib.hid hI2
      have HG2 := Lib.hid (HG1.out.tr hg2)
      clear hI2 hg2
      go_wp2
      go_ret
      exact ⟨by simp, by rw [← List.append_assoc]; exact H2.out, HG2.out⟩
end Go.Proofs.Ythnilpibpmlaeaa

/- ValueOf and ReadsOf's values: both sides. -/
namespace Go.Proofs.Ythnilpibpmlaeaa
set_option linter.unusedSimpArgs false
set_option linter.unusedVariables false
open Go.RowKit

theorem mayR_sorted (ps : List Pt) : (mayR ps).Pairwise (· < ·) := by
  unfold mayR
  rw [List.pairwise_map]
  exact (List.pairwise_lt_range.filter _).imp (by intro a b h; omega)

theorem mem_mayR (ps : List Pt) (x : Int) : x ∈ mayR ps ↔ ∃ m : Nat, m < 10 ∧ hasNode ps m = true ∧ x = m := by
  unfold mayR
  simp only [List.mem_map, List.mem_filter, List.mem_range]
  constructor
  · rintro ⟨m, ⟨h1, h2⟩, rfl⟩; exact ⟨m, h1, h2, rfl⟩
  · rintro ⟨m, h1, h2, rfl⟩; exact ⟨m, ⟨h1, h2⟩, rfl⟩

theorem le_last (l : List Int) (h : l.Pairwise (· < ·)) (x : Int) (hx : x ∈ l) : x ≤ l.getD (l.length - 1) 0 := by
  obtain ⟨i, hi, rfl⟩ := List.mem_iff_getElem.1 hx
  have hl : l.length - 1 < l.length := by omega
  rw [show l.getD (l.length - 1) 0 = l[l.length - 1] by simp [List.getD, hl]]
  rcases Nat.lt_or_ge i (l.length - 1) with h1 | h1
  · have := List.pairwise_iff_getElem.1 h i (l.length - 1) hi hl h1
    omega
  · have : i = l.length - 1 := by omega
    subst this
    exact Int.le_refl _

theorem last_each (ps : List Pt) (n : Nat) (hg : AllGood ps) : lastOK (mayR ps) n = eachOK ps n := by
  rw [Bool.eq_iff_iff]
  unfold lastOK eachOK
  simp only [Bool.or_eq_true, decide_eq_true_eq, List.all_eq_true]
  constructor
  · intro h p hp
    cases hq : (p.k == 1 && decide ((n : Int) ≤ p.n))
    · rfl
    · exfalso
      simp only [Bool.and_eq_true, beq_iff_eq, decide_eq_true_eq] at hq
      obtain ⟨i, hi, rfl⟩ := List.mem_iff_getElem.1 hp
      have hgi := hg i hi
      rw [show ps.getD i default = ps[i] by simp [List.getD, hi]] at hgi
      have hr := (good_num _ _ hgi).2 hq.1
      have hm : ps[i].n ∈ mayR ps := by
        rw [mem_mayR]
        refine ⟨ps[i].n.toNat, by omega, ?_, by omega⟩
        unfold hasNode
        rw [List.any_eq_true]
        exact ⟨ps[i], hp, by simp [hq.1]; omega⟩
      rcases h with h | h
      · rw [List.eq_nil_of_length_eq_zero h] at hm; cases hm
      · have := le_last _ (mayR_sorted ps) _ hm
        omega
  · intro h
    by_cases h0 : (mayR ps).length = 0
    · exact .inl h0
    · right
      have hl : (mayR ps).length - 1 < (mayR ps).length := by omega
      have hm : (mayR ps).getD ((mayR ps).length - 1) 0 ∈ mayR ps := by simp [List.getD, hl]
      generalize (mayR ps).getD ((mayR ps).length - 1) 0 = x at *
      rw [mem_mayR] at hm
      obtain ⟨m, hm1, hm2, rfl⟩ := hm
      unfold hasNode at hm2
      rw [List.any_eq_true] at hm2
      obtain ⟨p, hp, hpp⟩ := hm2
      have := h p hp
      simp only [Bool.and_eq_true, beq_iff_eq] at hpp
      rw [hpp.1, hpp.2] at this
      simp at this
      omega

theorem canEv_val (ps : List Pt) (vs : List Int) (hv : validF ps = true) : valOK ps vs = canEv ps vs := by
  unfold valOK canEv
  rw [hv, last_each ps vs.length (validF_good ps hv).1]
  cases allR vs 0 999 <;> cases decide (vs.length ≤ 10) <;> simp

theorem allR_VOK (vs : List Int) (h : allR vs 0 999 = true) : VOK vs := by
  intro j hj
  unfold allR at h
  rw [List.all_eq_true] at h
  have := h (vs.getD j 0) (by simp [List.getD, hj])
  simpa [rng] using this

theorem canEv_parts (ps : List Pt) (vs : List Int) (h : canEv ps vs = true) : validF ps = true ∧ VOK vs ∧ vs.length ≤ 10 ∧ eachOK ps vs.length = true := by
  unfold canEv at h
  simp only [Bool.and_eq_true, decide_eq_true_eq] at h
  exact ⟨h.1, allR_VOK vs h.2.1.2, h.2.1.1, h.2.2⟩

/-- The whole of a formula as a term. -/
def whole (ps : List Pt) : Tm := tmAt ps ps.length (ps.length - 1)

set_option maxHeartbeats 800000 in
theorem spec_run (A A' : Option Addr) (n c m c' : Nat) (ps : List Pt) (vs : List Int) (B : Nat) (hn : n = ps.length) (hm : m = vs.length) (hg : AllGood ps) (he : eachOK ps m = true) (hv : VOK vs) (h1 : 1 ≤ n) (h12 : n ≤ 12) (hs' : m ≤ 2000000) (w : World) (hB : B ≤ w.heap.size) (h : PS w B A ps) (h' : IS w B A' vs) :
    Calls Try.prog 70 #[.agg #[.slice A n c], .slice A' m c'] w fun e w' => RetVN w ((whole ps).ev vs) (firsts ((whole ps).rds vs)) e w' := by
  have hwh : whole ps = tmAt ps n (n - 1) := by rw [hn]; rfl
  have hln := rds_len ps vs n (n - 1)
  have h3n : 3 ^ n ≤ 531441 := Nat.pow_le_pow_right (by omega) (show n ≤ 12 from h12)
  rw [← hwh] at hln
  have HW := Lib.hid hwh
  have H := Lib.hid h
  have H' := Lib.hid h'
  have HR := Lib.hid (fun (k : Nat) (hk : n = k + 1) (w : World) => spec_reckoned A A' n c m c' ps vs B hn hm hg he hv (by omega) hs' n h12 k w (by omega) (by omega))
  obtain ⟨k, rfl⟩ : ∃ k, n = k + 1 := ⟨n - 1, by omega⟩
  have HK := Lib.hid (HR.out k rfl)
  clear h h' hn hm hg he hv hwh HR
  rw [show tmAt ps (k + 1) k = whole ps from by have := HW.out; simpa using this.symm] at HK
  generalize hwe : whole ps = t at *
  clear HW hwe
  go_enter Try.func70, Try.ntmps70
  go_wp2_with fail
  refine (HK.out _ (by simp; omega) (H.out.alloc hB _) (H'.out.alloc hB _)).mono ?_
  rintro e w1 ⟨v, rfl, hown, hb⟩
  obtain ⟨g, d, rfl, hg1, hg2⟩ := hown.form
  have HI := Lib.hid (IS.of_own hown.1)
  generalize hl : (t.rds vs).length = l at *
  have HL := Lib.hid hl.symm
  clear hown hl
  go_wp2_with fail
  refine (spec_firstOnly _ _ _ _ _ w1.heap.size (Nat.le_refl _) HL.out HI.out (by omega)).mono ?_
  rintro e w2 ⟨v2, rfl, hown2, hb2⟩
  have hw1 : w.heap.size ≤ w1.heap.size := by have := hb.size; simp at this; omega
  go_wp2
  go_ret2
  exact ⟨v2, by simp, ⟨own_mono hown2.1 hw1, hown2.2⟩, ((Below.refl _ _).alloc (Nat.le_refl _) _).trans ((hb.trans (hb2.mono hb.size)).mono (by simp))⟩

/-- What ValueOf answers. -/
def valF (ps : List Pt) (vs : List Int) : Int := if canEv ps vs then (whole ps).ev vs else 0

end Go.Proofs.Ythnilpibpmlaeaa

/- Words for the walks of laws: what holds of the arguments, of a formula in a box, of a list, from call to call. -/
namespace Go.Proofs.Ythnilpibpmlaeaa
set_option linter.unusedSimpArgs false
set_option linter.unusedVariables false
open Go.RowKit

/-- The law's arguments: the formula in its box, the list; nothing that was there has turned. -/
structure LS (w : World) (A : Option Addr) (n c : Nat) (ps : List Pt) (A' : Option Addr) (vs : List Int) (wk : World) : Prop where
  bel : Below w.heap.size w wk
  lt : w.heap.size < wk.heap.size
  box : wk.cell? ⟨w.heap.size, 0, none⟩ = some (.slice A n c)
  parts : PS wk w.heap.size A ps
  ints : IS wk w.heap.size A' vs

section
variable {w : World} {A : Option Addr} {n c : Nat} {ps : List Pt} {A' : Option Addr} {vs : List Int} {wk wl : World}
theorem LS.start (h : PS w w.heap.size A ps) (h' : IS w w.heap.size A' vs) (t : TypeId) : LS w A n c ps A' vs (w.alloc (.cells #[.slice A n c] t)) :=
  ⟨(Below.refl _ _).alloc (Nat.le_refl _) _, by simp, by go_simp, h.alloc (Nat.le_refl _) _, h'.alloc (Nat.le_refl _) _⟩
theorem LS.step (h : LS w A n c ps A' vs wk) (hb : Below wk.heap.size wk wl) : LS w A n c ps A' vs wl :=
  ⟨h.bel.trans (hb.mono (by have := h.lt; omega)), Nat.lt_of_lt_of_le h.lt hb.size, (hb.cell (p := ⟨w.heap.size, 0, none⟩) h.lt).trans h.box, h.parts.below hb (by have := h.lt; omega), h.ints.below hb (by have := h.lt; omega)⟩
theorem LS.alloc (h : LS w A n c ps A' vs wk) (o : Obj) : LS w A n c ps A' vs (wk.alloc o) := h.step ((Below.refl _ _).alloc (Nat.le_refl _) o)
end

/-- A formula in a box of the call's own. -/
structure FB (g : Nat) (A : Option Addr) (n c : Nat) (ps : List Pt) (wk : World) : Prop where
  lt : g < wk.heap.size
  box : wk.cell? ⟨g, 0, none⟩ = some (.slice A n c)
  parts : PS wk wk.heap.size A ps

section
variable {g : Nat} {A : Option Addr} {n c : Nat} {ps : List Pt} {wk wl : World}
theorem FB.start (h : PS wk wk.heap.size A ps) (t : TypeId) : FB wk.heap.size A n c ps (wk.alloc (.cells #[.slice A n c] t)) :=
  ⟨by simp, by go_simp, (h.alloc (Nat.le_refl _) _).more (by simp)⟩
theorem FB.step (h : FB g A n c ps wk) (hb : Below wk.heap.size wk wl) : FB g A n c ps wl :=
  ⟨Nat.lt_of_lt_of_le h.lt hb.size, (hb.cell (p := ⟨g, 0, none⟩) h.lt).trans h.box, (h.parts.below hb (Nat.le_refl _)).more hb.size⟩
end

theorem PS.step {A : Option Addr} {ps : List Pt} {wk wl : World} (h : PS wk wk.heap.size A ps) (hb : Below wk.heap.size wk wl) : PS wl wl.heap.size A ps := (h.below hb (Nat.le_refl _)).more hb.size
theorem IS.step {A : Option Addr} {xs : List Int} {wk wl : World} (h : IS wk wk.heap.size A xs) (hb : Below wk.heap.size wk wl) : IS wl wl.heap.size A xs := (h.below hb (Nat.le_refl _)).more hb.size
theorem below_new (wk : World) (o : Obj) : Below wk.heap.size wk (wk.alloc o) := (Below.refl _ _).alloc (Nat.le_refl _) o
end Go.Proofs.Ythnilpibpmlaeaa

/- Marks: laws.markIntS, markPartS, markFormula write a row of numbers, heldIntS, heldPartS, heldFormula read it; what lies in other blocks stays. -/
namespace Go.Proofs.Ythnilpibpmlaeaa
set_option linter.unusedSimpArgs false
set_option linter.unusedVariables false
open Go.RowKit

/-- A row of numbers from k on. -/
def mks (k : Int) (m : Nat) : List Value := (List.range m).map fun j : Nat => Value.int .i64 (k + j)

theorem mks_len (k : Int) (m : Nat) : (mks k m).length = m := by simp [mks]
theorem mks_get (k : Int) (m j : Nat) (h : j < m) : (mks k m)[j]? = some (.int .i64 (k + j)) := by simp [mks, h]
theorem mks_succ (k : Int) (m : Nat) : mks k (m + 1) = mks k m ++ [.int .i64 (k + m)] := by simp [mks, List.range_succ]

theorem mks_five (k : Int) (m : Nat) : mks k (m + 5) = mks k m ++ (⟨k + m, k + m + 1, k + m + 2, k + m + 3, k + m + 4⟩ : Pt).cells := by
  rw [mks_succ k (m + 4), mks_succ k (m + 3), mks_succ k (m + 2), mks_succ k (m + 1), mks_succ k m]
  simp [Pt.cells]
  omega

theorem mks_five' (k k5 : Int) (m : Nat) (h : k5 = k + m) : mks k (m + 5) = mks k m ++ (⟨k5, k5 + 1, k5 + 1 + 1, k5 + 1 + 1 + 1, k5 + 1 + 1 + 1 + 1⟩ : Pt).cells := by
  have e : (⟨k5, k5 + 1, k5 + 1 + 1, k5 + 1 + 1 + 1, k5 + 1 + 1 + 1 + 1⟩ : Pt) = ⟨k + m, k + m + 1, k + m + 2, k + m + 3, k + m + 4⟩ := by subst h; congr 1; omega; omega; omega
  rw [mks_five, e]

theorem grown_tr {a b c : World} {row : Option Nat} (h : a.grownBy b row) (k : b.grownBy c row) : a.grownBy c row :=
  ⟨k.os.trans h.os, k.tape.trans h.tape, k.output.trans h.output, Nat.le_trans h.size k.size, fun i hi hr => (k.block i (Nat.lt_of_lt_of_le hi h.size) hr).trans (h.block i hi hr)⟩
theorem grown_refl (a : World) (row : Option Nat) : a.grownBy a row := ⟨rfl, rfl, rfl, Nat.le_refl _, fun _ _ _ => rfl⟩
theorem grown_below {w w' : World} (h : Below w.heap.size w w') (row : Option Nat) : w.grownBy w' row :=
  ⟨h.os, h.tape, h.output, h.size, fun k hk _ => h.block k hk⟩

/-- What a mark leaves. -/
def Marked (w : World) (base : Nat) (e : TypeId) (size : Nat) (v : Value) (n : Nat) (k : Int) (r : Ending) (w' : World) : Prop :=
  r = .returned (.int .i64 (k + ((n * size : Nat) : Int))) ∧ w'.ownsRow base e size v n (mks k (n * size)) ∧ w.grownBy w' v.ownBlock

set_option maxHeartbeats 800000 in
theorem laws_markIntS (base n : Nat) (v : Value) (xs : List Value) (k : Int) (w : World) (h : w.ownsRow base 3 1 v n xs) (hk : 0 ≤ k) (hk' : k ≤ 1125899906842624) (hs : n ≤ 2000000) :
    Calls Try.prog 20 #[v, .int .i64 k] w fun e w' => Marked w base 3 1 v n k e w' := by
  rcases h.2 with ⟨rfl, rfl⟩ | ⟨g, cap, _, rfl, hbg, hgh, _⟩
  · clear h
    go_enter Try.func20, Try.ntmps20
    go_wp2
    go_loopw [5, 1] (fun i u wr => i = .int .i64 0 ∧ u = .int .i64 k ∧ wr = w) (fun i _ _ => 0)
    case atStart => exact ⟨rfl, rfl, rfl⟩
    case round =>
      obtain ⟨rfl, rfl, rfl⟩ := hrel
      go_wp2
      go_ret
      exact ⟨by simp, World.ownsRow_nil _ _ _ _, grown_refl _ _⟩
  · have HO := Lib.hid h
    have hgl : g < w.heap.size := (h.lt g rfl).2
    clear h hgh
    go_enter Try.func20, Try.ntmps20
    go_wp2
    go_loopw [5, 1] (fun i u wr => ∃ (j : Nat) (ys : List Value), j ≤ n ∧ i = .int .i64 j ∧ u = .int .i64 (k + j) ∧ Hid (wr.ownsRow base 3 1 (.slice (some ⟨g, 0, none⟩) n cap) n ys) ∧ Hid (ys.take j = mks k j) ∧ Hid (w.grownBy wr (some g))) (fun i _ _ => n - (intOf i).toNat)
    case atStart => exact ⟨0, xs, by omega, rfl, by simp, HO.out, by simp [Hid, mks], grown_refl _ _⟩
    case round =>
      obtain ⟨j, ys, hj, rfl, rfl, HY, HT, HGR⟩ := hrel
      by_cases hlt : j < n
      · have hl : ys.length = n * 1 := HY.out.1
        have u0 := HY.out.cellAt j (by omega)
        rw [List.getElem?_eq_getElem (by omega)] at u0
        have f0 := HY.out.frozenAt j
        generalize ys[j]'(by omega) = v0 at u0
        have HL := Lib.hid hl
        clear hl
        go_wp2
        all_goals try (go_region; go_wp2)
        all_goals go_roundw
        case rel =>
          have ho := HY.out.stored j (.int .i64 (k + j))
          refine ⟨j + 1, _, by omega, by go_num, by go_num, by first | exact ho.1 | exact ho.1.drew, ?_, by first | exact grown_tr HGR.out ho.2 | exact grown_tr HGR.out ⟨ho.2.os, ho.2.tape, ho.2.output, ho.2.size, ho.2.block⟩⟩
          rw [mks_succ, ← HT.out]
          exact take_set1 ys j _ (by have := HL.out; omega)
        case measure => simp [intOf]; omega
      · obtain rfl : j = n := by omega
        go_wp2
        go_ret
        refine ⟨by simp, ?_, HGR.out⟩
        have h1 := HT.out
        have h2 : ys.length = j * 1 := HY.out.1
        rw [List.take_of_length_le (by omega)] at h1
        rw [Nat.mul_one, ← h1]
        exact HY.out

set_option maxHeartbeats 800000 in
theorem laws_heldIntS (base n : Nat) (v : Value) (k : Int) (w : World) (h : w.ownsRow base 3 1 v n (mks k n)) (hk : 0 ≤ k) (hk' : k ≤ 1125899906842624) (hs : n ≤ 2000000) :
    Calls Try.prog 25 #[v, .int .i64 k] w fun e w' => e = .returned (.int .i64 (k + n)) ∧ Below w.heap.size w w' := by
  obtain ⟨A, c, rfl⟩ := own_form h
  rcases h.2 with ⟨hv, rfl⟩ | ⟨g, cap, _, hv, hbg, hgh, _⟩
  · clear h hv
    go_enter Try.func25, Try.ntmps25
    go_wp2
    go_loop [5, 1] (fun i u => i = .int .i64 0 ∧ u = .int .i64 k) (fun i _ => 0)
    case atStart => exact ⟨rfl, rfl⟩
    case round =>
      obtain ⟨rfl, rfl⟩ := hrel
      go_wp2
      go_ret
      exact ⟨by simp, Below.refl _ _⟩
  · cases hv
    have HO := Lib.hid h
    clear h hgh
    go_enter Try.func25, Try.ntmps25
    go_wp2
    go_loopw [5, 1] (fun i u wr => ∃ j : Nat, j ≤ n ∧ i = .int .i64 j ∧ u = .int .i64 (k + j) ∧ Below w.heap.size w wr) (fun i _ _ => n - (intOf i).toNat)
    case atStart => exact ⟨0, by omega, rfl, by simp, Below.refl _ _⟩
    case round =>
      obtain ⟨j, hj, rfl, rfl, hB⟩ := hrel
      by_cases hlt : j < n
      · have u0 := (own_below HO.out hB).cellAt j (by omega)
        rw [mks_get k n j hlt] at u0
        go_wp2
        go_roundw
        case rel => exact ⟨j + 1, by omega, by go_num, by go_num, hB⟩
        case measure => simp [intOf]; omega
      · obtain rfl : j = n := by omega
        go_wp2
        go_ret
        exact ⟨by simp, hB⟩

set_option maxRecDepth 100000 in
set_option maxHeartbeats 1600000 in
theorem laws_markPartS (base n : Nat) (v : Value) (xs : List Value) (k : Int) (w : World) (h : w.ownsRow base 94 5 v n xs) (hk : 0 ≤ k) (hk' : k ≤ 1125899906842624) (hs : n ≤ 2000000) :
    Calls Try.prog 65 #[v, .int .i64 k] w fun e w' => Marked w base 94 5 v n k e w' := by
  rcases h.2 with ⟨rfl, rfl⟩ | ⟨g, cap, _, rfl, hbg, hgh, _⟩
  · clear h
    go_enter Try.func65, Try.ntmps65
    go_wp2
    go_loopw [5, 1] (fun i u wr => i = .int .i64 0 ∧ u = .int .i64 k ∧ wr = w) (fun i _ _ => 0)
    case atStart => exact ⟨rfl, rfl, rfl⟩
    case round =>
      obtain ⟨rfl, rfl, rfl⟩ := hrel
      go_wp2
      go_ret
      exact ⟨by simp, World.ownsRow_nil _ _ _ _, grown_refl _ _⟩
  · have HO := Lib.hid h
    have hgl : g < w.heap.size := (h.lt g rfl).2
    clear h hgh
    go_enter Try.func65, Try.ntmps65
    go_wp2
    go_loopw [5, 1] (fun i u wr => ∃ (j : Nat) (ys : List Value), j ≤ n ∧ i = .int .i64 j ∧ u = .int .i64 (k + ((j * 5 : Nat) : Int)) ∧ Hid (wr.ownsRow base 94 5 (.slice (some ⟨g, 0, none⟩) n cap) n ys) ∧ Hid (ys.take (j * 5) = mks k (j * 5)) ∧ Hid (w.grownBy wr (some g))) (fun i _ _ => n - (intOf i).toNat)
    case atStart => exact ⟨0, xs, by omega, rfl, by simp, HO.out, by simp [Hid, mks], grown_refl _ _⟩
    case round =>
      obtain ⟨j, ys, hj, rfl, rfl, HY, HT, HGR⟩ := hrel
      by_cases hlt : j < n
      · have hl : ys.length = n * 5 := HY.out.1
        have u0 := HY.out.cellAt (j * 5) (by omega)
        have u1 := HY.out.cellAt (j * 5 + 1) (by omega)
        have u2 := HY.out.cellAt (j * 5 + 2) (by omega)
        have u3 := HY.out.cellAt (j * 5 + 3) (by omega)
        have u4 := HY.out.cellAt (j * 5 + 4) (by omega)
        rw [List.getElem?_eq_getElem (by omega)] at u0 u1 u2 u3 u4
        have f0 := HY.out.frozenAt (j * 5)
        have f1 := HY.out.frozenAt (j * 5 + 1)
        have f2 := HY.out.frozenAt (j * 5 + 2)
        have f3 := HY.out.frozenAt (j * 5 + 3)
        have f4 := HY.out.frozenAt (j * 5 + 4)
        generalize ys[j * 5]'(by omega) = v0 at u0
        generalize ys[j * 5 + 1]'(by omega) = v1 at u1
        generalize ys[j * 5 + 2]'(by omega) = v2 at u2
        generalize ys[j * 5 + 3]'(by omega) = v3 at u3
        generalize ys[j * 5 + 4]'(by omega) = v4 at u4
        have HL := Lib.hid hl
        clear hl
        obtain ⟨k5, hk5⟩ : ∃ k5 : Int, k5 = k + ((j * 5 : Nat) : Int) := ⟨_, rfl⟩
        have hk0 : 0 ≤ k5 := by omega
        have hk1 : k5 ≤ 1125899916842624 := by omega
        rw [← hk5]
        have HK := Lib.hid hk5
        clear hk5
        go_wp2
        go_roundw
        case rel =>
          refine ⟨j + 1, _, by omega, by go_num, by have := HK.out; go_num, own_set5 HY.out (j * 5) ⟨k5, k5 + 1, k5 + 1 + 1, k5 + 1 + 1 + 1, k5 + 1 + 1 + 1 + 1⟩, ?_, ?_⟩
          · rw [show (j + 1) * 5 = j * 5 + 5 by omega, take_set5 ys (j * 5) _ (by have := HL.out; omega), HT.out, mks_five' k k5 _ HK.out]
            exact Lib.hid rfl
          · have a0 := HY.out.stored (j * 5) (.int .i64 k5)
            have a1 := a0.1.stored (j * 5 + 1) (.int .i64 (k5 + 1))
            have a2 := a1.1.stored (j * 5 + 2) (.int .i64 (k5 + 1 + 1))
            have a3 := a2.1.stored (j * 5 + 3) (.int .i64 (k5 + 1 + 1 + 1))
            have a4 := a3.1.stored (j * 5 + 4) (.int .i64 (k5 + 1 + 1 + 1 + 1))
            exact grown_tr HGR.out (grown_tr a0.2 (grown_tr a1.2 (grown_tr a2.2 (grown_tr a3.2 a4.2))))
        case measure => simp [intOf]; omega
      · obtain rfl : j = n := by omega
        go_wp2
        go_ret
        refine ⟨by simp, ?_, HGR.out⟩
        have h1 := HT.out
        have h2 : ys.length = j * 5 := HY.out.1
        rw [List.take_of_length_le (by omega)] at h1
        rw [← h1]
        exact HY.out

theorem ownBlock_lt {w : World} {base n size : Nat} {e : TypeId} {v : Value} {xs : List Value} (h : w.ownsRow base e size v n xs) (o : Obj) : v.ownBlock ≠ some w.heap.size := by
  intro hk
  have := (h.lt _ hk).2
  omega

end Go.Proofs.Ythnilpibpmlaeaa

/- Words for laws: what lies in blocks of its own (lo to hi - 1) and how it is kept from call to call. -/
namespace Go.Proofs.Ythnilpibpmlaeaa
set_option linter.unusedSimpArgs false
set_option linter.unusedVariables false
open Go.RowKit

/-- Only blocks from a to b - 1 have turned, of those that were there. -/
structure Tch (a b : Nat) (w w' : World) : Prop where
  os : w'.os = w.os
  tape : w'.tape = w.tape
  output : w'.output = w.output
  size : w.heap.size ≤ w'.heap.size
  block : ∀ k, k < w.heap.size → (k < a ∨ b ≤ k) → w'.heap[k]? = w.heap[k]?

theorem grown_setCell0 (w : World) (g j : Nat) (x : Value) : w.grownBy (w.setCell ⟨g, j, none⟩ x) (some g) :=
  ⟨rfl, rfl, rfl, by simp [World.setCell], fun k hk hr => Below.heap_setCell _ _ _ _ (by intro e; exact hr (by rw [e]))⟩

theorem Tch.refl (a b : Nat) (w : World) : Tch a b w w := ⟨rfl, rfl, rfl, Nat.le_refl _, fun _ _ _ => rfl⟩
theorem Tch.trans {a b : Nat} {w w1 w2 : World} (h : Tch a b w w1) (k : Tch a b w1 w2) : Tch a b w w2 :=
  ⟨k.os.trans h.os, k.tape.trans h.tape, k.output.trans h.output, Nat.le_trans h.size k.size, fun i hi hr => (k.block i (Nat.lt_of_lt_of_le hi h.size) hr).trans (h.block i hi hr)⟩
theorem Tch.of_below {a b : Nat} {w w' : World} (h : Below w.heap.size w w') : Tch a b w w' := ⟨h.os, h.tape, h.output, h.size, fun k hk _ => h.block k hk⟩
theorem Tch.of_grown {a b : Nat} {w w' : World} {row : Option Nat} (h : w.grownBy w' row) (hr : ∀ k, row = some k → a ≤ k ∧ k < b) : Tch a b w w' :=
  ⟨h.os, h.tape, h.output, h.size, fun k hk ho => h.block k hk fun e => by have := hr k e.symm; omega⟩
theorem Tch.below {a b B : Nat} {w w' : World} (h : Tch a b w w') (hB : B ≤ a) (hs : B ≤ w.heap.size) : Below B w w' :=
  ⟨h.os, h.tape, h.output, h.size, fun k hk => h.block k (by omega) (by omega)⟩
theorem Tch.mono {a b a' b' : Nat} {w w' : World} (h : Tch a b w w') (ha : a' ≤ a) (hb : b ≤ b') : Tch a' b' w w' :=
  ⟨h.os, h.tape, h.output, h.size, fun k hk ho => h.block k hk (by omega)⟩
theorem Tch.drew {a b : Nat} {w w' : World} (h : Tch a b w w') : Tch a b w w'.drew := ⟨h.os, h.tape, h.output, h.size, h.block⟩

/-- P speaks of blocks lo to hi - 1 alone. -/
def Loc (lo hi : Nat) (P : World → Prop) : Prop := ∀ w w' : World, P w → (∀ k, lo ≤ k → k < hi → w'.heap[k]? = w.heap[k]?) → P w'

/-- P holds, of blocks lo to hi - 1. -/
structure As (lo hi : Nat) (P : World → Prop) (w : World) : Prop where
  it : P w
  le : hi ≤ w.heap.size
  loc : Loc lo hi P

section
variable {lo hi a b : Nat} {P : World → Prop} {w w' : World}
theorem As.step (h : As lo hi P w) (hb : Below w.heap.size w w') : As lo hi P w' :=
  ⟨h.loc _ _ h.it fun k _ hk => hb.block k (Nat.lt_of_lt_of_le hk h.le), Nat.le_trans h.le hb.size, h.loc⟩
theorem As.turn (h : As lo hi P w) (ht : Tch a b w w') (hd : b ≤ lo ∨ hi ≤ a) : As lo hi P w' :=
  ⟨h.loc _ _ h.it fun k hl hk => ht.block k (Nat.lt_of_lt_of_le hk h.le) (by omega), Nat.le_trans h.le ht.size, h.loc⟩
theorem As.alloc (h : As lo hi P w) (o : Obj) : As lo hi P (w.alloc o) := h.step ((Below.refl _ _).alloc (Nat.le_refl _) o)
theorem As.keep (h : As lo hi P w) (hk : ∀ k, lo ≤ k → k < hi → w'.heap[k]? = w.heap[k]?) (hs : w.heap.size ≤ w'.heap.size) : As lo hi P w' :=
  ⟨h.loc _ _ h.it hk, Nat.le_trans h.le hs, h.loc⟩
end

theorem Loc.and {lo hi : Nat} {P Q : World → Prop} (hP : Loc lo hi P) (hQ : Loc lo hi Q) : Loc lo hi fun w => P w ∧ Q w :=
  fun w w' h hk => ⟨hP w w' h.1 hk, hQ w w' h.2 hk⟩
theorem Loc.mono {lo hi lo' hi' : Nat} {P : World → Prop} (h : Loc lo hi P) (h1 : lo' ≤ lo) (h2 : hi ≤ hi') : Loc lo' hi' P :=
  fun w w' hp hk => h w w' hp fun k a b => hk k (by omega) (by omega)

theorem IS.loc (B : Nat) (A : Option Addr) (xs : List Int) : Loc 0 B fun w => IS w B A xs :=
  fun w w' h hk => h.keep fun p hp => World.cell?_of_block (hk p.block (Nat.zero_le _) hp)
theorem PS.loc (B : Nat) (A : Option Addr) (ps : List Pt) : Loc 0 B fun w => PS w B A ps :=
  fun w w' h hk => h.keep fun p hp => World.cell?_of_block (hk p.block (Nat.zero_le _) hp)

/-- A box of the call's own. -/
theorem box_loc (g : Nat) (v : Value) : Loc g (g + 1) fun w => w.cell? ⟨g, 0, none⟩ = some v :=
  fun w w' h hk => (World.cell?_of_block (a := ⟨g, 0, none⟩) (hk g (Nat.le_refl _) (Nat.lt_succ_self _))).trans h
theorem box_new (w : World) (v : Value) (t : TypeId) : As w.heap.size (w.heap.size + 1) (fun w' => w'.cell? ⟨w.heap.size, 0, none⟩ = some v) (w.alloc (.cells #[v] t)) :=
  ⟨by go_simp, by simp, box_loc _ _⟩
theorem box2_loc (g : Nat) (v u : Value) : Loc g (g + 1) fun w => w.cell? ⟨g, 0, none⟩ = some v ∧ w.cell? ⟨g, 1, none⟩ = some u :=
  fun w w' h hk => ⟨(World.cell?_of_block (a := ⟨g, 0, none⟩) (hk g (Nat.le_refl _) (Nat.lt_succ_self _))).trans h.1, (World.cell?_of_block (a := ⟨g, 1, none⟩) (hk g (Nat.le_refl _) (Nat.lt_succ_self _))).trans h.2⟩
theorem box2_new (w : World) (v u : Value) (t : TypeId) : As w.heap.size (w.heap.size + 1) (fun w' => w'.cell? ⟨w.heap.size, 0, none⟩ = some v ∧ w'.cell? ⟨w.heap.size, 1, none⟩ = some u) (w.alloc (.cells #[v, u] t)) :=
  ⟨⟨by go_simp, by go_simp⟩, by simp, box2_loc _ _ _⟩
theorem box3_loc (g : Nat) (v u x : Value) : Loc g (g + 1) fun w => w.cell? ⟨g, 0, none⟩ = some v ∧ w.cell? ⟨g, 1, none⟩ = some u ∧ w.cell? ⟨g, 2, none⟩ = some x :=
  fun w w' h hk => ⟨(World.cell?_of_block (a := ⟨g, 0, none⟩) (hk g (Nat.le_refl _) (Nat.lt_succ_self _))).trans h.1, (World.cell?_of_block (a := ⟨g, 1, none⟩) (hk g (Nat.le_refl _) (Nat.lt_succ_self _))).trans h.2.1, (World.cell?_of_block (a := ⟨g, 2, none⟩) (hk g (Nat.le_refl _) (Nat.lt_succ_self _))).trans h.2.2⟩
theorem box3_new (w : World) (v u x : Value) (t : TypeId) : As w.heap.size (w.heap.size + 1) (fun w' => w'.cell? ⟨w.heap.size, 0, none⟩ = some v ∧ w'.cell? ⟨w.heap.size, 1, none⟩ = some u ∧ w'.cell? ⟨w.heap.size, 2, none⟩ = some x) (w.alloc (.cells #[v, u, x] t)) :=
  ⟨⟨by go_simp, by go_simp, by go_simp⟩, by simp, box3_loc _ _ _ _⟩

/-- A row of the call's own in blocks lo to hi - 1. -/
def OwR (lo hi : Nat) (e : TypeId) (size : Nat) (v : Value) (n : Nat) (xs : List Value) (w : World) : Prop :=
  w.ownsRow lo e size v n xs ∧ ∀ k, v.ownBlock = some k → k < hi

section
variable {lo hi lo' hi' : Nat} {e : TypeId} {size n : Nat} {v : Value} {xs : List Value} {w w' : World}
theorem OwR.start (h : w.ownsRow lo e size v n xs) : OwR lo w.heap.size e size v n xs w := ⟨h, fun k hk => (h.lt k hk).2⟩
theorem OwR.mono (h : OwR lo hi e size v n xs w) (h1 : lo' ≤ lo) (h2 : hi ≤ hi') : OwR lo' hi' e size v n xs w := ⟨own_mono h.1 h1, fun k hk => Nat.lt_of_lt_of_le (h.2 k hk) h2⟩
theorem OwR.keep (h : OwR lo hi e size v n xs w) (hk : ∀ k, lo ≤ k → k < hi → w'.heap[k]? = w.heap[k]?) : OwR lo hi e size v n xs w' := by
  refine ⟨⟨h.1.1, ?_⟩, h.2⟩
  rcases h.1.2 with hn | ⟨g, cap, cur, rfl, hb, hg, r⟩
  · exact .inl hn
  · exact .inr ⟨g, cap, cur, rfl, hb, by rw [hk g hb (h.2 g rfl)]; exact hg, r⟩
theorem OwR.loc (lo hi : Nat) (e : TypeId) (size : Nat) (v : Value) (n : Nat) (xs : List Value) : Loc lo hi (OwR lo hi e size v n xs) := fun w w' h hk => h.keep hk
theorem OwR.nil (lo hi : Nat) (e : TypeId) (size : Nat) (w : World) : OwR lo hi e size (.slice none 0 0) 0 [] w := ⟨World.ownsRow_nil _ _ _ _, fun k hk => by simp [Value.ownBlock] at hk⟩
theorem OwR.step (h : OwR lo hi e size v n xs w) (hb : Below w.heap.size w w') : OwR lo hi e size v n xs w' := by
  refine ⟨own_below h.1 hb, h.2⟩
end

theorem own_start {lo hi : Nat} {e : TypeId} {size n : Nat} {v : Value} {xs : List Value} {w : World} (h : OwR lo hi e size v n xs w) (hs : hi ≤ w.heap.size) : As lo hi (OwR lo hi e size v n xs) w := ⟨h, hs, OwR.loc _ _ _ _ _ _ _⟩

section
variable {lo hi : Nat} {n c : Nat} {A : Option Addr} {ps : List Pt} {xs : List Int} {w : World}
theorem OwR.ints (h : OwR lo hi 3 1 (.slice A n c) n (xs.map (Value.int .i64)) w) : IS w hi A xs := by
  intro hn
  obtain ⟨b, off, rfl, _, hc⟩ := IS.of_own h.1 hn
  exact ⟨b, off, rfl, h.2 b rfl, hc⟩
theorem OwR.parts (h : OwR lo hi 94 5 (.slice A n c) n (ps.flatMap Pt.cells) w) : PS w hi A ps := by
  intro hn
  obtain ⟨b, off, rfl, _, hc⟩ := PS.of_own h.1 hn
  exact ⟨b, off, rfl, h.2 b rfl, hc⟩
end

/-- A row whose content does not matter. -/
def Rw (lo hi : Nat) (e : TypeId) (size : Nat) (v : Value) (n : Nat) (w : World) : Prop := ∃ xs, OwR lo hi e size v n xs w

theorem Rw.of {lo hi : Nat} {e : TypeId} {size : Nat} {v : Value} {n : Nat} {xs : List Value} {w : World} (h : OwR lo hi e size v n xs w) : Rw lo hi e size v n w := ⟨xs, h⟩
theorem Rw.keep {lo hi : Nat} {e : TypeId} {size : Nat} {v : Value} {n : Nat} {w w' : World} (h : Rw lo hi e size v n w) (hk : ∀ k, lo ≤ k → k < hi → w'.heap[k]? = w.heap[k]?) : Rw lo hi e size v n w' := h.imp fun _ h => h.keep hk

/-- A row of the same kind was written to: whether it is this one or another one, this is still a row. -/
theorem Rw.after {lo hi lo' : Nat} {e e' : TypeId} {size size' n n' : Nat} {v u : Value} {w w' : World} {ys ys' : List Value} (h : Rw lo hi e size v n w) (hu : w.ownsRow lo' e' size' u n' ys) (hu' : w'.ownsRow lo' e' size' u n' ys') (hg : w.grownBy w' u.ownBlock) (hs : 0 < size) : Rw lo hi e size v n w' := by
  obtain ⟨xs, h⟩ := h
  by_cases hb : v.ownBlock = none ∨ v.ownBlock ≠ u.ownBlock
  · exact ⟨xs, h.1.kept hg hb, h.2⟩
  · have hv : v.ownBlock ≠ none := fun e => hb (.inl e)
    have hvu : v.ownBlock = u.ownBlock := Classical.byContradiction fun e => hb (.inr e)
    rcases h.1.2 with ⟨rfl, _⟩ | ⟨g, cap, cur, rfl, hlo, hh, h1, h2, h3, h4⟩
    · exact absurd rfl hv
    · rcases hu.2 with ⟨rfl, _⟩ | ⟨g', cap', cur', rfl, hlo', hh', k1, k2, k3, k4⟩
      · simp [Value.ownBlock] at hvu
      · simp [Value.ownBlock] at hvu
        subst hvu
        rw [hh] at hh'
        simp only [Option.some.injEq, Obj.cells.injEq] at hh'
        obtain ⟨rfl, rfl, _⟩ := hh'
        rcases hu'.2 with ⟨hx, _⟩ | ⟨g2, cap2, cur2, hx, _, hh2, m1, m2, m3, m4⟩
        · simp at hx
        · simp only [Value.slice.injEq, Option.some.injEq, Addr.mk.injEq, and_true, true_and] at hx
          obtain ⟨rfl, rfl⟩ := hx
          refine ⟨cur2.toList.take (n * size), ⟨?_, .inr ⟨g, cap, cur2, rfl, hlo, hh2, h1, h2, ?_, rfl⟩⟩, h.2⟩
          · rw [List.length_take, Array.length_toList, m3, ← k3, h3]
            have := Nat.mul_le_mul_right size h1
            omega
          · rw [m3, ← k3, h3]
end Go.Proofs.Ythnilpibpmlaeaa

/- Words for graphs: a slice of nodes that reads as a list, one of the call's own, one whose content does not matter. -/
namespace Go.Proofs.Ythnilpibpmlaeaa
set_option linter.unusedSimpArgs false
set_option linter.unusedVariables false
open Go.RowKit

/-- A node of a graph: its kind, the parts of its formula. -/
structure Nd where
  k : Int
  ps : List Pt
deriving DecidableEq, Inhabited

/-- The two cells at b, off read as a node. -/
def NdS (w : World) (B b off : Nat) (d : Nd) : Prop :=
  w.cell? ⟨b, off, none⟩ = some (.int .i64 d.k) ∧ ∃ A n c, w.cell? ⟨b, off + 1, none⟩ = some (.slice A n c) ∧ n = d.ps.length ∧ PS w B A d.ps

/-- The slice at A reads as the nodes gs; all of it lies below block B. -/
def GS (w : World) (B : Nat) (A : Option Addr) (gs : List Nd) : Prop :=
  0 < gs.length → ∃ b off, A = some ⟨b, off, none⟩ ∧ b < B ∧ ∀ j, j < gs.length → NdS w B b (off + j * 2) (gs.getD j default)

theorem NdS.keep {w w' : World} {B b off : Nat} {d : Nd} (h : NdS w B b off d) (hb : b < B) (hk : ∀ p : Addr, p.block < B → w'.cell? p = w.cell? p) : NdS w' B b off d := by
  obtain ⟨h1, A, n, c, h2, h3, h4⟩ := h
  exact ⟨(hk _ hb).trans h1, A, n, c, (hk _ hb).trans h2, h3, h4.keep hk⟩
theorem NdS.more {w : World} {B B' b off : Nat} {d : Nd} (h : NdS w B b off d) (hB : B ≤ B') : NdS w B' b off d := by
  obtain ⟨h1, A, n, c, h2, h3, h4⟩ := h
  exact ⟨h1, A, n, c, h2, h3, h4.more hB⟩

section
variable {w w' : World} {B B' C : Nat} {A : Option Addr} {gs : List Nd}
theorem GS.keep (h : GS w B A gs) (hk : ∀ p : Addr, p.block < B → w'.cell? p = w.cell? p) : GS w' B A gs := by
  intro hn
  obtain ⟨b, off, e, hb, hc⟩ := h hn
  exact ⟨b, off, e, hb, fun j hj => (hc j hj).keep hb hk⟩
theorem GS.more (h : GS w B A gs) (hB : B ≤ B') : GS w B' A gs := by
  intro hn
  obtain ⟨b, off, e, hb, hc⟩ := h hn
  exact ⟨b, off, e, by omega, fun j hj => (hc j hj).more hB⟩
theorem GS.below (h : GS w B A gs) (hb : Below C w w') (hC : B ≤ C) : GS w' B A gs := h.keep fun _ hp => hb.cell (Nat.lt_of_lt_of_le hp hC)
theorem GS.alloc (h : GS w B A gs) (hB : B ≤ w.heap.size) (o : Obj) : GS (w.alloc o) B A gs := h.keep fun p hp => World.cell?_alloc_lt w o p (by omega)
theorem GS.nil (w : World) (B : Nat) (A : Option Addr) : GS w B A [] := fun h => absurd h (by simp)
theorem GS.step {A : Option Addr} {gs : List Nd} {wk wl : World} (h : GS wk wk.heap.size A gs) (hb : Below wk.heap.size wk wl) : GS wl wl.heap.size A gs := (h.below hb (Nat.le_refl _)).more hb.size
end
theorem GS.loc (B : Nat) (A : Option Addr) (gs : List Nd) : Loc 0 B fun w => GS w B A gs :=
  fun w w' h hk => h.keep fun p hp => World.cell?_of_block (hk p.block (Nat.zero_le _) hp)

/-- No more nodes, and no node with more parts, than a million. -/
def GB (gs : List Nd) : Prop := gs.length ≤ 1048576 ∧ ∀ j, (gs.getD j default).ps.length ≤ 1048576

def gsz (gs : List Nd) : Nat := gs.length + (gs.map fun d => d.ps.length).sum

theorem sum_getD (l : List Nat) (j : Nat) : l.getD j 0 ≤ l.sum := by
  induction l generalizing j with
  | nil => simp
  | cons x l ih =>
    cases j with
    | zero => simp
    | succ j => have := ih j; simp only [List.getD_cons_succ, List.sum_cons]; omega

theorem GB.of_gsz {gs : List Nd} (h : gsz gs ≤ 1048576) : GB gs := by
  unfold gsz at h
  refine ⟨by omega, fun j => ?_⟩
  have := sum_getD (gs.map fun d => d.ps.length) j
  have e : (gs.map fun d => d.ps.length).getD j 0 = (gs.getD j default).ps.length := by
    by_cases hj : j < gs.length
    · simp [List.getD, hj]
    · simp [List.getD, List.getElem?_eq_none (show gs.length ≤ j by omega)]; rfl
  omega

theorem sum_take_succ (gs : List Nd) (k : Nat) (h : k < gs.length) : ((gs.take (k + 1)).map fun d => d.ps.length).sum = ((gs.take k).map fun d => d.ps.length).sum + (gs.getD k default).ps.length := by
  rw [take_succ_getD gs k h, List.map_append, List.sum_append]; simp

theorem sum_take_le (gs : List Nd) (k : Nat) : ((gs.take k).map fun d => d.ps.length).sum ≤ (gs.map fun d => d.ps.length).sum := by
  have : (gs.map fun d => d.ps.length).sum = ((gs.take k).map fun d => d.ps.length).sum + ((gs.drop k).map fun d => d.ps.length).sum := by
    rw [← List.sum_append, ← List.map_append, List.take_append_drop]
  omega

/-- The two values are a node of the call's own. -/
def NdO (lo hi : Nat) (d : Nd) (x y : Value) (w : World) : Prop :=
  x = .int .i64 d.k ∧ ∃ A n c, y = .slice A n c ∧ n = d.ps.length ∧ OwR lo hi 94 5 y n (d.ps.flatMap Pt.cells) w

/-- A row of nodes of the call's own. -/
def OwG (lo hi : Nat) (v : Value) (n : Nat) (gs : List Nd) (w : World) : Prop :=
  n = gs.length ∧ ∃ xs, OwR lo hi 63 2 v n xs w ∧ ∀ j, j < n → ∃ x y, xs[j * 2]? = some x ∧ xs[j * 2 + 1]? = some y ∧ NdO lo hi (gs.getD j default) x y w

theorem NdO.keep {lo hi : Nat} {d : Nd} {x y : Value} {w w' : World} (h : NdO lo hi d x y w) (hk : ∀ k, lo ≤ k → k < hi → w'.heap[k]? = w.heap[k]?) : NdO lo hi d x y w' := by
  obtain ⟨h1, A, n, c, h2, h3, h4⟩ := h
  exact ⟨h1, A, n, c, h2, h3, h4.keep hk⟩
theorem NdO.mono {lo hi lo' hi' : Nat} {d : Nd} {x y : Value} {w : World} (h : NdO lo hi d x y w) (h1 : lo' ≤ lo) (h2 : hi ≤ hi') : NdO lo' hi' d x y w := by
  obtain ⟨e1, A, n, c, e2, e3, h4⟩ := h
  exact ⟨e1, A, n, c, e2, e3, h4.mono h1 h2⟩
theorem OwG.loc (lo hi : Nat) (v : Value) (n : Nat) (gs : List Nd) : Loc lo hi (OwG lo hi v n gs) := by
  rintro w w' ⟨h0, xs, h1, h2⟩ hk
  exact ⟨h0, xs, h1.keep hk, fun j hj => by obtain ⟨x, y, hx, hy, h⟩ := h2 j hj; exact ⟨x, y, hx, hy, h.keep hk⟩⟩
theorem OwG.mono {lo hi lo' hi' n : Nat} {v : Value} {gs : List Nd} {w : World} (h : OwG lo hi v n gs w) (h1 : lo' ≤ lo) (h2 : hi ≤ hi') : OwG lo' hi' v n gs w := by
  obtain ⟨h0, xs, e1, e2⟩ := h
  exact ⟨h0, xs, e1.mono h1 h2, fun j hj => by obtain ⟨x, y, hx, hy, h⟩ := e2 j hj; exact ⟨x, y, hx, hy, h.mono h1 h2⟩⟩
theorem OwG.form {lo hi n : Nat} {v : Value} {gs : List Nd} {w : World} (h : OwG lo hi v n gs w) : ∃ A c, v = .slice A n c := by
  obtain ⟨_, xs, h1, _⟩ := h
  exact own_form h1.1

theorem OwG.nodes {lo hi n c : Nat} {A : Option Addr} {gs : List Nd} {w : World} (h : OwG lo hi (.slice A n c) n gs w) : GS w hi A gs := by
  obtain ⟨h0, xs, h1, h2⟩ := h
  intro hn
  rcases h1.1.2 with ⟨_, hz⟩ | ⟨g, cap, cur, hv, _⟩
  · omega
  · have hg := h1.2 g (by rw [hv]; rfl)
    simp only [Value.slice.injEq] at hv
    obtain ⟨rfl, _, rfl⟩ := hv
    refine ⟨g, 0, rfl, hg, fun j hj => ?_⟩
    obtain ⟨x, y, hx, hy, e1, A', n', c', e2, e3, e4⟩ := h2 j (by omega)
    refine ⟨?_, A', n', c', ?_, e3, ?_⟩
    · rw [h1.1.cellAt _ (by omega), ← e1]; simpa using hx
    · rw [h1.1.cellAt _ (by omega), ← e2]; simpa using hy
    · subst e2
      exact e4.parts

/-- A row of nodes whose content does not matter. -/
def WkG (lo hi : Nat) (v : Value) (n : Nat) (w : World) : Prop :=
  ∃ xs, OwR lo hi 63 2 v n xs w ∧ ∀ j, j < n → ∃ q A m c, xs[j * 2]? = some (.int .i64 q) ∧ xs[j * 2 + 1]? = some (.slice A m c) ∧ m ≤ 1048576 ∧ Rw lo hi 94 5 (.slice A m c) m w

theorem OwG.weak {lo hi n : Nat} {v : Value} {gs : List Nd} {w : World} (h : OwG lo hi v n gs w) (hb : GB gs) : WkG lo hi v n w := by
  obtain ⟨h0, xs, h1, h2⟩ := h
  refine ⟨xs, h1, fun j hj => ?_⟩
  obtain ⟨x, y, hx, hy, e1, A, m, c, e2, e3, e4⟩ := h2 j hj
  refine ⟨_, A, m, c, by rw [hx, e1], by rw [hy, e2], by rw [e3]; exact hb.2 j, _, by rw [← e2]; exact e4⟩

theorem WkG.keep {lo hi n : Nat} {v : Value} {w w' : World} (h : WkG lo hi v n w) (hk : ∀ k, lo ≤ k → k < hi → w'.heap[k]? = w.heap[k]?) : WkG lo hi v n w' := by
  obtain ⟨xs, h1, h2⟩ := h
  refine ⟨xs, h1.keep hk, fun j hj => ?_⟩
  obtain ⟨q, A, m, c, hx, hy, hm, hr⟩ := h2 j hj
  exact ⟨q, A, m, c, hx, hy, hm, hr.keep hk⟩
theorem WkG.step {lo hi n : Nat} {v : Value} {w w' : World} (h : WkG lo hi v n w) (hb : Below w.heap.size w w') (hs : hi ≤ w.heap.size) : WkG lo hi v n w' :=
  h.keep fun k _ hk => hb.block k (by omega)

/-- The block of a row of one kind is not that of a row of another kind. -/
theorem blocks_ne {w : World} {b1 b2 : Nat} {e1 e2 : TypeId} {s1 s2 n1 n2 : Nat} {v u : Value} {xs ys : List Value} (h : w.ownsRow b1 e1 s1 v n1 xs) (h' : w.ownsRow b2 e2 s2 u n2 ys) (he : e1 ≠ e2) : v.ownBlock = none ∨ v.ownBlock ≠ u.ownBlock := by
  rcases h.2 with ⟨rfl, _⟩ | ⟨g, cap, cur, rfl, _, hh, _⟩
  · exact .inl rfl
  · right
    rcases h'.2 with ⟨rfl, _⟩ | ⟨g', cap', cur', rfl, _, hh', _⟩
    · simp [Value.ownBlock]
    · simp only [Value.ownBlock, ne_eq, Option.some.injEq]
      rintro rfl
      rw [hh] at hh'
      simp only [Option.some.injEq, Obj.cells.injEq] at hh'
      exact he hh'.2.1

theorem node_ne_part : (63 : TypeId) ≠ 94 := by decide

/-- The parts of one node were marked: still a row of nodes. -/
theorem WkG.marked {lo hi n m : Nat} {v u : Value} {w w' : World} {k : Int} {e : Ending} (h : WkG lo hi v n w) (hu : ∃ ys, w.ownsRow lo 94 5 u m ys) (hm : Marked w lo 94 5 u m k e w') : WkG lo hi v n w' := by
  obtain ⟨xs, h1, h2⟩ := h
  obtain ⟨ys, hu⟩ := hu
  refine ⟨xs, ⟨h1.1.kept hm.2.2 (blocks_ne h1.1 hu node_ne_part), h1.2⟩, fun j hj => ?_⟩
  obtain ⟨q, A, m', c, hx, hy, hm', hr⟩ := h2 j hj
  exact ⟨q, A, m', c, hx, hy, hm', hr.after hu hm.2.1 hm.2.2 (by decide)⟩

/-- The kind of one node was written. -/
theorem WkG.kind {lo hi n g cap : Nat} {w : World} (h : WkG lo hi (.slice (some ⟨g, 0, none⟩) n cap) n w) (j : Nat) (hj : j < n) (q : Int) : WkG lo hi (.slice (some ⟨g, 0, none⟩) n cap) n (w.setCell ⟨g, j * 2, none⟩ (.int .i64 q)) := by
  obtain ⟨xs, h1, h2⟩ := h
  have hl : xs.length = n * 2 := h1.1.1
  have hst := h1.1.stored (j * 2) (.int .i64 q)
  refine ⟨_, ⟨hst.1, h1.2⟩, fun i hlt => ?_⟩
  obtain ⟨q', A, m, c, hx, hy, hm, ys, hr⟩ := h2 i hlt
  have e : ∃ ys, OwR lo hi 94 5 (.slice A m c) m ys (w.setCell ⟨g, j * 2, none⟩ (.int .i64 q)) := ⟨ys, hr.1.kept hst.2 (blocks_ne hr.1 h1.1 node_ne_part.symm), hr.2⟩
  by_cases e' : i = j
  · subst e'
    refine ⟨q, A, m, c, ?_, ?_, hm, e⟩
    · rw [List.getElem?_set]; simp; omega
    · rw [List.getElem?_set]; simpa using hy
  · refine ⟨q', A, m, c, ?_, ?_, hm, e⟩
    · rw [List.getElem?_set, if_neg (by omega)]; exact hx
    · rw [List.getElem?_set, if_neg (by omega)]; exact hy
end Go.Proofs.Ythnilpibpmlaeaa

/- Plain facts on graphs: validity, cells, meaning, heights. -/
namespace Go.Proofs.Ythnilpibpmlaeaa
set_option linter.unusedSimpArgs false
set_option linter.unusedVariables false
open Go.RowKit

theorem all_bad (l : List Int) (p : Int → Bool) (k : Nat) (h : k < l.length) (hp : p (l.getD k 0) = false) : l.all p = false := by
  rw [List.all_eq_false]
  exact ⟨l.getD k 0, by simp [List.getD, h], by rw [hp]; simp⟩
theorem all_good (l : List Int) (p : Int → Bool) (h : ∀ k, k < l.length → p (l.getD k 0) = true) : l.all p = true := by
  rw [List.all_eq_true]
  intro x hx
  obtain ⟨k, hk, rfl⟩ := List.mem_iff_getElem.1 hx
  have := h k hk
  simpa [List.getD, hk] using this

/-- A node ahead of the one at i that is no effect. -/
def rdOK (gs : List Nd) (i : Nat) (x : Int) : Bool := decide (x < (i : Int)) && !((gs.getD x.toNat default).k == 2)
def goodRd (gs : List Nd) (i : Nat) : Bool := (mayR (gs.getD i default).ps).all (rdOK gs i)
def nodeOK (gs : List Nd) (i : Nat) : Bool :=
  if (gs.getD i default).k == 0 then decide ((gs.getD i default).ps.length = 0)
  else if (gs.getD i default).k == 1 then validF (gs.getD i default).ps && goodRd gs i
  else if (gs.getD i default).k == 2 then validF (gs.getD i default).ps && goodRd gs i
  else false
def validG (gs : List Nd) : Bool := decide (∀ i, i < gs.length → nodeOK gs i = true) && decide (gs.length ≤ 10)

theorem validG_bad (gs : List Nd) (k : Nat) (h : k < gs.length) (hg : nodeOK gs k = false) : validG gs = false := by
  unfold validG
  rw [decide_eq_false]
  · rfl
  · intro H; rw [H k h] at hg; cases hg
theorem validG_long (gs : List Nd) (h : 10 < gs.length) : validG gs = false := by
  unfold validG
  rw [decide_eq_false (p := gs.length ≤ 10) (by omega), Bool.and_false]
theorem validG_fin (gs : List Nd) (h : ∀ i, i < gs.length → nodeOK gs i = true) : validG gs = decide (gs.length ≤ 10) := by
  unfold validG
  rw [decide_eq_true h, Bool.true_and]
theorem validG_parts (gs : List Nd) (h : validG gs = true) : gs.length ≤ 10 ∧ ∀ i, i < gs.length → nodeOK gs i = true := by
  unfold validG at h
  simp only [Bool.and_eq_true, decide_eq_true_eq] at h
  exact ⟨h.2, h.1⟩

theorem nodeOK_cell (gs : List Nd) (i : Nat) (h : nodeOK gs i = true) (hk : ((gs.getD i default).k == 0) = true) : (gs.getD i default).ps = [] := by
  unfold nodeOK at h
  rw [if_pos hk] at h
  exact List.eq_nil_of_length_eq_zero (by simpa using h)
theorem nodeOK_formula (gs : List Nd) (i : Nat) (h : nodeOK gs i = true) (hk : ((gs.getD i default).k == 0) = false) : validF (gs.getD i default).ps = true ∧ goodRd gs i = true := by
  unfold nodeOK at h
  rw [if_neg (by rw [hk]; decide)] at h
  cases h1 : ((gs.getD i default).k == 1)
  · rw [if_neg (by rw [h1]; decide)] at h
    cases h2 : ((gs.getD i default).k == 2)
    · rw [if_neg (by rw [h2]; decide)] at h; cases h
    · rw [if_pos h2] at h; simpa using h
  · rw [if_pos h1] at h; simpa using h

theorem mayR_nil : mayR [] = [] := by
  unfold mayR hasNode
  simp

theorem mem_mayR_bd (ps : List Pt) (x : Int) (h : x ∈ mayR ps) : 0 ≤ x ∧ x < 10 := by
  obtain ⟨m, hm, _, rfl⟩ := (mem_mayR ps x).1 h
  omega

theorem mayR_getD_bd (ps : List Pt) (j : Nat) (h : j < (mayR ps).length) : 0 ≤ (mayR ps).getD j 0 ∧ (mayR ps).getD j 0 < 10 :=
  mem_mayR_bd ps _ (by simp [List.getD, h])

/-- All nodes that a node of a valid graph may read are ahead of it. -/
theorem mayR_ahead (gs : List Nd) (i : Nat) (h : validG gs = true) (hi : i < gs.length) (x : Int) (hx : x ∈ mayR (gs.getD i default).ps) : 0 ≤ x ∧ x < (i : Int) := by
  obtain ⟨h10, hok⟩ := validG_parts gs h
  have hb := mem_mayR_bd _ _ hx
  cases hk : ((gs.getD i default).k == 0)
  · obtain ⟨_, hg⟩ := nodeOK_formula gs i (hok i hi) hk
    unfold goodRd at hg
    rw [List.all_eq_true] at hg
    have := hg x hx
    unfold rdOK at this
    simp only [Bool.and_eq_true, decide_eq_true_eq] at this
    omega
  · rw [nodeOK_cell gs i (hok i hi) hk, mayR_nil] at hx
    cases hx

/-- Values for all nodes ahead are enough for the formula of a node. -/
theorem each_ahead (gs : List Nd) (i m : Nat) (h : validG gs = true) (hi : i < gs.length) (hk : ((gs.getD i default).k == 0) = false) (hm : i ≤ m) : eachOK (gs.getD i default).ps m = true := by
  obtain ⟨h10, hok⟩ := validG_parts gs h
  obtain ⟨hv, hg⟩ := nodeOK_formula gs i (hok i hi) hk
  unfold eachOK
  rw [List.all_eq_true]
  intro p hp
  cases h1 : (p.k == 1)
  · simp
  · obtain ⟨j, hj, rfl⟩ := List.mem_iff_getElem.1 hp
    have hgd := (validF_good _ hv).1 j hj
    have hah := fun x hx => mayR_ahead gs i h hi x hx
    clear hg hok
    generalize gs.getD i default = d at *
    have e : d.ps.getD j default = d.ps[j] := by simp [List.getD, hj]
    rw [e] at hgd
    have hb := (good_num _ _ hgd).2 (by simpa using h1)
    have hx : (d.ps[j]).n ∈ mayR d.ps := by
      rw [mem_mayR]
      refine ⟨(d.ps[j]).n.toNat, by omega, ?_, by omega⟩
      unfold hasNode
      rw [List.any_eq_true]
      exact ⟨_, hp, by simp only [Bool.and_eq_true]; exact ⟨h1, by simp; omega⟩⟩
    have := hah _ hx
    simp
    omega

/-- A cell is a value, 0 if its node is no cell. -/
def cellOK (gs : List Nd) (cs : List Int) (i : Nat) : Bool := rng (cs.getD i 0) 0 999 && ((gs.getD i default).k == 0 || cs.getD i 0 == 0)
def validC (gs : List Nd) (cs : List Int) : Bool := decide (cs.length = gs.length) && decide (∀ i, i < gs.length → cellOK gs cs i = true)
def okC (gs : List Nd) (cs : List Int) : Bool := validG gs && validC gs cs

theorem validC_len (gs : List Nd) (cs : List Int) (h : cs.length ≠ gs.length) : validC gs cs = false := by
  unfold validC; rw [decide_eq_false h]; rfl
theorem validC_bad (gs : List Nd) (cs : List Int) (k : Nat) (h : k < gs.length) (hc : cellOK gs cs k = false) : validC gs cs = false := by
  unfold validC
  rw [decide_eq_false (p := ∀ i, i < gs.length → cellOK gs cs i = true) (by intro H; rw [H k h] at hc; cases hc), Bool.and_false]
theorem validC_fin (gs : List Nd) (cs : List Int) (hl : cs.length = gs.length) (h : ∀ i, i < gs.length → cellOK gs cs i = true) : validC gs cs = true := by
  unfold validC
  rw [decide_eq_true hl, decide_eq_true h]; rfl
theorem validC_parts (gs : List Nd) (cs : List Int) (h : validC gs cs = true) : cs.length = gs.length ∧ ∀ i, i < gs.length → cellOK gs cs i = true := by
  unfold validC at h
  simpa only [Bool.and_eq_true, decide_eq_true_eq] using h
theorem cellOK_bd (gs : List Nd) (cs : List Int) (i : Nat) (h : cellOK gs cs i = true) : 0 ≤ cs.getD i 0 ∧ cs.getD i 0 ≤ 999 := by
  unfold cellOK rng at h
  simp only [Bool.and_eq_true, decide_eq_true_eq] at h
  exact h.1
theorem validC_VOK (gs : List Nd) (cs : List Int) (h : validC gs cs = true) : VOK cs := by
  obtain ⟨hl, hc⟩ := validC_parts gs cs h
  intro j hj
  exact cellOK_bd gs cs j (hc j (by omega))
theorem validC_allR (gs : List Nd) (cs : List Int) (h : validC gs cs = true) : allR cs 0 999 = true := by
  refine allR_true _ _ _ fun k hk => ?_
  have := validC_VOK gs cs h k hk
  unfold rng
  simpa using this
theorem validC_range (gs : List Nd) (cs : List Int) (h : allR cs 0 999 = false) : validC gs cs = false := by
  cases hv : validC gs cs
  · rfl
  · rw [validC_allR gs cs hv] at h; cases h

/-- The values of the first nodes. -/
def meanTo (gs : List Nd) (cs : List Int) : Nat → List Int
  | 0 => []
  | i + 1 => meanTo gs cs i ++ [if (gs.getD i default).k == 0 then cs.getD i 0 else (whole (gs.getD i default).ps).ev (meanTo gs cs i)]
def mean (gs : List Nd) (cs : List Int) : List Int := meanTo gs cs gs.length
def meanF (gs : List Nd) (cs : List Int) : List Int := if okC gs cs then mean gs cs else []

theorem meanTo_len (gs : List Nd) (cs : List Int) (i : Nat) : (meanTo gs cs i).length = i := by
  induction i with
  | zero => rfl
  | succ i ih => simp [meanTo, ih]

theorem whole_ok (ps : List Pt) (m : Nat) (hv : validF ps = true) (he : eachOK ps m = true) : (whole ps).ok m := by
  obtain ⟨hg, h1, h12⟩ := validF_good ps hv
  exact tmAt_ok ps m hg he ps.length (ps.length - 1) (by omega) (by omega)

theorem meanTo_VOK (gs : List Nd) (cs : List Int) (h : okC gs cs = true) (i : Nat) (hi : i ≤ gs.length) : VOK (meanTo gs cs i) := by
  unfold okC at h
  simp only [Bool.and_eq_true] at h
  obtain ⟨hg, hc⟩ := h
  induction i with
  | zero => intro j hj; simp [meanTo] at hj
  | succ i ih =>
    have ih := ih (by omega)
    have hl := meanTo_len gs cs i
    intro j hj
    rw [meanTo_len] at hj
    rcases Nat.lt_or_ge j i with h1 | h1
    · have := ih j (by omega)
      simpa [meanTo, List.getD, List.getElem?_append, hl, h1] using this
    · obtain rfl : j = i := by omega
      have e : (meanTo gs cs (j + 1)).getD j 0 = (if (gs.getD j default).k == 0 then cs.getD j 0 else (whole (gs.getD j default).ps).ev (meanTo gs cs j)) := by
        simp [meanTo, List.getD, List.getElem?_append, hl]
      rw [e]
      cases hk : ((gs.getD j default).k == 0)
      · simp only [Bool.false_eq_true, if_false]
        refine Tm.ev_bd _ ih _ ?_
        rw [hl]
        exact whole_ok _ _ (nodeOK_formula gs j ((validG_parts gs hg).2 j (by omega)) hk).1 (each_ahead gs j j hg (by omega) hk (Nat.le_refl _))
      · simp only [if_true]
        exact cellOK_bd gs cs j ((validC_parts gs cs hc).2 j (by omega))

theorem canEv_of (ps : List Pt) (vs : List Int) (hv : validF ps = true) (hl : vs.length ≤ 10) (hr : VOK vs) (he : eachOK ps vs.length = true) : canEv ps vs = true := by
  unfold canEv
  rw [hv, he, decide_eq_true hl]
  simp only [Bool.true_and, Bool.and_true]
  refine allR_true _ _ _ fun k hk => ?_
  have := hr k hk
  unfold rng
  simpa using this

/-- The formula of a node can be evaluated with the values of the nodes ahead. -/
theorem mean_canEv (gs : List Nd) (cs : List Int) (h : okC gs cs = true) (i : Nat) (hi : i < gs.length) (hk : ((gs.getD i default).k == 0) = false) : canEv (gs.getD i default).ps (meanTo gs cs i) = true := by
  have hv := meanTo_VOK gs cs h i (by omega)
  unfold okC at h
  simp only [Bool.and_eq_true] at h
  obtain ⟨hg, hc⟩ := h
  have hl := meanTo_len gs cs i
  have h10 := (validG_parts gs hg).1
  refine canEv_of _ _ (nodeOK_formula gs i ((validG_parts gs hg).2 i hi) hk).1 (by omega) hv ?_
  rw [hl]
  exact each_ahead gs i i hg hi hk (Nat.le_refl _)

theorem okC_parts (gs : List Nd) (cs : List Int) (h : okC gs cs = true) : validG gs = true ∧ validC gs cs = true := by
  unfold okC at h
  simpa only [Bool.and_eq_true] using h

/-- The heights of the first nodes. -/
def htTo (gs : List Nd) : Nat → List Int
  | 0 => []
  | i + 1 => htTo gs i ++ [(mayR (gs.getD i default).ps).foldl (fun h x => max h ((htTo gs i).getD x.toNat 0 + 1)) 0]
def htF (gs : List Nd) : List Int := if validG gs then htTo gs gs.length else []

theorem htTo_len (gs : List Nd) (i : Nat) : (htTo gs i).length = i := by
  induction i with
  | zero => rfl
  | succ i ih => simp [htTo, ih]

theorem foldl_max_bd (L : List Int) (f : Int → Int) (a b : Int) (ha : 0 ≤ a) (hab : a ≤ b) (hf : ∀ x ∈ L, f x ≤ b) : 0 ≤ L.foldl (fun h x => max h (f x)) a ∧ L.foldl (fun h x => max h (f x)) a ≤ b := by
  induction L generalizing a with
  | nil => exact ⟨ha, hab⟩
  | cons y L ih =>
    rw [List.foldl_cons]
    have := hf y List.mem_cons_self
    exact ih (max a (f y)) (by omega) (by omega) fun x hx => hf x (List.mem_cons_of_mem _ hx)

theorem htTo_bd (gs : List Nd) (i : Nat) : ∀ j, 0 ≤ (htTo gs i).getD j 0 ∧ (htTo gs i).getD j 0 ≤ i := by
  induction i with
  | zero => intro j; simp [htTo]
  | succ i ih =>
    intro j
    have hl := htTo_len gs i
    rcases Nat.lt_or_ge j i with h1 | h1
    · have := ih j
      have e : (htTo gs (i + 1)).getD j 0 = (htTo gs i).getD j 0 := by simp [htTo, List.getD, List.getElem?_append, hl, h1]
      rw [e]; omega
    · by_cases hj : j = i
      · subst hj
        have e : (htTo gs (j + 1)).getD j 0 = (mayR (gs.getD j default).ps).foldl (fun h x => max h ((htTo gs j).getD x.toNat 0 + 1)) 0 := by simp [htTo, List.getD, List.getElem?_append, hl]
        rw [e]
        have := foldl_max_bd (mayR (gs.getD j default).ps) (fun x => (htTo gs j).getD x.toNat 0 + 1) 0 (j + 1 : Nat) (by omega) (by omega) (fun x _ => by have := ih x.toNat; omega)
        exact this
      · have e : (htTo gs (i + 1)).getD j 0 = 0 := by
          have : (htTo gs (i + 1)).length ≤ j := by rw [htTo_len]; omega
          simp [List.getD, List.getElem?_eq_none this]
        rw [e]; omega

/-- The indices at which two lists differ. -/
def diffTo (a b : List Int) (k : Nat) : List Int := ((List.range k).filter fun i => !(a.getD i 0 == b.getD i 0)).map fun i : Nat => (i : Int)
theorem diffTo_step (a b : List Int) (k : Nat) : diffTo a b (k + 1) = diffTo a b k ++ (if a.getD k 0 == b.getD k 0 then [] else [(k : Int)]) := by
  unfold diffTo
  rw [List.range_succ, List.filter_append, List.map_append]
  congr 1
  cases h : (a.getD k 0 == b.getD k 0) <;> simp [h, -List.getD_eq_getElem?_getD]
theorem diffTo_len (a b : List Int) (k : Nat) : (diffTo a b k).length ≤ k := by
  unfold diffTo
  rw [List.length_map]
  have := List.length_filter_le (fun i => !(a.getD i 0 == b.getD i 0)) (List.range k)
  simpa using this
end Go.Proofs.Ythnilpibpmlaeaa

/- impl.ValueOf. -/
namespace Go.Proofs.Ythnilpibpmlaeaa
set_option linter.unusedSimpArgs false
set_option linter.unusedVariables false
open Go.RowKit

theorem grown_of_below {w w' : World} (h : Below w.heap.size w w') (row : Option Nat) : w.grownBy w' row :=
  ⟨h.os, h.tape, h.output, h.size, fun k hk _ => h.block k hk⟩

set_option maxHeartbeats 400000 in
theorem look_value (A' : Option Addr) (m c' g q : Nat) (vs : List Int) (w : World) (B : Nat) (hm : m = vs.length) (hs' : m ≤ 2000000) (hq : q < vs.length) (hc : w.cell? ⟨g, 0, none⟩ = some (.slice A' m c')) (h : IS w B A' vs) :
    Calls Try.prog 96 #[.int .i64 q, .pointer (some ⟨g, 0, none⟩)] w fun e w' => e = .returned (.int .i64 (vs.getD q 0)) ∧ w = w' := by
  obtain ⟨b, off, rfl, hb, hcc⟩ := h (by omega)
  have hx := hcc q hq
  have hqm : q < m := by omega
  generalize vs.getD q 0 = x at *
  clear hcc h hm hq
  go_enter Try.func96, Try.ntmps96
  go_wp2
  go_ret
  exact ⟨rfl, rfl⟩

set_option maxHeartbeats 800000 in
theorem impl_ValueOf (A A' : Option Addr) (n c m c' : Nat) (ps : List Pt) (vs : List Int) (B : Nat) (hn : n = ps.length) (hm : m = vs.length) (hs : n ≤ 1999999) (hs' : m ≤ 2000000) (w : World) (hB : B ≤ w.heap.size) (h : PS w B A ps) (h' : IS w B A' vs) :
    Calls Try.prog 87 #[.agg #[.slice A n c], .slice A' m c'] w fun e w' => e = .returned (.tuple #[.int .i64 (valF ps vs), .bool (canEv ps vs)]) ∧ Below w.heap.size w w' := by
  have H := Lib.hid h
  have HN := Lib.hid hn
  have H' := Lib.hid h'
  have HM := Lib.hid hm
  clear hn h hm h'
  cases hc : canEv ps vs
  · have hr : valF ps vs = 0 := by simp [valF, hc]
    rw [hr]
    have HC := Lib.hid hc
    clear hr hc
    go_enter Try.func87, Try.ntmps87
    go_wp2_with fail
    refine (impl_canEvaluate _ _ _ _ _ _ ps vs _ B (by simp; omega) HN.out HM.out ((H.out.alloc hB _).alloc (by simp; omega) _) ((H'.out.alloc hB _).alloc (by simp; omega) _) (by omega) hs').mono ?_
    rintro e w1 ⟨rfl, hb⟩
    rw [HC.out]
    go_wp2
    go_ret2
    exact ⟨rfl, (((Below.refl _ _).alloc (Nat.le_refl _) _).alloc (by simp) _).trans (hb.mono (by simp; omega))⟩
  · have hr : valF ps vs = (whole ps).ev vs := by simp [valF, hc]
    rw [hr]
    obtain ⟨hv, hvo, hm10, hea⟩ := canEv_parts ps vs hc
    obtain ⟨hg, h1, h12⟩ := validF_good ps hv
    have hok : (whole ps).ok vs.length := tmAt_ok ps vs.length hg hea ps.length (ps.length - 1) (by omega) (by omega)
    have HWH := Lib.hid (fun (w : World) => impl_wholeOf A n c ps B HN.out hg (by omega) (by have := HN.out; omega) w)
    rw [show tmAt ps n (n - 1) = whole ps by rw [HN.out]; rfl] at HWH
    have HC := Lib.hid hc
    have HVO := Lib.hid hvo
    have HOK := Lib.hid hok
    clear hr hc hv hvo hea hg h1 h12 hok
    generalize whole ps = t at *
    go_enter Try.func87, Try.ntmps87
    go_wp2_with fail
    refine (impl_canEvaluate _ _ _ _ _ _ ps vs _ B (by simp; omega) HN.out HM.out ((H.out.alloc hB _).alloc (by simp; omega) _) ((H'.out.alloc hB _).alloc (by simp; omega) _) (by omega) hs').mono ?_
    rintro e w1 ⟨rfl, hb⟩
    rw [HC.out]
    have hz : w.heap.size + 1 + 1 ≤ w1.heap.size := by have := hb.size; simpa using this
    have hbox : w1.cell? ⟨w.heap.size, 0, none⟩ = some (.slice A n c) := (hb.cell (p := ⟨w.heap.size, 0, none⟩) (by simp; omega)).trans (by go_simp)
    have hbox2 : w1.cell? ⟨w.heap.size + 1, 0, none⟩ = some (.slice A' m c') := (hb.cell (p := ⟨w.heap.size + 1, 0, none⟩) (by simp)).trans (by go_simp)
    have HP1 := Lib.hid (((H.out.alloc hB (.cells #[.slice A n c] 61)).alloc (by simp; omega) (.cells #[.slice A' m c'] 25)).below hb (by simp; omega))
    have HI1 := Lib.hid (((H'.out.alloc hB (.cells #[.slice A n c] 61)).alloc (by simp; omega) (.cells #[.slice A' m c'] 25)).below hb (by simp; omega))
    have hB1 : Below w.heap.size w w1 := (((Below.refl _ _).alloc (Nat.le_refl _) _).alloc (by simp) _).trans (hb.mono (by simp; omega))
    clear hb
    go_wp2_with fail
    refine (HWH.out _ (by omega) HP1.out).mono ?_
    rintro e w2 ⟨T, x, rfl, hT, hb2⟩
    have HT := Lib.hid hT
    clear hT
    have hz2 : w.heap.size + 1 + 1 ≤ w2.heap.size := by have := hb2.size; omega
    have hbox3 : w2.cell? ⟨w.heap.size + 1, 0, none⟩ = some (.slice A' m c') := (hb2.cell (p := ⟨w.heap.size + 1, 0, none⟩) (by show w.heap.size + 1 < w1.heap.size; omega)).trans hbox2
    have HI2 := Lib.hid (HI1.out.below hb2 (by omega))
    have hB2 : Below w.heap.size w w2 := hB1.trans (hb2.mono (by omega))
    have HEV := Lib.hid (impl_evaluate1 96 (.pointer (some ⟨w.heap.size + 1, 0, none⟩)) vs HVO.out (fun _ _ => False) (fun _ w' => Below w2.heap.size w2 w')
      (fun acc w' k h hf => hf.elim) (fun acc wa wb h1 h2 => ⟨h1.trans (h2.mono h1.size), fun k hf => hf⟩) (fun q w => by kernel_rfl)
      (fun q acc wa hq h1 => (look_value A' m c' (w.heap.size + 1) q vs wa B HM.out hs' hq ((h1.cell (p := ⟨w.heap.size + 1, 0, none⟩) (by show w.heap.size + 1 < w2.heap.size; omega)).trans hbox3) (HI2.out.below h1 (by omega))).mono
        fun e wb ⟨he, hw⟩ => ⟨he, by rw [← hw]; exact h1, by rw [← hw]; exact Fr.of_below (Below.refl _ _) fun k hf => hf⟩) t)
    clear hb2
    go_wp2_with fail
    rw [← HT.out]
    refine (HEV.out [] _ HOK.out (Below.refl _ _)).mono ?_
    rintro e w3 ⟨rfl, hb3, _⟩
    go_wp2
    go_ret2
    exact ⟨by simp, hB2.trans (hb3.mono (by omega))⟩
end Go.Proofs.Ythnilpibpmlaeaa
