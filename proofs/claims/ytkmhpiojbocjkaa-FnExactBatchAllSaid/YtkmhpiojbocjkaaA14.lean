/- The contract of impl.evaluate, whatever it looks nodes up with. -/
import Derived.Test.YtkmhpiojbocjkaaA13
import Derived.Test.YtkmhpiojbocjkaaA9
namespace Go.Proofs.Ytkmhpiojbocjkaa
set_option linter.unusedSimpArgs false
set_option linter.unusedVariables false
open Go.RowKit

theorem ta_NN (x : Value) (w : World) : (Instr.typeAssert (.iface 166 x) 161 166 true).run Try.prog w = .ok (.tuple #[x, .bool true]) w := by kernel_rfl
theorem ta_RN (x : Value) (w : World) : (Instr.typeAssert (.iface 168 x) 161 166 true).run Try.prog w = .ok (.tuple #[.agg #[.int .i64 0], .bool false]) w := by kernel_rfl
theorem ta_RR (x : Value) (w : World) : (Instr.typeAssert (.iface 168 x) 161 168 true).run Try.prog w = .ok (.tuple #[x, .bool true]) w := by kernel_rfl
theorem ta_PN (x : Value) (w : World) : (Instr.typeAssert (.iface 170 x) 161 166 true).run Try.prog w = .ok (.tuple #[.agg #[.int .i64 0], .bool false]) w := by kernel_rfl
theorem ta_PR (x : Value) (w : World) : (Instr.typeAssert (.iface 170 x) 161 168 true).run Try.prog w = .ok (.tuple #[.agg #[.int .i64 0], .bool false]) w := by kernel_rfl
theorem ta_PP (x : Value) (w : World) : (Instr.typeAssert (.iface 170 x) 161 170 true).run Try.prog w = .ok (.tuple #[x, .bool true]) w := by kernel_rfl
theorem ta_CN (x : Value) (w : World) : (Instr.typeAssert (.iface 173 x) 161 166 true).run Try.prog w = .ok (.tuple #[.agg #[.int .i64 0], .bool false]) w := by kernel_rfl
theorem ta_CR (x : Value) (w : World) : (Instr.typeAssert (.iface 173 x) 161 168 true).run Try.prog w = .ok (.tuple #[.agg #[.int .i64 0], .bool false]) w := by kernel_rfl
theorem ta_CP (x : Value) (w : World) : (Instr.typeAssert (.iface 173 x) 161 170 true).run Try.prog w = .ok (.tuple #[.agg #[.int .i64 0, .nilIface, .nilIface], .bool false]) w := by kernel_rfl
theorem ta_CC (x : Value) (w : World) : (Instr.typeAssert (.iface 173 x) 161 173 true).run Try.prog w = .ok (.tuple #[x, .bool true]) w := by kernel_rfl

/-- From w to w' only blocks of the footprint have turned; the footprint has got new blocks alone. -/
structure Fr (foot : World → Nat → Prop) (w w' : World) : Prop where
  size : w.heap.size ≤ w'.heap.size
  block : ∀ k, k < w.heap.size → ¬ foot w k → w'.heap[k]? = w.heap[k]?
  foot : ∀ k, foot w' k → foot w k ∨ w.heap.size ≤ k

theorem Fr.tr {foot : World → Nat → Prop} {a b c : World} (h : Fr foot a b) (k : Fr foot b c) : Fr foot a c :=
  ⟨Nat.le_trans h.size k.size, fun i hi hn => (k.block i (Nat.lt_of_lt_of_le hi h.size) fun hb => by
    rcases h.foot i hb with h1 | h1
    · exact hn h1
    · omega).trans (h.block i hi hn), fun i hi => by
    rcases k.foot i hi with h1 | h1
    · exact h.foot i h1
    · exact .inr (Nat.le_trans h.size h1)⟩

theorem Fr.cell {foot : World → Nat → Prop} {w w' : World} (h : Fr foot w w') {a : Addr} {v : Value} (hl : a.block < w.heap.size) (hn : ¬ foot w a.block) (hc : w.cell? a = some v) : w'.cell? a = some v :=
  (World.cell?_of_block (h.block a.block hl hn)).trans hc

theorem Fr.of_below {foot : World → Nat → Prop} {w w' : World} (h : Below w.heap.size w w') (hf : ∀ k, foot w' k → foot w k) : Fr foot w w' :=
  ⟨h.size, fun k hk _ => h.block k hk, fun k hk => .inl (hf k hk)⟩

set_option maxRecDepth 100000 in
set_option maxHeartbeats 3200000 in
theorem impl_evaluate1 (K : FuncId) (cap : Value) (vs : List Int) (hv : VOK vs) (foot : World → Nat → Prop) (I : List Int → World → Prop) (hG : ∀ acc w k, I acc w → foot w k → k < w.heap.size) (hI : ∀ acc w w', I acc w → Below w.heap.size w w' → I acc w' ∧ ∀ k, foot w' k → foot w k)
    (hcf : ∀ (q : Nat) (w : World), (callFunc K #[.int .i64 q, cap]).run Try.prog w = .ok (.enter K #[.int .i64 q, cap]) w)
    (hlook : ∀ (q : Nat) acc w, q < vs.length → I acc w → Calls Try.prog K #[.int .i64 q, cap] w fun e w' => e = .returned (.int .i64 (vs.getD q 0)) ∧ I (acc ++ [(q : Int)]) w' ∧ Fr foot w w') (t : Tm) :
    ∀ (acc : List Int) (w : World), t.ok vs.length → I acc w →
    Calls Try.prog 112 #[t.val, .func (.func K) #[] #[cap]] w fun e w' => e = .returned (.int .i64 (t.ev vs)) ∧ I (acc ++ t.rds vs) w' ∧ Fr foot w w' := by
  have HI := Lib.hid hI
  have HL := Lib.hid hlook
  have HV := Lib.hid hv
  have HG := Lib.hid hG
  have HCF := Lib.hid hcf
  clear hI hlook hv hG hcf
  induction t with
  | num v =>
    intro acc w hok h
    have H := Lib.hid h
    clear h hok
    show Calls _ _ #[.iface 166 (.agg #[.int .i64 v]), _] _ _
    have t1 := fun w => ta_NN (.agg #[.int .i64 v]) w
    go_enter Try.func112, Try.ntmps112
    go_wp2
    go_ret
    refine ⟨by simp [Tm.ev], ?_, Fr.of_below ((Below.refl w.heap.size w).alloc (Nat.le_refl _) _) (HI.out _ _ _ H.out ((Below.refl w.heap.size w).alloc (Nat.le_refl _) _)).2⟩
    have h1 := (HI.out _ _ _ H.out ((Below.refl w.heap.size w).alloc (Nat.le_refl _) (.cells #[.int .i64 v] 166))).1
    simpa [Tm.rds] using h1
  | rd v =>
    intro acc w hok h
    simp only [Tm.ok] at hok
    obtain ⟨q, rfl⟩ : ∃ q : Nat, v = (q : Int) := ⟨v.toNat, by omega⟩
    have hq : q < vs.length := by omega
    have HW0 := HI.out _ _ _ h ((Below.refl w.heap.size w).alloc (Nat.le_refl _) (.cells #[.int .i64 q] 168))
    have HW := Lib.hid HW0.1
    have HFR := Lib.hid (Fr.of_below (foot := foot) ((Below.refl w.heap.size w).alloc (Nat.le_refl _) (.cells #[.int .i64 q] 168)) HW0.2)
    have HNF := Lib.hid (show ¬ foot _ w.heap.size from fun hf => Nat.lt_irrefl _ (HG.out _ _ w.heap.size h (HW0.2 _ hf)))
    clear HW0
    clear h hok
    show Calls _ _ #[.iface 168 (.agg #[.int .i64 q]), _] _ _
    have t1 := fun w => ta_RN (.agg #[.int .i64 q]) w
    have t2 := fun w => ta_RR (.agg #[.int .i64 q]) w
    have hc := HCF.out q
    go_enter Try.func112, Try.ntmps112
    go_wp2_with fail
    refine (HL.out q acc _ hq HW.out).mono ?_
    rintro e w1 ⟨rfl, hI1, hg1⟩
    have H1 := Lib.hid hI1
    have HG1 := Lib.hid hg1
    clear hI1 hg1
    go_wp2
    go_ret
    exact ⟨by simp [Tm.ev, hq], H1.out, HFR.out.tr HG1.out⟩
  | pr k l r hl hr =>
    intro acc w hok h
    simp only [Tm.ok] at hok
    obtain ⟨T1, x1, e1⟩ := l.val_form
    obtain ⟨T2, x2, e2⟩ := r.val_form
    have HW0 := HI.out _ _ _ h ((Below.refl w.heap.size w).alloc (Nat.le_refl _) (.cells #[.int .i64 k, .iface T1 x1, .iface T2 x2] 170))
    have HW := Lib.hid HW0.1
    have HFR := Lib.hid (Fr.of_below (foot := foot) ((Below.refl w.heap.size w).alloc (Nat.le_refl _) (.cells #[.int .i64 k, .iface T1 x1, .iface T2 x2] 170)) HW0.2)
    have HNF := Lib.hid (show ¬ foot _ w.heap.size from fun hf => Nat.lt_irrefl _ (HG.out _ _ w.heap.size h (HW0.2 _ hf)))
    clear HW0
    obtain ⟨ex1, ex2⟩ := Tm.ev_bd vs HV.out l hok.1
    obtain ⟨ey1, ey2⟩ := Tm.ev_bd vs HV.out r hok.2
    have HLC := Lib.hid (fun acc w => hl acc w hok.1)
    have HRC := Lib.hid (fun acc w => hr acc w hok.2)
    have hev : (Tm.pr k l r).ev vs = jn k (l.ev vs) (r.ev vs) := rfl
    have hrd : (Tm.pr k l r).rds vs = l.rds vs ++ r.rds vs := rfl
    rw [hev, hrd]
    show Calls _ _ #[.iface 170 (.agg #[.int .i64 k, l.val, r.val]), _] _ _
    rw [e1, e2]
    rw [e1] at HLC
    rw [e2] at HRC
    generalize l.ev vs = xa at *
    generalize r.ev vs = xb at *
    generalize l.rds vs = ra at *
    generalize r.rds vs = rb at *
    clear h hok hl hr hev hrd e1 e2
    have t1 := fun w => ta_PN (.agg #[.int .i64 k, .iface T1 x1, .iface T2 x2]) w
    have t2 := fun w => ta_PR (.agg #[.int .i64 k, .iface T1 x1, .iface T2 x2]) w
    have t3 := fun w => ta_PP (.agg #[.int .i64 k, .iface T1 x1, .iface T2 x2]) w
    go_enter Try.func112, Try.ntmps112
    go_wp2_with fail
    refine (HLC.out acc _ HW.out).mono ?_
    rintro e w1 ⟨rfl, hI1, hg1⟩
    have q0 : w1.cell? ⟨w.heap.size, 0, none⟩ = some (.int .i64 k) := hg1.cell (a := ⟨w.heap.size, 0, none⟩) (by simp) HNF.out (by go_simp)
    have q2 : w1.cell? ⟨w.heap.size, 2, none⟩ = some (.iface T2 x2) := hg1.cell (a := ⟨w.heap.size, 2, none⟩) (by simp) HNF.out (by go_simp)
    have H1 := Lib.hid hI1
    have HG1 := Lib.hid (HFR.out.tr hg1)
    have hs1 : w.heap.size < w1.heap.size := by have := hg1.size; simp at this; omega
    have HNF1 := Lib.hid (show ¬ foot w1 w.heap.size from fun hf => (hg1.foot w.heap.size hf).elim HNF.out (fun h9 => by simp at h9; try omega))
    clear hI1 hg1
    go_wp2_with fail
    refine (HRC.out _ _ H1.out).mono ?_
    rintro e w2 ⟨rfl, hI2, hg2⟩
    have q0' : w2.cell? ⟨w.heap.size, 0, none⟩ = some (.int .i64 k) := hg2.cell (a := ⟨w.heap.size, 0, none⟩) hs1 HNF1.out q0
    have H2 := Lib.hid hI2
    have HG2 := Lib.hid (HG1.out.tr hg2)
    clear hI2 hg2 q0 q2
    go_wp2_with (go_at_call 118; refine (impl_combine k xa xb (by omega) (by omega) (by omega) (by omega) _).mono ?_; rintro e w3 ⟨rfl, rfl⟩)
    go_ret
    exact ⟨by simp, by rw [← List.append_assoc]; exact H2.out, HG2.out⟩
  | ch t a b ht ha hb =>
    intro acc w hok h
    simp only [Tm.ok] at hok
    obtain ⟨T1, x1, e1⟩ := t.val_form
    obtain ⟨T2, x2, e2⟩ := a.val_form
    obtain ⟨T3, x3, e3⟩ := b.val_form
    have HW0 := HI.out _ _ _ h ((Below.refl w.heap.size w).alloc (Nat.le_refl _) (.cells #[.iface T1 x1, .iface T2 x2, .iface T3 x3] 173))
    have HW := Lib.hid HW0.1
    have HFR := Lib.hid (Fr.of_below (foot := foot) ((Below.refl w.heap.size w).alloc (Nat.le_refl _) (.cells #[.iface T1 x1, .iface T2 x2, .iface T3 x3] 173)) HW0.2)
    have HNF := Lib.hid (show ¬ foot _ w.heap.size from fun hf => Nat.lt_irrefl _ (HG.out _ _ w.heap.size h (HW0.2 _ hf)))
    clear HW0
    have HTC := Lib.hid (fun acc w => ht acc w hok.1)
    have HAC := Lib.hid (fun acc w => ha acc w hok.2.1)
    have HBC := Lib.hid (fun acc w => hb acc w hok.2.2)
    have hev : (Tm.ch t a b).ev vs = if t.ev vs == 0 then b.ev vs else a.ev vs := rfl
    have hrd : (Tm.ch t a b).rds vs = t.rds vs ++ (if t.ev vs == 0 then b.rds vs else a.rds vs) := rfl
    rw [hev, hrd]
    show Calls _ _ #[.iface 173 (.agg #[t.val, a.val, b.val]), _] _ _
    rw [e1, e2, e3]
    rw [e1] at HTC
    rw [e2] at HAC
    rw [e3] at HBC
    have t1 := fun w => ta_CN (.agg #[.iface T1 x1, .iface T2 x2, .iface T3 x3]) w
    have t2 := fun w => ta_CR (.agg #[.iface T1 x1, .iface T2 x2, .iface T3 x3]) w
    have t3 := fun w => ta_CP (.agg #[.iface T1 x1, .iface T2 x2, .iface T3 x3]) w
    have t4 := fun w => ta_CC (.agg #[.iface T1 x1, .iface T2 x2, .iface T3 x3]) w
    cases hz : (t.ev vs == 0)
    · have hz' : (t.ev vs != 0) = true := by simp [bne, hz]
      simp only [Bool.false_eq_true, if_false]
      generalize t.ev vs = xt at *
      generalize a.ev vs = xa at *
      generalize t.rds vs = rt at *
      generalize a.rds vs = ra at *
      clear h hok ht ha hb hev hrd e1 e2 e3 hz
      go_enter Try.func112, Try.ntmps112
      go_wp2_with fail
      refine (HTC.out acc _ HW.out).mono ?_
      rintro e w1 ⟨rfl, hI1, hg1⟩
      have q1 : w1.cell? ⟨w.heap.size, 1, none⟩ = some (.iface T2 x2) := hg1.cell (a := ⟨w.heap.size, 1, none⟩) (by simp) HNF.out (by go_simp)
      have H1 := Lib.hid hI1
      have HG1 := Lib.hid (HFR.out.tr hg1)
      clear hI1 hg1
      go_wp2_with fail
      refine (HAC.out _ _ H1.out).mono ?_
      rintro e w2 ⟨rfl, hI2, hg2⟩
      have H2 := Lib.hid hI2
      have HG2 := Lib.hid (HG1.out.tr hg2)
      clear hI2 hg2
      go_wp2
      go_ret
      exact ⟨by simp, by rw [← List.append_assoc]; exact H2.out, HG2.out⟩
    · have hz' : (t.ev vs != 0) = false := by simp [bne, hz]
      simp only [if_true]
      generalize t.ev vs = xt at *
      generalize b.ev vs = xb at *
      generalize t.rds vs = rt at *
      generalize b.rds vs = rb at *
      clear h hok ht ha hb hev hrd e1 e2 e3 hz
      go_enter Try.func112, Try.ntmps112
      go_wp2_with fail
      refine (HTC.out acc _ HW.out).mono ?_
      rintro e w1 ⟨rfl, hI1, hg1⟩
      have q1 : w1.cell? ⟨w.heap.size, 2, none⟩ = some (.iface T3 x3) := hg1.cell (a := ⟨w.heap.size, 2, none⟩) (by simp) HNF.out (by go_simp)
      have H1 := Lib.hid hI1
      have HG1 := Lib.hid (HFR.out.tr hg1)
      clear hI1 hg1
      go_wp2_with fail
      refine (HBC.out _ _ H1.out).mono ?_
      rintro e w2 ⟨rfl, hI2, hg2⟩
      have H2 := Lib.hid hI2
      have HG2 := Lib.hid (HG1.out.tr hg2)
      clear hI2 hg2
      go_wp2
      go_ret
      exact ⟨by simp, by rw [← List.append_assoc]; exact H2.out, HG2.out⟩

set_option maxRecDepth 100000 in
set_option maxHeartbeats 3200000 in
theorem impl_evaluate2 (K : FuncId) (cap cap2 : Value) (vs : List Int) (hv : VOK vs) (foot : World → Nat → Prop) (I : List Int → World → Prop) (hG : ∀ acc w k, I acc w → foot w k → k < w.heap.size) (hI : ∀ acc w w', I acc w → Below w.heap.size w w' → I acc w' ∧ ∀ k, foot w' k → foot w k)
    (hcf : ∀ (q : Nat) (w : World), (callFunc K #[.int .i64 q, cap, cap2]).run Try.prog w = .ok (.enter K #[.int .i64 q, cap, cap2]) w)
    (hlook : ∀ (q : Nat) acc w, q < vs.length → I acc w → Calls Try.prog K #[.int .i64 q, cap, cap2] w fun e w' => e = .returned (.int .i64 (vs.getD q 0)) ∧ I (acc ++ [(q : Int)]) w' ∧ Fr foot w w') (t : Tm) :
    ∀ (acc : List Int) (w : World), t.ok vs.length → I acc w →
    Calls Try.prog 112 #[t.val, .func (.func K) #[] #[cap, cap2]] w fun e w' => e = .returned (.int .i64 (t.ev vs)) ∧ I (acc ++ t.rds vs) w' ∧ Fr foot w w' := by
  have HI := Lib.hid hI
  have HL := Lib.hid hlook
  have HV := Lib.hid hv
  have HG := Lib.hid hG
  have HCF := Lib.hid hcf
  clear hI hlook hv hG hcf
  induction t with
  | num v =>
    intro acc w hok h
    have H := Lib.hid h
    clear h hok
    show Calls _ _ #[.iface 166 (.agg #[.int .i64 v]), _] _ _
    have t1 := fun w => ta_NN (.agg #[.int .i64 v]) w
    go_enter Try.func112, Try.ntmps112
    go_wp2
    go_ret
    refine ⟨by simp [Tm.ev], ?_, Fr.of_below ((Below.refl w.heap.size w).alloc (Nat.le_refl _) _) (HI.out _ _ _ H.out ((Below.refl w.heap.size w).alloc (Nat.le_refl _) _)).2⟩
    have h1 := (HI.out _ _ _ H.out ((Below.refl w.heap.size w).alloc (Nat.le_refl _) (.cells #[.int .i64 v] 166))).1
    simpa [Tm.rds] using h1
  | rd v =>
    intro acc w hok h
    simp only [Tm.ok] at hok
    obtain ⟨q, rfl⟩ : ∃ q : Nat, v = (q : Int) := ⟨v.toNat, by omega⟩
    have hq : q < vs.length := by omega
    have HW0 := HI.out _ _ _ h ((Below.refl w.heap.size w).alloc (Nat.le_refl _) (.cells #[.int .i64 q] 168))
    have HW := Lib.hid HW0.1
    have HFR := Lib.hid (Fr.of_below (foot := foot) ((Below.refl w.heap.size w).alloc (Nat.le_refl _) (.cells #[.int .i64 q] 168)) HW0.2)
    have HNF := Lib.hid (show ¬ foot _ w.heap.size from fun hf => Nat.lt_irrefl _ (HG.out _ _ w.heap.size h (HW0.2 _ hf)))
    clear HW0
    clear h hok
    show Calls _ _ #[.iface 168 (.agg #[.int .i64 q]), _] _ _
    have t1 := fun w => ta_RN (.agg #[.int .i64 q]) w
    have t2 := fun w => ta_RR (.agg #[.int .i64 q]) w
    have hc := HCF.out q
    go_enter Try.func112, Try.ntmps112
    go_wp2_with fail
    refine (HL.out q acc _ hq HW.out).mono ?_
    rintro e w1 ⟨rfl, hI1, hg1⟩
    have H1 := Lib.hid hI1
    have HG1 := Lib.hid hg1
    clear hI1 hg1
    go_wp2
    go_ret
    exact ⟨by simp [Tm.ev, hq], H1.out, HFR.out.tr HG1.out⟩
  | pr k l r hl hr =>
    intro acc w hok h
    simp only [Tm.ok] at hok
    obtain ⟨T1, x1, e1⟩ := l.val_form
    obtain ⟨T2, x2, e2⟩ := r.val_form
    have HW0 := HI.out _ _ _ h ((Below.refl w.heap.size w).alloc (Nat.le_refl _) (.cells #[.int .i64 k, .iface T1 x1, .iface T2 x2] 170))
    have HW := Lib.hid HW0.1
    have HFR := Lib.hid (Fr.of_below (foot := foot) ((Below.refl w.heap.size w).alloc (Nat.le_refl _) (.cells #[.int .i64 k, .iface T1 x1, .iface T2 x2] 170)) HW0.2)
    have HNF := Lib.hid (show ¬ foot _ w.heap.size from fun hf => Nat.lt_irrefl _ (HG.out _ _ w.heap.size h (HW0.2 _ hf)))
    clear HW0
    obtain ⟨ex1, ex2⟩ := Tm.ev_bd vs HV.out l hok.1
    obtain ⟨ey1, ey2⟩ := Tm.ev_bd vs HV.out r hok.2
    have HLC := Lib.hid (fun acc w => hl acc w hok.1)
    have HRC := Lib.hid (fun acc w => hr acc w hok.2)
    have hev : (Tm.pr k l r).ev vs = jn k (l.ev vs) (r.ev vs) := rfl
    have hrd : (Tm.pr k l r).rds vs = l.rds vs ++ r.rds vs := rfl
    rw [hev, hrd]
    show Calls _ _ #[.iface 170 (.agg #[.int .i64 k, l.val, r.val]), _] _ _
    rw [e1, e2]
    rw [e1] at HLC
    rw [e2] at HRC
    generalize l.ev vs = xa at *
    generalize r.ev vs = xb at *
    generalize l.rds vs = ra at *
    generalize r.rds vs = rb at *
    clear h hok hl hr hev hrd e1 e2
    have t1 := fun w => ta_PN (.agg #[.int .i64 k, .iface T1 x1, .iface T2 x2]) w
    have t2 := fun w => ta_PR (.agg #[.int .i64 k, .iface T1 x1, .iface T2 x2]) w
    have t3 := fun w => ta_PP (.agg #[.int .i64 k, .iface T1 x1, .iface T2 x2]) w
    go_enter Try.func112, Try.ntmps112
    go_wp2_with fail
    refine (HLC.out acc _ HW.out).mono ?_
    rintro e w1 ⟨rfl, hI1, hg1⟩
    have q0 : w1.cell? ⟨w.heap.size, 0, none⟩ = some (.int .i64 k) := hg1.cell (a := ⟨w.heap.size, 0, none⟩) (by simp) HNF.out (by go_simp)
    have q2 : w1.cell? ⟨w.heap.size, 2, none⟩ = some (.iface T2 x2) := hg1.cell (a := ⟨w.heap.size, 2, none⟩) (by simp) HNF.out (by go_simp)
    have H1 := Lib.hid hI1
    have HG1 := Lib.hid (HFR.out.tr hg1)
    have hs1 : w.heap.size < w1.heap.size := by have := hg1.size; simp at this; omega
    have HNF1 := Lib.hid (show ¬ foot w1 w.heap.size from fun hf => (hg1.foot w.heap.size hf).elim HNF.out (fun h9 => by simp at h9; try omega))
    clear hI1 hg1
    go_wp2_with fail
    refine (HRC.out _ _ H1.out).mono ?_
    rintro e w2 ⟨rfl, hI2, hg2⟩
    have q0' : w2.cell? ⟨w.heap.size, 0, none⟩ = some (.int .i64 k) := hg2.cell (a := ⟨w.heap.size, 0, none⟩) hs1 HNF1.out q0
    have H2 := Lib.hid hI2
    have HG2 := Lib.hid (HG1.out.tr hg2)
    clear hI2 hg2 q0 q2
    go_wp2_with (go_at_call 118; refine (impl_combine k xa xb (by omega) (by omega) (by omega) (by omega) _).mono ?_; rintro e w3 ⟨rfl, rfl⟩)
    go_ret
    exact ⟨by simp, by rw [← List.append_assoc]; exact H2.out, HG2.out⟩
  | ch t a b ht ha hb =>
    intro acc w hok h
    simp only [Tm.ok] at hok
    obtain ⟨T1, x1, e1⟩ := t.val_form
    obtain ⟨T2, x2, e2⟩ := a.val_form
    obtain ⟨T3, x3, e3⟩ := b.val_form
    have HW0 := HI.out _ _ _ h ((Below.refl w.heap.size w).alloc (Nat.le_refl _) (.cells #[.iface T1 x1, .iface T2 x2, .iface T3 x3] 173))
    have HW := Lib.hid HW0.1
    have HFR := Lib.hid (Fr.of_below (foot := foot) ((Below.refl w.heap.size w).alloc (Nat.le_refl _) (.cells #[.iface T1 x1, .iface T2 x2, .iface T3 x3] 173)) HW0.2)
    have HNF := Lib.hid (show ¬ foot _ w.heap.size from fun hf => Nat.lt_irrefl _ (HG.out _ _ w.heap.size h (HW0.2 _ hf)))
    clear HW0
    have HTC := Lib.hid (fun acc w => ht acc w hok.1)
    have HAC := Lib.hid (fun acc w => ha acc w hok.2.1)
    have HBC := Lib.hid (fun acc w => hb acc w hok.2.2)
    have hev : (Tm.ch t a b).ev vs = if t.ev vs == 0 then b.ev vs else a.ev vs := rfl
    have hrd : (Tm.ch t a b).rds vs = t.rds vs ++ (if t.ev vs == 0 then b.rds vs else a.rds vs) := rfl
    rw [hev, hrd]
    show Calls _ _ #[.iface 173 (.agg #[t.val, a.val, b.val]), _] _ _
    rw [e1, e2, e3]
    rw [e1] at HTC
    rw [e2] at HAC
    rw [e3] at HBC
    have t1 := fun w => ta_CN (.agg #[.iface T1 x1, .iface T2 x2, .iface T3 x3]) w
    have t2 := fun w => ta_CR (.agg #[.iface T1 x1, .iface T2 x2, .iface T3 x3]) w
    have t3 := fun w => ta_CP (.agg #[.iface T1 x1, .iface T2 x2, .iface T3 x3]) w
    have t4 := fun w => ta_CC (.agg #[.iface T1 x1, .iface T2 x2, .iface T3 x3]) w
    cases hz : (t.ev vs == 0)
    · have hz' : (t.ev vs != 0) = true := by simp [bne, hz]
      simp only [Bool.false_eq_true, if_false]
      generalize t.ev vs = xt at *
      generalize a.ev vs = xa at *
      generalize t.rds vs = rt at *
      generalize a.rds vs = ra at *
      clear h hok ht ha hb hev hrd e1 e2 e3 hz
      go_enter Try.func112, Try.ntmps112
      go_wp2_with fail
      refine (HTC.out acc _ HW.out).mono ?_
      rintro e w1 ⟨rfl, hI1, hg1⟩
      have q1 : w1.cell? ⟨w.heap.size, 1, none⟩ = some (.iface T2 x2) := hg1.cell (a := ⟨w.heap.size, 1, none⟩) (by simp) HNF.out (by go_simp)
      have H1 := Lib.hid hI1
      have HG1 := Lib.hid (HFR.out.tr hg1)
      clear hI1 hg1
      go_wp2_with fail
      refine (HAC.out _ _ H1.out).mono ?_
      rintro e w2 ⟨rfl, hI2, hg2⟩
      have H2 := Lib.hid hI2
      have HG2 := Lib.hid (HG1.out.tr hg2)
      clear hI2 hg2
      go_wp2
      go_ret
      exact ⟨by simp, by rw [← List.append_assoc]; exact H2.out, HG2.out⟩
    · have hz' : (t.ev vs != 0) = false := by simp [bne, hz]
      simp only [if_true]
      generalize t.ev vs = xt at *
      generalize b.ev vs = xb at *
      generalize t.rds vs = rt at *
      generalize b.rds vs = rb at *
      clear h hok ht ha hb hev hrd e1 e2 e3 hz
      go_enter Try.func112, Try.ntmps112
      go_wp2_with fail
      refine (HTC.out acc _ HW.out).mono ?_
      rintro e w1 ⟨rfl, hI1, hg1⟩
      have q1 : w1.cell? ⟨w.heap.size, 2, none⟩ = some (.iface T3 x3) := hg1.cell (a := ⟨w.heap.size, 2, none⟩) (by simp) HNF.out (by go_simp)
      have H1 := Lib.hid hI1
      have HG1 := Lib.hid (HFR.out.tr hg1)
      clear hI1 hg1
      go_wp2_with fail
      refine (HBC.out _ _ H1.out).mono ?_
      rintro e w2 ⟨rfl, hI2, hg2⟩
      have H2 := Lib.hid hI2
      have HG2 := Lib.hid (HG1.out.tr hg2)
      clear hI2 hg2
      go_wp2
      go_ret
      exact ⟨by simp, by rw [← List.append_assoc]; exact H2.out, HG2.out⟩
end Go.Proofs.Ytkmhpiojbocjkaa
