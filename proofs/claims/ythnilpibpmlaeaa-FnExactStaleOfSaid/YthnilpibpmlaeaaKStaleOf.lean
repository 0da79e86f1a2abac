/- For all arguments impl.StaleOf answers as the model does and leaves its arguments as they were: the exact law of StaleOf. Conditions: none. -/
import Derived.Test.YthnilpibpmlaeaaZ08
import Derived.Deep.RegionWith
/- The standing contracts of StaleOf. -/
namespace Go.Proofs.Ythnilpibpmlaeaa
set_option linter.unusedSimpArgs false
set_option linter.unusedVariables false
open Go.RowKit

def staleB (cs : List Int) (i : Nat) : Bool := !(cs.getD i 0 == 0)
def staleF (gs : List Nd) (st : Lz) : List Int := if validL gs st then nwTo (staleB st.cs) gs.length else []
theorem staleF_len (gs : List Nd) (st : Lz) : (staleF gs st).length ≤ 10 := by
  unfold staleF
  cases h : validL gs st
  · simp
  · simp only [if_true]
    have := nwTo_len (staleB st.cs) gs.length
    have := (validG_parts gs (validL_parts gs st h).1).1
    omega

set_option maxRecDepth 100000 in
set_option maxHeartbeats 1600000 in
theorem impl_nodesWhere1 (K : FuncId) (cap : Value) (P : Nat → Bool) (I : World → Prop) (A : Option Addr) (n c : Nat) (hs : n ≤ 2000000)
    (hI : ∀ w w' : World, I w → Below w.heap.size w w' → I w') (hcf : ∀ (q : Nat) (w : World), (callFunc K #[.int .i64 q, cap]).run Try.prog w = .ok (.enter K #[.int .i64 q, cap]) w)
    (hP : ∀ (q : Nat) (w : World), q < n → I w → Calls Try.prog K #[.int .i64 q, cap] w fun e w' => e = .returned (.bool (P q)) ∧ Below w.heap.size w w') (w : World) (h : I w) :
    Calls Try.prog 47 #[.agg #[.slice A n c], .func (.func K) #[] #[cap]] w fun e w' => RetI w (nwTo P n) e w' := by
  obtain ⟨i0, hi, hz0, hz1, hz2⟩ := info_parts info_int
  have HI := Lib.hid hI
  have HP := Lib.hid hP
  have H := Lib.hid h
  have HCF := Lib.hid hcf
  clear hI hP h hcf
  go_enter Try.func47, Try.ntmps47
  go_wp2
  go_loopw [5, 10] (fun v i wr => ∃ k : Nat, k ≤ n ∧ i = .int .i64 k ∧ Hid (OwnI wr (w.heap.size + 1) v (nwTo P k)) ∧ Below (w.heap.size + 1) (w.alloc (.cells #[.slice A n c] 34)) wr) (fun _ i _ => n - (intOf i).toNat)
  case atStart => exact ⟨0, Nat.zero_le _, rfl, World.ownsRow_nil _ _ _ _, Below.refl _ _⟩
  case round =>
    obtain ⟨k, hk, rfl, HO, hbr⟩ := hrel
    have hwr : w.heap.size + 1 ≤ wr.heap.size := by have := hbr.size; simpa using this
    by_cases hlt : k < n
    · have HST := Lib.hid (nwTo_step P k)
      have hdl := nwTo_len P k
      have HIR := Lib.hid (HI.out _ _ H.out (((Below.refl _ _).alloc (Nat.le_refl _) _).trans (hbr.mono (by omega))))
      have HPK := Lib.hid fun (w' : World) (h : I w') => HP.out k w' hlt h
      have hcf := HCF.out k
      generalize nwTo P k = D at *
      generalize P k = p at *
      cases p
      · go_wp2_with fail
        refine (HPK.out _ HIR.out).mono ?_
        rintro e w2 ⟨rfl, hb2⟩
        go_wp2
        go_roundw
        case rel => exact ⟨k + 1, by omega, by go_num, by rw [HST.out]; simpa [OwnI, Hid] using own_below HO.out hb2, hbr.trans (hb2.mono hwr)⟩
        case measure => simp [intOf]; omega
      · go_wp2_with fail
        refine (HPK.out _ HIR.out).mono ?_
        rintro e w2 ⟨rfl, hb2⟩
        have HO2 := Lib.hid (own_below HO.out hb2)
        have hbr2 := hbr.trans (hb2.mono hwr)
        have hw2 : w.heap.size + 1 ≤ w2.heap.size := by have := hb2.size; omega
        clear hcf
        go_wp2_with (at_builtin; refine wpList_append_own _ rfl _ _ 25 rfl (w.heap.size + 1) 3 i0 (.int .i64 0) 1 8 Try.underlying25 hi hz0 hz1 hz2 rfl (by decide) _ _ _ rfl (HO2.out.alloc _) ⟨_, 0, none⟩ 1 1 [.int .i64 k] rfl rfl (cell_one_new _ _ _) ?c2 ?c3 ?c4 ?c5 ?_)
        case c2 => first | rfl | (intro u hu; simp at hu; subst hu; rfl)
        case c3 => unfold maxLen; omega
        case c4 => omega
        case c5 => first | omega | (simp; omega)
        intro v' w3 hown' hgrow _
        have hpos := (HO2.out.alloc (.cells #[.int .i64 k] 3)).lt
        have HO' : Hid (OwnI w3 (w.heap.size + 1) v' (nwTo P (k + 1))) := by
          rw [HST.out]
          simpa [OwnI, Hid] using hown'
        have HB' := Lib.hid ((hbr2.alloc hw2 (.cells #[.int .i64 k] 3)).grown hgrow (by first | (simp; omega) | omega) (fun q hq => (hpos q hq).1))
        clear hown' hgrow hpos
        go_wp2
        go_roundw
        case rel => exact ⟨k + 1, by omega, by go_num, HO'.out, HB'.out⟩
        case measure => simp [intOf]; omega
    · obtain rfl : k = n := by omega
      go_wp2
      go_ret
      exact ⟨_, rfl, own_mono HO.out (by omega), ((Below.refl _ _).alloc (Nat.le_refl _) _).trans (hbr.mono (by omega))⟩

set_option maxRecDepth 100000 in
set_option maxHeartbeats 1600000 in
theorem top_spec_StaleOf (gs : List Nd) (st : Lz) (hG : GB gs) (hE : LB st) : ∀ (A : Option Addr) (n c : Nat) (A' : Option Addr) (m c' : Nat) (E : Option Addr) (p ec : Nat) (C : Option Addr) (q qc : Nat) (w : World), n = gs.length → n ≤ c → GS w w.heap.size A gs → m = st.vs.length → p = st.rs.length → q = st.cs.length → LS4 w w.heap.size A' E C st →
    Calls Try.prog 23 #[.agg #[.slice A n c], .agg #[.slice A' m c', .slice E p ec, .slice C q qc]] w fun e w' => RetI w (staleF gs st) e w' := by
  intro A n c A' m c' E p ec C q qc w hn _ h hm hp hq h'
  obtain ⟨i0, hi, hz0, hz1, hz2⟩ := info_parts info_int
  have HC := Lib.hid fun (w' : World) (hB : w.heap.size ≤ w'.heap.size) (h : GS w' w.heap.size A gs) (h' : LS3 w' w.heap.size A' E C st) => spec_validLazy A A' E C n c m c' p ec q qc gs st w' w.heap.size hB hn hm hp hq h h' hG hE
  have HG0 := Lib.hid ((h.alloc (Nat.le_refl _) (.cells #[.slice A n c] 34)).alloc (by simp) (.cells #[.slice A' m c', .slice E p ec, .slice C q qc] 36))
  have HE0 := Lib.hid ((h'.1.alloc (Nat.le_refl _) (.cells #[.slice A n c] 34)).alloc (by simp) (.cells #[.slice A' m c', .slice E p ec, .slice C q qc] 36))
  have hce : staleF gs st = if validL gs st then nwTo (staleB st.cs) gs.length else [] := rfl
  rw [← hn] at hce
  rw [hce]
  cases hv : validL gs st
  · rw [hv] at HC
    clear hce hv h h' hn hm hp hq hG hE
    simp only [Bool.false_eq_true, if_false]
    go_enter Try.func23, Try.ntmps23
    go_wp2_with fail
    refine (HC.out _ (by simp; omega) HG0.out HE0.out).mono ?_
    rintro e w1 ⟨rfl, hb⟩
    go_wp2
    go_ret
    exact RetI.nil ((((Below.refl _ _).alloc (Nat.le_refl _) _).alloc (by simp) _).trans (hb.mono (by simp; omega)))
  rw [hv] at HC
  have hqn : q = n := by have := (validL_parts gs st hv).2.2.2.1; omega
  have hn10 : n ≤ 10 := by rw [hn]; exact (validG_parts gs (validL_parts gs st hv).1).1
  have HQ := Lib.hid hq
  have HQN := Lib.hid hqn
  clear hce hv h h' hn hm hp hq hG hE hqn
  simp only [if_true]
  have HK0 := Lib.hid HE0.out.2.2
  generalize st.cs = cs at *
  go_enter Try.func23, Try.ntmps23
  go_wp2_with fail
  refine (HC.out _ (by simp; omega) HG0.out HE0.out).mono ?_
  rintro e w1 ⟨rfl, hb⟩
  have q0 : w1.cell? ⟨w.heap.size, 0, none⟩ = some (.slice A n c) := (hb.cell (p := ⟨w.heap.size, 0, none⟩) (by simp; omega)).trans (by go_simp)
  have q1 : w1.cell? ⟨w.heap.size + 1, 2, none⟩ = some (.slice C q qc) := (hb.cell (p := ⟨w.heap.size + 1, 2, none⟩) (by simp)).trans (by go_simp)
  have hB1 : Below w.heap.size w w1 := (((Below.refl _ _).alloc (Nat.le_refl _) _).alloc (by simp) _).trans (hb.mono (by simp; omega))
  have hl1 : w.heap.size + 2 ≤ w1.heap.size := by have := hb.size; simp at this; omega
  have HK1 := Lib.hid (HK0.out.below hb (by simp; omega))
  clear hb HC HG0 HE0
  go_wp2
  go_loopw [5, 6] (fun v u wr => ∃ k : Nat, k ≤ n ∧ u = .int .i64 k ∧ Hid (OwnI wr w1.heap.size v (nwTo (staleB cs) k)) ∧ Hid (Below w1.heap.size w1 wr) ∧ w1.heap.size ≤ wr.heap.size) (fun _ u _ => n - (intOf u).toNat)
  case atStart =>
    refine ⟨0, Nat.zero_le _, rfl, ?_, (Below.refl _ _).alloc (Nat.le_refl _) _, by simp⟩
    have := World.ownsRow_lit (e := 3) (size := 1) (base := w1.heap.size) w1 #[] 0 (Nat.le_refl _) (by unfold maxLen; omega) rfl
    simpa [OwnI, Hid, nwTo] using this
  case round =>
    obtain ⟨k, hk, rfl, HO, HB, hwr⟩ := hrel
    have r0 := (HB.out.cell (p := ⟨w.heap.size, 0, none⟩) (by show w.heap.size < w1.heap.size; omega)).trans q0
    have r1 := (HB.out.cell (p := ⟨w.heap.size + 1, 2, none⟩) (by show w.heap.size + 1 < w1.heap.size; omega)).trans q1
    by_cases hlt : k < n
    · have hkq : k < q := by have := HQN.out; omega
      obtain ⟨b, off, hC, hbB, hcc⟩ := HK1.out (by have := HQ.out; omega)
      have e0 := (HB.out.cell (p := ⟨b, off + k, none⟩) (by show b < w1.heap.size; omega)).trans (hcc k (by have := HQ.out; omega))
      have HST := Lib.hid (nwTo_step (staleB cs) k)
      have hsb : staleB cs k = !(cs.getD k 0 == 0) := rfl
      have hdl := nwTo_len (staleB cs) k
      rw [hsb] at HST
      generalize nwTo (staleB cs) k = D at *
      generalize cs.getD k 0 = x at *
      clear hcc hsb
      subst hC
      cases hx : (x == 0)
      · have hx' : (x != 0) = true := by simp [bne, hx]
        rw [hx] at HST
        clear hx
        go_wp2_with (at_builtin; refine wpList_append_own _ rfl _ _ 25 rfl w1.heap.size 3 i0 (.int .i64 0) 1 8 Try.underlying25 hi hz0 hz1 hz2 rfl (by decide) _ _ _ rfl (HO.out.alloc _) ⟨_, 0, none⟩ 1 1 [.int .i64 k] rfl rfl (cell_one_new _ _ _) ?c2 ?c3 ?c4 ?c5 ?_)
        case c2 => first | rfl | (intro u hu; simp at hu; subst hu; rfl)
        case c3 => unfold maxLen; omega
        case c4 => omega
        case c5 => first | omega | (simp; omega)
        intro v' w3 hown' hgrow _
        have hpos := (HO.out.alloc (.cells #[.int .i64 k] 3)).lt
        have HO' : Hid (OwnI w3 w1.heap.size v' (nwTo (staleB cs) (k + 1))) := by
          rw [HST.out]
          simpa [OwnI, Hid] using hown'
        have HB' := Lib.hid ((HB.out.alloc hwr (.cells #[.int .i64 k] 3)).grown hgrow (by first | (simp; omega) | omega) (fun q hq => (hpos q hq).1))
        clear hown' hgrow hpos
        go_wp2
        go_roundw
        case rel => exact ⟨k + 1, by omega, by go_num, HO'.out, HB'.out, HB'.out.size⟩
        case measure => simp [intOf]; omega
      · have hx' : (x != 0) = false := by simp [bne, hx]
        rw [hx] at HST
        clear hx
        go_wp2
        go_roundw
        case rel => exact ⟨k + 1, by omega, by go_num, by show OwnI _ _ _ _; rw [HST.out]; simpa using HO.out, HB.out, hwr⟩
        case measure => simp [intOf]; omega
    · obtain rfl : k = n := by omega
      go_wp2
      go_ret
      exact ⟨_, rfl, own_mono HO.out hB1.size, hB1.trans (HB.out.mono (by omega))⟩

set_option maxHeartbeats 800000 in
theorem stale_at (g : Nat) (V E : Value) (C : Option Addr) (n c q : Nat) (cs : List Int) (w : World) (hn : n = cs.length) (hq : q < n) (h1 : w.cell? ⟨g, 2, none⟩ = some (.slice C n c)) (h : IS w w.heap.size C cs) :
    Calls Try.prog 48 #[.int .i64 q, .pointer (some ⟨g, 0, none⟩)] w fun e w' => e = .returned (.bool (staleB cs q)) ∧ Below w.heap.size w w' := by
  obtain ⟨b1, off1, rfl, hb1, hc1⟩ := h (by omega)
  have e1 := hc1 q (by omega)
  have hs : staleB cs q = !(cs.getD q 0 == 0) := rfl
  rw [hs]
  generalize cs.getD q 0 = x at *
  clear hc1 hn h hs
  go_enter Try.func48, Try.ntmps48
  go_wp2
  go_ret
  exact ⟨ret_b (by simp [bne]), Below.refl _ _⟩

set_option maxRecDepth 100000 in
set_option maxHeartbeats 1600000 in
theorem impl_StaleOf (gs : List Nd) (st : Lz) (hG : GB gs) (hE : LB st) (B : Nat) (A : Option Addr) (n c : Nat) (A' : Option Addr) (m c' : Nat) (E : Option Addr) (p ec : Nat) (C : Option Addr) (q qc : Nat) (w : World) (hB : B ≤ w.heap.size) (hn : n = gs.length) (hnc : n ≤ c) (h : GS w B A gs) (hm : m = st.vs.length) (hp : p = st.rs.length) (hq : q = st.cs.length) (h' : LS4 w B A' E C st) :
    Calls Try.prog 24 #[.agg #[.slice A n c], .agg #[.slice A' m c', .slice E p ec, .slice C q qc]] w fun e w' => RetI w (staleF gs st) e w' := by
  have HC := Lib.hid fun (w' : World) (hB : B ≤ w'.heap.size) (h : GS w' B A gs) (h' : LS4 w' B A' E C st) => impl_ValidLazy A A' E C n c m c' p ec q qc gs st w' B hB hn hnc hm hp hq h h' hG hE
  have HG0 := Lib.hid ((h.alloc hB (.cells #[.slice A n c] 34)).alloc (by simp; omega) (.cells #[.slice A' m c', .slice E p ec, .slice C q qc] 36))
  have HE0 := Lib.hid ((h'.alloc hB (.cells #[.slice A n c] 34)).alloc (by simp; omega) (.cells #[.slice A' m c', .slice E p ec, .slice C q qc] 36))
  have hce : staleF gs st = if validL gs st then nwTo (staleB st.cs) gs.length else [] := rfl
  rw [← hn] at hce
  rw [hce]
  cases hv : validL gs st
  · rw [hv] at HC
    clear hce hv h h' hn hm hp hq hG hE
    simp only [Bool.false_eq_true, if_false]
    go_enter Try.func24, Try.ntmps24
    go_wp2_with fail
    refine (HC.out _ (by simp; omega) HG0.out HE0.out).mono ?_
    rintro e w1 ⟨rfl, hb⟩
    go_wp2
    go_ret
    exact RetI.nil ((((Below.refl _ _).alloc (Nat.le_refl _) _).alloc (by simp) _).trans (hb.mono (by simp; omega)))
  rw [hv] at HC
  have hqn : q = n := by have := (validL_parts gs st hv).2.2.2.1; omega
  have hn10 : n ≤ 10 := by rw [hn]; exact (validG_parts gs (validL_parts gs st hv).1).1
  have HQ := Lib.hid hq
  have HQN := Lib.hid hqn
  clear hce hv h h' hn hm hp hq hG hE hqn
  simp only [if_true]
  have HK0 := Lib.hid HE0.out.1.2.2
  generalize st.cs = cs at *
  go_enter Try.func24, Try.ntmps24
  go_wp2_with fail
  refine (HC.out _ (by simp; omega) HG0.out HE0.out).mono ?_
  rintro e w1 ⟨rfl, hb⟩
  have q0 : w1.cell? ⟨w.heap.size, 0, none⟩ = some (.slice A n c) := (hb.cell (p := ⟨w.heap.size, 0, none⟩) (by simp; omega)).trans (by go_simp)
  have q1 : w1.cell? ⟨w.heap.size + 1, 2, none⟩ = some (.slice C q qc) := (hb.cell (p := ⟨w.heap.size + 1, 2, none⟩) (by simp)).trans (by go_simp)
  have hB1 : Below w.heap.size w w1 := (((Below.refl _ _).alloc (Nat.le_refl _) _).alloc (by simp) _).trans (hb.mono (by simp; omega))
  have hl1 : w.heap.size + 2 ≤ w1.heap.size := by have := hb.size; simp at this; omega
  have HK1 := Lib.hid ((HK0.out.below hb (by simp; omega)).more (B' := w1.heap.size) (by omega))
  clear hb HC HG0 HE0
  have HNW := Lib.hid (impl_nodesWhere1 48 (.pointer (some ⟨w.heap.size + 1, 0, none⟩)) (staleB cs)
    (fun w' => w.heap.size + 1 < w'.heap.size ∧ w'.cell? ⟨w.heap.size + 1, 2, none⟩ = some (.slice C q qc) ∧ IS w' w'.heap.size C cs) A n c (by omega)
    (fun wa wb h hb => ⟨Nat.lt_of_lt_of_le h.1 hb.size, (hb.cell (p := ⟨w.heap.size + 1, 2, none⟩) h.1).trans h.2.1, h.2.2.step hb⟩)
    (fun q w => by kernel_rfl)
    (fun y wa hy h => stale_at (w.heap.size + 1) undef undef C q qc y cs wa HQ.out (by have := HQN.out; omega) h.2.1 h.2.2)
    w1 ⟨by omega, q1, HK1.out⟩)
  go_wp2_with fail
  refine HNW.out.mono ?_
  rintro e w6 ⟨v, rfl, ho, hb⟩
  go_wp2
  go_ret
  exact ⟨v, by simp, own_mono ho hB1.size, hB1.trans (hb.mono hB1.size)⟩
theorem top_impl_StaleOf (gs : List Nd) (st : Lz) (hG : GB gs) (hE : LB st) : ∀ (A : Option Addr) (n c : Nat) (A' : Option Addr) (m c' : Nat) (E : Option Addr) (p ec : Nat) (C : Option Addr) (q qc : Nat) (w : World), n = gs.length → n ≤ c → GS w w.heap.size A gs → m = st.vs.length → p = st.rs.length → q = st.cs.length → LS4 w w.heap.size A' E C st →
    Calls Try.prog 24 #[.agg #[.slice A n c], .agg #[.slice A' m c', .slice E p ec, .slice C q qc]] w fun e w' => RetI w (staleF gs st) e w' :=
  fun A n c A' m c' E p ec C q qc w hn hnc h hm hp hq h' => impl_StaleOf gs st hG hE w.heap.size A n c A' m c' E p ec C q qc w (Nat.le_refl _) hn hnc h hm hp hq h'
end Go.Proofs.Ythnilpibpmlaeaa

/- laws.FnExactStaleOf returns true for all arguments, and writes nothing that was there. (Made by genlaw.py.) -/
namespace Go.Proofs.Ythnilpibpmlaeaa
set_option linter.unusedSimpArgs false
set_option linter.unusedVariables false
open Go.RowKit

set_option maxRecDepth 100000 in
set_option maxHeartbeats 3200000 in
theorem law_StaleOf (A0 : Option Addr) (n0 c0 : Nat) (gs0 : List Nd) (A1 : Option Addr) (n1 c1 : Nat) (E1 : Option Addr) (en1 ec1 : Nat) (K1 : Option Addr) (kn1 kc1 : Nat) (st1 : Lz) (w : World) (hn0 : n0 = gs0.length) (h0 : GS w w.heap.size A0 gs0) (hm0 : n0 ≤ 9223372036854775807) (hp0 : ∀ j, (gs0.getD j default).ps.length ≤ 9223372036854775807) (hn1 : n1 = st1.vs.length) (he1 : en1 = st1.rs.length) (hk1 : kn1 = st1.cs.length) (h1 : LS3 w w.heap.size A1 E1 K1 st1) (hm1 : n1 ≤ 9223372036854775807) (hem1 : en1 ≤ 9223372036854775807) (hkm1 : kn1 ≤ 9223372036854775807) (hp1 : ∀ j, (st1.rs.getD j []).length ≤ 9223372036854775807) :
    Calls Try.prog 5 #[.agg #[.slice A0 n0 c0], .agg #[.slice A1 n1 c1, .slice E1 en1 ec1, .slice K1 kn1 kc1]] w fun e w' => e = .returned (.bool true) ∧ Below w.heap.size w w' := by
  obtain ⟨l0, hl0⟩ : ∃ l0 : Int, l0 = 1048576 := ⟨_, rfl⟩
  have HC0 := Lib.hid fun (w' : World) (hB : w.heap.size ≤ w'.heap.size) (h : GS w' w.heap.size A0 gs0) => laws_szGraph A0 n0 c0 gs0 l0 w' w.heap.size hB hn0 h (by omega) (by omega) hm0 hp0
  by_cases hz0 : ((gsz gs0 : Nat) : Int) ≤ l0
  case neg =>
    rw [leftOf_no hz0] at HC0
    subst hl0
    have S_0 : Hid (As 0 w.heap.size (fun wk => GS wk w.heap.size A0 gs0 ∧ LS3 wk w.heap.size A1 E1 K1 st1) w) := ⟨⟨h0, h1⟩, Nat.le_refl _, ((GS.loc _ _ _).and (LS3.loc _ _ _ _ _))⟩
    have Bl_0 : Hid (Bl w w) := Bl.refl w
    have S_1 := Lib.hid (S_0.out.alloc (.cells #[.slice A0 n0 c0] 24))
    clear S_0
    have Bl_1 := Lib.hid (Bl_0.out.alloc (.cells #[.slice A0 n0 c0] 24))
    clear Bl_0
    have bx := box_new w (.slice A0 n0 c0) 24
    have BX0_1 := Lib.hid bx
    clear bx
    have S_2 := Lib.hid (S_1.out.alloc (.cells #[.slice A1 n1 c1, .slice E1 en1 ec1, .slice K1 kn1 kc1] 28))
    clear S_1
    have Bl_2 := Lib.hid (Bl_1.out.alloc (.cells #[.slice A1 n1 c1, .slice E1 en1 ec1, .slice K1 kn1 kc1] 28))
    clear Bl_1
    have BX0_2 := Lib.hid (BX0_1.out.alloc (.cells #[.slice A1 n1 c1, .slice E1 en1 ec1, .slice K1 kn1 kc1] 28))
    clear BX0_1
    have bx := box3_new (w.alloc (.cells #[.slice A0 n0 c0] 24)) (.slice A1 n1 c1) (.slice E1 en1 ec1) (.slice K1 kn1 kc1) 28
    simp only [World.size_alloc] at bx
    have BX1_2 := Lib.hid bx
    clear bx
    clear hn0 h0 hp0 hn1 h1 he1 hp1 hk1 hz0
    go_enter Try.func5, Try.ntmps5
    have q := BX0_2.out.it
    go_wp2_with fail
    refine (HC0.out _ Bl_2.out.le S_2.out.it.1).mono ?_
    rintro e w3 ⟨rfl, hb⟩
    have S_3 := Lib.hid (S_2.out.step hb)
    clear S_2
    have Bl_3 := Lib.hid (Bl_2.out.step hb)
    clear Bl_2
    have BX0_3 := Lib.hid (BX0_2.out.step hb)
    clear BX0_2
    have BX1_3 := Lib.hid (BX1_2.out.step hb)
    clear BX1_2
    clear q hb
    go_wp2
    go_ret
    exact ⟨rfl, Bl_3.out⟩
  rw [leftOf_ok hz0] at HC0
  obtain ⟨l1, hl1⟩ : ∃ l1 : Int, l1 = l0 - ((gsz gs0 : Nat) : Int) := ⟨_, rfl⟩
  rw [← hl1] at HC0
  have hge1 : 0 ≤ l1 := by omega
  have hle1 : l1 ≤ 1048576 := by omega
  have HC1 := Lib.hid fun (w' : World) (hB : w.heap.size ≤ w'.heap.size) (h : LS3 w' w.heap.size A1 E1 K1 st1) => laws_szLazy A1 E1 K1 n1 c1 en1 ec1 kn1 kc1 st1 l1 w' w.heap.size hB hn1 he1 hk1 h (by omega) (by omega) hm1 hem1 hkm1 hp1
  by_cases hz1 : ((lsz st1 : Nat) : Int) ≤ l1
  case neg =>
    rw [leftOf_no hz1] at HC1
    subst hl0
    have S_0 : Hid (As 0 w.heap.size (fun wk => GS wk w.heap.size A0 gs0 ∧ LS3 wk w.heap.size A1 E1 K1 st1) w) := ⟨⟨h0, h1⟩, Nat.le_refl _, ((GS.loc _ _ _).and (LS3.loc _ _ _ _ _))⟩
    have Bl_0 : Hid (Bl w w) := Bl.refl w
    have S_1 := Lib.hid (S_0.out.alloc (.cells #[.slice A0 n0 c0] 24))
    clear S_0
    have Bl_1 := Lib.hid (Bl_0.out.alloc (.cells #[.slice A0 n0 c0] 24))
    clear Bl_0
    have bx := box_new w (.slice A0 n0 c0) 24
    have BX0_1 := Lib.hid bx
    clear bx
    have S_2 := Lib.hid (S_1.out.alloc (.cells #[.slice A1 n1 c1, .slice E1 en1 ec1, .slice K1 kn1 kc1] 28))
    clear S_1
    have Bl_2 := Lib.hid (Bl_1.out.alloc (.cells #[.slice A1 n1 c1, .slice E1 en1 ec1, .slice K1 kn1 kc1] 28))
    clear Bl_1
    have BX0_2 := Lib.hid (BX0_1.out.alloc (.cells #[.slice A1 n1 c1, .slice E1 en1 ec1, .slice K1 kn1 kc1] 28))
    clear BX0_1
    have bx := box3_new (w.alloc (.cells #[.slice A0 n0 c0] 24)) (.slice A1 n1 c1) (.slice E1 en1 ec1) (.slice K1 kn1 kc1) 28
    simp only [World.size_alloc] at bx
    have BX1_2 := Lib.hid bx
    clear bx
    clear hn0 h0 hp0 hn1 h1 he1 hp1 hk1 hz1 hl1 hz0
    go_enter Try.func5, Try.ntmps5
    have q := BX0_2.out.it
    go_wp2_with fail
    refine (HC0.out _ Bl_2.out.le S_2.out.it.1).mono ?_
    rintro e w3 ⟨rfl, hb⟩
    have S_3 := Lib.hid (S_2.out.step hb)
    clear S_2
    have Bl_3 := Lib.hid (Bl_2.out.step hb)
    clear Bl_2
    have BX0_3 := Lib.hid (BX0_2.out.step hb)
    clear BX0_2
    have BX1_3 := Lib.hid (BX1_2.out.step hb)
    clear BX1_2
    clear q hb
    obtain ⟨q, qb, qbb⟩ := BX1_3.out.it
    go_wp2_with fail
    refine (HC1.out _ Bl_3.out.le S_3.out.it.2).mono ?_
    rintro e w4 ⟨rfl, hb⟩
    have S_4 := Lib.hid (S_3.out.step hb)
    clear S_3
    have Bl_4 := Lib.hid (Bl_3.out.step hb)
    clear Bl_3
    have BX0_4 := Lib.hid (BX0_3.out.step hb)
    clear BX0_3
    have BX1_4 := Lib.hid (BX1_3.out.step hb)
    clear BX1_3
    clear q qb qbb hb
    go_wp2
    go_ret
    exact ⟨rfl, Bl_4.out⟩
  rw [leftOf_ok hz1] at HC1
  obtain ⟨l2, hl2⟩ : ∃ l2 : Int, l2 = l1 - ((lsz st1 : Nat) : Int) := ⟨_, rfl⟩
  rw [← hl2] at HC1
  have hge2 : 0 ≤ l2 := by omega
  have hle2 : l2 ≤ 1048576 := by omega
  have hG0 : GB gs0 := GB.of_gsz (by omega)
  have hEB1 : LB st1 := LB.of_lsz (by omega)
  have HSP := Lib.hid (top_spec_StaleOf gs0 st1 hG0 hEB1)
  have HIM := Lib.hid (top_impl_StaleOf gs0 st1 hG0 hEB1)
  have hlen0 := staleF_len gs0 st1
  generalize staleF gs0 st1 = F0 at *
  obtain ⟨r0, hr0⟩ : ∃ r0 : Nat, r0 = F0.length := ⟨_, rfl⟩
  have hrb0 : r0 ≤ 2000000 := by omega
  have HL0 := Lib.hid hr0
  clear hr0 hlen0
  have ht0 : decide (F0 = F0) = true := by simp
  have HN0 := Lib.hid hn0
  have HG0 := Lib.hid hG0
  have hx0 : decide (gs0 = gs0) = true := by simp
  have hnb0 : n0 ≤ 1048576 := by rw [hn0]; exact hG0.1
  have HN1 := Lib.hid hn1
  have HE1 := Lib.hid he1
  have HEG1 := Lib.hid hEB1
  have HK1 := Lib.hid hk1
  have hx1 : decide (st1 = st1) = true := by simp
  have hnb1 : n1 ≤ 1048576 := by rw [hn1]; exact hEB1.1
  have S_0 : Hid (As 0 w.heap.size (fun wk => GS wk w.heap.size A0 gs0 ∧ LS3 wk w.heap.size A1 E1 K1 st1) w) := ⟨⟨h0, h1⟩, Nat.le_refl _, ((GS.loc _ _ _).and (LS3.loc _ _ _ _ _))⟩
  have Bl_0 : Hid (Bl w w) := Bl.refl w
  have S_1 := Lib.hid (S_0.out.alloc (.cells #[.slice A0 n0 c0] 24))
  clear S_0
  have Bl_1 := Lib.hid (Bl_0.out.alloc (.cells #[.slice A0 n0 c0] 24))
  clear Bl_0
  have bx := box_new w (.slice A0 n0 c0) 24
  have BX0_1 := Lib.hid bx
  clear bx
  have S_2 := Lib.hid (S_1.out.alloc (.cells #[.slice A1 n1 c1, .slice E1 en1 ec1, .slice K1 kn1 kc1] 28))
  clear S_1
  have Bl_2 := Lib.hid (Bl_1.out.alloc (.cells #[.slice A1 n1 c1, .slice E1 en1 ec1, .slice K1 kn1 kc1] 28))
  clear Bl_1
  have BX0_2 := Lib.hid (BX0_1.out.alloc (.cells #[.slice A1 n1 c1, .slice E1 en1 ec1, .slice K1 kn1 kc1] 28))
  clear BX0_1
  have bx := box3_new (w.alloc (.cells #[.slice A0 n0 c0] 24)) (.slice A1 n1 c1) (.slice E1 en1 ec1) (.slice K1 kn1 kc1) 28
  simp only [World.size_alloc] at bx
  have BX1_2 := Lib.hid bx
  clear bx
  have HLS := Lib.hid hl0
  subst hl0
  clear HLS hn0 h0 hp0 hn1 h1 he1 hp1 hk1 hl1 hl2 hz0 hz1 hG0 hEB1
  go_enter Try.func5, Try.ntmps5
  have q := BX0_2.out.it
  go_wp2_with fail
  refine (HC0.out _ Bl_2.out.le S_2.out.it.1).mono ?_
  rintro e w3 ⟨rfl, hb⟩
  have hs_3 : w.heap.size + 2 ≤ w3.heap.size := by have := hb.size; (try simp only [World.size_alloc] at this); omega
  have S_3 := Lib.hid (S_2.out.step hb)
  clear S_2
  have Bl_3 := Lib.hid (Bl_2.out.step hb)
  clear Bl_2
  have BX0_3 := Lib.hid (BX0_2.out.step hb)
  clear BX0_2
  have BX1_3 := Lib.hid (BX1_2.out.step hb)
  clear BX1_2
  clear q hb
  obtain ⟨q, qb, qbb⟩ := BX1_3.out.it
  go_wp2_with fail
  refine (HC1.out _ Bl_3.out.le S_3.out.it.2).mono ?_
  rintro e w4 ⟨rfl, hb⟩
  have hs_4 : w3.heap.size ≤ w4.heap.size := by have := hb.size; (try simp only [World.size_alloc] at this); omega
  have S_4 := Lib.hid (S_3.out.step hb)
  clear S_3
  have Bl_4 := Lib.hid (Bl_3.out.step hb)
  clear Bl_3
  have BX0_4 := Lib.hid (BX0_3.out.step hb)
  clear BX0_3
  have BX1_4 := Lib.hid (BX1_3.out.step hb)
  clear BX1_3
  clear q qb qbb hb
  have z0_4 := BX0_4.out.it
  obtain ⟨z1_4, z1_4b, z1_4bb⟩ := BX1_4.out.it
  have hle4 := Bl_4.out.le
  go_wp2
  go_region_held3 (fun w' => w'.cell? ⟨w.heap.size, 0, none⟩ = some (.slice A0 n0 c0) ∧ w'.cell? ⟨w.heap.size + 1, 0, none⟩ = some (.slice A1 n1 c1) ∧ w'.cell? ⟨w.heap.size + 1, 1, none⟩ = some (.slice E1 en1 ec1) ∧ w'.cell? ⟨w.heap.size + 1, 2, none⟩ = some (.slice K1 kn1 kc1)) (first | exact ⟨z0_4, z1_4, z1_4b, z1_4bb⟩ | exact ⟨z0_5, z1_5, z1_5b, z1_5bb⟩ | exact ⟨z0_6, z1_6, z1_6b, z1_6bb⟩ | exact ⟨z0_7, z1_7, z1_7b, z1_7bb⟩ | go_keep)
    (first
      | (go_at_call 10; refine (laws_toGraph A0 n0 c0 gs0 _ w.heap.size ?_ HN0.out ?_ HG0.out).mono ?_; (exact hle4); exact S_4.out.it.1; rintro e w5 ⟨B5, m5, d5, rfl, hn, hown, hb'⟩; have hb5 : Below w4.heap.size w4 w5 := (by first | exact hb' | exact below_of_drew hb'); have hs_5 : w4.heap.size ≤ w5.heap.size := (by have := hb5.size; (try simp only [World.size_alloc] at this); omega); have M5 := Lib.hid hn; have NC5 := Lib.hid hown.ncap; have S_5 := Lib.hid (S_4.out.step hb5); have Bl_5 := Lib.hid (Bl_4.out.step hb5); have BX0_5 := Lib.hid (BX0_4.out.step hb5); have BX1_5 := Lib.hid (BX1_4.out.step hb5); have X0_5 := Lib.hid (graph_start hown); have z0_5 := BX0_5.out.it; obtain ⟨z1_5, z1_5b, z1_5bb⟩ := BX1_5.out.it; have hle5 := Bl_5.out.le; clear hown hb' hn)
      | (go_at_call 11; refine (laws_toLazy A1 E1 K1 n1 c1 en1 ec1 kn1 kc1 st1 _ w.heap.size ?_ HN1.out HE1.out HK1.out ?_ HEG1.out).mono ?_; (exact hle5); exact S_5.out.it.2; rintro e w6 ⟨B6, m6, d6, D6, em6, ed6, L6, lm6, ld6, rfl, hown, hb'⟩; have hn := hown.1; have hen := hown.2.1; have hkn := hown.2.2.1; have hb6 : Below w5.heap.size w5 w6 := (by first | exact hb' | exact below_of_drew hb'); have hs_6 : w5.heap.size ≤ w6.heap.size := (by have := hb6.size; (try simp only [World.size_alloc] at this); omega); have M6 := Lib.hid hn; have EM6 := Lib.hid hen; have KM6 := Lib.hid hkn; have S_6 := Lib.hid (S_5.out.step hb6); have Bl_6 := Lib.hid (Bl_5.out.step hb6); have BX0_6 := Lib.hid (BX0_5.out.step hb6); have BX1_6 := Lib.hid (BX1_5.out.step hb6); have X0_6 := Lib.hid (X0_5.out.step hb6); have X1_6 := Lib.hid (lazy_start hown); have z0_6 := BX0_6.out.it; obtain ⟨z1_6, z1_6b, z1_6bb⟩ := BX1_6.out.it; have hle6 := Bl_6.out.le; clear hown hb' hn hen hkn)
      | (go_at_call 23; refine (HSP.out B5 m5 d5 B6 m6 d6 D6 em6 ed6 L6 lm6 ld6 _ M5.out NC5.out X0_6.out.graph M6.out EM6.out KM6.out X1_6.out.lazy4).mono ?_; rintro e w7 ⟨v7, rfl, hown0, hb⟩; have z0_7 := (BX0_6.out.step hb).it; obtain ⟨z1_7, z1_7b, z1_7bb⟩ := (BX1_6.out.step hb).it))
  clear S_4 Bl_4 BX0_4 BX1_4 S_5 Bl_5 BX0_5 BX1_5 X0_5 hle4 hle5 hb5 hle6 hb6 z0_4 z1_4 z1_4b z1_4bb z0_5 z1_5 z1_5b z1_5bb z0_6 z1_6 z1_6b z1_6bb z0_7 z1_7 z1_7b z1_7bb
  clear X0_6
  clear X1_6
  have hown := hown0
  unfold OwnI at hown
  rw [← HL0.out] at hown
  obtain ⟨B7, d7, rfl⟩ := own_form hown
  try simp only [World.size_alloc] at hown
  have hs_7 : w6.heap.size ≤ w7.heap.size := by have := hb.size; (try simp only [World.size_alloc] at this); omega
  have S_7 := Lib.hid (S_6.out.step hb)
  clear S_6
  have Bl_7 := Lib.hid (Bl_6.out.step hb)
  clear Bl_6
  have BX0_7 := Lib.hid (BX0_6.out.step hb)
  clear BX0_6
  have BX1_7 := Lib.hid (BX1_6.out.step hb)
  clear BX1_6
  have V_7 := Lib.hid (row_start hown)
  clear hown hown0
  clear hb
  have q := BX0_7.out.it
  go_wp2_with fail
  refine (laws_toGraph A0 n0 c0 gs0 _ w.heap.size Bl_7.out.le HN0.out S_7.out.it.1 HG0.out).mono ?_
  rintro e w8 ⟨B8, m8, d8, rfl, hn, hown, hb⟩
  try simp only [World.size_alloc] at hown
  have hs_8 : w7.heap.size ≤ w8.heap.size := by have := hb.size; (try simp only [World.size_alloc] at this); omega
  have M8 := Lib.hid hn
  have NC8 := Lib.hid hown.ncap
  have S_8 := Lib.hid ((S_7.out.step hb).alloc (.cells #[.slice B8 m8 d8] 34))
  clear S_7
  have Bl_8 := Lib.hid ((Bl_7.out.step hb).alloc (.cells #[.slice B8 m8 d8] 34))
  clear Bl_7
  have BX0_8 := Lib.hid ((BX0_7.out.step hb).alloc (.cells #[.slice B8 m8 d8] 34))
  clear BX0_7
  have BX1_8 := Lib.hid ((BX1_7.out.step hb).alloc (.cells #[.slice B8 m8 d8] 34))
  clear BX1_7
  have V_8 := Lib.hid ((V_7.out.step hb).alloc (.cells #[.slice B8 m8 d8] 34))
  clear V_7
  have X0_8 := Lib.hid ((graph_start hown).alloc (.cells #[.slice B8 m8 d8] 34))
  have XB0_8 := Lib.hid (box_new w8 (.slice B8 m8 d8) 34)
  clear q hn hown hb
  obtain ⟨q, qb, qbb⟩ := BX1_8.out.it
  go_wp2_with fail
  refine (laws_toLazy A1 E1 K1 n1 c1 en1 ec1 kn1 kc1 st1 _ w.heap.size Bl_8.out.le HN1.out HE1.out HK1.out S_8.out.it.2 HEG1.out).mono ?_
  rintro e w9 ⟨B9, m9, d9, D9, em9, ed9, L9, lm9, ld9, rfl, hown, hb⟩
  have hn := hown.1
  have hen := hown.2.1
  have hkn := hown.2.2.1
  try simp only [World.size_alloc] at hown
  have hs_9 : w8.heap.size + 1 ≤ w9.heap.size := by have := hb.size; (try simp only [World.size_alloc] at this); omega
  have M9 := Lib.hid hn
  have EM9 := Lib.hid hen
  have KM9 := Lib.hid hkn
  clear hen hkn
  have S_9 := Lib.hid ((S_8.out.step hb).alloc (.cells #[.slice B9 m9 d9, .slice D9 em9 ed9, .slice L9 lm9 ld9] 36))
  clear S_8
  have Bl_9 := Lib.hid ((Bl_8.out.step hb).alloc (.cells #[.slice B9 m9 d9, .slice D9 em9 ed9, .slice L9 lm9 ld9] 36))
  clear Bl_8
  have BX0_9 := Lib.hid ((BX0_8.out.step hb).alloc (.cells #[.slice B9 m9 d9, .slice D9 em9 ed9, .slice L9 lm9 ld9] 36))
  clear BX0_8
  have BX1_9 := Lib.hid ((BX1_8.out.step hb).alloc (.cells #[.slice B9 m9 d9, .slice D9 em9 ed9, .slice L9 lm9 ld9] 36))
  clear BX1_8
  have V_9 := Lib.hid ((V_8.out.step hb).alloc (.cells #[.slice B9 m9 d9, .slice D9 em9 ed9, .slice L9 lm9 ld9] 36))
  clear V_8
  have X0_9 := Lib.hid ((X0_8.out.step hb).alloc (.cells #[.slice B9 m9 d9, .slice D9 em9 ed9, .slice L9 lm9 ld9] 36))
  clear X0_8
  have XB0_9 := Lib.hid ((XB0_8.out.step hb).alloc (.cells #[.slice B9 m9 d9, .slice D9 em9 ed9, .slice L9 lm9 ld9] 36))
  clear XB0_8
  have X1_9 := Lib.hid ((lazy_start hown).alloc (.cells #[.slice B9 m9 d9, .slice D9 em9 ed9, .slice L9 lm9 ld9] 36))
  have XB1_9 := Lib.hid (box3_new w9 (.slice B9 m9 d9) (.slice D9 em9 ed9) (.slice L9 lm9 ld9) 36)
  clear q qb qbb hn hown hb
  have q0 := XB0_9.out.it
  obtain ⟨q1, q1b, q1bb⟩ := XB1_9.out.it
  go_wp2_with fail
  refine (HIM.out B8 m8 d8 B9 m9 d9 D9 em9 ed9 L9 lm9 ld9 _ M8.out NC8.out X0_9.out.graph M9.out EM9.out KM9.out X1_9.out.lazy4).mono ?_
  rintro e w10 ⟨v10, rfl, hown0, hb⟩
  have hown := hown0
  unfold OwnI at hown
  rw [← HL0.out] at hown
  obtain ⟨B10, d10, rfl⟩ := own_form hown
  try simp only [World.size_alloc] at hown
  have hs_10 : w9.heap.size + 1 ≤ w10.heap.size := by have := hb.size; (try simp only [World.size_alloc] at this); omega
  have S_10 := Lib.hid (S_9.out.step hb)
  clear S_9
  have Bl_10 := Lib.hid (Bl_9.out.step hb)
  clear Bl_9
  have BX0_10 := Lib.hid (BX0_9.out.step hb)
  clear BX0_9
  have BX1_10 := Lib.hid (BX1_9.out.step hb)
  clear BX1_9
  have V_10 := Lib.hid (V_9.out.step hb)
  clear V_9
  have X0_10 := Lib.hid (X0_9.out.step hb)
  clear X0_9
  have XB0_10 := Lib.hid (XB0_9.out.step hb)
  clear XB0_9
  have X1_10 := Lib.hid (X1_9.out.step hb)
  clear X1_9
  have XB1_10 := Lib.hid (XB1_9.out.step hb)
  clear XB1_9
  have G_10 := Lib.hid (row_start hown)
  clear hown hown0
  clear hb
  clear q0 q1 q1b q1bb
  go_wp2_with fail
  refine (laws_eqIntS _ _ r0 r0 _ _ F0 F0 _ w10.heap.size (Nat.le_refl _) HL0.out HL0.out G_10.out.ints V_10.out.ints (by omega) (by omega)).mono ?_
  rintro e w11 ⟨rfl, hb⟩
  have S_11 := Lib.hid (S_10.out.step hb)
  clear S_10
  have Bl_11 := Lib.hid (Bl_10.out.step hb)
  clear Bl_10
  have BX0_11 := Lib.hid (BX0_10.out.step hb)
  clear BX0_10
  have BX1_11 := Lib.hid (BX1_10.out.step hb)
  clear BX1_10
  have V_11 := Lib.hid (V_10.out.step hb)
  clear V_10
  have X0_11 := Lib.hid (X0_10.out.step hb)
  clear X0_10
  have XB0_11 := Lib.hid (XB0_10.out.step hb)
  clear XB0_10
  have X1_11 := Lib.hid (X1_10.out.step hb)
  clear X1_10
  have XB1_11 := Lib.hid (XB1_10.out.step hb)
  clear XB1_10
  have G_11 := Lib.hid (G_10.out.step hb)
  clear G_10
  clear hb
  have q := XB0_11.out.it
  have r := BX0_11.out.it
  have hle := Bl_11.out.le
  go_wp2
  go_region_with (first
    | (go_at_call 10; refine (laws_toGraph A0 n0 c0 gs0 _ w.heap.size ?_ HN0.out ?_ HG0.out).mono ?_; (exact hle); exact S_11.out.it.1; rintro e w12 ⟨B12, m12, d12, rfl, hn, hown, hb'⟩; have hb : Below w11.heap.size w11 w12 := below_of_drew hb'; have M12 := Lib.hid hn; have C12 := Lib.hid (hown.nodes); have S_12 := Lib.hid (S_11.out.step hb); have Bl_12 := Lib.hid (Bl_11.out.step hb); have BX0_12 := Lib.hid (BX0_11.out.step hb); have BX1_12 := Lib.hid (BX1_11.out.step hb); have V_12 := Lib.hid (V_11.out.step hb); have X0_12 := Lib.hid (X0_11.out.step hb); have XB0_12 := Lib.hid (XB0_11.out.step hb); have X1_12 := Lib.hid (X1_11.out.step hb); have XB1_12 := Lib.hid (XB1_11.out.step hb); have G_12 := Lib.hid (G_11.out.step hb); have q2 := XB0_12.out.it; have r2 := BX0_12.out.it; clear hn hown hb' hb)
    | (go_at_call 13; refine (laws_eqGraph B8 B12 m8 m12 d8 d12 gs0 gs0 _ w12.heap.size (Nat.le_refl _) M8.out M12.out X0_12.out.graph C12.out HG0.out HG0.out).mono ?_; rintro e w13 ⟨rfl, hb⟩; have S_13 := Lib.hid (S_12.out.step hb); have Bl_13 := Lib.hid (Bl_12.out.step hb); have BX0_13 := Lib.hid (BX0_12.out.step hb); have BX1_13 := Lib.hid (BX1_12.out.step hb); have V_13 := Lib.hid (V_12.out.step hb); have X0_13 := Lib.hid (X0_12.out.step hb); have XB0_13 := Lib.hid (XB0_12.out.step hb); have X1_13 := Lib.hid (X1_12.out.step hb); have XB1_13 := Lib.hid (XB1_12.out.step hb); have G_13 := Lib.hid (G_12.out.step hb)))
  all_goals
    clear hb q r q2 r2 hle M12 C12 S_12 Bl_12 BX0_12 BX1_12 V_12 X0_12 XB0_12 X1_12 XB1_12 G_12 S_11 Bl_11 BX0_11 BX1_11 V_11 X0_11 XB0_11 X1_11 XB1_11 G_11
    obtain ⟨q, qb, qbb⟩ := XB1_13.out.it
    obtain ⟨r, rb, rbb⟩ := BX1_13.out.it
    have hle := Bl_13.out.le
    go_wp2
    go_region_with (first
      | (go_at_call 11; refine (laws_toLazy A1 E1 K1 n1 c1 en1 ec1 kn1 kc1 st1 _ w.heap.size ?_ HN1.out HE1.out HK1.out ?_ HEG1.out).mono ?_; (exact hle); exact S_13.out.it.2; rintro e w14 ⟨B14, m14, d14, D14, em14, ed14, L14, lm14, ld14, rfl, hown, hb'⟩; have hb : Below w13.heap.size w13 w14 := below_of_drew hb'; have hn := hown.2.1; have M14 := Lib.hid hown.1; have EM14 := Lib.hid hown.2.1; have KM14 := Lib.hid hown.2.2.1; have C14 := Lib.hid hown.reads; have S_14 := Lib.hid (S_13.out.step hb); have Bl_14 := Lib.hid (Bl_13.out.step hb); have BX0_14 := Lib.hid (BX0_13.out.step hb); have BX1_14 := Lib.hid (BX1_13.out.step hb); have V_14 := Lib.hid (V_13.out.step hb); have X0_14 := Lib.hid (X0_13.out.step hb); have XB0_14 := Lib.hid (XB0_13.out.step hb); have X1_14 := Lib.hid (X1_13.out.step hb); have XB1_14 := Lib.hid (XB1_13.out.step hb); have G_14 := Lib.hid (G_13.out.step hb); obtain ⟨q2, q2b, q2bb⟩ := XB1_14.out.it; obtain ⟨r2, r2b, r2bb⟩ := BX1_14.out.it; clear hn hown hb' hb)
      | (go_at_call 14; refine (laws_eqLazy B9 D9 L9 B14 D14 L14 m9 d9 em9 ed9 lm9 ld9 m14 d14 em14 ed14 lm14 ld14  st1 st1 _ w14.heap.size (Nat.le_refl _) M9.out EM9.out KM9.out M14.out EM14.out KM14.out X1_14.out.lazy C14.out HEG1.out HEG1.out).mono ?_; rintro e w15 ⟨rfl, hb⟩; have S_15 := Lib.hid (S_14.out.step hb); have Bl_15 := Lib.hid (Bl_14.out.step hb); have BX0_15 := Lib.hid (BX0_14.out.step hb); have BX1_15 := Lib.hid (BX1_14.out.step hb); have V_15 := Lib.hid (V_14.out.step hb); have X0_15 := Lib.hid (X0_14.out.step hb); have XB0_15 := Lib.hid (XB0_14.out.step hb); have X1_15 := Lib.hid (X1_14.out.step hb); have XB1_15 := Lib.hid (XB1_14.out.step hb); have G_15 := Lib.hid (G_14.out.step hb)))
    all_goals
      clear hb q qb qbb r rb rbb q2 q2b q2bb r2 r2b r2bb hle M14 C14 EM14 KM14 S_14 Bl_14 BX0_14 BX1_14 V_14 X0_14 XB0_14 X1_14 XB1_14 G_14 S_13 Bl_13 BX0_13 BX1_13 V_13 X0_13 XB0_13 X1_13 XB1_13 G_13
      have q := XB0_15.out.it
      go_wp2_with fail
      refine (markw_graph _ _ _ _ _ gs0 1 _ X0_15.out HG0.out (by omega) (by omega)).mono ?_
      rintro e w16 ⟨k0, rfl, hk0a, hk0b, ht⟩
      have S_16 := Lib.hid (S_15.out.turn ht (by omega))
      clear S_15
      have Bl_16 := Lib.hid (Bl_15.out.turn ht (by omega))
      clear Bl_15
      have BX0_16 := Lib.hid (BX0_15.out.turn ht (by omega))
      clear BX0_15
      have BX1_16 := Lib.hid (BX1_15.out.turn ht (by omega))
      clear BX1_15
      have V_16 := Lib.hid (V_15.out.turn ht (by omega))
      clear V_15
      clear X0_15
      have XB0_16 := Lib.hid (XB0_15.out.turn ht (by omega))
      clear XB0_15
      have X1_16 := Lib.hid (X1_15.out.turn ht (by omega))
      clear X1_15
      have XB1_16 := Lib.hid (XB1_15.out.turn ht (by omega))
      clear XB1_15
      have G_16 := Lib.hid (G_15.out.turn ht (by omega))
      clear G_15
      clear ht q
      obtain ⟨q, qb, qbb⟩ := XB1_16.out.it
      go_wp2_with fail
      refine (markw_lazy _ _ _ _ _ _ _ _ _ _ _ st1 k0 _ X1_16.out HEG1.out (by omega) (by omega)).mono ?_
      rintro e w17 ⟨k1, rfl, hk1a, hk1b, ht⟩
      have S_17 := Lib.hid (S_16.out.turn ht (by omega))
      clear S_16
      have Bl_17 := Lib.hid (Bl_16.out.turn ht (by omega))
      clear Bl_16
      have BX0_17 := Lib.hid (BX0_16.out.turn ht (by omega))
      clear BX0_16
      have BX1_17 := Lib.hid (BX1_16.out.turn ht (by omega))
      clear BX1_16
      have V_17 := Lib.hid (V_16.out.turn ht (by omega))
      clear V_16
      have XB0_17 := Lib.hid (XB0_16.out.turn ht (by omega))
      clear XB0_16
      clear X1_16
      have XB1_17 := Lib.hid (XB1_16.out.turn ht (by omega))
      clear XB1_16
      have G_17 := Lib.hid (G_16.out.turn ht (by omega))
      clear G_16
      clear ht q qb qbb
      go_wp2_with fail
      refine (laws_eqIntS _ _ r0 r0 _ _ F0 F0 _ w17.heap.size (Nat.le_refl _) HL0.out HL0.out G_17.out.ints V_17.out.ints (by omega) (by omega)).mono ?_
      rintro e w18 ⟨rfl, hb⟩
      have S_18 := Lib.hid (S_17.out.step hb)
      clear S_17
      have Bl_18 := Lib.hid (Bl_17.out.step hb)
      clear Bl_17
      have BX0_18 := Lib.hid (BX0_17.out.step hb)
      clear BX0_17
      have BX1_18 := Lib.hid (BX1_17.out.step hb)
      clear BX1_17
      have V_18 := Lib.hid (V_17.out.step hb)
      clear V_17
      have XB0_18 := Lib.hid (XB0_17.out.step hb)
      clear XB0_17
      have XB1_18 := Lib.hid (XB1_17.out.step hb)
      clear XB1_17
      have G_18 := Lib.hid (G_17.out.step hb)
      clear G_17
      clear hb
      go_wp2_with fail
      refine (mark_ints _ _ r0 _ _ 1 _ G_18.out (by omega) (by omega) (by omega)).mono ?_
      rintro e w19 ⟨he, hg, ht⟩
      subst he
      have S_19 := Lib.hid (S_18.out.turn ht (by omega))
      clear S_18
      have Bl_19 := Lib.hid (Bl_18.out.turn ht (by omega))
      clear Bl_18
      have BX0_19 := Lib.hid (BX0_18.out.turn ht (by omega))
      clear BX0_18
      have BX1_19 := Lib.hid (BX1_18.out.turn ht (by omega))
      clear BX1_18
      have V_19 := Lib.hid (V_18.out.turn ht (by omega))
      clear V_18
      have XB0_19 := Lib.hid (XB0_18.out.turn ht (by omega))
      clear XB0_18
      have XB1_19 := Lib.hid (XB1_18.out.turn ht (by omega))
      clear XB1_18
      have G_19 := Lib.hid hg
      clear G_18
      clear ht hg
      go_wp2_with fail
      refine (held_ints _ _ r0 _ 1 _ G_19.out (by omega) (by omega) (by omega)).mono ?_
      rintro e w20 ⟨he, hb⟩
      subst he
      have S_20 := Lib.hid (S_19.out.step hb)
      clear S_19
      have Bl_20 := Lib.hid (Bl_19.out.step hb)
      clear Bl_19
      have BX0_20 := Lib.hid (BX0_19.out.step hb)
      clear BX0_19
      have BX1_20 := Lib.hid (BX1_19.out.step hb)
      clear BX1_19
      have V_20 := Lib.hid (V_19.out.step hb)
      clear V_19
      have XB0_20 := Lib.hid (XB0_19.out.step hb)
      clear XB0_19
      have XB1_20 := Lib.hid (XB1_19.out.step hb)
      clear XB1_19
      have G_20 := Lib.hid (G_19.out.step hb)
      clear G_19
      clear hb
      have hnn : ((1 : Int) + (r0 : Int) != 1 + (r0 : Int)) = false := by simp
      have z0_20 := BX0_20.out.it
      obtain ⟨z1_20, z1_20b, z1_20bb⟩ := BX1_20.out.it
      have hle20 := Bl_20.out.le
      go_wp2
      go_region_held3 (fun w' => w'.cell? ⟨w.heap.size, 0, none⟩ = some (.slice A0 n0 c0) ∧ w'.cell? ⟨w.heap.size + 1, 0, none⟩ = some (.slice A1 n1 c1) ∧ w'.cell? ⟨w.heap.size + 1, 1, none⟩ = some (.slice E1 en1 ec1) ∧ w'.cell? ⟨w.heap.size + 1, 2, none⟩ = some (.slice K1 kn1 kc1)) (first | exact ⟨z0_20, z1_20, z1_20b, z1_20bb⟩ | exact ⟨z0_21, z1_21, z1_21b, z1_21bb⟩ | exact ⟨z0_22, z1_22, z1_22b, z1_22bb⟩ | exact ⟨z0_23, z1_23, z1_23b, z1_23bb⟩ | go_keep)
        (first
          | (go_at_call 10; refine (laws_toGraph A0 n0 c0 gs0 _ w.heap.size ?_ HN0.out ?_ HG0.out).mono ?_; (exact hle20); exact S_20.out.it.1; rintro e w21 ⟨B21, m21, d21, rfl, hn, hown, hb'⟩; have hb21 : Below w20.heap.size w20 w21 := (by first | exact hb' | exact below_of_drew hb'); have M21 := Lib.hid hn; have NC21 := Lib.hid hown.ncap; have S_21 := Lib.hid (S_20.out.step hb21); have Bl_21 := Lib.hid (Bl_20.out.step hb21); have BX0_21 := Lib.hid (BX0_20.out.step hb21); have BX1_21 := Lib.hid (BX1_20.out.step hb21); have V_21 := Lib.hid (V_20.out.step hb21); have XB0_21 := Lib.hid (XB0_20.out.step hb21); have XB1_21 := Lib.hid (XB1_20.out.step hb21); have G_21 := Lib.hid (G_20.out.step hb21); have X0_21 := Lib.hid (graph_start hown); have z0_21 := BX0_21.out.it; obtain ⟨z1_21, z1_21b, z1_21bb⟩ := BX1_21.out.it; have hle21 := Bl_21.out.le; clear hown hb' hn)
          | (go_at_call 11; refine (laws_toLazy A1 E1 K1 n1 c1 en1 ec1 kn1 kc1 st1 _ w.heap.size ?_ HN1.out HE1.out HK1.out ?_ HEG1.out).mono ?_; (exact hle21); exact S_21.out.it.2; rintro e w22 ⟨B22, m22, d22, D22, em22, ed22, L22, lm22, ld22, rfl, hown, hb'⟩; have hn := hown.1; have hen := hown.2.1; have hkn := hown.2.2.1; have hb22 : Below w21.heap.size w21 w22 := (by first | exact hb' | exact below_of_drew hb'); have M22 := Lib.hid hn; have EM22 := Lib.hid hen; have KM22 := Lib.hid hkn; have S_22 := Lib.hid (S_21.out.step hb22); have Bl_22 := Lib.hid (Bl_21.out.step hb22); have BX0_22 := Lib.hid (BX0_21.out.step hb22); have BX1_22 := Lib.hid (BX1_21.out.step hb22); have V_22 := Lib.hid (V_21.out.step hb22); have XB0_22 := Lib.hid (XB0_21.out.step hb22); have XB1_22 := Lib.hid (XB1_21.out.step hb22); have G_22 := Lib.hid (G_21.out.step hb22); have X0_22 := Lib.hid (X0_21.out.step hb22); have X1_22 := Lib.hid (lazy_start hown); have z0_22 := BX0_22.out.it; obtain ⟨z1_22, z1_22b, z1_22bb⟩ := BX1_22.out.it; have hle22 := Bl_22.out.le; clear hown hb' hn hen hkn)
          | (go_at_call 24; refine (HIM.out B21 m21 d21 B22 m22 d22 D22 em22 ed22 L22 lm22 ld22 _ M21.out NC21.out X0_22.out.graph M22.out EM22.out KM22.out X1_22.out.lazy4).mono ?_; rintro e w23 ⟨v23, rfl, hown0, hb⟩; have z0_23 := (BX0_22.out.step hb).it; obtain ⟨z1_23, z1_23b, z1_23bb⟩ := (BX1_22.out.step hb).it))
      clear S_20 Bl_20 BX0_20 BX1_20 V_20 XB0_20 XB1_20 G_20 S_21 Bl_21 BX0_21 BX1_21 V_21 XB0_21 XB1_21 G_21 X0_21 hle20 hle21 hb21 hle22 hb22 z0_20 z1_20 z1_20b z1_20bb z0_21 z1_21 z1_21b z1_21bb z0_22 z1_22 z1_22b z1_22bb z0_23 z1_23 z1_23b z1_23bb
      clear X0_22
      clear X1_22
      have hown := hown0
      unfold OwnI at hown
      rw [← HL0.out] at hown
      obtain ⟨B23, d23, rfl⟩ := own_form hown
      have Z := Lib.hid (IS.of_own hown)
      have S_23 := Lib.hid (S_22.out.step hb)
      clear S_22
      have Bl_23 := Lib.hid (Bl_22.out.step hb)
      clear Bl_22
      have BX0_23 := Lib.hid (BX0_22.out.step hb)
      clear BX0_22
      have BX1_23 := Lib.hid (BX1_22.out.step hb)
      clear BX1_22
      have V_23 := Lib.hid (V_22.out.step hb)
      clear V_22
      have XB0_23 := Lib.hid (XB0_22.out.step hb)
      clear XB0_22
      have XB1_23 := Lib.hid (XB1_22.out.step hb)
      clear XB1_22
      have G_23 := Lib.hid (G_22.out.step hb)
      clear G_22
      clear hown hown0 hb
      go_wp2_with fail
      refine (laws_eqIntS _ _ r0 r0 _ _ F0 F0 _ w23.heap.size (Nat.le_refl _) HL0.out HL0.out Z.out V_23.out.ints (by omega) (by omega)).mono ?_
      rintro e w24 ⟨rfl, hb⟩
      have S_24 := Lib.hid (S_23.out.step hb)
      clear S_23
      have Bl_24 := Lib.hid (Bl_23.out.step hb)
      clear Bl_23
      have BX0_24 := Lib.hid (BX0_23.out.step hb)
      clear BX0_23
      have BX1_24 := Lib.hid (BX1_23.out.step hb)
      clear BX1_23
      have V_24 := Lib.hid (V_23.out.step hb)
      clear V_23
      have XB0_24 := Lib.hid (XB0_23.out.step hb)
      clear XB0_23
      have XB1_24 := Lib.hid (XB1_23.out.step hb)
      clear XB1_23
      have G_24 := Lib.hid (G_23.out.step hb)
      clear G_23
      clear hb Z
      go_wp2_with fail
      refine (held_ints _ _ r0 _ 1 _ G_24.out (by omega) (by omega) (by omega)).mono ?_
      rintro e w25 ⟨he, hb⟩
      subst he
      have S_25 := Lib.hid (S_24.out.step hb)
      clear S_24
      have Bl_25 := Lib.hid (Bl_24.out.step hb)
      clear Bl_24
      have BX0_25 := Lib.hid (BX0_24.out.step hb)
      clear BX0_24
      have BX1_25 := Lib.hid (BX1_24.out.step hb)
      clear BX1_24
      have V_25 := Lib.hid (V_24.out.step hb)
      clear V_24
      have XB0_25 := Lib.hid (XB0_24.out.step hb)
      clear XB0_24
      have XB1_25 := Lib.hid (XB1_24.out.step hb)
      clear XB1_24
      have G_25 := Lib.hid (G_24.out.step hb)
      clear G_24
      clear hb
      go_wp2
      go_ret
      exact ⟨rfl, Bl_25.out⟩
end Go.Proofs.Ythnilpibpmlaeaa


namespace Go.Proofs.Ythnilpibpmlaeaa
set_option linter.unusedSimpArgs false
set_option linter.unusedVariables false
open Go.ChangeShapes Go.WideShapes Go.ChangeAt Go.RowKit

set_option maxRecDepth 100000 in
theorem lifted_StaleOf (os : Os) (started : os.Started) (H : Type) (enc : TypeId × Value → H) :
    ReturnsInHanded {} Try.checked os 5 .any (Rows.fnExactStaleOfSpec.pre6 enc Try.prog Try.f5 Rows.fnExactStaleOfRow.domain false) (Rows.fnExactStaleOfSpec.post enc Try.prog Try.f5 false true false false) := by
  refine returnsInHanded_of_change (C := Try.checked) own started (by kernel_rfl) Try.func5
    (ChangeSpec.witness6 (enc := enc) (C := Try.checked) false ⟨#[], #[.agg #[.slice none 0 0], .agg #[.slice none 0 0, .slice none 0 0, .slice none 0 0]], []⟩ 8 (by kernel_rfl) (by kernel_rfl) (by kernel_rfl) (by kernel_rfl)) ?_
  intro W base args ds gs before hval0 hW hcnd _
  have hval : ∀ (j : Nat) t v, Try.f5.params[j]? = some t → args[j]? = some v → Value.okWide Try.prog W .any base t v := hval0
  have hW' := hW
  obtain ⟨p, q, hA0, hV, rfl, hfz, hnd⟩ := hW
  have hA : DataW.TrodAll enc Try.prog W 0 (fun _ => true) true Try.f5.params.toList args.toList ds p := hA0
  rw [Try.params5] at hA hval
  obtain ⟨v0, vs0, d0, ds0, p0, q0, hargs, rfl, rfl, h0, r0⟩ := trodAll_cons hA
  obtain ⟨v1, vs1, d1, ds1, p1, q1, rfl, rfl, rfl, h1, r1⟩ := trodAll_cons r0
  obtain ⟨rfl, rfl, rfl⟩ := trodAll_nil r1
  obtain rfl : args = #[v0, v1] := by cases args; simp_all
  obtain ⟨rfl, rfl⟩ := trodVars_none hV
  have k0 := h0
  have lt0 : ∀ x ∈ p0, x.block < W.heap.size := by obtain ⟨m, hm⟩ := k0; exact DataW.trod_lt m _ _ _ hm
  have k1 := h1
  have lt1 : ∀ x ∈ p1, x.block < W.heap.size := by obtain ⟨m, hm⟩ := k1; exact DataW.trod_lt m _ _ _ hm
  obtain ⟨A0, n0, c0, gs0, rfl, hn0, hm0, hp0, hd0⟩ := open_graph (hval 0 24 v0 rfl rfl) h0
  obtain ⟨A1, n1, c1, E1, en1, ec1, K1, kn1, kc1, st1, rfl, hn1, he1, hk1, hm1, hem1, hkm1, hp1, hd1⟩ := open_lazy (fun _ => rfl) (hval 1 28 v1 rfl rfl) h1
  clear hA0 hval0
  refine (law_StaleOf A0 n0 c0 gs0 A1 n1 c1 E1 en1 ec1 K1 kn1 kc1 st1 W hn0 hd0 hm0 hp0 hn1 he1 hk1 hd1 hm1 hem1 hkm1 hp1).mono fun e W' ⟨he, bel⟩ => ?_
  subst he
  exact ⟨_, rfl, _, _, _, [], _, [], hW', trodAll_mk1 (shut_bool Try.underlying4 _), (trodAll_cons_mk (Below.trod laidOut (by kernel_rfl) (of_decide_eq_true (by kernel_rfl)) k0 bel lt0) (trodAll_cons_mk (Below.trod laidOut (by kernel_rfl) (of_decide_eq_true (by kernel_rfl)) k1 bel lt1) trodAll_mk0)), rfl, bel.frame _, fun h => by cases h⟩

theorem proved_StaleOf : Rows.FnExactStaleOfSaid :=
  OpenClaim.holds_of_wide 5 Try.f5 rfl rfl rfl rfl rfl rfl rfl ⟨rfl, rfl, rfl, rfl, rfl⟩ rfl rfl rfl rfl rfl (by kernel_rfl) Try.func5 (by kernel_rfl)
    (of_decide_eq_true (by kernel_rfl)) (by unfold Func.isWrapper; first | (rw [if_pos (by decide +kernel)]; kernel_rfl) | (rw [if_neg (by decide +kernel)]; exact ⟨rfl, rfl⟩))
    (fun os started H enc _ => lifted_StaleOf os started H enc)
#print axioms proved_StaleOf
end Go.Proofs.Ythnilpibpmlaeaa
