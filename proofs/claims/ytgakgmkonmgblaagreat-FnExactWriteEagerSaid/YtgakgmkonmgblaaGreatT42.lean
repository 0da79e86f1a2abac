/- impl's canWrite, copyEager, setValue and runNode. (Made by t42.py.) -/
import Derived.Test.YtgakgmkonmgblaaGreatT41
import Derived.Test.YtgakgmkonmgblaaGreatA6

namespace Go.Proofs.YtgakgmkonmgblaaGreat
set_option linter.unusedSimpArgs false
set_option linter.unusedVariables false
open Go.RowKit

theorem slices_IndexFuncM (K : FuncId) (cap : Value) (P : Int → Bool) (A : Option Addr) (n c : Nat) (xs : List Int) (hs : n ≤ 2000000) (w : World) (hcf : ∀ (q : Int) (w : World), (callFunc K #[.int .i64 q, cap]).run Tryz.prog w = .ok (.enter K #[.int .i64 q, cap]) w)
    (hP : ∀ q ∈ xs, Calls Tryz.prog K #[.int .i64 q, cap] w fun e w' => e = .returned (.bool (P q)) ∧ w' = w) (hn : n = xs.length) (B : Nat) (hx : IS w B A xs) :
    Calls Tryz.prog 80 #[.slice A n c, .func (.func K) #[] #[cap]] w fun e w' => (∃ r : Int, e = .returned (.int .i64 r) ∧ decide (r ≥ 0) = xs.any P) ∧ w' = w := by
  have HP := Lib.hid hP
  have HCF := Lib.hid hcf
  have HX := Lib.hid hx
  have HN := Lib.hid hn
  clear hP hcf hx hn
  go_enter Tryz.func80, Tryz.ntmps80
  go_wp2
  go_loopw [8] (fun i wr => ∃ k : Nat, k ≤ n ∧ i = .int .i64 k ∧ Hid (∀ j, j < k → P (xs.getD j 0) = false) ∧ wr = w) (fun i _ => n - (intOf i).toNat)
  case atStart => exact ⟨0, Nat.zero_le _, rfl, fun j hj => by omega, rfl⟩
  case round =>
    obtain ⟨k, hk, rfl, HA, rfl⟩ := hrel
    by_cases hlt : k < n
    · have hkx : k < xs.length := by have := HN.out; omega
      obtain ⟨b, off, rfl, hbB, hc⟩ := HX.out (by omega)
      have c0 := hc k hkx
      have HNX : Hid (P (xs.getD k 0) = false → ∀ j, j < k + 1 → P (xs.getD j 0) = false) := fun h j hj => by
        rcases Nat.lt_or_ge j k with h1 | h1
        · exact HA.out j h1
        · obtain rfl : j = k := by omega
          exact h
      have HYS : Hid (P (xs.getD k 0) = true → xs.any P = true) := fun h => List.any_eq_true.2 ⟨xs.getD k 0, by simp [List.getD, hkx], h⟩
      have HPK := Lib.hid (HP.out (xs.getD k 0) (by rw [show xs.getD k 0 = xs[k] by simp [List.getD, hkx]]; exact List.getElem_mem hkx))
      have hcf := HCF.out (xs.getD k 0)
      generalize xs.getD k 0 = x at *
      generalize P x = p at *
      clear hc HX
      cases p
      · have HN2 := Lib.hid (HNX.out (by first | rfl | trivial))
        go_wp2_with fail
        refine HPK.out.mono ?_
        rintro e w2 ⟨rfl, rfl⟩
        go_wp2
        go_roundw
        case rel => exact ⟨k + 1, by omega, by go_num, HN2.out, by first | rfl | trivial⟩
        case measure => simp [intOf]; omega
      · have HY2 := Lib.hid (HYS.out (by first | rfl | trivial))
        go_wp2_with fail
        refine HPK.out.mono ?_
        rintro e w2 ⟨rfl, rfl⟩
        go_wp2
        go_ret
        exact ⟨⟨k, rfl, by rw [HY2.out]; simp⟩, rfl⟩
    · go_wp2
      go_ret
      refine ⟨⟨-1, rfl, ?_⟩, rfl⟩
      have : xs.any P = false := by
        rw [List.any_eq_false]
        intro x hx
        obtain ⟨j, hj, he⟩ := List.mem_iff_getElem.1 hx
        have := HA.out j (by have := HN.out; omega)
        rw [show xs.getD j 0 = x by simp [List.getD, hj, he]] at this
        simp [this]
      rw [this]; rfl

set_option maxHeartbeats 800000 in
theorem slices_ContainsFuncM (K : FuncId) (cap : Value) (P : Int → Bool) (A : Option Addr) (n c : Nat) (xs : List Int) (hs : n ≤ 2000000) (w : World) (hcf : ∀ (q : Int) (w : World), (callFunc K #[.int .i64 q, cap]).run Tryz.prog w = .ok (.enter K #[.int .i64 q, cap]) w)
    (hP : ∀ q ∈ xs, Calls Tryz.prog K #[.int .i64 q, cap] w fun e w' => e = .returned (.bool (P q)) ∧ w' = w) (hn : n = xs.length) (B : Nat) (hx : IS w B A xs) :
    Calls Tryz.prog 36 #[.slice A n c, .func (.func K) #[] #[cap]] w fun e w' => e = .returned (.bool (xs.any P)) ∧ w' = w := by
  have HC := Lib.hid (slices_IndexFuncM K cap P A n c xs hs w hcf hP hn B hx)
  generalize xs.any P = r at *
  clear hcf hP hn hx
  go_enter Tryz.func36, Tryz.ntmps36
  go_wp2_with fail
  refine HC.out.mono ?_
  rintro e w1 ⟨⟨q, rfl, hq⟩, rfl⟩
  cases r
  all_goals
    go_wp2
    go_ret
    exact ⟨rfl, rfl⟩


set_option maxRecDepth 100000 in
set_option maxHeartbeats 1600000 in
theorem impl_canWrite (A A' E A2 A3 : Option Addr) (n c m c' p ec m2 c2 m3 c3 : Nat) (gs : List Nd) (st : Eg) (xs ys : List Int) (w : World) (hn : n = gs.length) (hnc : n ≤ c) (h : GS w w.heap.size A gs) (hm : m = st.vs.length) (hp : p = st.rs.length) (h' : ES w w.heap.size A' E st) (hm2 : m2 = xs.length) (h2 : IS w w.heap.size A2 xs) (hm3 : m3 = ys.length) (h3 : IS w w.heap.size A3 ys) (hG : GB gs) (hE : EB st) (hL : xs.length ≤ 1048576) (hL2 : ys.length ≤ 1048576) :
    Calls Tryz.prog 33 #[.agg #[.slice A n c], .agg #[.slice A' m c', .slice E p ec], .slice A2 m2 c2, .slice A3 m3 c3] w fun e w' => e = .returned (.bool (wrtB gs st xs ys)) ∧ Below w.heap.size w w' := by
  have HV := Lib.hid fun (w' : World) (hB : w.heap.size ≤ w'.heap.size) (h : GS w' w.heap.size A gs) (h' : ES w' w.heap.size A' E st) => impl_ValidEager A A' E n c m c' p ec gs st w' w.heap.size hB hn hnc hm hp h h' hG hE
  have HAC := Lib.hid fun (w' : World) (h10 : n ≤ 10) (h : GS w' w'.heap.size A gs) (h1 : IS w' w'.heap.size A2 xs) => impl_areCells A A2 n c m2 c2 gs xs w' hn h10 hm2 (by omega) h h1
  have HAR := Lib.hid fun (w' : World) (h3 : IS w' w'.heap.size A3 ys) => impl_allInRange A3 m3 c3 ys 999 w' w'.heap.size (Nat.le_refl _) hm3 h3 (by omega)
  obtain ⟨W2, hW2⟩ : ∃ W, W = (w.alloc (.cells #[.slice A n c] 25)).alloc (.cells #[.slice A' m c', .slice E p ec] 29) := ⟨_, rfl⟩
  have hb2 : Below w.heap.size w W2 := by rw [hW2]; exact ((Below.refl _ _).alloc (Nat.le_refl _) _).alloc (by simp) _
  have hs2 : W2.heap.size = w.heap.size + 2 := by rw [hW2]; simp
  have x0 : Bx w.heap.size [.slice A n c] W2 := by rw [hW2]; exact (Bx.start w _ _).alloc _
  have HV2 := Lib.hid (HV.out W2 (by omega) (h.below hb2 (Nat.le_refl _)) (h'.below hb2 (Nat.le_refl _)))
  rw [hW2] at HV2
  have HW2 := Lib.hid hW2
  have HG := Lib.hid h
  have H2 := Lib.hid h2
  have H3 := Lib.hid h3
  have HB2 := Lib.hid hb2
  have X0 := Lib.hid x0
  have HS2 := Lib.hid hs2
  have hvp := fun (hv : validE gs st = true) => (validG_parts gs (validE_parts gs st hv).1).1
  have HVP := Lib.hid hvp
  have HN := Lib.hid hn
  have hwr : wrtB gs st xs ys = (validE gs st && gwB gs xs ys) := rfl
  have hgw : gwB gs xs ys = (decide (xs.length = ys.length) && (decide (xs.length ≤ 10) && (allR ys 0 999 && wrB gs xs))) := rfl
  have hlen : ((m3 : Int) == (m2 : Int)) = decide (xs.length = ys.length) := by
    rw [hm2, hm3, Bool.eq_iff_iff, beq_iff_eq, decide_eq_true_eq]; omega
  have HL10 : Hid (xs.length = ys.length → (decide (ys.length ≤ 10) = decide (xs.length ≤ 10))) := fun h => by rw [h]
  rw [hwr, hgw]
  have HLEN := Lib.hid hlen
  generalize hv : validE gs st = v at *
  generalize wrB gs xs = r at *
  generalize allR ys 0 999 = al at *
  clear hW2 hb2 x0 h h' h2 h3 hn hm hp hm2 hm3 hwr hgw hvp HV hG hE hs2 hlen
  go_enter Tryz.func33, Tryz.ntmps33
  cases v
  · go_wp2_with fail
    refine HV2.out.mono ?_
    rw [← HW2.out]
    rintro e w4 ⟨rfl, hb⟩
    have HB4 := Lib.hid (HB2.out.trans (hb.mono (by have := HS2.out; omega)))
    clear hb
    go_wp2
    go_ret
    exact ⟨by simp, HB4.out⟩
  · have hn10 := HVP.out (by first | rfl | trivial)
    go_wp2_with fail
    refine HV2.out.mono ?_
    rw [← HW2.out]
    rintro e w4 ⟨rfl, hb⟩
    have p0 := (X0.out.step hb).c 0 _ rfl
    have HB4 := Lib.hid (HB2.out.trans (hb.mono (by have := HS2.out; omega)))
    have hs4 : w.heap.size ≤ w4.heap.size := by have := hb.size; have := HS2.out; omega
    have hp4 : w.heap.size < w4.heap.size := (X0.out.step hb).lt
    clear hb
    cases r
    · go_wp2_with fail
      refine (HAC.out w4 (by have := HN.out; omega) ((HG.out.below HB4.out (Nat.le_refl _)).more hs4) ((H2.out.below HB4.out (Nat.le_refl _)).more hs4)).mono ?_
      rintro e w5 ⟨rfl, hb⟩
      have HB5 := Lib.hid (HB4.out.trans (hb.mono hs4))
      clear hb p0
      go_wp2
      go_ret
      exact ⟨by simp, HB5.out⟩
    · go_wp2_with fail
      refine (HAC.out w4 (by have := HN.out; omega) ((HG.out.below HB4.out (Nat.le_refl _)).more hs4) ((H2.out.below HB4.out (Nat.le_refl _)).more hs4)).mono ?_
      rintro e w5 ⟨rfl, hb⟩
      have HB5 := Lib.hid (HB4.out.trans (hb.mono hs4))
      have hs5 : w.heap.size ≤ w5.heap.size := by have := hb.size; omega
      clear hb p0
      by_cases hl : xs.length = ys.length
      · have hx : ((m3 : Int) == (m2 : Int)) = true := by rw [HLEN.out]; exact decide_eq_true hl
        go_wp2_with fail
        refine (HAR.out w5 ((H3.out.below HB5.out (Nat.le_refl _)).more hs5)).mono ?_
        rintro e w6 ⟨rfl, rfl⟩
        have h10 := HL10.out hl
        clear hx
        go_wp2
        go_ret
        refine ⟨?_, HB5.out⟩
        rw [decide_eq_true hl]
        simp [hl]
      · have hx : ((m3 : Int) == (m2 : Int)) = false := by rw [HLEN.out]; exact decide_eq_false hl
        go_wp2
        go_ret
        refine ⟨?_, HB5.out⟩
        rw [decide_eq_false hl]
        simp

/-- Reads, and values behind them. -/
theorem OwE.join2 {lo mid hi n c en ec : Nat} {A E : Option Addr} {st : Eg} {w : World} (h : OwR mid hi 3 1 (.slice A n c) n (st.vs.map (Value.int .i64)) w) (hn : n = st.vs.length) (h' : OwSS lo mid (.slice E en ec) en st.rs w) (h1 : lo ≤ mid) (h2 : mid ≤ hi) : OwE lo hi A n c E en ec st w := by
  obtain ⟨h0, us, e1, e2⟩ := h'
  refine ⟨hn, h0, us, e1.mono (Nat.le_refl _) h2, ⟨fun j hj => ?_, fun i j v u k hij h3 h4 hv hu => ?_⟩⟩
  · cases j with
    | zero => exact ⟨A, n, c, rfl, hn, h.mono h1 (Nat.le_refl _)⟩
    | succ j =>
      obtain ⟨A', m, c', r1, r2, r3⟩ := e2.row j (by simpa using hj)
      exact ⟨A', m, c', r1, r2, r3.mono (Nat.le_refl _) h2⟩
  · cases i with
    | zero =>
      cases j with
      | zero => exact hij rfl
      | succ j =>
        simp only [List.getElem?_cons_zero, Option.some.injEq] at h3
        subst h3
        have a1 := (h.1.lt k hv).1
        have a2 := (e2.lt j u k h4 hu).2
        omega
    | succ i =>
      cases j with
      | zero =>
        simp only [List.getElem?_cons_zero, Option.some.injEq] at h4
        subst h4
        have a1 := (h.1.lt k hu).1
        have a2 := (e2.lt i v k h3 hv).2
        omega
      | succ j => exact e2.apart i j v u k (by omega) h3 h4 hv hu
end Go.Proofs.YtgakgmkonmgblaaGreat
