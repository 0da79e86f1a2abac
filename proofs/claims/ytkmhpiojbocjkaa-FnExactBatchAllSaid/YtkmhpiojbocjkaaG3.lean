/- Contracts of the laws' own sizes and comparisons of graphs. -/
import Derived.Test.YtkmhpiojbocjkaaG2
import Derived.StillTailTactics
namespace Go.Proofs.Ytkmhpiojbocjkaa
set_option linter.unusedSimpArgs false
set_option linter.unusedVariables false
open Go.RowKit

set_option maxHeartbeats 800000 in
theorem laws_szNode (A : Option Addr) (k : Int) (n c : Nat) (l : Int) (w : World) (hl0 : 0 ≤ l) (hl : l ≤ 2000000) (hn : n ≤ 9223372036854775807) :
    Calls Try.prog 33 #[.agg #[.int .i64 k, .slice A n c], .int .i64 l] w fun e w' => e = .returned (.int .i64 (if l - n < 0 then -1 else l - n)) ∧ Below w.heap.size w w' := by
  have HS := laws_szFormula A n c l
  by_cases h : l - n < 0
  · rw [if_pos h]
    have HC : ∀ w : World, Calls Try.prog 51 #[.agg #[.slice A n c], .int .i64 l] w fun e w' => e = .returned (.int .i64 (-1)) ∧ Below w.heap.size w w' := fun w => by
      have := HS w hl0 hl hn
      rwa [if_pos h] at this
    have HH := Lib.hid HC
    clear HC HS
    go_enter Try.func33, Try.ntmps33
    go_wp2_with fail
    refine (HH.out _).mono ?_
    rintro e w' ⟨rfl, hb⟩
    go_wp2
    go_ret
    exact ⟨rfl, ((Below.refl _ _).alloc (Nat.le_refl _) _).trans (hb.mono (by simp))⟩
  · rw [if_neg h]
    have HC : ∀ w : World, Calls Try.prog 51 #[.agg #[.slice A n c], .int .i64 l] w fun e w' => e = .returned (.int .i64 (l - n)) ∧ Below w.heap.size w w' := fun w => by
      have := HS w hl0 hl hn
      rwa [if_neg h] at this
    have HH := Lib.hid HC
    clear HC HS
    go_enter Try.func33, Try.ntmps33
    go_wp2_with fail
    refine (HH.out _).mono ?_
    rintro e w' ⟨rfl, hb⟩
    go_wp2
    go_ret
    exact ⟨rfl, ((Below.refl _ _).alloc (Nat.le_refl _) _).trans (hb.mono (by simp))⟩

/-- What is left of a size. -/
def leftOf (l : Int) (s : Nat) : Int := if (s : Int) ≤ l then l - s else -1

set_option maxRecDepth 100000 in
set_option maxHeartbeats 800000 in
theorem laws_szNodeS (A : Option Addr) (n c : Nat) (gs : List Nd) (l : Int) (w : World) (B : Nat) (hB : B ≤ w.heap.size) (hn : n = gs.length) (h : GS w B A gs) (hl0 : 0 ≤ l) (hl : l ≤ 2000000) (hm : n ≤ 9223372036854775807) (hm' : ∀ j, (gs.getD j default).ps.length ≤ 9223372036854775807) :
    Calls Try.prog 21 #[.slice A n c, .int .i64 l] w fun e w' => e = .returned (.int .i64 (leftOf l (gsz gs))) ∧ Below w.heap.size w w' := by
  by_cases hln : l - n < 0
  · have e : leftOf l (gsz gs) = -1 := by unfold leftOf; rw [if_neg (by unfold gsz; omega)]
    rw [e]
    clear e h hn hm'
    go_enter Try.func21, Try.ntmps21
    go_wp2
    go_ret
    exact ⟨rfl, Below.refl _ _⟩
  have H := Lib.hid h
  have HN := Lib.hid hn
  have HM := Lib.hid hm'
  clear hn h hm'
  go_enter Try.func21, Try.ntmps21
  go_wp2
  go_loopw [5, 1] (fun i u wr => ∃ (k : Nat) (q : Int), k ≤ n ∧ i = .int .i64 k ∧ u = .int .i64 q ∧ 0 ≤ q ∧ q ≤ 2000000 ∧ Hid (q = l - n - (((gs.take k).map fun d => d.ps.length).sum : Nat)) ∧ Below w.heap.size w wr) (fun i _ _ => n - (intOf i).toNat)
  case atStart => exact ⟨0, l - n, Nat.zero_le _, rfl, rfl, by omega, by omega, by simp [Hid], Below.refl _ _⟩
  case round =>
    obtain ⟨k, q, hk, rfl, rfl, hq0, hq, HQ, hb⟩ := hrel
    by_cases hlt : k < n
    · obtain ⟨b, off, rfl, hbB, hc⟩ := H.out (by have := HN.out; omega)
      obtain ⟨c0, A1, n1, c1, c2, hn1', hps⟩ := hc k (by have := HN.out; omega)
      have hnb := HM.out k
      clear hc H hps
      have b0 := (hb.cell (p := ⟨b, off + k * 2, none⟩) (by simp; omega)).trans c0
      have b1 := (hb.cell (p := ⟨b, off + k * 2 + 1, none⟩) (by simp; omega)).trans c2
      clear c0 c2
      have hst := sum_take_succ gs k (by have := HN.out; omega)
      have htl := sum_take_le gs (k + 1)
      generalize gs.getD k default = d at *
      have hnb1 : n1 ≤ 9223372036854775807 := by omega
      have HST := Lib.hid hst
      have HTL := Lib.hid htl
      have HN1 := Lib.hid hn1'
      clear hst htl hn1' hnb
      by_cases h1 : q - n1 < 0
      · have HC : ∀ w : World, Calls Try.prog 33 #[.agg #[.int .i64 d.k, .slice A1 n1 c1], .int .i64 q] w fun e w' => e = .returned (.int .i64 (-1)) ∧ Below w.heap.size w w' := fun w => by
          have := laws_szNode A1 d.k n1 c1 q w hq0 hq hnb1
          rwa [if_pos h1] at this
        have HH := Lib.hid HC
        clear HC
        go_wp2_with fail
        refine (HH.out _).mono ?_
        rintro e w' ⟨rfl, hb1⟩
        go_wp2
        go_ret
        refine ⟨ret_i ?_, hb.trans (hb1.mono hb.size)⟩
        unfold leftOf
        rw [if_neg]
        have a1 := HST.out; have a2 := HTL.out; have a3 := HN1.out; have a4 := HQ.out; have a5 := HN.out
        unfold gsz
        omega
      · have HC : ∀ w : World, Calls Try.prog 33 #[.agg #[.int .i64 d.k, .slice A1 n1 c1], .int .i64 q] w fun e w' => e = .returned (.int .i64 (q - n1)) ∧ Below w.heap.size w w' := fun w => by
          have := laws_szNode A1 d.k n1 c1 q w hq0 hq hnb1
          rwa [if_neg h1] at this
        have HH := Lib.hid HC
        clear HC
        go_wp2_with fail
        refine (HH.out _).mono ?_
        rintro e w' ⟨rfl, hb1⟩
        go_wp2
        go_roundw
        case rel => exact ⟨k + 1, q - n1, by omega, by go_num, rfl, by omega, by omega, by have a1 := HST.out; have a3 := HN1.out; have a4 := HQ.out; show q - n1 = _; omega, hb.trans (hb1.mono hb.size)⟩
        case measure => simp [intOf]; omega
    · obtain rfl : k = n := by omega
      go_wp2
      go_ret
      refine ⟨ret_i ?_, hb⟩
      have a4 := HQ.out
      have a5 := HN.out
      rw [a5, List.take_of_length_le (Nat.le_refl _)] at a4
      unfold leftOf
      rw [if_pos (by unfold gsz; omega), a4]
      unfold gsz
      omega

set_option maxHeartbeats 800000 in
theorem laws_szGraph (A : Option Addr) (n c : Nat) (gs : List Nd) (l : Int) (w : World) (B : Nat) (hB : B ≤ w.heap.size) (hn : n = gs.length) (h : GS w B A gs) (hl0 : 0 ≤ l) (hl : l ≤ 2000000) (hm : n ≤ 9223372036854775807) (hm' : ∀ j, (gs.getD j default).ps.length ≤ 9223372036854775807) :
    Calls Try.prog 6 #[.agg #[.slice A n c], .int .i64 l] w fun e w' => e = .returned (.int .i64 (leftOf l (gsz gs))) ∧ Below w.heap.size w w' := by
  have H := Lib.hid h
  have HC := Lib.hid fun (w : World) (hB : B ≤ w.heap.size) (h : GS w B A gs) => laws_szNodeS A n c gs l w B hB hn h hl0 hl hm hm'
  have hL : leftOf l (gsz gs) = -1 ∨ 0 ≤ leftOf l (gsz gs) := by unfold leftOf; split <;> omega
  generalize leftOf l (gsz gs) = L at *
  clear h hn hm'
  rcases hL with rfl | hL
  all_goals
    go_enter Try.func6, Try.ntmps6
    go_wp2_with fail
    refine (HC.out _ (by simp; omega) (H.out.alloc hB _)).mono ?_
    rintro e w' ⟨rfl, hb⟩
    go_wp2
    go_ret
    exact ⟨rfl, ((Below.refl _ _).alloc (Nat.le_refl _) _).trans (hb.mono (by simp))⟩

def eqNd (d e : Nd) : Bool := decide (d = e)
theorem eqNd_iff (d e : Nd) : eqNd d e = true ↔ d = e := by simp [eqNd]

set_option maxHeartbeats 800000 in
theorem laws_eqNode (A A' : Option Addr) (k k' : Int) (n n' c c' : Nat) (ps qs : List Pt) (w : World) (B : Nat) (hB : B ≤ w.heap.size) (hn : n = ps.length) (hn' : n' = qs.length) (h : PS w B A ps) (h' : PS w B A' qs) (hs : n ≤ 2000000) (hs' : n' ≤ 2000000) :
    Calls Try.prog 41 #[.agg #[.int .i64 k, .slice A n c], .agg #[.int .i64 k', .slice A' n' c']] w fun e w' => e = .returned (.bool (eqNd ⟨k, ps⟩ ⟨k', qs⟩)) ∧ Below w.heap.size w w' := by
  have hd : eqNd ⟨k, ps⟩ ⟨k', qs⟩ = (!(k != k') && decide (ps = qs)) := by
    simp only [eqNd, Nd.mk.injEq]
    by_cases h1 : k = k' <;> by_cases h2 : ps = qs <;> simp [h1, h2]
  rw [hd]
  have H := Lib.hid h
  have H' := Lib.hid h'
  have HN := Lib.hid hn
  have HN' := Lib.hid hn'
  clear hn hn' h h' hd
  cases hk : (k != k')
  · go_enter Try.func41, Try.ntmps41
    go_wp2_with fail
    refine (laws_eqFormula _ _ _ _ _ _ ps qs _ B (by simp; omega) HN.out HN'.out ((H.out.alloc hB _).alloc (by simp; omega) _) ((H'.out.alloc hB _).alloc (by simp; omega) _) hs hs').mono ?_
    rintro e w1 ⟨rfl, hb⟩
    go_wp2
    all_goals
      go_ret
      exact ⟨ret_b (by simp_all), ((Below.refl _ _).alloc (Nat.le_refl _) _).alloc (by simp) _ |>.trans (hb.mono (by simp; omega))⟩
  · go_enter Try.func41, Try.ntmps41
    go_wp2
    go_ret
    exact ⟨rfl, ((Below.refl _ _).alloc (Nat.le_refl _) _).alloc (by simp) _⟩

set_option maxRecDepth 100000 in
set_option maxHeartbeats 1600000 in
theorem laws_eqNodeS (A A' : Option Addr) (n n' c c' : Nat) (gs hs : List Nd) (w : World) (B : Nat) (hB : B ≤ w.heap.size) (hn : n = gs.length) (hn' : n' = hs.length) (h : GS w B A gs) (h' : GS w B A' hs) (hb1 : GB gs) (hb2 : GB hs) :
    Calls Try.prog 27 #[.slice A n c, .slice A' n' c'] w fun e w' => e = .returned (.bool (decide (gs = hs))) ∧ Below w.heap.size w w' := by
  have hm1 : n ≤ 1048576 := by rw [hn]; exact hb1.1
  have hm2 : n' ≤ 1048576 := by rw [hn']; exact hb2.1
  by_cases hl : n = n'
  · have hne : ((n : Int) != (n' : Int)) = false := by simp [hl]
    have HL := Lib.hid hl
    have HN := Lib.hid hn
    have HN' := Lib.hid hn'
    have H := Lib.hid h
    have H' := Lib.hid h'
    have HB1 := Lib.hid hb1
    have HB2 := Lib.hid hb2
    clear hl hn hn' h h' hb1 hb2
    go_enter Try.func27, Try.ntmps27
    go_wp2
    go_loopw [5] (fun i wr => ∃ k : Nat, k ≤ n ∧ i = .int .i64 k ∧ Hid (gs.take k = hs.take k) ∧ Below w.heap.size w wr) (fun i _ => n - (intOf i).toNat)
    case atStart => exact ⟨0, Nat.zero_le _, rfl, by simp [Hid], Below.refl _ _⟩
    case round =>
      obtain ⟨k, hk, rfl, HT, hb⟩ := hrel
      by_cases hlt : k < n
      · obtain ⟨b, off, rfl, hbB, hc⟩ := H.out (by have := HN.out; omega)
        obtain ⟨b', off', rfl, hbB', hc'⟩ := H'.out (by have := HN'.out; have := HL.out; omega)
        obtain ⟨c0, A1, n1, c1, c2, hn1', hps⟩ := hc k (by have := HN.out; omega)
        obtain ⟨d0, A2, n2, d1, d2, hn2', hqs⟩ := hc' k (by have := HN'.out; have := HL.out; omega)
        have hx1 := HB1.out.2 k
        have hx2 := HB2.out.2 k
        clear hc hc' H H'
        have hlt' : k < n' := by have := HL.out; omega
        have b0 := (hb.cell (p := ⟨b, off + k * 2, none⟩) (by simp; omega)).trans c0
        have b1 := (hb.cell (p := ⟨b, off + k * 2 + 1, none⟩) (by simp; omega)).trans c2
        have e0 := (hb.cell (p := ⟨b', off' + k * 2, none⟩) (by simp; omega)).trans d0
        have e1 := (hb.cell (p := ⟨b', off' + k * 2 + 1, none⟩) (by simp; omega)).trans d2
        have HPS := Lib.hid (hps.below hb hB)
        have HQS := Lib.hid (hqs.below hb hB)
        clear c0 c2 d0 d2 hps hqs
        generalize hp : gs.getD k default = p at *
        generalize hq : hs.getD k default = q at *
        have HP := Lib.hid hp
        have HQ := Lib.hid hq
        have HN1 := Lib.hid hn1'
        have HN2 := Lib.hid hn2'
        have hy1 : n1 ≤ 2000000 := by omega
        have hy2 : n2 ≤ 2000000 := by omega
        clear hp hq hn1' hn2' hx1 hx2
        go_wp2
        go_still_tail 8, (by kernel_rfl)
        go_wp2_with (go_at_call 41; refine (laws_eqNode _ _ _ _ _ _ _ _ p.ps q.ps wr.drew B (Nat.le_trans hB hb.size) HN1.out HN2.out HPS.out HQS.out hy1 hy2).mono ?_; rintro e w1 ⟨rfl, hb1⟩)
        · have ht : (!eqNd p q) = true := by assumption
          go_ret
          refine ⟨ret_b ?_, hb.drew.trans (hb1.mono hb.size)⟩
          have hne : gs.getD k default ≠ hs.getD k default := by
            rw [HP.out, HQ.out]; intro e; rw [(eqNd_iff p q).2 e] at ht; cases ht
          simp [getD_ne gs hs k hne]
        · have ht : (!eqNd p q) = false := by assumption
          have he : gs.getD k default = hs.getD k default := by
            rw [HP.out, HQ.out]; exact (eqNd_iff p q).1 (by simpa using ht)
          have hts := take_step gs hs k (by have := HN.out; omega) (by have := HN'.out; omega) HT.out he
          clear he
          go_roundw
          case rel => exact ⟨k + 1, by omega, by go_num, hts, hb.drew.trans (hb1.mono hb.size)⟩
          case measure => simp [intOf]; omega
      · go_wp2
        go_ret
        refine ⟨ret_b ?_, hb⟩
        have hkn : k = n := by omega
        have := take_all_eq gs hs n HN.out (HL.out.trans HN'.out) (by rw [← hkn]; exact HT.out)
        simp [this]
  · have hne : ((n : Int) != (n' : Int)) = true := by simp; omega
    have hf : decide (gs = hs) = false := by
      rw [decide_eq_false_iff_not]; rintro rfl; omega
    rw [hf]
    clear hl hn hn' h h' hf hb1 hb2
    go_enter Try.func27, Try.ntmps27
    go_wp2
    go_ret
    exact ⟨rfl, Below.refl _ _⟩

set_option maxHeartbeats 400000 in
theorem laws_eqGraph (A A' : Option Addr) (n n' c c' : Nat) (gs hs : List Nd) (w : World) (B : Nat) (hB : B ≤ w.heap.size) (hn : n = gs.length) (hn' : n' = hs.length) (h : GS w B A gs) (h' : GS w B A' hs) (hb1 : GB gs) (hb2 : GB hs) :
    Calls Try.prog 12 #[.agg #[.slice A n c], .agg #[.slice A' n' c']] w fun e w' => e = .returned (.bool (decide (gs = hs))) ∧ Below w.heap.size w w' := by
  have H := Lib.hid h
  have H' := Lib.hid h'
  have HN := Lib.hid hn
  have HN' := Lib.hid hn'
  have HB1 := Lib.hid hb1
  have HB2 := Lib.hid hb2
  clear hn hn' h h' hb1 hb2
  go_enter Try.func12, Try.ntmps12
  go_wp2_with fail
  refine (laws_eqNodeS _ _ _ _ _ _ gs hs _ B (by simp; omega) HN.out HN'.out ((H.out.alloc hB _).alloc (by simp; omega) _) ((H'.out.alloc hB _).alloc (by simp; omega) _) HB1.out HB2.out).mono ?_
  rintro e w1 ⟨rfl, hb⟩
  go_wp2
  all_goals
    go_ret
    exact ⟨ret_b (by simp_all), ((Below.refl _ _).alloc (Nat.le_refl _) _).alloc (by simp) _ |>.trans (hb.mono (by simp; omega))⟩
end Go.Proofs.Ytkmhpiojbocjkaa
