/- The standing contract of impl.MayRun. (Made by n14.py.) -/
import Derived.Test.YtcfiondggnbnoaaN13
import Derived.Test.YtcfiondggnbnoaaN12
import Derived.Test.YtcfiondggnbnoaaN11
import Derived.Test.YtcfiondggnbnoaaN10
import Derived.Test.YtcfiondggnbnoaaN9
import Derived.Test.YtcfiondggnbnoaaN6
import Derived.Test.YtcfiondggnbnoaaS16

namespace Go.Proofs.Ytcfiondggnbnoaa
set_option linter.unusedSimpArgs false
set_option linter.unusedVariables false
open Go.RowKit

theorem nodup_le : ∀ (m : Nat) (L : List Int), L.Nodup → (∀ x ∈ L, 0 ≤ x ∧ x < (m : Int)) → L.length ≤ m := by
  intro m
  induction m with
  | zero =>
    intro L _ h
    cases L with
    | nil => simp
    | cons x r => have := h x (by simp); omega
  | succ m ih =>
    intro L hn h
    have h1 := ih (L.erase (m : Int)) (hn.erase _) (fun x hx => by
      have h2 := (hn.mem_erase_iff).1 hx
      have h3 := h x h2.2
      have h4 := h2.1
      omega)
    rw [List.length_erase] at h1
    split at h1 <;> omega
theorem wrB_parts (gs : List Nd) (xs : List Int) (h : wrB gs xs = true) : xs.Nodup ∧ stOK gs xs := by
  unfold wrB at h
  simp only [Bool.and_eq_true, decide_eq_true_eq] at h
  refine ⟨h.2, fun x hx => ?_⟩
  obtain ⟨k, hk, rfl⟩ := List.getElem_of_mem hx
  have h1 := h.1 k hk
  have e : xs.getD k 0 = xs[k] := by simp [List.getD, hk]
  rw [e] at h1
  unfold isC at h1
  simp only [Bool.and_eq_true] at h1
  obtain ⟨t, ht, htl⟩ := hasN_nat gs _ h1.1
  rw [ht]; omega
theorem wrB_len (gs : List Nd) (xs : List Int) (h : wrB gs xs = true) : xs.length ≤ gs.length := by
  obtain ⟨h1, h2⟩ := wrB_parts gs xs h
  exact nodup_le gs.length xs h1 h2
theorem mrB_eq (gs : List Nd) (xs : List Int) : mrB gs xs = (validG gs && wrB gs xs) := by
  unfold mrB
  cases hv : validG gs
  · rfl
  · cases hw : wrB gs xs
    · simp
    · have := wrB_len gs xs hw
      have := (validG_parts gs hv).1
      rw [decide_eq_true (by omega)]; rfl

set_option maxHeartbeats 1600000 in
theorem mayRun1_at (A : Option Addr) (n c b : Nat) (gs : List Nd) (q B : Nat) (w : World) (hb : w.cell? ⟨b, 0, none⟩ = some (.slice A n c)) (hn : n = gs.length) (h : GS w B A gs) (hq : q < n) :
    Calls Try.prog 47 #[.int .i64 q, .pointer (some ⟨b, 0, none⟩)] w fun e w' => e = .returned (.bool ((gs.getD q default).k == 0)) ∧ w' = w := by
  obtain ⟨b1, off, rfl, hbB, d0, A6, n6, c6, d1, hn6, hps⟩ := h.at_ q (by omega)
  have hqn : (q : Int) < (n : Int) := by omega
  clear d1 hn6 hps h hn
  generalize (gs.getD q default).k = kd at *
  go_enter Try.func47, Try.ntmps47
  go_wp2
  go_ret
  exact ⟨rfl, rfl⟩

set_option maxRecDepth 100000 in
set_option maxHeartbeats 6400000 in
theorem top_impl_MayRun (gs : List Nd) (xs : List Int) (hG : GB gs) (hL : xs.length ≤ 1048576) : ∀ (A1 : Option Addr) (n1 c1 : Nat) (E1 : Option Addr) (m1 d1 : Nat) (w1 : World), n1 = gs.length → n1 ≤ c1 → GS w1 w1.heap.size A1 gs → m1 = xs.length → m1 ≤ d1 → IS w1 w1.heap.size E1 xs →
    Calls Try.prog 25 #[.agg #[.slice A1 n1 c1], .slice E1 m1 d1] w1 fun e w' => RetI w1 (mrF gs xs) e w' := by
  intro A1 n1 c1 E1 m1 d1 w1 hn hnc h hm1 hmd h1
  have HN1 := Lib.hid hn
  have HM1 := Lib.hid hm1
  have HG := Lib.hid hG
  have P_1 := Lib.hid (h)
  have I_1 := Lib.hid (h1)
  have B_1 := Lib.hid (Below.refl w1.heap.size w1)
  have hn1b : n1 ≤ 1048576 := by have := hG.1; omega
  have hm1b : m1 ≤ 1048576 := by omega
  have HVG := Lib.hid fun (w' : World) (h : GS w' w'.heap.size A1 gs) => impl_ValidGraph A1 n1 c1 gs w' _ (Nat.le_refl _) HN1.out h HG.out hnc
  have HAC := Lib.hid fun (hv : validG gs = true) (w' : World) (h : GS w' w'.heap.size A1 gs) (h1 : IS w' w'.heap.size E1 xs) => impl_areCells A1 E1 n1 c1 m1 d1 gs xs w' HN1.out (by have := (validG_parts gs hv).1; have := HN1.out; omega) HM1.out hm1b h h1
  have HFU := Lib.hid fun (hv : validG gs = true) (hw : wrB gs xs = true) (w' : World) (h : GS w' w'.heap.size A1 gs) (h1 : IS w' w'.heap.size E1 xs) => from_users A1 E1 n1 c1 m1 d1 gs xs w' w'.heap.size (Nat.le_refl _) HN1.out HM1.out h h1 hv HG.out (by have := (validG_parts gs hv).1; have := wrB_len gs xs hw; have := HM1.out; omega) (wrB_parts gs xs hw).2
  have HMR : Hid (mrF gs xs = if validG gs && wrB gs xs then (reachTo gs xs gs.length).filter (ncB gs) else []) := by show _ = _; unfold mrF; rw [mrB_eq]
  have HLB := Lib.hid (reach_ok gs xs gs.length)
  have hll := reachTo_len gs xs gs.length
  have HVP := Lib.hid fun (hv : validG gs = true) => (validG_parts gs hv).1
  have HRL := Lib.hid hll
  clear hn hm1 h h1 hG hL hll
  generalize validG gs = v at *
  generalize wrB gs xs = v2 at *
  go_enter Try.func25, Try.ntmps25
  go_wp2_with fail
  obtain ⟨w2, hw2⟩ : ∃ W, W = w1.alloc (.cells #[.slice A1 n1 c1] 30) := ⟨_, rfl⟩
  have hb : Below w1.heap.size w1 w2 := by rw [hw2]; exact (Below.refl _ _).alloc (Nat.le_refl _) _
  have P_2 := Lib.hid (P_1.out.step hb)
  clear P_1
  have I_2 := Lib.hid (I_1.out.step hb)
  clear I_1
  have B_2 := Lib.hid (B_1.out.trans (hb.mono B_1.out.size))
  clear B_1
  have F_2 : Hid (As w1.heap.size (w1.heap.size + 1) (fun w' => w'.cell? ⟨w1.heap.size, 0, none⟩ = some (.slice A1 n1 c1)) w2) := by rw [hw2]; exact box_new _ _ _
  clear hb
  rw [← hw2]
  clear hw2
  refine (HVG.out w2 P_2.out).mono ?_
  rintro e w3 ⟨rfl, hb⟩
  have P_3 := Lib.hid (P_2.out.step hb)
  clear P_2
  have I_3 := Lib.hid (I_2.out.step hb)
  clear I_2
  have B_3 := Lib.hid (B_2.out.trans (hb.mono B_2.out.size))
  clear B_2
  have F_3 := Lib.hid (F_2.out.step hb)
  clear F_2
  clear hb
  cases v
  · have HMR2 : Hid (mrF gs xs = []) := HMR.out
    go_wp2
    go_ret
    rw [HMR2.out]
    exact RetI_nil B_3.out
  · have hv10 := HVP.out (by first | rfl | trivial)
    have q0 := F_3.out.it
    go_wp2_with fail
    refine (HAC.out (by first | rfl | trivial) w3 P_3.out I_3.out).mono ?_
    rintro e w4 ⟨rfl, hb⟩
    have P_4 := Lib.hid (P_3.out.step hb)
    clear P_3
    have I_4 := Lib.hid (I_3.out.step hb)
    clear I_3
    have B_4 := Lib.hid (B_3.out.trans (hb.mono B_3.out.size))
    clear B_3
    have F_4 := Lib.hid (F_3.out.step hb)
    clear F_3
    clear hb q0
    cases v2
    · have HMR2 : Hid (mrF gs xs = []) := HMR.out
      go_wp2
      go_ret
      rw [HMR2.out]
      exact RetI_nil B_4.out
    · have HMR2 : Hid (mrF gs xs = (reachTo gs xs gs.length).filter (ncB gs)) := HMR.out
      have HF2 := Lib.hid (HFU.out (by first | rfl | trivial) (by first | rfl | trivial))
      generalize reachTo gs xs gs.length = L at *
      have q0 := F_4.out.it
      go_wp2_with fail
      have FW := F_4
      have PW := P_4
      have BW := B_4
      refine (HF2.out w4 P_4.out I_4.out).mono ?_
      rintro e w5 ⟨v7, rfl, ho, hb⟩
      obtain ⟨AL, cL, rfl, _⟩ := OwnI.form ho
      obtain ⟨ll, hll2⟩ : ∃ l, l = L.length := ⟨_, rfl⟩
      rw [← hll2] at ho
      have HLL := Lib.hid hll2
      rw [← hll2]
      clear hll2 q0
      have HCL : Hid (∀ q ∈ L, ∀ w' : World, Below w4.heap.size w5 w' → Calls Try.prog 47 #[.int .i64 q, .pointer (some ⟨w1.heap.size, 0, none⟩)] w' fun e w'' => e = .returned (.bool ((gs.getD q.toNat default).k == 0)) ∧ w'' = w') := by
        intro q hq w' hb'
        obtain ⟨t, ht, rfl⟩ := HLB.out q hq
        rw [Int.toNat_natCast]
        have hb2 : Below w4.heap.size w4 w' := hb.trans hb'
        exact mayRun1_at A1 n1 c1 w1.heap.size gs t w'.heap.size w' (FW.out.step hb2).it HN1.out (PW.out.step hb2) (by have := HN1.out; omega)
      have HDF := Lib.hid (slices_DeleteFunc 47 (.pointer (some ⟨w1.heap.size, 0, none⟩)) (fun x => (gs.getD x.toNat default).k == 0) w4.heap.size ll cL AL L w5 HLL.out (by have := HLL.out; have := HRL.out; have := HN1.out; omega) ho hb.size (fun q w => by go_simp) HCL.out)
      have hb9 := Lib.hid hb
      clear ho HCL hb
      go_wp2_with fail
      refine HDF.out.mono ?_
      rintro e w9 ⟨v, rfl, ho, hb⟩
      go_wp2
      go_ret
      rw [HMR2.out]
      exact ⟨_, rfl, own_mono ho BW.out.size, BW.out.trans ((hb9.out.trans hb).mono BW.out.size)⟩
end Go.Proofs.Ytcfiondggnbnoaa
