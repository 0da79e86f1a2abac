/- Acts of a session: what is valid; the small functions of the program. -/
import Derived.Test.YtkmhpiojbocjkaaT4
import Derived.Test.YtkmhpiojbocjkaaC1
import Derived.Deep.RegionWith
namespace Go.Proofs.Ytkmhpiojbocjkaa
set_option linter.unusedSimpArgs false
set_option linter.unusedVariables false
open Go.RowKit

/-- Whether there is such a node of a kind. -/
def isK (gs : List Nd) (x k : Int) : Bool := hasN gs x && ((gs.getD x.toNat default).k == k)
theorem isC_isK (gs : List Nd) (x : Int) : isC gs x = isK gs x 0 := rfl

def actOK (gs : List Nd) (a : Ac) : Bool :=
  if a.k = 0 then isK gs a.a 0 && rng a.b 0 999
  else if a.k = 1 then isK gs a.a 2 && (a.b == 0)
  else if a.k = 2 ∨ a.k = 3 then (a.a == 0) && (a.b == 0) else false
def validA (gs : List Nd) (l : List Ac) : Bool := validG gs && decide (l.length ≤ 30) && l.all (actOK gs)

theorem all_no {α : Type} [Inhabited α] (l : List α) (p : α → Bool) (k : Nat) (h : k < l.length) (hp : p (l.getD k default) = false) : l.all p = false := by
  rw [Bool.eq_false_iff]
  intro ha
  rw [List.all_eq_true] at ha
  have := ha (l.getD k default) (by simp [List.getD, h])
  rw [hp] at this
  cases this
theorem all_yes {α : Type} [Inhabited α] (l : List α) (p : α → Bool) (n : Nat) (h : n = l.length) (hp : ∀ j, j < n → p (l.getD j default) = true) : l.all p = true := by
  rw [List.all_eq_true]
  intro x hx
  obtain ⟨i, hi, rfl⟩ := List.mem_iff_getElem.1 hx
  have := hp i (by omega)
  simpa [List.getD, hi] using this
theorem validA_short (gs : List Nd) (l : List Ac) (h : validA gs l = true) : l.length ≤ 30 := by
  unfold validA at h
  simp only [Bool.and_eq_true, decide_eq_true_eq] at h
  exact h.1.2
theorem validA_graph (gs : List Nd) (l : List Ac) (h : validA gs l = true) : validG gs = true := by
  unfold validA at h
  simp only [Bool.and_eq_true, decide_eq_true_eq] at h
  exact h.1.1

set_option maxHeartbeats 800000 in
theorem impl_isOfKind (A : Option Addr) (n c : Nat) (gs : List Nd) (x k : Int) (w : World) (B : Nat) (hB : B ≤ w.heap.size) (hn : n = gs.length) (h : GS w B A gs) (hs : n ≤ 2000000) :
    Calls Try.prog 39 #[.agg #[.slice A n c], .int .i64 x, .int .i64 k] w fun e w' => e = .returned (.bool (isK gs x k)) ∧ Below w.heap.size w w' := by
  have hr : hasN gs x = rng x 0 ((n : Int) - 1) := by rw [hn]; rfl
  have hi : isK gs x k = (hasN gs x && ((gs.getD x.toNat default).k == k)) := rfl
  cases hh : hasN gs x
  · have hf : isK gs x k = false := by rw [hi, hh]; rfl
    rw [hf]
    have hr' : rng x 0 ((n : Int) - 1) = false := by rw [← hr, hh]
    clear h hn hr hi hf hh
    go_enter Try.func39, Try.ntmps39
    go_wp2_with (go_at_call 40; refine (impl_inRange _ _ _).mono ?_; rintro e w' ⟨rfl, rfl⟩)
    go_ret
    exact ⟨rfl, (Below.refl _ _).alloc (Nat.le_refl _) _⟩
  · obtain ⟨t, rfl, ht⟩ := hasN_nat gs x hh
    have hr' : rng (t : Int) 0 ((n : Int) - 1) = true := by rw [← hr, hh]
    have hf : isK gs t k = ((gs.getD t default).k == k) := by rw [hi, hh]; simp
    rw [hf]
    obtain ⟨b, off, rfl, hbB, c0, _⟩ := h.at_ t ht
    have htn : t < n := by omega
    have hbw : b < w.heap.size := by omega
    clear h hn hr hi hf hh ht
    generalize gs.getD t default = d at *
    cases hd : (d.k == k)
    all_goals
      go_enter Try.func39, Try.ntmps39
      go_wp2_with (go_at_call 40; refine (impl_inRange _ _ _).mono ?_; rintro e w' ⟨rfl, rfl⟩)
      go_ret
      exact ⟨rfl, (Below.refl _ _).alloc (Nat.le_refl _) _⟩

set_option maxRecDepth 100000 in
set_option maxHeartbeats 1600000 in
theorem impl_fitsGraph (A : Option Addr) (n c : Nat) (gs : List Nd) (p : Ac) (w : World) (B : Nat) (hB : B ≤ w.heap.size) (hn : n = gs.length) (h : GS w B A gs) (hs : n ≤ 2000000) :
    Calls Try.prog 26 #[.agg #[.slice A n c], .agg #[.int .i64 p.k, .int .i64 p.a, .int .i64 p.b]] w fun e w' => e = .returned (.bool (actOK gs p)) ∧ Below w.heap.size w w' := by
  obtain ⟨k, a, b⟩ := p
  have H := Lib.hid h
  have HK := Lib.hid fun (y : Int) (w' : World) (hB : B ≤ w'.heap.size) (h : GS w' B A gs) => impl_isOfKind A n c gs a y w' B hB hn h hs
  clear h hn
  by_cases h0 : k = 0
  · subst h0
    have hf : actOK gs ⟨0, a, b⟩ = (isK gs a 0 && rng b 0 999) := rfl
    have HI := Lib.hid (HK.out 0)
    rw [hf]
    clear HK hf
    generalize isK gs a 0 = r at *
    cases hq : rng b 0 999 <;> cases r
    all_goals
      go_enter Try.func26, Try.ntmps26
      go_wp2_with fail
      refine (HI.out _ (by simp; omega) ((H.out.alloc hB _).alloc (by simp; omega) _)).mono ?_
      rintro e w1 ⟨rfl, hb⟩
      have q1 : w1.cell? ⟨w.heap.size + 1, 2, none⟩ = some (.int .i64 b) := (hb.cell (p := ⟨w.heap.size + 1, 2, none⟩) (by simp)).trans (by go_simp)
      go_wp2_with (go_at_call 40; refine (impl_inRange _ _ _).mono ?_; rintro e w' ⟨rfl, rfl⟩)
      all_goals
        go_ret
        exact ⟨ret_b (by simp_all), (((Below.refl _ _).alloc (Nat.le_refl _) _).alloc (by simp) _).trans (hb.mono (by simp; omega))⟩
  by_cases h1 : k = 1
  · subst h1
    have hf : actOK gs ⟨1, a, b⟩ = (isK gs a 2 && (b == 0)) := rfl
    have HI := Lib.hid (HK.out 2)
    rw [hf]
    clear HK hf
    generalize isK gs a 2 = r at *
    cases hq : (b == 0) <;> cases r
    all_goals
      go_enter Try.func26, Try.ntmps26
      go_wp2_with fail
      refine (HI.out _ (by simp; omega) ((H.out.alloc hB _).alloc (by simp; omega) _)).mono ?_
      rintro e w1 ⟨rfl, hb⟩
      have q1 : w1.cell? ⟨w.heap.size + 1, 2, none⟩ = some (.int .i64 b) := (hb.cell (p := ⟨w.heap.size + 1, 2, none⟩) (by simp)).trans (by go_simp)
      go_wp2
      all_goals
        go_ret
        exact ⟨ret_b (by simp_all), (((Below.refl _ _).alloc (Nat.le_refl _) _).alloc (by simp) _).trans (hb.mono (by simp; omega))⟩
  have e0 : (k == 0) = false := by simp [h0]
  have e1 : (k == 1) = false := by simp [h1]
  have hf : actOK gs ⟨k, a, b⟩ = if k = 2 ∨ k = 3 then (a == 0) && (b == 0) else false := by unfold actOK; simp [h0, h1]
  rw [hf]
  clear hf HK H h0 h1
  cases e2 : (k == 2) <;> cases e3 : (k == 3)
  · have : ¬ (k = 2 ∨ k = 3) := by simp at e2 e3; omega
    rw [if_neg this]
    clear this
    go_enter Try.func26, Try.ntmps26
    go_wp2
    go_ret
    exact ⟨rfl, ((Below.refl _ _).alloc (Nat.le_refl _) _).alloc (by simp) _⟩
  all_goals
    have : k = 2 ∨ k = 3 := by simp at e2 e3; omega
    rw [if_pos this]
    clear this
    cases ha : (a == 0) <;> cases hb : (b == 0)
    all_goals
      go_enter Try.func26, Try.ntmps26
      go_wp2
      all_goals
        go_ret
        exact ⟨rfl, ((Below.refl _ _).alloc (Nat.le_refl _) _).alloc (by simp) _⟩

theorem CS.at_ {w : World} {B : Nat} {A : Option Addr} {ps : List Ac} (h : CS w B A ps) (k : Nat) (hk : k < ps.length) : ∃ b off, A = some ⟨b, off, none⟩ ∧ b < B ∧ w.cell? ⟨b, off + k * 3, none⟩ = some (.int .i64 (ps.getD k default).k) ∧ w.cell? ⟨b, off + k * 3 + 1, none⟩ = some (.int .i64 (ps.getD k default).a) ∧ w.cell? ⟨b, off + k * 3 + 2, none⟩ = some (.int .i64 (ps.getD k default).b) := by
  obtain ⟨b, off, rfl, hb, hc⟩ := h (by omega)
  exact ⟨b, off, rfl, hb, hc k hk⟩

set_option maxRecDepth 100000 in
set_option maxHeartbeats 1600000 in
theorem impl_ValidActs (gs : List Nd) (ac : List Ac) (hG : GB gs) (hL : ac.length ≤ 1048576) (A : Option Addr) (n c : Nat) (A' : Option Addr) (m c' : Nat) (w : World) (B : Nat) (hB : B ≤ w.heap.size) (hn : n = gs.length) (hnc : n ≤ c) (h : GS w B A gs) (hm : m = ac.length) (h' : CS w B A' ac) :
    Calls Try.prog 11 #[.agg #[.slice A n c], .slice A' m c'] w fun e w' => e = .returned (.bool (validA gs ac)) ∧ Below w.heap.size w w' := by
  have hm1 : m ≤ 2000000 := by omega
  have hn1 : n ≤ 2000000 := by have := hG.1; omega
  have H := Lib.hid h
  have HX := Lib.hid h'
  have HM := Lib.hid hm
  have HC := Lib.hid fun (w' : World) (hB : B ≤ w'.heap.size) (h : GS w' B A gs) => impl_ValidGraph A n c gs w' B hB hn h hG hnc
  have HF := Lib.hid fun (p : Ac) (w' : World) (hB : B ≤ w'.heap.size) (h : GS w' B A gs) => impl_fitsGraph A n c gs p w' B hB hn h hn1
  have hv : validA gs ac = (validG gs && decide (m ≤ 30) && ac.all (actOK gs)) := by rw [hm]; rfl
  have HNO := Lib.hid fun (k : Nat) (hk : k < ac.length) (hp : actOK gs (ac.getD k default) = false) => all_no ac (actOK gs) k hk hp
  have HYE := Lib.hid fun (hp : ∀ j, j < m → actOK gs (ac.getD j default) = true) => all_yes ac (actOK gs) m hm hp
  rw [hv]
  generalize ac.all (actOK gs) = R at *
  clear h h' hn hm hG hv
  cases hg : validG gs
  · rw [hg] at HC
    go_enter Try.func11, Try.ntmps11
    go_wp2_with fail
    refine (HC.out _ (by simp; omega) (H.out.alloc hB _)).mono ?_
    rintro e w1 ⟨rfl, hb⟩
    go_wp2
    go_ret
    exact ⟨rfl, ((Below.refl _ _).alloc (Nat.le_refl _) _).trans (hb.mono (by simp))⟩
  rw [hg] at HC
  clear hg
  by_cases h30 : m ≤ 30
  case neg =>
    rw [show decide (m ≤ 30) = false by simpa using h30]
    have h30' : (30 : Int) < (m : Int) := by omega
    go_enter Try.func11, Try.ntmps11
    go_wp2_with fail
    refine (HC.out _ (by simp; omega) (H.out.alloc hB _)).mono ?_
    rintro e w1 ⟨rfl, hb⟩
    go_wp2
    go_ret
    exact ⟨rfl, ((Below.refl _ _).alloc (Nat.le_refl _) _).trans (hb.mono (by simp))⟩
  rw [show decide (m ≤ 30) = true by simpa using h30]
  simp only [Bool.true_and]
  go_enter Try.func11, Try.ntmps11
  go_wp2_with fail
  refine (HC.out _ (by simp; omega) (H.out.alloc hB _)).mono ?_
  rintro e w1 ⟨rfl, hb⟩
  have q1 : w1.cell? ⟨w.heap.size, 0, none⟩ = some (.slice A n c) := (hb.cell (p := ⟨w.heap.size, 0, none⟩) (by simp)).trans (by go_simp)
  have HG1 := Lib.hid ((H.out.alloc hB (.cells #[.slice A n c] 31)).below hb (by simp; omega))
  have HX1 := Lib.hid ((HX.out.alloc hB (.cells #[.slice A n c] 31)).below hb (by simp; omega))
  have hB1 := Lib.hid (((Below.refl w.heap.size w).alloc (Nat.le_refl _) (.cells #[.slice A n c] 31)).trans (hb.mono (by simp)))
  have hl1 : w.heap.size < w1.heap.size := by have := hb.size; simp at this; omega
  clear hb
  go_wp2
  go_loopw [17] (fun i wr => ∃ k : Nat, k ≤ m ∧ i = .int .i64 k ∧ Hid (∀ j, j < k → actOK gs (ac.getD j default) = true) ∧ Hid (Below w1.heap.size w1 wr) ∧ w1.heap.size ≤ wr.heap.size) (fun i _ => m - (intOf i).toNat)
  case atStart => exact ⟨0, Nat.zero_le _, rfl, fun j hj => absurd hj (Nat.not_lt_zero _), Below.refl _ _, Nat.le_refl _⟩
  case round =>
    obtain ⟨k, hk, rfl, HT, HB, hwr⟩ := hrel
    by_cases hlt : k < m
    · obtain ⟨b, off, rfl, hbB, c0, c1, c2⟩ := HX1.out.at_ k (by have := HM.out; omega)
      have b0 := (HB.out.cell (p := ⟨b, off + k * 3, none⟩) (show b < w1.heap.size by omega)).trans c0
      have b1 := (HB.out.cell (p := ⟨b, off + k * 3 + 1, none⟩) (show b < w1.heap.size by omega)).trans c1
      have b2 := (HB.out.cell (p := ⟨b, off + k * 3 + 2, none⟩) (show b < w1.heap.size by omega)).trans c2
      have q2 := (HB.out.cell (p := ⟨w.heap.size, 0, none⟩) hl1).trans q1
      have hbr : b < wr.heap.size := by omega
      have hwl : w.heap.size < wr.heap.size := by omega
      have hno := HNO.out k (by have := HM.out; omega)
      clear c0 c1 c2
      generalize hp : ac.getD k default = p at *
      have HP := Lib.hid hp
      have HNK := Lib.hid hno
      clear hp hno
      have HFP := Lib.hid (HF.out p)
      have HG2 := Lib.hid ((HG1.out.below HB.out (by omega)).alloc (by omega) (.cells #[.int .i64 p.k, .int .i64 p.a, .int .i64 p.b] 46))
      obtain ⟨pk, pa, pb⟩ := p
      generalize hok : actOK gs ⟨pk, pa, pb⟩ = r at *
      have HOK := Lib.hid hok
      clear hok
      go_wp2_with fail
      refine (HFP.out _ (by simp; omega) HG2.out).mono ?_
      rintro e w3 ⟨rfl, hb3⟩
      have hB3 : Below w1.heap.size w1 w3 := (HB.out.alloc (by omega) (.cells #[.int .i64 pk, .int .i64 pa, .int .i64 pb] 46)).trans (hb3.mono (by simp; omega))
      cases r
      · have hR := HNK.out rfl
        go_wp2
        go_ret
        exact ⟨ret_b hR.symm, hB1.out.trans (hB3.mono (by omega))⟩
      · go_wp2
        go_roundw
        case rel => exact ⟨k + 1, by omega, by go_num, fun j hj => by
          rcases Nat.lt_or_ge j k with h1 | h1
          · exact HT.out j h1
          · obtain rfl : j = k := by omega
            rw [HP.out]; exact HOK.out, hB3, hB3.size⟩
        case measure => simp [intOf]; omega
    · obtain rfl : k = m := by omega
      have hR := HYE.out HT.out
      go_wp2
      go_ret
      exact ⟨ret_b hR.symm, hB1.out.trans (HB.out.mono (by omega))⟩
end Go.Proofs.Ytkmhpiojbocjkaa
