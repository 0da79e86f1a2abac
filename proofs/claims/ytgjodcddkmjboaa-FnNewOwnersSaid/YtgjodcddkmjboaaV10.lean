/- Owners: the standing contracts of LookUp. -/
import Derived.Test.YtgjodcddkmjboaaV9

namespace Go.Proofs.Ytgjodcddkmjboaa
set_option linter.unusedSimpArgs false
set_option linter.unusedVariables false
open Go.RowKit

def ctxV (ds : List On) (k : Nat) (x : Int) : Int := (ds.getD x.toNat default).cx.getD k 0
def lookG (ds : List On) (k : Nat) : List Int → Option Int
  | [] => none
  | x :: xs => if 0 ≤ ctxV ds k x then some (ctxV ds k x) else lookG ds k xs
def lookO (ds : List On) (o key : Int) : Option Int := if rng key 0 2 then lookG ds key.toNat (aboveF ds o) else none

theorem okO_ctx {ds : List On} (h : validO ds = true) (i : Nat) (hi : i < ds.length) : (ds.getD i default).cx.length = 3 ∧ ∀ k, k < 3 → -1 ≤ (ds.getD i default).cx.getD k 0 := by
  have h1 := (validO_ok h).2.2 i hi
  unfold okO okD ctxOK at h1
  simp only [Bool.and_eq_true, decide_eq_true_eq] at h1
  obtain ⟨_, ⟨_, h3, h4⟩, _⟩ := h1
  refine ⟨h3, fun k hk => ?_⟩
  unfold allR at h4
  rw [List.all_eq_true] at h4
  generalize (ds.getD i default).cx = l at *
  have hkl : k < l.length := by omega
  have e : l.getD k 0 = l[k] := by simp [List.getD, hkl]
  rw [e]
  have := h4 l[k] (List.getElem_mem hkl)
  rw [rng_iff] at this
  exact this.1

theorem upF_mem {ds : List On} (h : validO ds = true) (f : Nat) (o : Int) (ho : o < ds.length) : ∀ x ∈ upF ds f o, 0 ≤ x ∧ x < ds.length := by
  induction f generalizing o with
  | zero => intro x hx; simp [upF] at hx
  | succ f ih =>
    intro x hx
    by_cases h0 : o < 0
    · rw [upF_neg _ _ _ h0] at hx; cases hx
    · obtain ⟨k, rfl⟩ : ∃ k : Nat, o = k := ⟨o.toNat, by omega⟩
      rw [upF_step] at hx
      rcases List.mem_cons.1 hx with rfl | hx
      · omega
      · have hp := okO_par h k (by omega)
        refine ih _ ?_ x hx
        by_cases hk : k = 0
        · have := hp.1 hk; omega
        · have := hp.2 (by omega); omega
theorem aboveF_mem (ds : List On) (o : Int) : ∀ x ∈ aboveF ds o, ∃ k : Nat, x = k ∧ k < ds.length ∧ validO ds = true := by
  intro x hx
  unfold aboveF at hx
  cases h : hasO ds o
  · rw [h] at hx; simp at hx
  · rw [h] at hx
    simp only [if_true] at hx
    obtain ⟨k, rfl, hk, hv⟩ := hasO_at h
    have := upF_mem hv ds.length k (by omega) x hx
    exact ⟨x.toNat, by omega, by omega, hv⟩

set_option maxRecDepth 100000 in
set_option maxHeartbeats 1600000 in
theorem top_impl_LookUp (ds : List On) (o key : Int) (hO : OB ds) : ∀ (A : Option Addr) (n c : Nat) (w : World), n = ds.length → n ≤ c → OS w w.heap.size A ds →
    Calls Try.prog 8 #[.slice A n c, .int .i64 o, .int .i64 key] w fun e w' => e = .returned (.tuple #[.int .i64 ((lookO ds o key).getD 0), .bool (lookO ds o key).isSome]) ∧ Below w.heap.size w w' := by
  intro A n c w hn hnc h
  have hnb : n ≤ 1048576 := by rw [hn]; exact hO.1
  have HC := Lib.hid (top_impl_AboveOf ds o hO A n c w hn hnc h)
  have HS := Lib.hid h
  have HN := Lib.hid hn
  unfold lookO
  cases hr : rng key 0 2
  · clear hn h hO
    simp only [Bool.false_eq_true, if_false]
    go_enter Try.func8, Try.ntmps8
    go_wp2_with fail
    refine (impl_inRange _ _ _).mono ?_
    rintro e w' ⟨rfl, rfl⟩
    go_wp2
    go_ret2
    exact ⟨rfl, Below.refl _ _⟩
  obtain ⟨hk0, hk1⟩ := (rng_iff _ _ _).1 hr
  obtain ⟨kn, rfl⟩ : ∃ kn : Nat, key = kn := ⟨key.toNat, by omega⟩
  have hkn : kn < 3 := by omega
  simp only [if_true, Int.toNat_natCast]
  have HM := Lib.hid (aboveF_mem ds o)
  have hLl := aboveF_len ds o
  generalize aboveF ds o = L at *
  obtain ⟨T, hT⟩ : ∃ T, T = lookG ds kn L := ⟨_, rfl⟩
  rw [← hT]
  have HT := Lib.hid hT
  obtain ⟨m, hm⟩ : ∃ m : Nat, m = L.length := ⟨_, rfl⟩
  have hm12 : m ≤ 12 := by omega
  have HM2 := Lib.hid hm
  clear hn h hO hT hk0 hk1 hm hLl
  go_enter Try.func8, Try.ntmps8
  go_wp2_with fail
  refine (impl_inRange _ _ _).mono ?_
  rintro e w' ⟨rfl, rfl⟩
  go_wp2_with fail
  refine HC.out.mono ?_
  rintro e w1 ⟨v, rfl, ho, hb⟩
  obtain ⟨A1, c1, rfl, hIS⟩ := ho.form
  rw [← HM2.out]
  have HI := Lib.hid hIS
  have HS1 := Lib.hid (HS.out.step hb)
  have HB1 := Lib.hid hb
  clear ho hIS hb HC
  go_wp2
  go_loopw [18] (fun i wr => ∃ k : Nat, k ≤ m ∧ i = .int .i64 k ∧ Hid (lookG ds kn (L.drop k) = T) ∧ wr = w1) (fun i _ => m - (intOf i).toNat)
  case atStart => exact ⟨0, Nat.zero_le _, rfl, HT.out.symm, rfl⟩
  case round =>
    obtain ⟨k, hk, rfl, HK, rfl⟩ := hrel
    by_cases hlt : k < m
    · have hkL : k < L.length := by have := HM2.out; omega
      obtain ⟨b1, off1, rfl, hb1, hc1⟩ := HI.out (by omega)
      have d0 := hc1 k hkL
      obtain ⟨x, hx, hxn, hv⟩ := HM.out (L.getD k 0) (by simp [List.getD, hkL])
      rw [hx] at d0
      obtain ⟨b, off, rfl, hbB, c0, c1', -, A2, n2, d2, c3, hn2, hp2⟩ := HS1.out.at_ x hxn
      obtain ⟨hx3, hxc⟩ := okO_ctx hv x hxn
      obtain ⟨b2, off2, rfl, hb2, hc2⟩ := hp2 (by omega)
      have d3 := hc2 kn (by omega)
      have hge := hxc kn hkn
      have hn23 : n2 = 3 := by omega
      have hkn2 : kn < n2 := by omega
      have hxn2 : x < n := by have := HN.out; omega
      have hLd : L.drop k = (x : Int) :: L.drop (k + 1) := by
        rw [List.drop_eq_getElem_cons hkL, ← hx]; simp [List.getD, hkL]
      have hcv : ctxV ds kn (x : Int) = (ds.getD x default).cx.getD kn 0 := by simp [ctxV]
      have hkk := HK.out
      rw [hLd, lookG, hcv] at hkk
      generalize (ds.getD x default).cx.getD kn 0 = y at *
      clear hc1 hc2 c0 c1' hv hx3 hxc hp2 HS1 HI hn2 hn23 hcv hLd hx hxn hkL HK
      by_cases hy : y = -1
      · subst hy
        rw [if_neg (by omega)] at hkk
        have HKK := Lib.hid hkk
        clear hkk hge
        go_wp2
        go_roundw
        case rel => exact ⟨k + 1, by omega, by go_num, HKK.out, trivial⟩
        case measure => simp [intOf]; omega
      · have hne : (y != -1) = true := by simp [bne, hy]
        rw [if_pos (by omega)] at hkk
        subst hkk
        clear hy hge
        go_wp2
        go_ret2
        exact ⟨rfl, HB1.out⟩
    · obtain rfl : k = m := by omega
      have hT : T = none := by rw [← HK.out, HM2.out, List.drop_length]; rfl
      subst hT
      go_wp2
      go_ret2
      exact ⟨rfl, HB1.out⟩

end Go.Proofs.Ytgjodcddkmjboaa
