/- The library's Reverse over a row of one's own, IndexFunc with its index, and WhyChanged's closure. -/
import Derived.Test.YtehlamofancdjaaM24
import Derived.Test.YtehlamofancdjaaS1
import Derived.RegionTactic
import Derived.BigRegion
import Derived.BigQuiet
import Derived.Deep.QuietTactic

namespace Go.Proofs.Ytehlamofancdjaa
set_option linter.unusedSimpArgs false
set_option linter.unusedVariables false
open Go.RowKit

/-- The row after some rounds of Reverse: both ends are turned. -/
def revTo (xs : List Int) : Nat → List Int
  | 0 => xs
  | k + 1 => ((revTo xs k).set k ((revTo xs k).getD (xs.length - 1 - k) 0)).set (xs.length - 1 - k) ((revTo xs k).getD k 0)
theorem revTo_len (xs : List Int) (k : Nat) : (revTo xs k).length = xs.length := by
  induction k with
  | zero => rfl
  | succ k ih => simp [revTo, ih]
theorem revTo_at (xs : List Int) (k : Nat) (hk : 2 * k ≤ xs.length) : ∀ j, j < xs.length → (revTo xs k).getD j 0 = if j < k ∨ xs.length - k ≤ j then xs.getD (xs.length - 1 - j) 0 else xs.getD j 0 := by
  induction k with
  | zero => intro j hj; rw [if_neg (by omega)]; rfl
  | succ k ih =>
    have ih := ih (by omega)
    intro j hj
    have hl := revTo_len xs k
    have e : (revTo xs (k + 1)).getD j 0 = if xs.length - 1 - k = j then (revTo xs k).getD k 0 else if k = j then (revTo xs k).getD (xs.length - 1 - k) 0 else (revTo xs k).getD j 0 := by
      simp only [revTo, List.getD, List.getElem?_set, List.length_set, hl]
      by_cases h1 : xs.length - 1 - k = j
      · rw [if_pos h1, if_pos h1, if_pos (by omega)]; rfl
      · rw [if_neg h1, if_neg h1]
        by_cases h2 : k = j
        · rw [if_pos h2, if_pos h2, if_pos (by omega)]; rfl
        · rw [if_neg h2, if_neg h2]
    rw [e]
    by_cases h1 : xs.length - 1 - k = j
    · rw [if_pos h1, ih k (by omega), if_neg (by omega), if_pos (by omega)]
      congr 1; omega
    · rw [if_neg h1]
      by_cases h2 : k = j
      · rw [if_pos h2, ih _ (by omega), if_neg (by omega), if_pos (by omega)]
        congr 1; omega
      · rw [if_neg h2, ih j hj]
        by_cases h3 : j < k ∨ xs.length - k ≤ j
        · rw [if_pos h3, if_pos (by omega)]
        · rw [if_neg h3, if_neg (by omega)]
theorem revTo_end (xs : List Int) (k : Nat) (hk : 2 * k ≤ xs.length) (hk2 : xs.length ≤ 2 * k + 1) : revTo xs k = xs.reverse := by
  apply List.ext_getElem
  · rw [revTo_len, List.length_reverse]
  · intro j h1 h2
    have hj : j < xs.length := by rw [revTo_len] at h1; exact h1
    have := revTo_at xs k hk j hj
    have h3 : xs.length - 1 - j < xs.length := by omega
    rw [List.getElem_reverse]
    simp only [List.getD, List.getElem?_eq_getElem h1, List.getElem?_eq_getElem hj, List.getElem?_eq_getElem h3, Option.getD_some] at this
    rw [this]
    by_cases h4 : j < k ∨ xs.length - k ≤ j
    · rw [if_pos h4]
    · rw [if_neg h4]
      have : xs.length - 1 - j = j := by omega
      simp only [this]

set_option maxRecDepth 100000 in
set_option maxHeartbeats 1600000 in
theorem slices_Reverse (g n cap base : Nat) (xs : List Int) (w : World) (hn : n = xs.length) (hp : 0 < n) (hs : n ≤ 2000000) (h : w.ownsRow base 3 1 (.slice (some ⟨g, 0, none⟩) n cap) n (xs.map (Value.int .i64))) :
    Calls Try.prog 36 #[.slice (some ⟨g, 0, none⟩) n cap] w fun e w' => e = .returned (.tuple #[]) ∧ w'.ownsRow base 3 1 (.slice (some ⟨g, 0, none⟩) n cap) n (xs.reverse.map (Value.int .i64)) ∧ (∀ (B : Nat) (a : World), Below B a w → B ≤ g → Below B a w') := by
  have H := Lib.hid h
  have HN := Lib.hid hn
  have hwn : IntKind.i64.wrap ((n : Int) - 1) = ((n - 1 : Nat) : Int) := by rw [IntKind.wrap_i64]; omega
  clear h hn
  go_enter Try.func36, Try.ntmps36
  go_wp2
  go_loopw [2, 3] (fun i j wr => ∃ k q : Nat, i = .int .i64 k ∧ j = .int .i64 q ∧ q + k + 1 = n ∧ 2 * k ≤ n ∧ Hid (wr.ownsRow base 3 1 (.slice (some ⟨g, 0, none⟩) n cap) n ((revTo xs k).map (Value.int .i64))) ∧ Hid (∀ (B : Nat) (a : World), Below B a w → B ≤ g → Below B a wr)) (fun i _ _ => n - (intOf i).toNat)
  case atStart => exact ⟨0, n - 1, rfl, rfl, by omega, by omega, H.out, fun B a h _ => h⟩
  case round =>
    obtain ⟨k, q, rfl, rfl, hq, hk, HO, HB⟩ := hrel
    have hkn : k < n := by omega
    have hqn : q < n := by omega
    by_cases hlt : k < q
    · have hwk : IntKind.i64.wrap ((k : Int) + 1) = ((k + 1 : Nat) : Int) := by rw [IntKind.wrap_i64]; omega
      have hwq : IntKind.i64.wrap ((q : Int) - 1) = ((q - 1 : Nat) : Int) := by rw [IntKind.wrap_i64]; omega
      have hl := revTo_len xs k
      have c0 := HO.out.cellAt k (by omega)
      have c1 := HO.out.cellAt q (by omega)
      rw [List.getElem?_map, List.getElem?_eq_getElem (by have := HN.out; omega)] at c0 c1
      have f0 := HO.out.frozenAt k
      have f1 := HO.out.frozenAt q
      have hg := (HO.out.lt g rfl).2
      have hx : (revTo xs k).getD k 0 = (revTo xs k)[k]'(by have := HN.out; omega) := by simp [List.getD, List.getElem?_eq_getElem (show k < (revTo xs k).length by have := HN.out; omega)]
      have hy : (revTo xs k).getD (xs.length - 1 - k) 0 = (revTo xs k)[q]'(by have := HN.out; omega) := by
        rw [show xs.length - 1 - k = q by have := HN.out; omega]
        simp [List.getD, List.getElem?_eq_getElem (show q < (revTo xs k).length by have := HN.out; omega)]
      have HST : Hid (revTo xs (k + 1) = ((revTo xs k).set k ((revTo xs k)[q]'(by have := HN.out; omega))).set q ((revTo xs k)[k]'(by have := HN.out; omega))) := by
        show revTo xs (k + 1) = _
        rw [revTo, hx, hy, show xs.length - 1 - k = q by have := HN.out; omega]
      clear hx hy
      simp only [Option.map_some] at c0 c1
      generalize (revTo xs k)[k]'_ = x at *
      generalize (revTo xs k)[q]'_ = y at *
      clear hl
      have HQ := Lib.hid hq
      have hkq : k + 1 ≤ n := by omega
      have hk2 : 2 * (k + 1) ≤ n := by omega
      have hq2 : q - 1 + (k + 1) + 1 = n := by omega
      have HQ2 := Lib.hid hq2
      clear hq hq2
      go_wp2
      go_region
      go_wp2
      go_roundw
      case rel =>
        refine ⟨k + 1, q - 1, by go_num, by go_num, HQ2.out, hk2, ?_, fun B a h hB => (((HB.out B a h hB).setCell (p := ⟨g, k, none⟩) hB _).setCell (p := ⟨g, q, none⟩) hB _).drew⟩
        have ho := ((HO.out.stored k (.int .i64 y)).1.stored q (.int .i64 x)).1.drew
        rw [← List.map_set, ← List.map_set] at ho
        rw [HST.out]; exact ho
      case measure => simp [intOf]; omega
    · go_wp2
      go_end0
      refine ⟨rfl, ?_, HB.out⟩
      have := HO.out
      rw [revTo_end xs k (by have := HN.out; omega) (by have := HN.out; omega)] at this
      exact this

set_option maxHeartbeats 800000 in
theorem slices_IndexFunc2 (K : FuncId) (cap cap2 : Value) (P : Int → Bool) (A : Option Addr) (n c : Nat) (xs : List Int) (hs : n ≤ 2000000) (w : World) (hcf : ∀ (q : Int) (w : World), (callFunc K #[.int .i64 q, cap, cap2]).run Try.prog w = .ok (.enter K #[.int .i64 q, cap, cap2]) w)
    (hP : ∀ (q : Int), Calls Try.prog K #[.int .i64 q, cap, cap2] w fun e w' => e = .returned (.bool (P q)) ∧ w' = w) (hn : n = xs.length) (B : Nat) (hx : IS w B A xs) (hany : 0 < (xs.filter P).length) :
    Calls Try.prog 34 #[.slice A n c, .func (.func K) #[] #[cap, cap2]] w fun e w' => (∃ i : Nat, e = .returned (.int .i64 i) ∧ i < n ∧ xs.getD i 0 = (xs.filter P).getD 0 0) ∧ w' = w := by
  have HP := Lib.hid hP
  have HCF := Lib.hid hcf
  have HX := Lib.hid hx
  have HN := Lib.hid hn
  have HANY := Lib.hid hany
  clear hP hcf hx hn hany
  go_enter Try.func34, Try.ntmps34
  go_wp2
  go_loopw [8] (fun i wr => ∃ k : Nat, k ≤ n ∧ i = .int .i64 k ∧ Hid ((xs.take k).filter P = []) ∧ wr = w) (fun i _ => n - (intOf i).toNat)
  case atStart => exact ⟨0, Nat.zero_le _, rfl, by simp [Hid], rfl⟩
  case round =>
    obtain ⟨k, hk, rfl, HA, rfl⟩ := hrel
    by_cases hlt : k < n
    · have hkx : k < xs.length := by have := HN.out; omega
      obtain ⟨b, off, rfl, hbB, hc⟩ := HX.out (by omega)
      have c0 := hc k hkx
      have hst := filter_take_step P xs k hkx
      have HNX : Hid (P (xs.getD k 0) = false → (xs.take (k + 1)).filter P = []) := fun h => by
        rw [hst, if_neg (by rw [h]; simp)]; exact HA.out
      have HYS : Hid (P (xs.getD k 0) = true → xs.getD k 0 = (xs.filter P).getD 0 0) := fun h => by
        have e : xs.filter P = (xs.take (k + 1)).filter P ++ (xs.drop (k + 1)).filter P := by rw [← List.filter_append, List.take_append_drop]
        rw [e, hst, if_pos h, HA.out]
        simp
      have HPK := Lib.hid (HP.out (xs.getD k 0))
      have hcf := HCF.out (xs.getD k 0)
      clear hst
      generalize hgx : xs.getD k 0 = x at *
      have HGX := Lib.hid hgx
      clear hgx
      generalize P x = p at *
      clear hc HX
      cases p
      · have HN2 := Lib.hid (HNX.out (by first | rfl | trivial))
        go_wp2_with fail
        refine HPK.out.mono ?_
        rintro e w2 ⟨rfl, rfl⟩
        go_wp2
        go_roundw
        case rel => exact ⟨k + 1, by omega, by go_num, HN2.out, by first | rfl | trivial⟩
        case measure => simp [intOf]; omega
      · have HY2 := Lib.hid (HYS.out (by first | rfl | trivial))
        go_wp2_with fail
        refine HPK.out.mono ?_
        rintro e w2 ⟨rfl, rfl⟩
        go_wp2
        go_ret
        exact ⟨⟨k, rfl, hlt, HGX.out.trans HY2.out⟩, rfl⟩
    · exfalso
      have : xs.take k = xs := List.take_of_length_le (by have := HN.out; omega)
      have h1 := HA.out
      rw [this] at h1
      have h2 := HANY.out
      rw [h1] at h2
      simp at h2

set_option maxHeartbeats 800000 in
theorem why1_at (g g2 : Nat) (E : Option Addr) (dn dc : Nat) (D : List (List Int)) (x q : Nat) (y : Int) (w : World) (hdn : dn = D.length) (hq : q < dn) (hs : ∀ j, (D.getD j []).length ≤ 1048576) (hdl : dn ≤ 2000000) (B : Nat) (hB : B ≤ w.heap.size) (h1 : w.cell? ⟨g, 0, none⟩ = some (.slice E dn dc)) (h2 : w.cell? ⟨g2, 0, none⟩ = some (.int .i64 q)) (h : SS w B E D) :
    Calls Try.prog 35 #[.int .i64 y, .pointer (some ⟨g, 0, none⟩), .pointer (some ⟨g2, 0, none⟩)] w fun e w' => e = .returned (.bool (decide (y ∈ D.getD q []))) ∧ w' = w := by
  obtain ⟨b3, off3, hE, hbB3, hcc⟩ := h (by omega)
  subst hE
  obtain ⟨A3, n3, c3, d1, hn3, hls⟩ := hcc q (by omega)
  have hqlt : (q : Int) < (dn : Int) := by omega
  have hb3 : b3 < w.heap.size := by omega
  have HC := Lib.hid (slices_Contains A3 n3 c3 (D.getD q []) y w B hB hn3 hls (by have := hs q; omega))
  generalize decide (y ∈ D.getD q []) = r at *
  clear hdn hn3 hls h hcc hs hbB3
  go_enter Try.func35, Try.ntmps35
  go_wp2_with fail
  refine HC.out.mono ?_
  rintro e w1 ⟨rfl, rfl⟩
  go_wp2
  go_ret
  exact ⟨rfl, rfl⟩
end Go.Proofs.Ytehlamofancdjaa
