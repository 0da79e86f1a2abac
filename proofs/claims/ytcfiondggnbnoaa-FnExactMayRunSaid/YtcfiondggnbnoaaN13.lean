/- slices.DeleteFunc over a row of the call's own. -/
import Derived.Test.YtcfiondggnbnoaaN11
import Derived.Test.YtcfiondggnbnoaaS15
import Derived.Lib.SliceRun
import Derived.BigFrame

namespace Go.Proofs.Ytcfiondggnbnoaa
set_option linter.unusedSimpArgs false
set_option linter.unusedVariables false
open Go.RowKit

theorem own_clear {base g cap n : Nat} : ∀ (m i : Nat) (R : List Int) (w : World), w.ownsRow base 3 1 (.slice (some ⟨g, 0, none⟩) n cap) n (R.map (Value.int .i64)) → i + m ≤ n →
    ∃ R' : List Int, (w.setCells g i (List.replicate m (.int .i64 0))).ownsRow base 3 1 (.slice (some ⟨g, 0, none⟩) n cap) n (R'.map (Value.int .i64)) ∧ R'.take i = R.take i ∧ ∀ w0 : World, base ≤ w0.heap.size → Below base w0 w → Below base w0 (w.setCells g i (List.replicate m (.int .i64 0))) := by
  intro m
  induction m with
  | zero => intro i R w h _; exact ⟨R, h, rfl, fun _ _ h => h⟩
  | succ m ih =>
    intro i R w h hi
    have h1 := (h.stored i (.int .i64 0)).1
    rw [← List.map_set] at h1
    obtain ⟨R', h2, h3, h4⟩ := ih (i + 1) (R.set i 0) _ h1 (by omega)
    refine ⟨R', h2, ?_, fun w0 hw0 hb => h4 w0 hw0 (hb.setCell (p := ⟨g, i, none⟩) (h.lt g rfl).1 _)⟩
    have : (R'.take (i + 1)).take i = ((R.set i 0).take (i + 1)).take i := by rw [h3]
    have e : (R.set i 0).take i = R.take i := by
      apply List.ext_getElem?
      intro j
      rw [List.getElem?_take, List.getElem?_take]
      split
      · rw [List.getElem?_set, if_neg (by omega)]
      · rfl
    rw [← e]
    simpa [List.take_take, Nat.min_eq_left (Nat.le_succ i)] using this

set_option maxHeartbeats 1600000 in
theorem slices_IndexFunc1 (K : FuncId) (cap : Value) (P : Int → Bool) (A : Option Addr) (n c : Nat) (xs : List Int) (hs : n ≤ 2000000) (w : World) (hcf : ∀ (q : Int) (w : World), (callFunc K #[.int .i64 q, cap]).run Try.prog w = .ok (.enter K #[.int .i64 q, cap]) w)
    (hP : ∀ q ∈ xs, Calls Try.prog K #[.int .i64 q, cap] w fun e w' => e = .returned (.bool (P q)) ∧ w' = w) (hn : n = xs.length) (B : Nat) (hx : IS w B A xs) :
    Calls Try.prog 63 #[.slice A n c, .func (.func K) #[] #[cap]] w fun e w' => ((∃ i : Nat, e = .returned (.int .i64 i) ∧ i < n ∧ (xs.take i).filter P = [] ∧ P (xs.getD i 0) = true) ∨ (e = .returned (.int .i64 (-1)) ∧ xs.filter P = [])) ∧ w' = w := by
  have HP := Lib.hid hP
  have HCF := Lib.hid hcf
  have HX := Lib.hid hx
  have HN := Lib.hid hn
  clear hP hcf hx hn
  go_enter Try.func63, Try.ntmps63
  go_wp2
  go_loopw [8] (fun i wr => ∃ k : Nat, k ≤ n ∧ i = .int .i64 k ∧ Hid ((xs.take k).filter P = []) ∧ wr = w) (fun i _ => n - (intOf i).toNat)
  case atStart => exact ⟨0, Nat.zero_le _, rfl, by simp [Hid], rfl⟩
  case round =>
    obtain ⟨k, hk, rfl, HA, rfl⟩ := hrel
    by_cases hlt : k < n
    · have hkx : k < xs.length := by have := HN.out; omega
      obtain ⟨b, off, rfl, hbB, hc⟩ := HX.out (by omega)
      have c0 := hc k hkx
      have hst := filter_take_step P xs k hkx
      have HNX : Hid (P (xs.getD k 0) = false → (xs.take (k + 1)).filter P = []) := fun h => by
        rw [hst, if_neg (by rw [h]; simp)]; exact HA.out
      have HPK := Lib.hid (HP.out (xs.getD k 0) (by simp [List.getD, hkx]))
      have hcf := HCF.out (xs.getD k 0)
      have HGX : Hid (∀ p, P (xs.getD k 0) = p → P (xs.getD k 0) = p) := fun _ h => h
      clear hst
      obtain ⟨p, hp⟩ : ∃ p, p = P (xs.getD k 0) := ⟨_, rfl⟩
      rw [← hp] at HPK HNX
      have HPE := Lib.hid hp
      clear hp HGX
      generalize hgx : xs.getD k 0 = x at *
      have HGX := Lib.hid hgx
      clear hgx
      clear hc HX
      cases p
      · have HN2 := Lib.hid (HNX.out (by first | rfl | trivial))
        go_wp2_with fail
        refine HPK.out.mono ?_
        rintro e w2 ⟨rfl, rfl⟩
        go_wp2
        go_roundw
        case rel => exact ⟨k + 1, by omega, by go_num, HN2.out, by first | rfl | trivial⟩
        case measure => simp [intOf]; omega
      · go_wp2_with fail
        refine HPK.out.mono ?_
        rintro e w2 ⟨rfl, rfl⟩
        go_wp2
        go_ret
        exact ⟨.inl ⟨k, rfl, hlt, HA.out, by rw [HGX.out]; exact HPE.out.symm⟩, rfl⟩
    · obtain rfl : n = k := by omega
      have HF : Hid (xs.filter P = []) := by
        have h1 := HA.out
        rw [List.take_of_length_le (by have := HN.out; omega)] at h1
        exact h1
      go_wp2
      go_ret
      exact ⟨.inr ⟨rfl, HF.out⟩, rfl⟩

/-- The row while some are taken away: the first i are those that stay of the first j, and from j on it is as it was. -/
structure DelS (P : Int → Bool) (xs R : List Int) (j i : Nat) : Prop where
  len : R.length = xs.length
  out : R.take i = (xs.take j).filter fun x => !P x
  rest : ∀ t, j ≤ t → t < xs.length → R.getD t 0 = xs.getD t 0
  lt : i < j
theorem DelS.drop {P : Int → Bool} {xs R : List Int} {j i : Nat} (h : DelS P xs R j i) (hj : j < xs.length) (hp : P (xs.getD j 0) = true) : DelS P xs R (j + 1) i :=
  ⟨h.len, by rw [h.out, filter_take_step _ xs j hj, hp]; rfl, fun t ht => h.rest t (by omega), by have := h.lt; omega⟩
theorem DelS.keep {P : Int → Bool} {xs R : List Int} {j i : Nat} (h : DelS P xs R j i) (hj : j < xs.length) (hp : P (xs.getD j 0) = false) : DelS P xs (R.set i (xs.getD j 0)) (j + 1) (i + 1) := by
  have hi := h.lt
  have hl := h.len
  refine ⟨by simp [hl], ?_, fun t ht htl => ?_, by omega⟩
  · rw [filter_take_step _ xs j hj, hp]
    simp only [Bool.not_false, if_true]
    rw [← h.out]
    apply List.ext_getElem?
    intro t
    rw [List.getElem?_take, List.getElem?_set, List.getElem?_append, List.length_take, Nat.min_eq_left (by omega), List.getElem?_take]
    by_cases h1 : t < i
    · rw [if_pos (by omega), if_neg (by omega), if_pos h1, if_pos h1]
    · by_cases h2 : t = i
      · subst h2
        rw [if_pos (by omega), if_pos rfl, if_pos (by omega), if_neg h1]; simp
      · rw [if_neg (by omega), if_neg h1]
        symm
        apply List.getElem?_eq_none
        simp; omega
  · have := h.rest t (by omega) htl
    rw [← this]
    simp only [List.getD, List.getElem?_set]
    rw [if_neg (by omega)]

set_option maxRecDepth 100000 in
set_option maxHeartbeats 6400000 in
theorem slices_DeleteFunc (K : FuncId) (cap1 : Value) (P : Int → Bool) (base n cap : Nat) (A : Option Addr) (xs : List Int) (w : World) (hn : n = xs.length) (hs : n ≤ 2000000) (ho : OwnI w base (.slice A n cap) xs) (hbase : base ≤ w.heap.size)
    (hcf : ∀ (q : Int) (w : World), (callFunc K #[.int .i64 q, cap1]).run Try.prog w = .ok (.enter K #[.int .i64 q, cap1]) w)
    (hP : ∀ q ∈ xs, ∀ w' : World, Below base w w' → Calls Try.prog K #[.int .i64 q, cap1] w' fun e w'' => e = .returned (.bool (P q)) ∧ w'' = w') :
    Calls Try.prog 46 #[.slice A n cap, .func (.func K) #[] #[cap1]] w fun e w' => ∃ v, e = .returned v ∧ OwnI w' base v (xs.filter fun x => !P x) ∧ Below base w w' := by
  have HN := Lib.hid hn
  have ho0 : w.ownsRow base 3 1 (.slice A n cap) n (xs.map (Value.int .i64)) := by have h := ho; unfold OwnI at h; rw [← hn] at h; exact h
  have HI := Lib.hid (slices_IndexFunc1 K cap1 P A n cap xs hs w hcf (fun q hq => hP q hq w (Below.refl _ _)) hn w.heap.size (IS.of_own ho0))
  have HO := Lib.hid ho0
  have HCF := Lib.hid hcf
  have HP := Lib.hid hP
  have HB := Lib.hid hbase
  clear ho ho0 hn hcf hP
  go_enter Try.func46, Try.ntmps46
  go_wp2_with fail
  refine HI.out.mono ?_
  rintro e w2 ⟨hres, rfl⟩
  rcases hres with ⟨i0, rfl, hi0, hf0, hp0⟩ | ⟨rfl, hf0⟩
  · have hx0 : i0 < xs.length := by have := HN.out; omega
    obtain ⟨g, rfl⟩ : ∃ g, A = some ⟨g, 0, none⟩ := by
      rcases HO.out.2 with ⟨_, hz⟩ | ⟨g, cap', cur, hv, _⟩
      · omega
      · simp only [Value.slice.injEq] at hv
        exact ⟨g, hv.1⟩
    have hD : DelS P xs xs (i0 + 1) i0 := by
      refine ⟨rfl, ?_, fun _ _ _ => rfl, by omega⟩
      rw [filter_take_step _ xs i0 hx0, hp0]
      simp only [Bool.not_true, Bool.false_eq_true, if_false]
      symm
      rw [List.filter_eq_self]
      intro x hx
      have := List.filter_eq_nil_iff.1 hf0 x hx
      simpa using this
    have HD0 := Lib.hid hD
    have HP0 := Lib.hid hp0
    have HF0 := Lib.hid hf0
    clear hD hp0 hf0 HI
    have hne : ((i0 : Int) == -1) = false := by first | (simp; done) | (simp; omega)
    go_wp2
    go_loopw [5, 6] (fun u v wr => ∃ (i j : Nat) (R : List Int), j ≤ n ∧ i < j ∧ u = .int .i64 i ∧ v = .int .i64 j ∧ Hid (DelS P xs R j i) ∧ Hid (wr.ownsRow base 3 1 (.slice (some ⟨g, 0, none⟩) n cap) n (R.map (Value.int .i64))) ∧ Hid (Below base w2 wr)) (fun _ v _ => n - (intOf v).toNat)
    case atStart => exact ⟨i0, i0 + 1, xs, by omega, by omega, rfl, by go_num, HD0, HO, Below.refl _ _⟩
    case round =>
      obtain ⟨i, j, R, hj, hij, rfl, rfl, HD, HR, HBR⟩ := hrel
      by_cases hlt : j < n
      · have hjx : j < xs.length := by have := HN.out; omega
        have hl := HD.out.len
        have hrest := HD.out.rest j (Nat.le_refl _) hjx
        have HPX := Lib.hid (HP.out (xs.getD j 0) (by simp [List.getD, hjx]) wr HBR.out)
        have hcf := HCF.out (xs.getD j 0)
        have HDD := Lib.hid (HD.out.drop hjx)
        have HDK := Lib.hid (HD.out.keep hjx)
        have u0 := HR.out.cellAt j (by omega)
        rw [List.getElem?_eq_getElem (by rw [List.length_map]; omega), List.getElem_map] at u0
        have e0 : R[j]'(by omega) = xs.getD j 0 := by rw [← hrest]; simp [List.getD, hl, hjx]
        rw [e0] at u0
        have u1 := HR.out.cellAt i (by omega)
        rw [List.getElem?_eq_getElem (by rw [List.length_map]; omega)] at u1
        have f1 := HR.out.frozenAt i
        have hst := (HR.out.stored i (.int .i64 (xs.getD j 0))).1
        rw [← List.map_set] at hst
        have HST := Lib.hid hst
        have hgg := (HR.out.lt g rfl).1
        have HB4 := Lib.hid (HBR.out.setCell (p := ⟨g, i, none⟩) hgg (.int .i64 (xs.getD j 0)))
        generalize (R.map (Value.int .i64))[i]'_ = vv at u1
        clear hst hrest e0 hl
        obtain ⟨p, hp⟩ : ∃ p, p = P (xs.getD j 0) := ⟨_, rfl⟩
        rw [← hp] at HPX HDD HDK
        clear hp
        generalize xs.getD j 0 = x at *
        have hin : (i : Int) < (n : Int) := by omega
        cases p
        · have HD2 := Lib.hid (HDK.out rfl)
          go_wp2_with fail
          refine HPX.out.mono ?_
          rintro e w3 ⟨rfl, rfl⟩
          go_wp2
          go_roundw
          case rel => exact ⟨i + 1, j + 1, _, by omega, by omega, by go_num, by go_num, HD2.out, HST.out, HB4.out⟩
          case measure => simp [intOf]; omega
        · have HD2 := Lib.hid (HDD.out rfl)
          go_wp2_with fail
          refine HPX.out.mono ?_
          rintro e w3 ⟨rfl, rfl⟩
          go_wp2
          go_roundw
          case rel => exact ⟨i, j + 1, _, by omega, by omega, rfl, by go_num, HD2.out, HR.out, HBR.out⟩
          case measure => simp [intOf]; omega
      · obtain rfl : n = j := by omega
        have hnc := own_ncap HR.out
        have hcl : ∀ ty, (Builtin.clear_ #[26] ty #[.slice (some ⟨g, i, none⟩) (n - i) (cap - i)]).run Try.prog wr = .ok (.tuple #[]) (wr.setCells g i (List.replicate (n - i) (.int .i64 0))) :=
          fun ty => Lib.run_clear_slice wr 26 3 ty (.int .i64 0) Try.underlying26 (fun w => by kernel_rfl) rfl rfl g i (n - i) (cap - i) (by omega) (fun k hk => by
            have u0 := HR.out.cellAt (i + k) (by omega)
            rw [u0, List.getElem?_eq_getElem (by rw [List.length_map, HD.out.len]; have := HN.out; omega)]; rfl) (fun k hk => HR.out.frozenAt (i + k))
        obtain ⟨R', hR1, hR2, hR3⟩ := own_clear (n - i) i R wr HR.out (by omega)
        have HR1 := Lib.hid (own_shrink hR1 (show i ≤ n by omega))
        have HB5 := Lib.hid (hR3 w2 hbase HBR.out)
        have HE : Hid ((R'.map (Value.int .i64)).take i = (xs.filter fun x => !P x).map (Value.int .i64)) := by
          show _ = _
          rw [← List.map_take, hR2, HD.out.out, List.take_of_length_le (by have := HN.out; omega)]
        have HL : Hid (i = (xs.filter fun x => !P x).length) := by
          show _ = _
          rw [show (xs.filter fun x => !P x) = R.take i by rw [HD.out.out, List.take_of_length_le (by have := HN.out; omega)], List.length_take, HD.out.len]
          have := HN.out; omega
        clear hR1 hR2 hR3
        have hin : (i : Int) ≤ (n : Int) := by omega
        have hin2 : i ≤ n := by omega
        go_wp2_with (simp only [hcl])
        go_ret
        refine ⟨_, rfl, ?_, HB5.out⟩
        unfold OwnI
        rw [← HE.out, ← HL.out]
        exact HR1.out
  · have HF : Hid (xs.filter (fun x => !P x) = xs) := by
      show _ = _
      rw [List.filter_eq_self]
      intro x hx
      have := List.filter_eq_nil_iff.1 hf0 x hx
      simpa using this
    clear hf0
    go_wp2
    go_ret
    exact ⟨_, rfl, by rw [HF.out]; unfold OwnI; rw [← HN.out]; exact HO.out, Below.refl _ _⟩
end Go.Proofs.Ytcfiondggnbnoaa
