/- spec.stays, spec.shared. -/
import Derived.Test.YtjlfabfejnpaaaaS6
import Derived.Test.YtjlfabfejnpaaaaK3
namespace Go.Proofs.Ytjlfabfejnpaaaa
set_option linter.unusedSimpArgs false
set_option linter.unusedVariables false
open Go.RowKit

/-- The places that the keys of one list have in another one. -/
def plF (xs K : List Int) : Nat → Int := fun j => plc xs (K.getD j 0)
def lenF (xs K : List Int) : Nat → Int := lrA (plF xs K) K.length
/-- The keys that stay. -/
def stK (xs ys : List Int) : List Int :=
  (keep (fun j => (inK ys xs).getD j 0) (lenF xs (inK ys xs)) (mst (lenF xs (inK ys xs)) (inK ys xs).length) (inK ys xs).length).1

theorem plc_in (l : List Int) (x : Int) (h : x ∈ l) : 0 ≤ plc l x := by
  have := plc_ge l x
  rw [decide_eq_true h] at this
  simpa using this

theorem lrA_congr (P Q : Nat → Int) (n : Nat) (h : ∀ j, j < n → P j = Q j) : ∀ j, lrA P n j = lrA Q n j := by
  have key : ∀ r, r ≤ n → ∀ j, lrT P n r j = lrT Q n r j := by
    intro r
    induction r with
    | zero => intro _ j; rfl
    | succ r ih =>
      intro hr j
      have e : lrT P n r = lrT Q n r := funext (ih (by omega))
      show upd (lrT P n r) (n - 1 - r) (bst P (lrT P n r) (n - 1 - r) r + 1) j = upd (lrT Q n r) (n - 1 - r) (bst Q (lrT Q n r) (n - 1 - r) r + 1) j
      rw [e]
      have eb : ∀ d, d ≤ r → bst P (lrT Q n r) (n - 1 - r) d = bst Q (lrT Q n r) (n - 1 - r) d := by
        intro d
        induction d with
        | zero => intro _; rfl
        | succ d ihd =>
          intro hd
          show (if P (n - 1 - r) < P (n - 1 - r + 1 + d) then _ else _) = (if Q (n - 1 - r) < Q (n - 1 - r + 1 + d) then _ else _)
          rw [ihd (by omega), h _ (by omega), h _ (by omega)]
      rw [eb r (Nat.le_refl _)]
  exact key n (Nat.le_refl _)

theorem inK_mem (xs ys : List Int) (j : Nat) (h : j < (inK ys xs).length) : (inK ys xs).getD j 0 ∈ xs := by
  have h1 : (inK ys xs).getD j 0 ∈ inK ys xs := by simp [List.getD, h]
  have h2 := (List.mem_filter.1 h1).2
  exact of_decide_eq_true h2
theorem plF_nonneg (xs ys : List Int) (j : Nat) (h : j < (inK ys xs).length) : 0 ≤ plF xs (inK ys xs) j := plc_in _ _ (inK_mem xs ys j h)

set_option maxHeartbeats 400000 in
theorem spec_shared (A A' : Option Addr) (n c m c' : Nat) (xs ys : List Int) (w : World) (B : Nat) (hB : B ≤ w.heap.size) (hn : n = xs.length) (hm : m = ys.length) (h : IS w B A xs) (h' : IS w B A' ys) (hs : n ≤ 2000000) (hs' : m ≤ 2000000) :
    Calls Try.prog 49 #[.slice A n c, .slice A' m c'] w fun e w' => RetI w (inK xs ys) e w' := by
  have HC := Lib.hid (spec_common A A' n c m c' xs ys w B hB hn hm h h' hs hs')
  clear hn hm h h'
  go_enter Try.func49, Try.ntmps49
  go_wp2_with fail
  refine HC.out.mono ?_
  rintro e w1 ⟨v, rfl, ho, hb⟩
  go_wp2
  go_ret
  exact ⟨v, by simp, ho, hb⟩

theorem OwnI.form' {w : World} {base : Nat} {v : Value} {xs : List Int} (h : OwnI w base v xs) (n : Nat) (hn : n = xs.length) : ∃ A c, v = .slice A n c ∧ IS w w.heap.size A xs ∧ n ≤ c ∧ ∀ k, v.ownBlock = some k → base ≤ k ∧ k < w.heap.size := by
  subst hn
  obtain ⟨A, c, e, hi⟩ := h.form
  refine ⟨A, c, e, hi, ?_, World.ownsRow.lt h⟩
  rcases h.2 with ⟨hv, h0⟩ | ⟨g, cap, cur, hv, _, _, hc, _⟩
  · omega
  · rw [e] at hv; simp only [Value.slice.injEq] at hv; omega

set_option maxRecDepth 100000 in
set_option maxHeartbeats 3200000 in
theorem spec_stays (A A' : Option Addr) (n c m c' : Nat) (xs ys : List Int) (w : World) (B : Nat) (hB : B ≤ w.heap.size) (hn : n = xs.length) (hm : m = ys.length) (h : IS w B A xs) (h' : IS w B A' ys) (hs : n ≤ 2000000) (hs' : m ≤ 1048576) :
    Calls Try.prog 43 #[.slice A n c, .slice A' m c'] w fun e w' => RetI w (stK xs ys) e w' := by
  obtain ⟨i0, hi, hz0, hz1, hz2⟩ := info_parts info_int
  have HSH := Lib.hid (spec_shared A' A m c' n c ys xs w B hB hm hn h' h (by omega) hs)
  have hKl := inK_len ys xs
  have hP0 := plF_nonneg xs ys
  unfold stK
  generalize inK ys xs = K at *
  obtain ⟨l, hl⟩ : ∃ l : Nat, l = K.length := ⟨_, rfl⟩
  have hlm : l ≤ 1048576 := by omega
  rw [← hl] at hP0 ⊢
  have H := Lib.hid h
  have HN := Lib.hid hn
  have HLL := Lib.hid hl
  have HP0 := Lib.hid hP0
  clear hn h hm h' hl hP0 hKl
  go_enter Try.func43, Try.ntmps43
  go_wp2_with fail
  refine HSH.out.mono ?_
  rintro e w1 ⟨v1, rfl, ho1, hb1⟩
  obtain ⟨A1, c1, rfl, hi1, hc1, hlt1⟩ := ho1.form' l HLL.out
  have HI1 := Lib.hid hi1
  have hw1 : w.heap.size ≤ w1.heap.size := hb1.size
  have HX1 := Lib.hid (H.out.below hb1 hB)
  clear ho1 hi1 hlt1 H HSH
  go_wp2
  go_loopw [6, 8] (fun v i wr => ∃ k : Nat, k ≤ l ∧ i = .int .i64 k ∧ Hid (OwnI wr w1.heap.size v (il k (plF xs K))) ∧ Below w1.heap.size w1 wr) (fun _ i _ => l - (intOf i).toNat)
  case atStart =>
    exact ⟨0, Nat.zero_le _, rfl, World.ownsRow_lit (e := 3) (size := 1) w1 #[] 0 (Nat.le_refl _) (by unfold maxLen; omega) rfl, (Below.refl _ _).alloc (Nat.le_refl _) _⟩
  case round =>
    obtain ⟨k, hk, rfl, HO, hb⟩ := hrel
    have hwr : w1.heap.size ≤ wr.heap.size := hb.size
    by_cases hlt : k < l
    · have hkx : k < K.length := by have := HLL.out; omega
      have HPL := Lib.hid (spec_placeIn A n c xs (K.getD k 0) wr B (by omega) HN.out (HX1.out.below hb (by omega)) hs)
      have hpk : plc xs (K.getD k 0) = plF xs K k := rfl
      obtain ⟨b, off, rfl, hbB, hc⟩ := HI1.out (by omega)
      have c0 := (hb.cell (p := ⟨b, off + k, none⟩) (by simp; omega)).trans (hc k hkx)
      clear hc
      rw [hpk] at HPL
      clear hpk
      have HST : Hid (il (k + 1) (plF xs K) = il k (plF xs K) ++ [plF xs K k]) := by simp [Hid, il, List.range_succ]
      have hll := il_len k (plF xs K)
      have HO1 : Hid (OwnI wr w1.heap.size _ (il k (plF xs K))) := HO
      generalize il k (plF xs K) = F at *
      generalize plF xs K k = p at *
      generalize K.getD k 0 = x at *
      have HLF := Lib.hid hll
      clear hll HO1
      go_wp2_with (first | (go_at_call 67; refine HPL.out.mono ?_; rintro e w' ⟨rfl, rfl⟩) | (at_builtin; refine wpList_append_own _ rfl _ _ 22 rfl w1.heap.size 3 i0 (.int .i64 0) 1 8 Try.underlying22 hi hz0 hz1 hz2 rfl (by decide) _ _ _ rfl (HO.out.alloc _) ⟨wr.heap.size, 0, none⟩ 1 1 [.int .i64 p] rfl rfl (cell_one_new _ _ _) ?c2 ?c3 ?c4 ?c5 ?_))
      case c2 => first | rfl | (intro u hu; simp at hu; subst hu; rfl)
      case c3 => have := HLF.out; unfold maxLen; omega
      case c4 => have := HLF.out; omega
      case c5 => first | omega | (simp; omega)
      intro v' w3 hown' hgrow _
      have hpos := (HO.out.alloc (.cells #[.int .i64 p] 3)).lt
      have HO' : Hid (OwnI w3 w1.heap.size v' (il (k + 1) (plF xs K))) := by
        rw [HST.out]
        simpa [OwnI, Hid] using hown'
      have HB' := Lib.hid ((hb.alloc hwr (.cells #[.int .i64 p] 3)).grown hgrow (by first | (simp; omega) | omega) (fun q hq => (hpos q hq).1))
      clear hown' hgrow hpos
      go_wp2
      go_roundw
      case rel => exact ⟨k + 1, by omega, by go_num, HO'.out, HB'.out⟩
      case measure => simp [intOf]; omega
    · obtain rfl : k = l := by omega
      obtain ⟨w2, hw2⟩ : ∃ w2, w2 = wr := ⟨_, rfl⟩
      subst hw2
      obtain ⟨A2, c2, rfl, hi2, hc2, hlt2⟩ := HO.out.form' k (il_len k (plF xs K)).symm
      have HLG := Lib.hid (spec_longest A2 k c2 (il k (plF xs K)) w2 w2.heap.size (Nat.le_refl _) (il_len k _).symm hi2 (by omega))
      have hcg : (il k (lrA (fun j => (il k (plF xs K)).getD j 0) k)) = il k (lenF xs K) := by
        have e : lenF xs K = lrA (fun j => (il k (plF xs K)).getD j 0) k := by
          unfold lenF
          rw [← HLL.out]
          exact funext fun j => (lrA_congr _ _ k (fun j hj => (il_get k (plF xs K) j hj)) j).symm
        rw [e]
      rw [hcg] at HLG
      have HI2 := Lib.hid hi2
      have HK1 := Lib.hid (HI1.out.below hb (Nat.le_refl _))
      have hwk : w.heap.size ≤ w2.heap.size := by omega
      have HBW := Lib.hid (hb1.trans (hb.mono hw1))
      have hbds : ∀ j, lenF xs K j ≤ (k : Int) := by
        intro j
        unfold lenF
        rw [← HLL.out]
        exact lrA_le _ _ _
      have HPOS : Hid (∀ j, j < k → 1 ≤ lenF xs K j) := by
        intro j hj
        unfold lenF
        rw [← HLL.out]
        exact lrA_pos _ _ _ hj
      have HBDS := Lib.hid hbds
      have HLT : Hid (∀ (i : Nat) (at_ mis : Int), AtOK (plF xs K) (lenF xs K) i at_ mis → i < k → lenF xs K i = mis → at_ < plF xs K i) := by
        intro i at_ mis ha hik he
        unfold lenF at ha he
        rw [← HLL.out] at ha he
        exact ha.lt hik (HP0.out i hik) he
      generalize hLE : lenF xs K = L at *
      generalize plF xs K = P at *
      have HLE := Lib.hid hLE
      clear hLE hi2 hcg hbds HO hlt2 hb hb1 HX1 HI1 HP0
      go_wp2_with fail
      refine HLG.out.mono ?_
      rintro e w3 ⟨v3, rfl, ho3, hb3⟩
      obtain ⟨A3, c3, rfl, hi3, hc3, hlt3⟩ := ho3.form' k (il_len k L).symm
      have hw3 : w2.heap.size ≤ w3.heap.size := hb3.size
      have HI3 := Lib.hid hi3
      have HI23 := Lib.hid (HI2.out.below hb3 (Nat.le_refl _))
      have HK3 := Lib.hid (HK1.out.below hb3 (by omega))
      have HB3 := Lib.hid (HBW.out.trans (hb3.mono hwk))
      clear hi3 ho3 hlt3 HI2 HK1 HBW hb3 HLG
      go_wp2
      go_loopw [7, 10] (fun q i wr => ∃ j : Nat, j ≤ k ∧ i = .int .i64 j ∧ q = .int .i64 (mst L j) ∧ w3 = wr) (fun _ i _ => k - (intOf i).toNat)
      case atStart => exact ⟨0, Nat.zero_le _, rfl, rfl, rfl⟩
      case round =>
        obtain ⟨j, hj, rfl, rfl, rfl⟩ := hrel
        by_cases hjk : j < k
        · obtain ⟨b, off, rfl, hbB, hc⟩ := HI3.out (by rw [il_len]; omega)
          have c0 := hc j (by rw [il_len]; omega)
          rw [il_get k L j hjk] at c0
          have HMS : Hid (mst L (j + 1) = max (mst L j) (L j)) := rfl
          clear hc
          generalize L j = y at *
          generalize mst L j = z at *
          go_wp2
          go_roundw
          case rel => exact ⟨j + 1, by omega, by go_num, by rw [HMS.out]; first | rfl | (congr 1; split <;> omega) | (split <;> (congr 1; omega)), by first | rfl | trivial⟩
          case measure => simp [intOf]; omega
        · obtain rfl : j = k := by omega
          have hmn := mst_nonneg L j
          have hml := mst_le L j j (by omega) fun q _ => HBDS.out q
          generalize hmm : mst L j = M at *
          have HMM := Lib.hid hmm
          clear hmm
          go_wp2
          go_loopw [7, 11, 12, 13] (fun q v a i wx => ∃ (r : Nat) (at_ : Int), r ≤ j ∧ i = .int .i64 r ∧ q = .int .i64 (keep (fun j => K.getD j 0) L M r).2 ∧ a = .int .i64 at_ ∧ Hid (AtOK P L r at_ (keep (fun j => K.getD j 0) L M r).2) ∧ Hid (OwnI wx w3.heap.size v (keep (fun j => K.getD j 0) L M r).1) ∧ Below w3.heap.size w3 wx) (fun _ _ _ i _ => j - (intOf i).toNat)
          case atStart =>
            exact ⟨0, -1, Nat.zero_le _, rfl, rfl, rfl, .inl rfl, World.ownsRow_lit (e := 3) (size := 1) w3 #[] 0 (Nat.le_refl _) (by unfold maxLen; omega) rfl, (Below.refl _ _).alloc (Nat.le_refl _) _⟩
          case round =>
            obtain ⟨r, at_, hr, rfl, rfl, rfl, HA, HO, hbx⟩ := hrel
            have hwx : w3.heap.size ≤ wr.heap.size := hbx.size
            by_cases hrj : r < j
            · have hrx : r < K.length := by have := HLL.out; omega
              obtain ⟨b1, o1, rfl, hB1, hk1⟩ := HK3.out (by omega)
              obtain ⟨b2, o2, rfl, hB2, hk2⟩ := HI23.out (by rw [il_len]; omega)
              obtain ⟨b3, o3, rfl, hB3, hk3⟩ := HI3.out (by rw [il_len]; omega)
              have q1 := (hbx.cell (p := ⟨b1, o1 + r, none⟩) (by simp; omega)).trans (hk1 r hrx)
              have q2 := (hbx.cell (p := ⟨b2, o2 + r, none⟩) (by simp; omega)).trans (hk2 r (by rw [il_len]; omega))
              have q3 := (hbx.cell (p := ⟨b3, o3 + r, none⟩) (by simp; omega)).trans (hk3 r (by rw [il_len]; omega))
              rw [il_get j P r hrj] at q2
              rw [il_get j L r hrj] at q3
              clear hk1 hk2 hk3
              have hpos := HPOS.out r hrj
              have hLB := HBDS.out r
              have HLTr : Hid (L r = (keep (fun j => K.getD j 0) L M r).2 → at_ < P r) := fun e => HLT.out r at_ _ HA.out hrj e
              have HKY := Lib.hid (keep_yes (fun j => K.getD j 0) L M r)
              have HKN := Lib.hid (keep_no (fun j => K.getD j 0) L M r)
              have hkb := keep_bd (fun j => K.getD j 0) L M r
              have HAY : Hid (L r = (keep (fun j => K.getD j 0) L M r).2 → AtOK P L (r + 1) (P r) ((keep (fun j => K.getD j 0) L M r).2 - 1)) := fun e => AtOK.yes (at_ := at_) e
              have HAN : Hid (¬ L r = (keep (fun j => K.getD j 0) L M r).2 → AtOK P L (r + 1) at_ (keep (fun j => K.getD j 0) L M r).2) := fun e => HA.out.no e
              generalize hS : keep (fun j => K.getD j 0) L M r = S at *
              obtain ⟨F, mi⟩ := S
              have HS := Lib.hid hS
              clear hS
              simp only at hkb HLTr HKY HKN HAY HAN HA HO ⊢
              obtain ⟨hF1, hF2⟩ := hkb
              generalize hFl : F.length = fl at *
              have HFL := Lib.hid hFl
              clear hFl
              have hmi : -1048576 ≤ mi ∧ mi ≤ 1048576 := by omega
              clear hF2
              by_cases he : L r = mi
              · have hmp : 0 < mi := by omega
                have hlt := HLTr.out he
                have HKY2 := Lib.hid (HKY.out he)
                have HAY2 := Lib.hid (HAY.out he)
                have heq : (L r == mi) = true := by simp [he]
                clear HLTr HKY HKN HAY HAN he
                generalize L r = y at *
                generalize P r = p at *
                generalize K.getD r 0 = x at *
                go_wp2_with (at_builtin; refine wpList_append_own _ rfl _ _ 22 rfl w3.heap.size 3 i0 (.int .i64 0) 1 8 Try.underlying22 hi hz0 hz1 hz2 rfl (by decide) _ _ _ rfl (HO.out.alloc _) ⟨wr.heap.size, 0, none⟩ 1 1 [.int .i64 x] rfl rfl (cell_one_new _ _ _) ?c2 ?c3 ?c4 ?c5 ?_)
                case c2 => first | rfl | (intro u hu; simp at hu; subst hu; rfl)
                case c3 => have := HFL.out; unfold maxLen; omega
                case c4 => have := HFL.out; omega
                case c5 => first | omega | (simp; omega)
                intro v' w5 hown' hgrow _
                have hpo := (HO.out.alloc (.cells #[.int .i64 x] 3)).lt
                have HO' : Hid (OwnI w5 w3.heap.size v' (F ++ [x])) := by
                  simpa [OwnI, Hid] using hown'
                have HB' := Lib.hid ((hbx.alloc hwx (.cells #[.int .i64 x] 3)).grown hgrow (by first | (simp; omega) | omega) (fun q hq => (hpo q hq).1))
                have q2' : w5.cell? ⟨b2, o2 + r, none⟩ = some (.int .i64 p) := by
                  have e1 := HB'.out.cell (p := ⟨b2, o2 + r, none⟩) (by simp; omega)
                  have e2 := hbx.cell (p := ⟨b2, o2 + r, none⟩) (by simp; omega)
                  exact e1.trans (e2.symm.trans q2)
                clear hown' hgrow hpo
                go_wp2
                go_roundw
                case rel => exact ⟨r + 1, p, by omega, by go_num, by rw [HKY2.out], rfl, by rw [HKY2.out]; exact HAY2.out, by rw [HKY2.out]; exact HO'.out, HB'.out⟩
                case measure => simp [intOf]; omega
              · by_cases hmp : 0 < mi
                · have HKN2 := Lib.hid (HKN.out he)
                  have HAN2 := Lib.hid (HAN.out he)
                  have heq : (L r == mi) = false := by simp [he]
                  clear HLTr HKY HKN HAY HAN he
                  generalize L r = y at *
                  generalize P r = p at *
                  go_wp2
                  go_roundw
                  case rel => exact ⟨r + 1, at_, by omega, by go_num, by rw [HKN2.out], rfl, by rw [HKN2.out]; exact HAN2.out, by rw [HKN2.out]; exact HO.out, hbx⟩
                  case measure => simp [intOf]; omega
                · have HKN2 := Lib.hid (HKN.out he)
                  have HAN2 := Lib.hid (HAN.out he)
                  have hmp2 : decide (0 < mi) = false := decide_eq_false hmp
                  clear HLTr HKY HKN HAY HAN he hmp
                  generalize L r = y at *
                  generalize P r = p at *
                  go_wp2
                  go_roundw
                  case rel => exact ⟨r + 1, at_, by omega, by go_num, by rw [HKN2.out], rfl, by rw [HKN2.out]; exact HAN2.out, by rw [HKN2.out]; exact HO.out, hbx⟩
                  case measure => simp [intOf]; omega
            · obtain rfl : r = j := by omega
              go_wp2
              go_ret
              rw [HLE.out, HMM.out]
              exact ⟨_, rfl, own_mono HO.out (by omega), HB3.out.trans (hbx.mono (by have := HB3.out.size; omega))⟩
end Go.Proofs.Ytjlfabfejnpaaaa
