/- laws.FnValidKeys returns true for all bytes, and writes nothing that was there. -/
import Derived.Test.YtboieimahdmpaaaKD2
import Derived.Test.YtboieimahdmpaaaQ1
import Derived.Deep.AppendLies
import Derived.Maps.AppendAt
import Derived.Deep.RegionHeld3

namespace Go.Proofs.Ytboieimahdmpaaa
set_option linter.unusedSimpArgs false
set_option linter.unusedVariables false
open Go.RowKit

/-- An append, perhaps of nothing, at a step of a region that draws its order. -/
theorem step_append_own_at {P : Program} (w : World) {ops : Array Oper} {o : Oper} {a : Act} {K : Act → World → Prop} {Q : Exit → Act → World → Prop} {E : Prop} (hgd : o.guard = none) (s x : Operand) (t : TypeId)
    (ho : o.op = .call { callee := .builtin .append, args := #[s, x], argTypes := #[t, t] })
    (base : Nat) (e : TypeId) (i : TypeInfo) (z : Value) (size bytes : Nat) (ht : P.underlying t = some (.slice e)) (hi : P.info? e = some i) (hz : i.zero = some z)
    (hsize : i.size = size) (hby : i.bytes = bytes) (hzs : z.cells.size = size) (hsz : 0 < size)
    (v : Value) (n : Nat) (xs : List Value) (hs : a.eval s = v) (hown : w.ownsRow base e size v n xs)
    (ad : Addr) (m c : Nat) (news : List Value) (hx : a.eval x = .slice (some ad) m c) (hl : news.length = m * size) (hnews : ∀ j u, news[j]? = some u → w.cell? (ad.add j) = some u) (h1 : ∀ u ∈ news, u.oneCell' = true)
    (h63 : n + m ≤ maxLen) (hbytes : (n + m) * bytes ≤ 140737488355328) (hbase : base ≤ w.heap.size)
    (h : ∀ v' w', w'.ownsRow base e size v' (n + m) (xs ++ news) → w.grownBy w' v.ownBlock → (v'.ownBlock = v.ownBlock ∨ v'.ownBlock = some w.heap.size) → K (a.put o.dst v') w') :
    if Region.wanted o (yielded ops a.tmps) = true then Oper.wp P o a w K Q else E := by
  obtain ⟨v', w', hr, h2, h3, h4, h5⟩ := run_append_own_at (P := P) w base t o.type e i z size bytes ht hi hz hsize hby hzs hsz v n xs hown ad m c news hl hnews h1 h63 hbytes hbase
  have hw : Oper.wp P o a w K Q := by
    unfold Oper.wp execOp
    simp only [ho, resolve, invoke, builtin, Sem.run_bind, Sem.run_pure, Result.andThen_ok, List.map_toArray, List.map_cons, List.map_nil, hs, hx, hr]
    exact h v' w' h2 h3 h5
  have hwt : Region.wanted o (yielded ops a.tmps) = true := by unfold Region.wanted; rw [hgd]
  rw [if_pos hwt]; exact hw

theorem validK_parts {xs : List Int} (h : validK xs = true) : xs.length ≤ 10 ∧ allR xs 0 30 = true ∧ xs.Nodup := by
  unfold validK difB at h
  simp only [Bool.and_eq_true, decide_eq_true_eq] at h
  exact ⟨h.1, h.2.1, h.2.2⟩
theorem validK_of {xs : List Int} (h1 : xs.length ≤ 10) (h2 : allR xs 0 30 = true) (h3 : xs.Nodup) : validK xs = true := by
  unfold validK difB
  simp [h1, h2, h3]
theorem validK_sub {xs ys : List Int} (h : validK xs = true) (hs : ys.Sublist xs) : validK ys = true := by
  obtain ⟨h1, h2, h3⟩ := validK_parts h
  refine validK_of (Nat.le_trans hs.length_le h1) ?_ (hs.nodup h3)
  unfold allR at *
  rw [List.all_eq_true] at *
  exact fun x hx => h2 x (hs.subset hx)
theorem validK_erase {xs : List Int} (h : validK xs = true) (k : Nat) : validK (xs.take k ++ xs.drop (k + 1)) = true := by
  refine validK_sub h ?_
  have h1 : (xs.drop (k + 1)).Sublist (xs.drop k) := by
    rw [← List.drop_drop]; exact List.drop_sublist _ _
  have h2 := (List.Sublist.refl (xs.take k)).append h1
  rwa [List.take_append_drop] at h2
theorem addr_add' (b off j : Nat) : (⟨b, off, none⟩ : Addr).add j = ⟨b, off + j, none⟩ := by
  cases j <;> simp [Addr.add]
theorem news_take {w : World} {b off n k : Nat} {xs : List Int} (hn : n = xs.length) (h : ∀ j, j < n → w.cell? ⟨b, off + j, none⟩ = some (.int .i64 (xs.getD j 0))) : ∀ j u, ((xs.take k).map (Value.int .i64))[j]? = some u → w.cell? ((⟨b, off, none⟩ : Addr).add j) = some u := by
  intro j u hj
  rw [List.getElem?_map, Option.map_eq_some_iff] at hj
  obtain ⟨x, hx, rfl⟩ := hj
  rw [List.getElem?_take] at hx
  split at hx
  · have hlt : j < xs.length := (List.getElem?_eq_some_iff.1 hx).1
    have := h j (by omega)
    rw [show xs.getD j 0 = x by simp [List.getD, hx]] at this
    rw [addr_add']; exact this
  · cases hx
theorem news_drop {w : World} {b off n k : Nat} {xs : List Int} (hn : n = xs.length) (h : ∀ j, j < n → w.cell? ⟨b, off + j, none⟩ = some (.int .i64 (xs.getD j 0))) : ∀ j u, ((xs.drop k).map (Value.int .i64))[j]? = some u → w.cell? ((⟨b, off + k, none⟩ : Addr).add j) = some u := by
  intro j u hj
  rw [List.getElem?_map, Option.map_eq_some_iff] at hj
  obtain ⟨x, hx, rfl⟩ := hj
  rw [List.getElem?_drop] at hx
  have hlt : k + j < xs.length := (List.getElem?_eq_some_iff.1 hx).1
  have := h (k + j) (by omega)
  rw [show xs.getD (k + j) 0 = x by simp [List.getD, hx]] at this
  rw [addr_add', Nat.add_assoc]; exact this
theorem one_ints (xs : List Int) : ∀ u ∈ xs.map (Value.int .i64), u.oneCell' = true := by
  intro u hu
  obtain ⟨x, _, rfl⟩ := List.mem_map.1 hu
  rfl

set_option maxRecDepth 100000 in
set_option maxHeartbeats 6400000 in
theorem plaw_ValidKeys (A : Option Addr) (n c : Nat) (bs : List Int) (w : World) (hn : n = bs.length) (hnc : n ≤ c) (h : BS w w.heap.size A bs) (hy : BY bs) (hm : n ≤ 9223372036854775807) :
    Calls Try.prog 3 #[.slice A n c] w fun e w' => e = .returned (.bool true) ∧ Below w.heap.size w w' := by
  obtain ⟨i0, hi, hz0, hz1, hz2⟩ := info_parts info_int
  by_cases hs : 1048576 < n
  · clear hn hnc h hy
    go_enter Try.func3, Try.ntmps3
    go_wp2
    go_ret
    exact ⟨rfl, Below.refl _ _⟩
  have HC := Lib.hid (spec_DrawValidKeys A n c bs w hn hnc h hy (by omega))
  clear hn hnc h hy
  go_enter Try.func3, Try.ntmps3
  go_wp2_with fail
  refine HC.out.mono ?_
  rintro e w1 ⟨A1, n1, c1, xs, rfl, hl, hl11, hnc1, hI, hb1⟩
  have HL := Lib.hid hl
  have HI := Lib.hid hI
  have HB := Lib.hid hb1
  have hz1' := hb1.size
  have HIV := Lib.hid fun (w' : World) (h : IS w' w'.heap.size A1 xs) => impl_ValidKeys A1 n1 c1 xs w' w'.heap.size (Nat.le_refl _) HL.out hnc1 h (by omega)
  have HSV := Lib.hid fun (w' : World) (h : IS w' w'.heap.size A1 xs) => top_spec_ValidKeys xs (by rw [← HL.out]; omega) A1 n1 c1 w' HL.out hnc1 h
  have HER := Lib.hid fun (hv : validK xs = true) (k : Nat) => validK_erase hv k
  have HND := Lib.hid fun (hv : validK xs = true) => (validK_parts hv).2.2
  clear hl hI hb1 HC
  generalize validK xs = v at *
  go_wp2_with fail
  refine (HIV.out w1 HI.out).mono ?_
  rintro e w2 ⟨rfl, hb2⟩
  have HI2 := Lib.hid (HI.out.step hb2)
  have HB2 := Lib.hid (HB.out.trans (hb2.mono HB.out.size))
  clear hb2 HI HB HIV
  go_wp2_with fail
  refine (HSV.out w2 HI2.out).mono ?_
  rintro e w3 ⟨rfl, hb3⟩
  have HI3 := Lib.hid (HI2.out.step hb3)
  have HB3 := Lib.hid (HB2.out.trans (hb3.mono HB2.out.size))
  clear hb3 HI2 HB2
  cases v
  · have q0 : (false != false) = false := rfl
    go_wp2_with fail
    refine (HSV.out w3 HI3.out).mono ?_
    rintro e w4 ⟨rfl, hb4⟩
    have HB4 := Lib.hid (HB3.out.trans (hb4.mono HB3.out.size))
    clear hb4
    go_wp2
    go_ret
    exact ⟨rfl, HB4.out⟩
  have HER2 := Lib.hid (HER.out rfl)
  have HND2 := Lib.hid (HND.out rfl)
  clear HER HND HSV
  go_wp2
  go_loopw [5] (fun u wr => ∃ k : Nat, k ≤ n1 ∧ u = .int .i64 k ∧ Hid (Below w3.heap.size w3 wr) ∧ w3.heap.size ≤ wr.heap.size) (fun u _ => n1 - (intOf u).toNat)
  case atStart => exact ⟨0, Nat.zero_le _, rfl, Below.refl _ _, Nat.le_refl _⟩
  case round =>
    obtain ⟨k, hk, rfl, HBr, hwr⟩ := hrel
    by_cases hlt : k < n1
    · have HIr := Lib.hid (HI3.out.below HBr.out (Nat.le_refl _))
      obtain ⟨b, off, hA1, hbw, hc⟩ := HIr.out (by have := HL.out; omega)
      subst hA1
      have HNT := Lib.hid (news_take (w := wr) (b := b) (off := off) (n := n1) (k := k) HL.out (fun j hj => hc j (by have := HL.out; omega)))
      obtain ⟨o2, ho2, HNX⟩ : ∃ o2, (if c1 = k + 1 then some ({ block := b, off := off } : Addr) else some { block := b, off := off + (k + 1) }) = some ⟨b, o2, none⟩ ∧ Hid (∀ j u, ((xs.drop (k + 1)).map (Value.int .i64))[j]? = some u → wr.cell? ((⟨b, o2, none⟩ : Addr).add j) = some u) := by
        by_cases hcc : c1 = k + 1
        · refine ⟨off, by rw [if_pos hcc], fun j u hj => ?_⟩
          have : xs.length ≤ k + 1 := by have := HL.out; omega
          rw [List.drop_eq_nil_of_le this] at hj
          simp at hj
        · exact ⟨off + (k + 1), by rw [if_neg hcc], news_drop (w := wr) (b := b) (off := off) (n := n1) (k := k + 1) HL.out (fun j hj => hc j (by have := HL.out; omega))⟩
      have hk0 : (0 : Int) ≤ (k : Int) + 1 := by omega
      have hk1 : (k : Int) + 1 ≤ (n1 : Int) := by omega
      have HEK := Lib.hid (HER2.out k)
      have hwk : IntKind.i64.wrap ((k : Int) + 1) = ((k + 1 : Nat) : Int) := by rw [IntKind.wrap_i64]; omega
      have hkc : k + 1 ≤ c1 := by omega
      have hkc0 : k ≤ c1 := by omega
      have hbr : b < wr.heap.size := by omega
      have HBA := Lib.hid ((Below.refl wr.heap.size wr).alloc (Nat.le_refl _) (.cells #[] 3))
      have HNEW := Lib.hid (World.ownsRow_lit (e := 3) (size := 1) (base := wr.heap.size) wr #[] 0 (Nat.le_refl _) (by unfold maxLen; omega) (by simp))
      have HNT1 : Hid (∀ j u, ((xs.take k).map (Value.int .i64))[j]? = some u → (wr.alloc (.cells #[] 3)).cell? ((⟨b, off, none⟩ : Addr).add j) = some u) := fun j u hj => by
        have := HNT.out j u hj
        rw [addr_add'] at *
        exact (World.cell?_alloc_lt wr _ ⟨b, off + j, none⟩ hbr).trans this
      clear hc HI3 HNT
      go_wp2
      refine wp_region_held_drew (S := fun _ => True) (by kernel_rfl) trivial (fun hHeld => ?_)
      refine wpAnyH_take (i := 1) (oi := ⟨some 32, _, _, _, _, _⟩) (v := ?_) rfl (by kernel_rfl) (by kernel_rfl) (by kernel_rfl) (fun _ _ _ h => h) (Or.inl ⟨by rfl, ?_⟩) (by assumption) ?_; rotate_left; (focus (intro w hSw; (try dsimp only at hSw); go_simp; (try with_reducible rfl))); (try simp only [Act.put, List.setIfInBounds_toArray, List.set_cons_zero, List.set_cons_succ])
      refine wpAnyH_take (i := 2) (oi := ⟨some 33, _, _, _, _, _⟩) (v := ?_) rfl (by kernel_rfl) (by kernel_rfl) (by kernel_rfl) (fun _ _ _ h => h) (Or.inl ⟨by rfl, ?_⟩) (by assumption) ?_; rotate_left; (focus (intro w hSw; (try dsimp only at hSw); go_simp; (try with_reducible rfl))); (try simp only [Act.put, List.setIfInBounds_toArray, List.set_cons_zero, List.set_cons_succ])
      refine wpAnyH_take (i := 3) (oi := ⟨some 34, _, _, _, _, _⟩) (v := ?_) rfl (by kernel_rfl) (by kernel_rfl) (by kernel_rfl) (fun _ _ _ h => h) (Or.inl ⟨by rfl, ?_⟩) (by assumption) ?_; rotate_left; (focus (intro w hSw; (try dsimp only at hSw); go_simp; (try with_reducible rfl))); (try simp only [Act.put, List.setIfInBounds_toArray, List.set_cons_zero, List.set_cons_succ])
      refine wpAnyH_take (i := 5) (oi := ⟨some 36, _, _, _, _, _⟩) (v := ?_) rfl (by kernel_rfl) (by kernel_rfl) (by kernel_rfl) (fun _ _ _ h => h) (Or.inl ⟨by rfl, ?_⟩) (by assumption) ?_; rotate_left; (focus (intro w hSw; (try dsimp only at hSw); go_simp; (try with_reducible rfl))); (try simp only [Act.put, List.setIfInBounds_toArray, List.set_cons_zero, List.set_cons_succ])
      refine wpAnyH_take (i := 6) (oi := ⟨some 37, _, _, _, _, _⟩) (v := ?_) rfl (by kernel_rfl) (by kernel_rfl) (by kernel_rfl) (fun _ _ _ h => h) (Or.inl ⟨by rfl, ?_⟩) (by assumption) ?_; rotate_left; (focus (intro w hSw; (try dsimp only at hSw); go_simp; (try with_reducible rfl))); (try simp only [Act.put, List.setIfInBounds_toArray, List.set_cons_zero, List.set_cons_succ])
      refine wpAnyH_take (i := 7) (oi := ⟨some 38, _, _, _, _, _⟩) (v := ?_) rfl (by kernel_rfl) (by kernel_rfl) (by kernel_rfl) (fun _ _ _ h => h) (Or.inl ⟨by rfl, ?_⟩) (by assumption) ?_; rotate_left; (focus (intro w hSw; (try dsimp only at hSw); go_simp; (try with_reducible rfl))); (try simp only [Act.put, List.setIfInBounds_toArray, List.set_cons_zero, List.set_cons_succ])
      refine wpAnyH_take (i := 8) (oi := ⟨some 39, _, _, _, _, _⟩) (v := ?_) rfl (by kernel_rfl) (by kernel_rfl) (by kernel_rfl) (fun _ _ _ h => h) (Or.inl ⟨by rfl, ?_⟩) (by assumption) ?_; rotate_left; (focus (intro w hSw; (try dsimp only at hSw); go_simp; (try with_reducible rfl))); (try simp only [Act.put, List.setIfInBounds_toArray, List.set_cons_zero, List.set_cons_succ])
      refine wpAnyH_ready (rs := [0]) (by kernel_rfl) (by simp) ?_; refine AllReadyH.cons (o := ⟨some 31, _, _, _, _, _⟩) rfl (fun K hK => ?_) AllReadyH.nil; go_simp
      refine hK.out _ _ trivial (fun hHeld => ?_); clear hK K; (try simp only [Act.put, List.setIfInBounds_toArray, List.set_cons_zero, List.set_cons_succ])
      refine wpAnyH_ready (rs := [4]) (by kernel_rfl) (by simp) ?_; refine AllReadyH.cons (o := ⟨some 35, _, _, _, _, _⟩) rfl (fun K hK => ?_) AllReadyH.nil
      refine step_append_own_at _ (by rfl) _ _ _ (by rfl) wr.heap.size 3 i0 (.int .i64 0) 1 8 Try.underlying23 hi hz0 hz1 hz2 rfl (by omega) (.slice (some ⟨wr.heap.size, 0, none⟩) 0 0) 0 [] (by rfl) HNEW.out ⟨b, off, none⟩ k c1 ((xs.take k).map (Value.int .i64)) (by rfl) (by rw [List.length_map, List.length_take, ← HL.out]; omega) HNT1.out (one_ints _) (by unfold maxLen; omega) (by omega) (by simp) ?_
      intro v4 w4 hown4 hgrow4 _
      have hb4 : Below wr.heap.size wr w4 := HBA.out.trans ((Below.refl _ _).grown (w' := w4) (w := wr.alloc (.cells #[] 3)) ⟨hgrow4.os, hgrow4.tape, hgrow4.output, hgrow4.size, hgrow4.block⟩ (by simp) (fun q hq => by cases hq; exact Nat.le_refl _))
      have HNX4 : Hid (∀ j u, ((xs.drop (k + 1)).map (Value.int .i64))[j]? = some u → w4.cell? ((⟨b, o2, none⟩ : Addr).add j) = some u) := fun j u hj => by
        have := HNX.out j u hj
        rw [addr_add'] at *
        exact (hb4.cell (p := ⟨b, o2 + j, none⟩) (by show b < wr.heap.size; omega)).trans this
      refine hK.out _ _ trivial (fun hHeld => ?_); clear hK K; (try simp only [Act.put, List.setIfInBounds_toArray, List.set_cons_zero, List.set_cons_succ])
      refine wpAnyH_ready (rs := [9]) (by kernel_rfl) (by simp) ?_; refine AllReadyH.cons (o := ⟨some 40, _, _, _, _, _⟩) rfl (fun K hK => ?_) AllReadyH.nil
      refine step_append_own_at _ (by rfl) _ _ _ (by rfl) wr.heap.size 3 i0 (.int .i64 0) 1 8 Try.underlying23 hi hz0 hz1 hz2 rfl (by omega) v4 (0 + k) ([] ++ (xs.take k).map (Value.int .i64)) (by rfl) hown4 ⟨b, o2, none⟩ (n1 - (k + 1)) (c1 - (k + 1)) ((xs.drop (k + 1)).map (Value.int .i64)) (by rfl) (by rw [List.length_map, List.length_drop, ← HL.out]; omega) HNX4.out (one_ints _) (by unfold maxLen; omega) (by omega) hb4.size ?_
      intro v5 w5 hown5 hgrow5 _
      have hpos := hown4.lt
      have hb5 : Below wr.heap.size wr w5 := hb4.trans ((Below.refl _ _).grown (w' := w5) (w := w4) ⟨hgrow5.os, hgrow5.tape, hgrow5.output, hgrow5.size, hgrow5.block⟩ hb4.size (fun q hq => (hpos q hq).1))
      have HB5 := Lib.hid (HBr.out.trans (hb5.mono hwr))
      have hz5 : w3.heap.size ≤ w5.heap.size := Nat.le_trans hwr hb5.size
      have hown6 : OwR wr.heap.size w5.heap.size 3 1 v5 (n1 - 1) ((xs.take k ++ xs.drop (k + 1)).map (Value.int .i64)) w5 := by
        have e : 0 + k + (n1 - (k + 1)) = n1 - 1 := by omega
        rw [e] at hown5
        exact OwR.start (by rw [List.map_append]; simpa using hown5)
      obtain ⟨A6, c6, rfl⟩ := row_form hown6.1
      have HCV := Lib.hid (impl_ValidKeys A6 (n1 - 1) c6 (xs.take k ++ xs.drop (k + 1)) w5 w5.heap.size (Nat.le_refl _) (by rw [List.length_append, List.length_take, List.length_drop, ← HL.out]; omega) (own_ncap hown6.1) hown6.ints (by omega))
      rw [HEK.out] at HCV
      clear hown4 hown5 hgrow4 hgrow5 hb4 hb5 hpos HNX4 hown6 HNX HNT1 HNEW HBA HEK
      refine hK.out _ _ trivial (fun hHeld => ?_); clear hK K; (try simp only [Act.put, List.setIfInBounds_toArray, List.set_cons_zero, List.set_cons_succ])
      refine wpAnyH_ready (rs := [10]) (by kernel_rfl) (by simp) ?_; refine AllReadyH.cons (o := ⟨some 41, _, _, _, _, _⟩) rfl (fun K hK => ?_) AllReadyH.nil; go_simp
      go_at_call 9
      refine HCV.out.mono ?_
      rintro e w6 ⟨rfl, hb6⟩
      have HB6 := Lib.hid (HB5.out.trans (hb6.mono hz5))
      have hz6 : w3.heap.size ≤ w6.heap.size := Nat.le_trans hz5 hb6.size
      clear hb6 HB5 HCV
      refine hK.out _ _ trivial (fun hHeld => ?_); clear hK K; (try simp only [Act.put, List.setIfInBounds_toArray, List.set_cons_zero, List.set_cons_succ])
      refine wpAnyH_take (i := 11) (oi := ⟨some 42, _, _, _, _, _⟩) (v := ?_) rfl (by kernel_rfl) (by kernel_rfl) (by kernel_rfl) (fun _ _ _ h => h) (Or.inl ⟨by rfl, ?_⟩) (by assumption) ?_; rotate_left; (focus (intro w hSw; (try dsimp only at hSw); go_simp; (try with_reducible rfl))); (try simp only [Act.put, List.setIfInBounds_toArray, List.set_cons_zero, List.set_cons_succ])
      refine wpAnyH_done (by kernel_rfl) ?_ _
      go_wp2
      go_roundw
      case rel => exact ⟨k + 1, by omega, by go_num, HB6.out, hz6⟩
      case measure => simp [intOf]; omega
    · go_wp2_with fail
      refine (laws_noTwice A1 n1 c1 xs wr w3.heap.size hwr HL.out (HI3.out.below HBr.out (Nat.le_refl _)) (by omega) HND2.out).mono ?_
      rintro e w9 ⟨rfl, rfl⟩
      go_wp2
      go_ret
      exact ⟨rfl, HB3.out.trans (HBr.out.mono HB3.out.size)⟩
end Go.Proofs.Ytboieimahdmpaaa
