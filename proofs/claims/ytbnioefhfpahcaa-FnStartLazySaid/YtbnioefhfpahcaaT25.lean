/- The standing contract of impl.StartLazy. -/
import Derived.Test.YtbnioefhfpahcaaS1

namespace Go.Proofs.Ytbnioefhfpahcaa
set_option linter.unusedSimpArgs false
set_option linter.unusedVariables false
open Go.RowKit

def colI (gs : List Nd) (n k : Nat) : List Int := colsTo gs k ++ List.replicate (n - k) 0
def colC (gs : List Nd) (n k : Nat) : List Value := (colI gs n k).map (Value.int .i64)
theorem colI_succ (gs : List Nd) (n k : Nat) (hn : n = gs.length) (hk : k < n) : (colI gs n k).set k (colOf (gs.getD k default)) = colI gs n (k + 1) := by
  unfold colI
  have hl := colsTo_len gs k (by omega)
  obtain ⟨r, hr⟩ : ∃ r, n - k = r + 1 := ⟨n - k - 1, by omega⟩
  have hr2 : n - (k + 1) = r := by omega
  rw [hr, hr2, List.set_append, if_neg (by omega), hl, Nat.sub_self, List.replicate_succ, List.set_cons_zero, colsTo_succ gs k (by omega)]
  simp
theorem colC_succ (gs : List Nd) (n k : Nat) (hn : n = gs.length) (hk : k < n) : (colC gs n k).set k (.int .i64 (colOf (gs.getD k default))) = colC gs n (k + 1) := by
  unfold colC
  rw [← colI_succ gs n k hn hk, List.map_set]
theorem colC_zero (gs : List Nd) (n k : Nat) (hn : n = gs.length) (hk : k < n) (h0 : colOf (gs.getD k default) = 0) : colC gs n (k + 1) = colC gs n k := by
  rw [← colC_succ gs n k hn hk, h0]
  have hg : (colC gs n k)[k]? = some (.int .i64 0) := by
    unfold colC colI
    have hl := colsTo_len gs k (by omega)
    rw [List.getElem?_map, List.getElem?_append_right (by omega), hl, Nat.sub_self, List.getElem?_replicate, if_pos (by omega)]
    rfl
  apply List.ext_getElem?
  intro i
  rw [List.getElem?_set]
  by_cases e : k = i
  · subst e
    rw [if_pos rfl]
    split
    · exact hg.symm
    · rename_i hlt
      rw [List.getElem?_eq_none (by omega)] at hg
      cases hg
  · rw [if_neg e]
theorem colC_all (gs : List Nd) (n : Nat) (hn : n = gs.length) : colC gs n n = (colsTo gs gs.length).map (Value.int .i64) := by
  unfold colC colI; simp [hn]
theorem colC_none (gs : List Nd) (n : Nat) : colC gs n 0 = List.replicate n (.int .i64 0) := by
  unfold colC colI colsTo; simp

/-- Lists of lists that were just made. -/
theorem made_none (lo hi n : Nat) (w : World) : SSk lo hi (List.replicate n (.slice none 0 0)) (fun _ => 0) (fun _ => []) w := by
  refine ⟨fun j hj => ⟨none, 0, 0, ?_, rfl, OwR.nil _ _ _ _ _⟩, fun i j v u k _ h1 h2 hv => ?_⟩
  · simp at hj; rw [List.getElem?_replicate, if_pos hj]
  · rw [List.getElem?_replicate] at h1
    split at h1
    · cases h1; simp [Value.ownBlock] at hv
    · cases h1

/-- The state out of its three parts, of which the first lies elsewhere than the last. -/
theorem lazy_parts {lo hi bv be bc k m : Nat} {gs : List Nd} {xs : List Int} {w : World} (hk : k = gs.length) (hm : m = xs.length) (h1 : OwR lo hi 3 1 (.slice (some ⟨bv, 0, none⟩) m m) m (xs.map (Value.int .i64)) w) (h2 : OwR lo hi 26 1 (.slice (some ⟨be, 0, none⟩) k k) k (List.replicate k (.slice none 0 0)) w)
    (h3 : OwR lo hi 3 1 (.slice (some ⟨bc, 0, none⟩) k k) k (colC gs k k) w) (hne : bv ≠ bc) : OwL lo hi (some ⟨bv, 0, none⟩) m m (some ⟨be, 0, none⟩) k k (some ⟨bc, 0, none⟩) k k (lazyOfL gs xs) w := by
  have hx : ∀ (j : Nat) (x : Value), (List.replicate k (Value.slice none 0 0))[j]? = some x → x.ownBlock = none := by
    intro j x hx
    rw [List.getElem?_replicate] at hx
    split at hx
    · cases hx; rfl
    · cases hx
  refine OwL.of_apart (us := List.replicate k (.slice none 0 0)) h1 hm (by rw [hk]; simp [lazyOfL, noReads]) h2 ?_ ?_ (by rw [hk]; exact (colsTo_len gs _ (Nat.le_refl _)).symm) (fun j x q hj hq hxq => by rw [hx j x hj] at hxq; cases hxq) (fun j x q hj hq hxq => by rw [hx j x hj] at hxq; cases hxq) (fun q hq hq' => ?_)
  · have e3 : lenOf (noReads gs.length) = fun _ => 0 := funext fun j => noReads_len _ j
    have e4 : rowOf (noReads gs.length) = fun _ => [] := funext fun j => noReads_row _ j
    show SSk _ _ _ (lenOf (noReads gs.length)) (rowOf (noReads gs.length)) w
    rw [e3, e4]
    exact made_none lo hi k w
  · show OwR _ _ _ _ _ _ ((colsTo gs gs.length).map _) _
    rw [← colC_all gs k hk]
    exact h3
  · simp only [Value.ownBlock, Option.some.injEq] at hq hq'
    omega
theorem made_lists {w : World} {lo n : Nat} {v : Value} (h : w.ownsRow lo 26 1 v n (madeCells (Value.slice none 0 0).cells (n * 1)).toList) : w.ownsRow lo 26 1 v n (List.replicate n (.slice none 0 0)) := by
  have e : (madeCells (Value.slice none 0 0).cells (n * 1)).toList = List.replicate n (.slice none 0 0) := by simp [Value.cells, toList_madeCells_one]
  rwa [e] at h

set_option maxRecDepth 100000 in
set_option maxHeartbeats 3200000 in
theorem top_impl_StartLazy (gs : List Nd) (xs : List Int) (hG : GB gs) (hL : xs.length ≤ 1048576) : ∀ (A : Option Addr) (n c : Nat) (A' : Option Addr) (m c' : Nat) (w : World), n = gs.length → n ≤ c → GS w w.heap.size A gs → m = xs.length → IS w w.heap.size A' xs →
    Calls Try.prog 5 #[.agg #[.slice A n c], .slice A' m c'] w fun e w' => RetL w (startL gs xs) e w' := by
  intro A n c A' m c' w hn hnc h hm h'
  have HV := Lib.hid fun (w' : World) (hB : w.heap.size ≤ w'.heap.size) (h : GS w' w.heap.size A gs) (h' : IS w' w.heap.size A' xs) => impl_ValidCells A A' n c m c' gs xs w' w.heap.size hB hn hnc hm h h' hG (by omega)
  have HCP := Lib.hid fun (w' : World) (hB : w.heap.size ≤ w'.heap.size) (h' : IS w' w.heap.size A' xs) => impl_copyOf A' m c' xs w' w.heap.size hB hm h' (by omega)
  have HGA := Lib.hid ((h.alloc (Nat.le_refl _) (.cells #[.slice A n c] 25)).alloc (by simp) (.cells #[.slice none 0 0, .slice none 0 0, .slice none 0 0] 31))
  have HIA := Lib.hid ((h'.alloc (Nat.le_refl _) (.cells #[.slice A n c] 25)).alloc (by simp) (.cells #[.slice none 0 0, .slice none 0 0, .slice none 0 0] 31))
  have X0 := Lib.hid (box3_start (w.alloc (.cells #[.slice A n c] 25)) (.slice none 0 0) (.slice none 0 0) (.slice none 0 0) 31)
  simp only [World.size_alloc] at X0
  have HN := Lib.hid hn
  have HM := Lib.hid hm
  unfold startL
  cases hok : okC gs xs
  · rw [hok] at HV
    simp only [Bool.false_eq_true, if_false]
    clear hok hn h hm h' hG
    go_enter Try.func5, Try.ntmps5
    go_wp2_with fail
    refine (HV.out _ (by simp; omega) HGA.out HIA.out).mono ?_
    rintro e w1 ⟨rfl, hb⟩
    have X1 := Lib.hid (X0.out.step hb (by simp))
    have k0 := X1.out.c0
    have k1 := X1.out.c1
    have k2 := X1.out.c2
    have f0 := X1.out.f 0
    have f1 := X1.out.f 1
    have f2 := X1.out.f 2
    have hB1 : Below w.heap.size w w1 := (((Below.refl _ _).alloc (Nat.le_refl _) _).alloc (by simp) _).trans (hb.mono (by simp; omega))
    go_wp2
    refine bodyPost_ret (v := .agg #[.slice none 0 0, .slice none 0 0, .slice none 0 0]) (by simp [results, Try.results5, go_sem, k0, k1, k2]) rfl (RetL.nil ?_)
    exact ((hB1.setCell (by simp) _).setCell (by simp) _).setCell (by simp) _
  rw [hok] at HV
  simp only [if_true]
  obtain ⟨hl1, hl2⟩ := okC_lens hok
  have hn10 : n ≤ 10 := by omega
  have hmn : m = n := by omega
  have HMN := Lib.hid hmn
  have hm10 : m ≤ 10 := by omega
  clear hok hn h hm h' hG hl1 hl2 hmn
  go_enter Try.func5, Try.ntmps5
  go_wp2_with fail
  refine (HV.out _ (by simp; omega) HGA.out HIA.out).mono ?_
  rintro e w1 ⟨rfl, hb⟩
  have q1 : w1.cell? ⟨w.heap.size, 0, none⟩ = some (.slice A n c) := (hb.cell (p := ⟨w.heap.size, 0, none⟩) (by simp; omega)).trans (by go_simp)
  have X1 := Lib.hid (X0.out.step hb (by simp))
  have hB1 : Below w.heap.size w w1 := (((Below.refl _ _).alloc (Nat.le_refl _) _).alloc (by simp) _).trans (hb.mono (by simp; omega))
  have hl1 : w.heap.size + 2 ≤ w1.heap.size := by have := hb.size; simp at this; omega
  have HG1 := Lib.hid (HGA.out.below hb (by simp; omega))
  have HI1 := Lib.hid (HIA.out.below hb (by simp; omega))
  have HB1 := Lib.hid hB1
  clear hb hB1 HGA HIA X0 HV
  obtain ⟨i0, hi, hz0, hz1, hz2⟩ := info_parts info_int
  obtain ⟨i1, hi1, hy0, hy1, hy2⟩ := info_parts info_ints1
  obtain ⟨w2, hmk, hown2, hgr2⟩ := run_make_full (P := Try.prog) w1 w1.heap.size 26 3 i0 _ 1 Try.underlying26 hi hz0 hz1 .i64 .i64 n (by rw [hz2]; omega) (by unfold maxLen; omega) (Nat.le_refl _)
  have hc0 : w2.ownsRow w1.heap.size 3 1 (.slice (some ⟨w1.heap.size, 0, none⟩) n n) n (colC gs n 0) := by
    have e : (madeCells (Value.int .i64 0).cells (n * 1)).toList = List.replicate n (.int .i64 0) := by simp [Value.cells, toList_madeCells_one]
    rw [e] at hown2
    rw [colC_none]
    exact hown2
  have hb2 : Below w1.heap.size w1 w2 := ⟨hgr2.os, hgr2.tape, hgr2.output, hgr2.size, fun k hk => hgr2.block k hk (by simp)⟩
  have q2 := (hb2.cell (p := ⟨w.heap.size, 0, none⟩) (by show w.heap.size < w1.heap.size; omega)).trans q1
  have HC0 := Lib.hid hc0
  have HB2 := Lib.hid hb2
  clear hown2 hgr2 hc0 hb2
  go_wp2
  clear hmk q2
  go_loopw [20] (fun i wr => ∃ k : Nat, k ≤ n ∧ i = .int .i64 k ∧ Hid (wr.ownsRow w1.heap.size 3 1 (.slice (some ⟨w1.heap.size, 0, none⟩) n n) n (colC gs n k)) ∧ Hid (Below w1.heap.size w1 wr) ∧ w1.heap.size ≤ wr.heap.size) (fun i _ => n - (intOf i).toNat)
  case atStart => exact ⟨0, Nat.zero_le _, rfl, HC0.out, HB2.out, HB2.out.size⟩
  case round =>
    obtain ⟨k, hk, rfl, HO, HB, hwr⟩ := hrel
    by_cases hlt : k < n
    · obtain ⟨b, off, rfl, hbB, hc⟩ := HG1.out (by have := HN.out; omega)
      obtain ⟨d0, A5, n5, c5, d1, -, -⟩ := hc k (by have := HN.out; omega)
      have e0 := (HB.out.cell (p := ⟨b, off + k * 2, none⟩) (by show b < w1.heap.size; omega)).trans d0
      have e1 := (HB.out.cell (p := ⟨b, off + k * 2 + 1, none⟩) (by show b < w1.heap.size; omega)).trans d1
      have hco : colOf (gs.getD k default) = if (gs.getD k default).k == 0 then 0 else 2 := rfl
      have HSU := Lib.hid (colC_succ gs n k HN.out hlt)
      have HZE := Lib.hid (colC_zero gs n k HN.out hlt)
      generalize (gs.getD k default).k = kd at *
      clear hc d0 d1
      have hoa := HO.out.alloc (.cells #[.int .i64 kd, .slice A5 n5 c5] 41)
      have hba := HB.out.alloc hwr (.cells #[.int .i64 kd, .slice A5 n5 c5] 41)
      cases hkz : (kd == 0)
      · have hne : (kd != 0) = true := by simp [bne, hkz]
        rw [hkz] at hco
        simp only [Bool.false_eq_true, if_false] at hco
        have hxl : (colC gs n k).length = n * 1 := hoa.1
        have u0 := hoa.cellAt k (by omega)
        rw [List.getElem?_eq_getElem (by omega)] at u0
        have f0 := hoa.frozenAt k
        generalize (colC gs n k)[k]'(by omega) = v0 at u0
        have hst := (hoa.stored k (.int .i64 2)).1
        have h2 := HSU.out
        rw [hco] at h2
        rw [h2] at hst
        have HST := Lib.hid hst
        have HBA := Lib.hid (hba.setCell (p := ⟨w1.heap.size, k, none⟩) (Nat.le_refl _) (.int .i64 2))
        clear hoa hba hxl hst h2 hkz
        go_wp2
        go_roundw
        case rel => exact ⟨k + 1, by omega, by go_num, HST.out, HBA.out, HBA.out.size⟩
        case measure => simp [intOf]; omega
      · have hne : (kd != 0) = false := by simp [bne, hkz]
        rw [hkz] at hco
        simp only [if_true] at hco
        have h2 := HZE.out hco
        rw [← h2] at hoa
        have HST := Lib.hid hoa
        have HBA := Lib.hid hba
        clear hoa hba h2 hkz
        go_wp2
        go_roundw
        case rel => exact ⟨k + 1, by omega, by go_num, HST.out, HBA.out, HBA.out.size⟩
        case measure => simp [intOf]; omega
    · obtain rfl : k = n := by omega
      have q3 := (HB.out.cell (p := ⟨w.heap.size, 0, none⟩) (by show w.heap.size < w1.heap.size; omega)).trans q1
      have X3 := Lib.hid (X1.out.step HB.out (by omega))
      have HI3 : Hid (IS wr.drew w.heap.size A' xs) := HI1.out.below HB.out.drew (by omega)
      have hwz : w.heap.size ≤ wr.drew.heap.size := by show w.heap.size ≤ wr.heap.size; omega
      have hw1r : w1.heap.size < wr.heap.size := (HO.out.lt _ rfl).2
      obtain ⟨wB, hmkB, hownB, hgrB⟩ := run_make_full (P := Try.prog) wr.drew wr.heap.size 29 26 i1 _ 1 Try.underlying29 hi1 hy0 hy1 .i64 .i64 k (by rw [hy2]; omega) (by unfold maxLen; omega) (Nat.le_refl _)
      have HOB := Lib.hid (made_lists hownB)
      have hbB' : Below wr.drew.heap.size wr.drew wB := ⟨hgrB.os, hgrB.tape, hgrB.output, hgrB.size, fun k hk => hgrB.block k hk (by simp)⟩
      have HBB : Hid (Below wr.heap.size wr wB) := below_of_drew hbB'
      clear hownB hgrB hbB'
      go_upto_region 10 with fail
      refine wp_region_held_drew (S := fun w' => w'.cell? ⟨w.heap.size, 0, none⟩ = some (.slice A k c)) (by kernel_rfl) q3 (fun hHeld => ?_)
      refine wpAnyH_take (i := 0) (oi := ⟨some 32, _, _, _, _, _⟩) (v := ?_) rfl (by kernel_rfl) (by kernel_rfl) (by kernel_rfl) (fun _ _ _ h => h) (Or.inl ⟨by rfl, ?_⟩) (by assumption) ?_; rotate_left; (focus (intro w hSw; (try dsimp only at hSw); go_simp; (try with_reducible rfl))); (try simp only [Act.put, List.setIfInBounds_toArray, List.set_cons_zero, List.set_cons_succ])
      refine wpAnyH_take (i := 2) (oi := ⟨some 34, _, _, _, _, _⟩) (v := ?_) rfl (by kernel_rfl) (by kernel_rfl) (by kernel_rfl) (fun _ _ _ h => h) (Or.inl ⟨by rfl, ?_⟩) (by assumption) ?_; rotate_left; (focus (intro w hSw; (try dsimp only at hSw); go_simp; (try with_reducible rfl))); (try simp only [Act.put, List.setIfInBounds_toArray, List.set_cons_zero, List.set_cons_succ])
      refine wpAnyH_take (i := 3) (oi := ⟨some 35, _, _, _, _, _⟩) (v := ?_) rfl (by kernel_rfl) (by kernel_rfl) (by kernel_rfl) (fun _ _ _ h => h) (Or.inl ⟨by rfl, ?_⟩) (by assumption) ?_; rotate_left; (focus (intro w hSw; (try dsimp only at hSw); go_simp; (try with_reducible rfl))); (try simp only [Act.put, List.setIfInBounds_toArray, List.set_cons_zero, List.set_cons_succ])
      refine wpAnyH_take (i := 4) (oi := ⟨some 36, _, _, _, _, _⟩) (v := ?_) rfl (by kernel_rfl) (by kernel_rfl) (by kernel_rfl) (fun _ _ _ h => h) (Or.inl ⟨by rfl, ?_⟩) (by assumption) ?_; rotate_left; (focus (intro w hSw; (try dsimp only at hSw); go_simp; (try with_reducible rfl))); (try simp only [Act.put, List.setIfInBounds_toArray, List.set_cons_zero, List.set_cons_succ])
      refine wpAnyH_take (i := 6) (oi := ⟨some 38, _, _, _, _, _⟩) (v := ?_) rfl (by kernel_rfl) (by kernel_rfl) (by kernel_rfl) (fun _ _ _ h => h) (Or.inl ⟨by rfl, ?_⟩) (by assumption) ?_; rotate_left; (focus (intro w hSw; (try dsimp only at hSw); go_simp; (try with_reducible rfl))); (try simp only [Act.put, List.setIfInBounds_toArray, List.set_cons_zero, List.set_cons_succ])
      refine wpAnyH_ready (rs := [1, 5]) (by kernel_rfl) (by simp) ?_; refine AllReadyH.cons (o := ⟨some 33, _, _, _, _, _⟩) rfl (fun K hK => ?_) (AllReadyH.cons (o := ⟨some 37, _, _, _, _, _⟩) rfl (fun K hK => ?_) AllReadyH.nil)
      · clear hmkB HOB HBB
        go_simp
        go_at_call 16
        refine (HCP.out wr.drew hwz HI3.out).mono ?_
        rintro e w3 ⟨rfl, ho3, hb3'⟩
        have hb3 : Below wr.heap.size wr w3 := below_of_drew hb3'
        have ho3' : w3.ownsRow wr.heap.size 3 1 (.slice (some ⟨wr.heap.size, 0, none⟩) m m) m (xs.map (Value.int .i64)) := ho3
        have q4 := (hb3.cell (p := ⟨w.heap.size, 0, none⟩) (by show w.heap.size < wr.heap.size; omega)).trans q3
        obtain ⟨w4, hmk4, hown4, hgr4⟩ := run_make_full (P := Try.prog) w3 w3.heap.size 29 26 i1 _ 1 Try.underlying29 hi1 hy0 hy1 .i64 .i64 k (by rw [hy2]; omega) (by unfold maxLen; omega) (Nat.le_refl _)
        have hb4 : Below w3.heap.size w3 w4 := ⟨hgr4.os, hgr4.tape, hgr4.output, hgr4.size, fun k hk => hgr4.block k hk (by simp)⟩
        have hs3 := hb3.size
        have hs4 := hb4.size
        have hlt3 : wr.heap.size < w3.heap.size := (ho3'.lt _ rfl).2
        have q5 := (hb4.cell (p := ⟨w.heap.size, 0, none⟩) (by show w.heap.size < w3.heap.size; omega)).trans q4
        have hbT : Below wr.heap.size wr w4 := hb3.trans (hb4.mono hs3)
        have hszT : wr.heap.size ≤ w4.heap.size := hbT.size
        have rV : OwR (w.heap.size + 1 + 1) w4.heap.size 3 1 (.slice (some ⟨wr.heap.size, 0, none⟩) m m) m (xs.map (Value.int .i64)) w4 := ⟨own_mono (own_below ho3' hb4) (by omega), fun q hq => by cases hq; exact Nat.lt_of_lt_of_le hlt3 hs4⟩
        have hm4 := made_lists hown4
        have rE : OwR (w.heap.size + 1 + 1) w4.heap.size 26 1 (.slice (some ⟨w3.heap.size, 0, none⟩) k k) k (List.replicate k (.slice none 0 0)) w4 := ⟨own_mono hm4 (by omega), fun q hq => (hm4.lt q hq).2⟩
        have rC : OwR (w.heap.size + 1 + 1) w4.heap.size 3 1 (.slice (some ⟨w1.heap.size, 0, none⟩) k k) k (colC gs k k) w4 := ⟨own_mono (own_below HO.out hbT) (by omega), fun q hq => by cases hq; exact Nat.lt_of_lt_of_le hw1r hszT⟩
        clear ho3 ho3' hb3' hown4 hgr4 hm4 hb3 hb4
        refine hK.out _ _ q4 (fun hHeld => ?_); clear hK K; (try simp only [Act.put, List.setIfInBounds_toArray, List.set_cons_zero, List.set_cons_succ])
        refine wpAnyH_ready (rs := [5]) (by kernel_rfl) (by simp) ?_; refine AllReadyH.cons (o := ⟨some 37, _, _, _, _, _⟩) rfl (fun K hK => ?_) AllReadyH.nil
        go_simp
        clear hmk4 q4
        have HL := Lib.hid (lazy_parts HN.out HM.out rV rE rC (by omega))
        have X4 := Lib.hid (X3.out.step hbT (by omega))
        have k0 := X4.out.c0
        have k1 := X4.out.c1
        have k2 := X4.out.c2
        have g0 := X4.out.f 0
        have g1 := X4.out.f 1
        have g2 := X4.out.f 2
        have HBT := Lib.hid (HB1.out.trans ((HB.out.trans (hbT.mono hwr)).mono (by omega)))
        clear rV rE rC hbT X3 HO
        refine hK.out _ _ q5 (fun hHeld => ?_); clear hK K; (try simp only [Act.put, List.setIfInBounds_toArray, List.set_cons_zero, List.set_cons_succ])
        refine wpAnyH_take (i := 7) (oi := ⟨some 39, _, _, _, _, _⟩) (v := ?_) rfl (by kernel_rfl) (by kernel_rfl) (by kernel_rfl) (fun _ _ _ h => h) (Or.inl ⟨by rfl, ?_⟩) (by assumption) ?_; rotate_left; (focus (intro w hSw; (try dsimp only at hSw); go_simp; (try with_reducible rfl))); (try simp only [Act.put, List.setIfInBounds_toArray, List.set_cons_zero, List.set_cons_succ])
        refine wpAnyH_ready (rs := [8]) (by kernel_rfl) (by simp) ?_; refine AllReadyH.cons (o := ⟨none, _, _, _, _, _⟩) rfl (fun K hK => ?_) AllReadyH.nil; go_simp
        obtain ⟨W9, hW9⟩ : ∃ W : World, W = ((w4.setCell ⟨w.heap.size + 1, 0, none⟩ (.slice (some ⟨wr.heap.size, 0, none⟩) m m)).setCell ⟨w.heap.size + 1, 1, none⟩ (.slice (some ⟨w3.heap.size, 0, none⟩) k k)).setCell ⟨w.heap.size + 1, 2, none⟩ (.slice (some ⟨w1.heap.size, 0, none⟩) k k) := ⟨_, rfl⟩
        have hs9 : W9.heap.size = w4.heap.size := by rw [hW9]; simp [World.setCell]
        have X9 := Lib.hid (show Bx3 _ _ _ _ W9 from by rw [hW9]; exact X4.out.set0.set1.set2)
        have q9 : W9.cell? ⟨w.heap.size, 0, none⟩ = some (.slice A k c) := by
          rw [hW9]
          exact (World.cell?_setCell_other _ _ _ _ (by simp)).trans ((World.cell?_setCell_other _ _ _ _ (by simp)).trans ((World.cell?_setCell_other _ _ _ _ (by simp)).trans q5))
        have hL9 : OwL (w.heap.size + 1 + 1) w4.heap.size (some ⟨wr.heap.size, 0, none⟩) m m (some ⟨w3.heap.size, 0, none⟩) k k (some ⟨w1.heap.size, 0, none⟩) k k (lazyOfL gs xs) W9 := by
          rw [hW9]
          exact ((HL.out.setCell (a := ⟨w.heap.size + 1, 0, none⟩) (by simp) _).setCell (a := ⟨w.heap.size + 1, 1, none⟩) (by simp) _).setCell (a := ⟨w.heap.size + 1, 2, none⟩) (by simp) _
        have hB9 : Below w.heap.size w W9 := by
          rw [hW9]
          exact ((HBT.out.setCell (by simp) _).setCell (by simp) _).setCell (by simp) _
        rw [← hW9]
        have HL9 := Lib.hid hL9
        have HB9 := Lib.hid hB9
        have HS9 := Lib.hid hs9
        clear hW9 hL9 hB9 hs9 k0 k1 k2 g0 g1 g2 X4 HL HBT
        refine hK.out _ _ q9 (fun hHeld => ?_); clear hK K; (try simp only [Act.put, List.setIfInBounds_toArray, List.set_cons_zero, List.set_cons_succ])
        have k0 := X9.out.c0
        have k1 := X9.out.c1
        have k2 := X9.out.c2
        refine wpAnyH_done (by kernel_rfl) ?_ _
        go_wp2
        refine bodyPost_ret (v := .agg #[.slice (some ⟨wr.heap.size, 0, none⟩) m m, .slice (some ⟨w3.heap.size, 0, none⟩) k k, .slice (some ⟨w1.heap.size, 0, none⟩) k k]) (by simp [results, Try.results5, go_sem, k0, k1, k2]) rfl ?_
        refine ⟨_, _, _, _, _, _, _, _, _, rfl, ?_, HB9.out⟩
        rw [HS9.out]
        exact HL9.out.mono (by omega) (Nat.le_refl _)
      · go_simp
        clear hmkB
        have q4 := (HBB.out.cell (p := ⟨w.heap.size, 0, none⟩) (by show w.heap.size < wr.heap.size; omega)).trans q3
        refine hK.out _ _ q4 (fun hHeld => ?_); clear hK K; (try simp only [Act.put, List.setIfInBounds_toArray, List.set_cons_zero, List.set_cons_succ])
        have hs3 := HBB.out.size
        have hwB : w.heap.size ≤ wB.heap.size := by omega
        have HI4 : Hid (IS wB w.heap.size A' xs) := HI1.out.below (HB.out.trans (HBB.out.mono hwr)) (by omega)
        refine wpAnyH_ready (rs := [1]) (by kernel_rfl) (by simp) ?_; refine AllReadyH.cons (o := ⟨some 33, _, _, _, _, _⟩) rfl (fun K hK => ?_) AllReadyH.nil; go_simp
        go_at_call 16
        refine (HCP.out wB hwB HI4.out).mono ?_
        rintro e w4 ⟨rfl, ho4, hb4⟩
        have hs4 := hb4.size
        have q5 := (hb4.cell (p := ⟨w.heap.size, 0, none⟩) (by show w.heap.size < wB.heap.size; omega)).trans q4
        have hbT : Below wr.heap.size wr w4 := HBB.out.trans (hb4.mono hs3)
        have hszT : wr.heap.size ≤ w4.heap.size := hbT.size
        have hltB : wr.heap.size < wB.heap.size := (HOB.out.lt _ rfl).2
        have hlt4 : wB.heap.size < w4.heap.size := (ho4.lt _ rfl).2
        have rV : OwR (w.heap.size + 1 + 1) w4.heap.size 3 1 (.slice (some ⟨wB.heap.size, 0, none⟩) m m) m (xs.map (Value.int .i64)) w4 := ⟨own_mono ho4 (by omega), fun q hq => by cases hq; exact hlt4⟩
        have rE : OwR (w.heap.size + 1 + 1) w4.heap.size 26 1 (.slice (some ⟨wr.heap.size, 0, none⟩) k k) k (List.replicate k (.slice none 0 0)) w4 := ⟨own_mono (own_below HOB.out hb4) (by omega), fun q hq => by cases hq; exact Nat.lt_of_lt_of_le hltB hs4⟩
        have rC : OwR (w.heap.size + 1 + 1) w4.heap.size 3 1 (.slice (some ⟨w1.heap.size, 0, none⟩) k k) k (colC gs k k) w4 := ⟨own_mono (own_below HO.out hbT) (by omega), fun q hq => by cases hq; exact Nat.lt_of_lt_of_le hw1r hszT⟩
        clear ho4 hb4 hltB hlt4 HOB
        have HL := Lib.hid (lazy_parts HN.out HM.out rV rE rC (by omega))
        have X4 := Lib.hid (X3.out.step hbT (by omega))
        have k0 := X4.out.c0
        have k1 := X4.out.c1
        have k2 := X4.out.c2
        have g0 := X4.out.f 0
        have g1 := X4.out.f 1
        have g2 := X4.out.f 2
        have HBT := Lib.hid (HB1.out.trans ((HB.out.trans (hbT.mono hwr)).mono (by omega)))
        clear rV rE rC hbT X3 HO
        refine hK.out _ _ q5 (fun hHeld => ?_); clear hK K; (try simp only [Act.put, List.setIfInBounds_toArray, List.set_cons_zero, List.set_cons_succ])
        refine wpAnyH_take (i := 7) (oi := ⟨some 39, _, _, _, _, _⟩) (v := ?_) rfl (by kernel_rfl) (by kernel_rfl) (by kernel_rfl) (fun _ _ _ h => h) (Or.inl ⟨by rfl, ?_⟩) (by assumption) ?_; rotate_left; (focus (intro w hSw; (try dsimp only at hSw); go_simp; (try with_reducible rfl))); (try simp only [Act.put, List.setIfInBounds_toArray, List.set_cons_zero, List.set_cons_succ])
        refine wpAnyH_ready (rs := [8]) (by kernel_rfl) (by simp) ?_; refine AllReadyH.cons (o := ⟨none, _, _, _, _, _⟩) rfl (fun K hK => ?_) AllReadyH.nil; go_simp
        obtain ⟨W9, hW9⟩ : ∃ W : World, W = ((w4.setCell ⟨w.heap.size + 1, 0, none⟩ (.slice (some ⟨wB.heap.size, 0, none⟩) m m)).setCell ⟨w.heap.size + 1, 1, none⟩ (.slice (some ⟨wr.heap.size, 0, none⟩) k k)).setCell ⟨w.heap.size + 1, 2, none⟩ (.slice (some ⟨w1.heap.size, 0, none⟩) k k) := ⟨_, rfl⟩
        have hs9 : W9.heap.size = w4.heap.size := by rw [hW9]; simp [World.setCell]
        have X9 := Lib.hid (show Bx3 _ _ _ _ W9 from by rw [hW9]; exact X4.out.set0.set1.set2)
        have q9 : W9.cell? ⟨w.heap.size, 0, none⟩ = some (.slice A k c) := by
          rw [hW9]
          exact (World.cell?_setCell_other _ _ _ _ (by simp)).trans ((World.cell?_setCell_other _ _ _ _ (by simp)).trans ((World.cell?_setCell_other _ _ _ _ (by simp)).trans q5))
        have hL9 : OwL (w.heap.size + 1 + 1) w4.heap.size (some ⟨wB.heap.size, 0, none⟩) m m (some ⟨wr.heap.size, 0, none⟩) k k (some ⟨w1.heap.size, 0, none⟩) k k (lazyOfL gs xs) W9 := by
          rw [hW9]
          exact ((HL.out.setCell (a := ⟨w.heap.size + 1, 0, none⟩) (by simp) _).setCell (a := ⟨w.heap.size + 1, 1, none⟩) (by simp) _).setCell (a := ⟨w.heap.size + 1, 2, none⟩) (by simp) _
        have hB9 : Below w.heap.size w W9 := by
          rw [hW9]
          exact ((HBT.out.setCell (by simp) _).setCell (by simp) _).setCell (by simp) _
        rw [← hW9]
        have HL9 := Lib.hid hL9
        have HB9 := Lib.hid hB9
        have HS9 := Lib.hid hs9
        clear hW9 hL9 hB9 hs9 k0 k1 k2 g0 g1 g2 X4 HL HBT
        refine hK.out _ _ q9 (fun hHeld => ?_); clear hK K; (try simp only [Act.put, List.setIfInBounds_toArray, List.set_cons_zero, List.set_cons_succ])
        have k0 := X9.out.c0
        have k1 := X9.out.c1
        have k2 := X9.out.c2
        refine wpAnyH_done (by kernel_rfl) ?_ _
        go_wp2
        refine bodyPost_ret (v := .agg #[.slice (some ⟨wB.heap.size, 0, none⟩) m m, .slice (some ⟨wr.heap.size, 0, none⟩) k k, .slice (some ⟨w1.heap.size, 0, none⟩) k k]) (by simp [results, Try.results5, go_sem, k0, k1, k2]) rfl ?_
        refine ⟨_, _, _, _, _, _, _, _, _, rfl, ?_, HB9.out⟩
        rw [HS9.out]
        exact HL9.out.mono (by omega) (Nat.le_refl _)
end Go.Proofs.Ytbnioefhfpahcaa
