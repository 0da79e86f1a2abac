/- The contract of linksOf. -/
import Derived.Test.YtcfiondggnbnoaaS3
import Derived.Test.YtcfiondggnbnoaaN2

namespace Go.Proofs.Ytcfiondggnbnoaa
set_option linter.unusedSimpArgs false
set_option linter.unusedVariables false
open Go.RowKit Go.Maps

theorem row_head2 {w : World} {base n size : Nat} {e : TypeId} {v : Value} {xs : List Value} (h : w.ownsRow base e size v n xs) (hn : 0 < n) : ∃ g cap, v = .slice (some ⟨g, 0, none⟩) n cap := by
  rcases h.2 with ⟨hv, h0⟩ | ⟨g, cap, cur, hv, _⟩
  · omega
  · exact ⟨g, cap, hv⟩
theorem int_ne_ptr : (3 : TypeId) ≠ 50 := by decide
theorem int_ne_link : (3 : TypeId) ≠ 49 := by decide

theorem LkW.map {lo b : Nat} {lb : List Nat} {R : Nat → List Nat} {V : List Value} {w w' : World} (h : LkW lo lb R V w) (hg : w.grownBy w' (some b)) (hb : b < lo) : LkW lo lb R V w' := by
  have hk : ∀ q, lo ≤ q → q < w.heap.size → w'.heap[q]? = w.heap[q]? := fun q h1 h2 => hg.block q h2 (by simp; omega)
  refine ⟨h.vl, fun j g hj => ?_, h.up, (h.rows.keep fun q h1 h2 => hk q h1 h2).mono (Nat.le_refl _) hg.size, h.small⟩
  obtain ⟨h1, h2, h3⟩ := h.bx j g hj
  have e := hk g h3 h1.lt
  exact ⟨h1.keepE e hg.size, h2.keep e, h3⟩

set_option maxRecDepth 100000 in
set_option maxHeartbeats 3200000 in
theorem impl_linksOf (A : Option Addr) (n c : Nat) (gs : List Nd) (w : World) (B : Nat) (hB : B ≤ w.heap.size) (hn : n = gs.length) (h : GS w B A gs) (hv : validG gs = true) (hG : GB gs) :
    Calls Try.prog 32 #[.agg #[.slice A n c]] w fun e w' => ∃ lb, e = .returned (.map (some (w.heap.size + 1))) ∧ lb.length = n ∧ LkS w'.heap.size lb (linkR gs n) w' ∧ MpI w' (w.heap.size + 1) n (fun j => lb[j]?) ∧ Below w.heap.size w w' := by
  obtain ⟨i1, hi, hz0, hz1, hz2⟩ := info_parts info_link
  have hmm := @run_makeMap Try.prog
  have hn10 : n ≤ 10 := by have := (validG_parts gs hv).1; omega
  have H := Lib.hid h
  have HN := Lib.hid hn
  have HV := Lib.hid hv
  have HS := Lib.hid hG
  clear h hn hv hG
  go_enter Try.func32, Try.ntmps32
  go_wp2
  obtain ⟨w1, hw1⟩ : ∃ w1, w1 = (w.alloc (.cells #[.slice A n c] 30)).alloc (.map #[] 0) := ⟨_, rfl⟩
  have hz1w : w1.heap.size = w.heap.size + 2 := by rw [hw1]; simp
  have hMP1 : MpI w1 (w.heap.size + 1) 0 (fun _ => none) := by
    rw [hw1]
    have := MpI.made (w.alloc (.cells #[.slice A n c] 30))
    simpa using this
  have hb1 : Below w.heap.size w w1 := by rw [hw1]; exact ((Below.refl _ _).alloc (Nat.le_refl _) _).alloc (by simp) _
  have MP1 := Lib.hid hMP1
  have HB1 := Lib.hid hb1
  rw [← hw1]
  clear hw1 hMP1 hb1 hmm
  have HZ1 := Lib.hid hz1w
  have hz1g : w.heap.size + 2 ≤ w1.heap.size := by omega
  have HL0 : Hid (LkW (w.heap.size + 2) [] (linkR gs 0) [] w1) := by
    refine ⟨rfl, fun j g hj => by simp at hj, List.Pairwise.nil, ⟨fun j hj => by simp at hj, fun i j v u k _ hi => by simp at hi⟩, fun k q hq => ?_⟩
    unfold linkR at hq
    split at hq
    · rw [if_neg (by omega)] at hq; simp at hq
    · simp [usN] at hq
  clear hz1w
  go_loopw [14] (fun u wr => ∃ (k : Nat) (lb : List Nat) (V : List Value), k ≤ n ∧ u = .int .i64 k ∧ lb.length = k ∧ Hid (LkW (w.heap.size + 2) lb (linkR gs k) V wr) ∧ Hid (MpI wr (w.heap.size + 1) k (fun j => lb[j]?)) ∧ Hid (Below w.heap.size w wr) ∧ w.heap.size + 2 ≤ wr.heap.size) (fun u _ => n - (intOf u).toNat)
  case atStart => exact ⟨0, [], [], Nat.zero_le _, rfl, rfl, HL0.out, MP1.out, HB1.out, hz1g⟩
  case round =>
    obtain ⟨wo, rfl⟩ : ∃ wo : World, wo = wr := ⟨_, rfl⟩
    obtain ⟨k, lb, V, hk, rfl, hlb, HL, MP, HB, hwr⟩ := hrel
    by_cases hlt : k < n
    · have hkg : k < gs.length := by have := HN.out; omega
      have HGR := Lib.hid (H.out.below HB.out hB)
      obtain ⟨b, off, rfl, hbB, e0, A1, n1, c1, e1, hn1', hps⟩ := HGR.out.at_ k hkg
      have hbw : b < wo.heap.size := by omega
      have hx := HS.out.2 k
      have hmf := mayF_valid gs k HV.out hkg
      have hlm := mayR_len (gs.getD k default).ps 10
      rw [mayR_below] at hlm
      have HPS := Lib.hid (hps.more (B' := wo.heap.size) (by omega))
      have hrd : rdsN gs k = (mayR (gs.getD k default).ps).map Int.toNat := rfl
      have HRD := Lib.hid hrd
      have HAH := Lib.hid (mayR_ahead gs k HV.out hkg)
      have HLB := Lib.hid hlb
      have hnew := linkR_new gs HV.out k (by omega)
      clear hrd hps
      generalize gs.getD k default = d at *
      have HMR := Lib.hid fun (w' : World) (hB : wo.heap.size ≤ w'.heap.size) (h : PS w' wo.heap.size A1 d.ps) => impl_MayRead A1 n1 c1 d.ps w' wo.heap.size hB hn1' h (by omega)
      rw [hmf] at HMR
      generalize mayR d.ps = L at *
      generalize hl : L.length = l at *
      have HLn := Lib.hid hl
      obtain ⟨W, hW⟩ : ∃ W, W = wo.alloc (.cells #[.int .i64 d.k, .slice A1 n1 c1] 62) := ⟨_, rfl⟩
      have hWb : Below wo.heap.size wo W := by rw [hW]; exact (Below.refl _ _).alloc (Nat.le_refl _) _
      have hWz : W.heap.size = wo.heap.size + 1 := by rw [hW]; simp
      have HLW := Lib.hid (HL.out.step hWb)
      have HLN : Hid (LkW (w.heap.size + 2) (lb ++ [wo.heap.size + 1]) (linkR gs k) (V ++ [.slice none 0 0, .slice none 0 0]) (W.alloc (.cells #[.int .i64 k, .slice none 0 0, .slice none 0 0] 49))) := by
        have := HLW.out.new (by omega) (by rw [hlb]; exact hnew.1) (by rw [hlb]; exact hnew.2)
        rw [hlb, hWz] at this
        exact this
      have MPW := Lib.hid ((MP.out.step hWb).alloc (.cells #[.int .i64 k, .slice none 0 0, .slice none 0 0] 49))
      have HBW := Lib.hid ((HB.out.trans (hWb.mono (by omega))).alloc (by omega) (.cells #[.int .i64 k, .slice none 0 0, .slice none 0 0] 49))
      have HPW := Lib.hid ((HPS.out.below hWb (Nat.le_refl _)).alloc (by omega) (.cells #[.int .i64 k, .slice none 0 0, .slice none 0 0] 49))
      rw [hW] at HLN MPW HBW HPW
      clear hmf hl hn1' hx hW hWb hWz HLW HPS HGR hnew
      go_wp2_with fail
      refine (HMR.out _ (by simp; omega) HPW.out).mono ?_
      rintro e w3 ⟨v3, rfl, ho3, hb3⟩
      obtain ⟨A3, c3, rfl, hI3⟩ := OwnI.at_ ho3 HLn.out
      unfold OwnI at ho3
      rw [HLn.out] at ho3
      have hz3 : wo.heap.size + 1 + 1 ≤ w3.heap.size := by have := hb3.size; simpa using this
      have HL3 := Lib.hid (HLN.out.step hb3)
      have MP3 := Lib.hid (MPW.out.step hb3)
      have HB3 := Lib.hid (HBW.out.trans (hb3.mono (by simp; omega)))
      have HO3 := Lib.hid (own_mono (base' := w.heap.size) ho3 (by simp; omega))
      clear ho3 hb3 hI3 HLN MPW HBW HPW e0 e1
      have HLI : Hid (LkW (w.heap.size + 2) (lb ++ [wo.heap.size + 1]) (lkR gs k 0) (V ++ [.slice none 0 0, .slice none 0 0]) w3) := by rw [lkR_zero]; exact HL3.out
      clear HL3
      go_wp2
      go_loopw [26] (fun u wi => ∃ (j : Nat) (V : List Value), j ≤ l ∧ u = .int .i64 j ∧ Hid (LkW (w.heap.size + 2) (lb ++ [wo.heap.size + 1]) (lkR gs k j) V wi) ∧ Hid (MpI wi (w.heap.size + 1) k (fun j => lb[j]?)) ∧ Hid (wi.ownsRow w.heap.size 3 1 (.slice A3 l c3) l (L.map (Value.int .i64))) ∧ Hid (Below w.heap.size w wi) ∧ w3.heap.size ≤ wi.heap.size) (fun u _ => l - (intOf u).toNat)
      case atStart => exact ⟨0, _, Nat.zero_le _, rfl, HLI.out, MP3.out, HO3.out, HB3.out, Nat.le_refl _⟩
      case round =>
        obtain ⟨j, V, hj, rfl, HLJ, MPJ, HOJ, HBJ, hwi⟩ := hrel
        by_cases hjl : j < l
        · have hjL : j < L.length := by have := HLn.out; omega
          obtain ⟨g3, c3', hA3⟩ := row_head2 HOJ.out (by omega)
          simp only [Value.slice.injEq] at hA3
          obtain ⟨rfl, -, rfl⟩ := hA3
          have hx := HOJ.out.cellAt j (by omega)
          rw [List.getElem?_map, List.getElem?_eq_getElem hjL, Option.map_some] at hx
          have hmem : L[j] ∈ L := List.getElem_mem hjL
          obtain ⟨ht0, htk⟩ := HAH.out _ hmem
          obtain ⟨t, htx⟩ : ∃ t : Nat, L[j] = (t : Int) := ⟨L[j].toNat, by omega⟩
          have hqt : (rdsN gs k)[j]? = some t := by
            rw [HRD.out, List.getElem?_map, List.getElem?_eq_getElem hjL, htx]; rfl
          rw [htx] at hx ht0 htk
          have HST := Lib.hid (lkR_step gs HV.out k hkg j t hqt)
          have htl : t < k := by omega
          have hbl : t < lb.length := by have := HLB.out; omega
          obtain ⟨gt, hgt⟩ : ∃ gt, lb[t]? = some gt := ⟨_, List.getElem?_eq_getElem hbl⟩
          have hlook : (Instr.lookup 51 (.map (some (w.heap.size + 1))) (.int .i64 t) false).run Try.prog wr = .ok (.pointer (some ⟨gt, 0, none⟩)) wr := by
            have h := MPJ.out.look t (by omega)
            rw [hgt] at h
            exact h
          have hgt2 : (lb ++ [wo.heap.size + 1])[t]? = some gt := by rw [List.getElem?_append_left hbl]; exact hgt
          have hgk2 : (lb ++ [wo.heap.size + 1])[k]? = some (wo.heap.size + 1) := by rw [List.getElem?_append_right (by have := HLB.out; omega), HLB.out, Nat.sub_self]; rfl
          have hll : (lb ++ [wo.heap.size + 1]).length = k + 1 := by rw [List.length_append, HLB.out]; rfl
          have HLL := Lib.hid hll
          have HGT2 := Lib.hid hgt2
          have HGK2 := Lib.hid hgk2
          obtain ⟨A5, c5, hX5, hX5', hr5⟩ := HLJ.out.row (K := 2 * k) (by rw [hll]; omega)
          have hbk := (HLJ.out.bx k _ hgk2).1
          rw [hX5'] at hbk
          have k1 := hbk.c 1 _ rfl
          have HX5 := Lib.hid hX5
          have HR5 := Lib.hid hr5
          have hrl : (lkR gs k j (2 * k)).length ≤ 10 := by
            rw [lkR_even, if_neg (by omega), if_pos rfl, HRD.out, List.length_take, List.length_map]
            have := HLn.out; omega
          clear hX5 hX5' hr5 hbk hgt hgt2 hgk2 hll hmem htx hqt
          generalize hml : (lkR gs k j (2 * k)).length = m5 at *
          have HML := Lib.hid hml
          have hgbig : w.heap.size + 2 ≤ gt := by have := (HLJ.out.bx t gt HGT2.out).2.2; omega
          clear hml
          go_wp2_with (at_builtin; refine wpList_append_own_at _ rfl _ _ 47 rfl (w.heap.size + 2) 50 i1 (.pointer none) 1 8 Try.underlying47 hi hz0 hz1 hz2 rfl (by decide) _ _ _ rfl (HR5.out.alloc _) ⟨_, 0, none⟩ 1 1 [.pointer (some ⟨gt, 0, none⟩)] rfl rfl (cell_one_new _ _ _) ?c2 ?c3 ?c4 ?c5 ?_)
          case c2 => first | rfl | (intro u hu; simp at hu; subst hu; rfl)
          case c3 => unfold maxLen; omega
          case c4 => omega
          case c5 => first | omega | (simp; omega)
          intro v' w5 hown' hgrow _ hat
          obtain ⟨g5, c5', rfl⟩ := row_head2 hown' (by omega)
          have hsz : (wr.alloc (.cells #[.pointer (some ⟨gt, 0, none⟩)] 50)).heap.size = wr.heap.size + 1 := by simp
          have hmid := HLJ.out.mid HX5.out hgrow
          have m1 := (hmid k _ HGK2.out).1
          have n1' := m1.c 1 _ (show _ = some _ from rfl)
          have f1' := m1.f 1
          have HAPP := Lib.hid (HLJ.out.app (fld := 0) (K := 2 * k) (q := t) HGK2.out (by omega) (by omega) HGT2.out HX5.out hown' (by have := HML.out; omega) hgrow (by rcases hat with h | h; exact .inl h; exact .inr (by rw [hsz]; exact h)))
          have hpos := hown'.lt g5 rfl
          have hrow5 := (HR5.out.alloc (.cells #[.pointer (some ⟨gt, 0, none⟩)] 50)).lt
          have MP5 := Lib.hid (((MPJ.out.alloc (.cells #[.pointer (some ⟨gt, 0, none⟩)] 50)).grown hgrow (fun e => by have := (hrow5 _ e.symm).1; omega)).setCell ⟨wo.heap.size + 1, 1 + 0, none⟩ (by show w.heap.size + 1 ≠ wo.heap.size + 1; omega) (.slice (some ⟨g5, 0, none⟩) (m5 + 1) c5'))
          have HB5 : Hid (Below w.heap.size w (w5.setCell ⟨wo.heap.size + 1, 1 + 0, none⟩ (.slice (some ⟨g5, 0, none⟩) (m5 + 1) c5'))) := ((HBJ.out.alloc HBJ.out.size (.cells #[.pointer (some ⟨gt, 0, none⟩)] 50)).grown hgrow (by omega) (fun q hq => by have := (hrow5 q hq).1; omega)).setCell (by show w.heap.size ≤ wo.heap.size + 1; omega) _
          have HO5 := Lib.hid (own_setT ((HOJ.out.alloc (.cells #[.pointer (some ⟨gt, 0, none⟩)] 50)).kept hgrow (blocks_ne (HOJ.out.alloc (.cells #[.pointer (some ⟨gt, 0, none⟩)] 50)) (HR5.out.alloc (.cells #[.pointer (some ⟨gt, 0, none⟩)] 50)) int_ne_ptr)) (hmid k _ HGK2.out).2 int_ne_link (1 + 0) none (.slice (some ⟨g5, 0, none⟩) (m5 + 1) c5'))
          have hzz : wr.heap.size + 1 ≤ w5.heap.size := by have := hgrow.size; omega
          clear hown' hgrow hat hmid m1 hrow5 hpos
          go_upto_region 11 with fail
          obtain ⟨w6, hw6⟩ : ∃ w6, w6 = w5.setCell ⟨wo.heap.size + 1, 1, none⟩ (.slice (some ⟨g5, 0, none⟩) (m5 + 1) c5') := ⟨_, rfl⟩
          have e6 : w5.setCell ⟨wo.heap.size + 1, 1 + 0, none⟩ (.slice (some ⟨g5, 0, none⟩) (m5 + 1) c5') = w6 := hw6.symm
          rw [← hw6]
          rw [e6] at HAPP MP5 HB5 HO5
          have hz6 : wr.heap.size + 1 ≤ w6.heap.size := by rw [hw6]; simpa [World.setCell] using hzz
          have HLJ6 := Lib.hid HAPP.out
          obtain ⟨A8, c8, hX8, hX8', hr8⟩ := HLJ6.out.row (K := 2 * t + 1) (by have := HLL.out; omega)
          have hbt := (HLJ6.out.bx t _ HGT2.out).1
          rw [hX8'] at hbt
          have k8 := hbt.c 2 _ rfl
          have HX8 := Lib.hid hX8
          have HR8 := Lib.hid hr8
          have hrl8 : ((fun K => if K = 2 * k then lkR gs k j (2 * k) ++ [t] else lkR gs k j K) (2 * t + 1)).length ≤ 10 := by
            dsimp only
            rw [if_neg (by omega), lkR_odd, List.length_append]
            have h1 : (usN gs k t).length ≤ k := by unfold usN; have := List.length_filter_le (fun u => decide ((t : Int) ∈ mayR (gs.getD u default).ps)) (List.range k); simpa using this
            split
            · simp; omega
            · simp; omega
          clear hX8 hX8' hr8 hbt hw6 e6 HAPP
          generalize hml8 : ((fun K => if K = 2 * k then lkR gs k j (2 * k) ++ [t] else lkR gs k j K) (2 * t + 1)).length = m8 at *
          have HML8 := Lib.hid hml8
          clear hml8
          clear n1' f1' hx hlook k1
          go_wp2_with (at_builtin; refine wpList_append_own_at _ rfl _ _ 47 rfl (w.heap.size + 2) 50 i1 (.pointer none) 1 8 Try.underlying47 hi hz0 hz1 hz2 rfl (by decide) _ _ _ rfl (HR8.out.alloc _) ⟨_, 0, none⟩ 1 1 [.pointer (some ⟨wo.heap.size + 1, 0, none⟩)] rfl rfl (cell_one_new _ _ _) ?c2 ?c3 ?c4 ?c5 ?_)
          case c2 => first | rfl | (intro u hu; simp at hu; subst hu; rfl)
          case c3 => unfold maxLen; omega
          case c4 => omega
          case c5 => first | omega | (simp; omega)
          intro v' w7 hown' hgrow _ hat
          obtain ⟨g7, c7', rfl⟩ := row_head2 hown' (by omega)
          have hsz : (w6.alloc (.cells #[.pointer (some ⟨wo.heap.size + 1, 0, none⟩)] 50)).heap.size = w6.heap.size + 1 := by simp
          have hmid := HLJ6.out.mid HX8.out hgrow
          have m1 := (hmid t _ HGT2.out).1
          have n2' := m1.c 2 _ (show _ = some _ from rfl)
          have f2' := m1.f 2
          have HAPP := Lib.hid (HLJ6.out.app (fld := 1) (K := 2 * t + 1) (q := k) (m' := m8 + 1) (c' := c7') (A' := some ⟨g7, 0, none⟩) HGT2.out (by omega) (by omega) HGK2.out HX8.out (by have e : (if 2 * t + 1 = 2 * k then lkR gs k j (2 * k) ++ [t] else lkR gs k j (2 * t + 1)) = lkR gs k j (2 * t + 1) := if_neg (by omega); first | exact hown' | (rw [e]; exact hown') | (show World.ownsRow _ _ _ _ _ _ (ptrs _ (if 2 * t + 1 = 2 * k then lkR gs k j (2 * k) ++ [t] else lkR gs k j (2 * t + 1)) ++ _); rw [e]; exact hown')) (congrArg (· + 1) HML8.out.symm) hgrow (by rcases hat with h | h; exact .inl h; exact .inr (by rw [hsz]; exact h)))
          have hpos := hown'.lt g7 rfl
          have hrow8 := (HR8.out.alloc (.cells #[.pointer (some ⟨wo.heap.size + 1, 0, none⟩)] 50)).lt
          have MP7 := Lib.hid (((MP5.out.alloc (.cells #[.pointer (some ⟨wo.heap.size + 1, 0, none⟩)] 50)).grown hgrow (fun e => by have := (hrow8 _ e.symm).1; omega)).setCell ⟨gt, 1 + 1, none⟩ (by show w.heap.size + 1 ≠ gt; omega) (.slice (some ⟨g7, 0, none⟩) (m8 + 1) c7'))
          have HB7 : Hid (Below w.heap.size w (w7.setCell ⟨gt, 1 + 1, none⟩ (.slice (some ⟨g7, 0, none⟩) (m8 + 1) c7'))) := ((HB5.out.alloc HB5.out.size (.cells #[.pointer (some ⟨wo.heap.size + 1, 0, none⟩)] 50)).grown hgrow (by omega) (fun q hq => by have := (hrow8 q hq).1; omega)).setCell (by show w.heap.size ≤ gt; omega) _
          have HO7 := Lib.hid (own_setT ((HO5.out.alloc (.cells #[.pointer (some ⟨wo.heap.size + 1, 0, none⟩)] 50)).kept hgrow (blocks_ne (HO5.out.alloc (.cells #[.pointer (some ⟨wo.heap.size + 1, 0, none⟩)] 50)) (HR8.out.alloc (.cells #[.pointer (some ⟨wo.heap.size + 1, 0, none⟩)] 50)) int_ne_ptr)) (hmid t _ HGT2.out).2 int_ne_link (1 + 1) none (.slice (some ⟨g7, 0, none⟩) (m8 + 1) c7'))
          have hzz7 : w6.heap.size + 1 ≤ w7.heap.size := by have := hgrow.size; omega
          clear hown' hgrow hat hmid m1 hrow8 hpos
          go_wp2
          go_roundw
          case rel => exact ⟨j + 1, _, by omega, by go_num, by rw [HST.out]; exact HAPP.out, MP7.out, HO7.out, HB7.out, by simp [World.setCell]; omega⟩
          case measure => simp [intOf]; omega
        · obtain rfl : j = l := by omega
          have hrl : (rdsN gs k).length = j := by rw [HRD.out, List.length_map, HLn.out]
          have HLA : Hid (LkW (w.heap.size + 2) (lb ++ [wo.heap.size + 1]) (linkR gs (k + 1)) V wr) := by rw [← lkR_all gs HV.out k hkg j hrl]; exact HLJ.out
          go_wp2_with (at_mapUpdate; refine wpList_store_ptr _ rfl _ _ _ rfl (w.heap.size + 1) k _ rfl MPJ.out (by unfold maxLen; omega) k (wo.heap.size + 1) (by omega) rfl rfl ?_)
          intro w9 hmp9 hgrow9
          have hb9 : Below (w.heap.size + 2) wr w9 → True := fun _ => trivial
          have HL9 : Hid (LkW (w.heap.size + 2) (lb ++ [wo.heap.size + 1]) (linkR gs (k + 1)) V w9) := HLA.out.map hgrow9 (by omega)
          have HB9 : Hid (Below w.heap.size w w9) := HBJ.out.grown hgrow9 (by omega) (fun q hq => by simp at hq; omega)
          have MP9 : Hid (MpI w9 (w.heap.size + 1) (k + 1) fun j => (lb ++ [wo.heap.size + 1])[j]?) := by
            have e : (fun j => if j = k then some (wo.heap.size + 1) else lb[j]?) = fun j => (lb ++ [wo.heap.size + 1])[j]? := by
              funext i
              by_cases h : i = k
              · rw [if_pos h, h, ← HLB.out, List.getElem?_append_right (Nat.le_refl _), Nat.sub_self]; rfl
              · rw [if_neg h]
                rcases Nat.lt_or_ge i lb.length with h1 | h1
                · rw [List.getElem?_append_left h1]
                · rw [List.getElem?_eq_none h1, List.getElem?_eq_none (by have := HLB.out; simp; omega)]
            rw [← e]; exact hmp9
          have hz9 := hgrow9.size
          clear hmp9 hgrow9
          go_wp2
          go_roundw
          case rel => exact ⟨k + 1, _, V, by omega, by go_num, by rw [List.length_append, HLB.out]; rfl, HL9.out, MP9.out, HB9.out, by omega⟩
          case measure => simp [intOf]; omega
    · obtain rfl : k = n := by omega
      go_wp2
      go_ret
      exact ⟨lb, rfl, hlb, HL.out.read, MP.out, HB.out⟩
end Go.Proofs.Ytcfiondggnbnoaa
