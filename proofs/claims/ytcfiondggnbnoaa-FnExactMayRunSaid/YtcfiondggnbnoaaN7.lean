/- The model's users and reach. -/
import Derived.Test.YtcfiondggnbnoaaS7
import Derived.Test.YtcfiondggnbnoaaN6

namespace Go.Proofs.Ytcfiondggnbnoaa
set_option linter.unusedSimpArgs false
set_option linter.unusedVariables false
open Go.RowKit

def usI (gs : List Nd) (k t : Nat) : List Int := (usN gs k t).map fun u : Nat => (u : Int)
theorem usI_succ (gs : List Nd) (k t : Nat) : usI gs (k + 1) t = usI gs k t ++ (if (t : Int) ∈ mayR (gs.getD k default).ps then [(k : Int)] else []) := by
  unfold usI
  rw [usN_succ, List.map_append]
  congr 1
  split <;> rfl
theorem usI_len (gs : List Nd) (k t : Nat) : (usI gs k t).length ≤ k := by unfold usI; rw [List.length_map]; exact usN_len gs k t
theorem usI_start (gs : List Nd) (hv : validG gs = true) (t : Nat) (ht : t < gs.length) : usI gs (t + 1) t = [] := by
  unfold usI
  rw [List.map_eq_nil_iff]
  unfold usN
  rw [List.filter_eq_nil_iff]
  intro u hu hc
  have h1 : u ∈ usN gs (t + 1) t := List.mem_filter.2 ⟨hu, hc⟩
  have := usN_gt gs hv (t + 1) t u (by omega) h1
  have := List.mem_range.1 hu
  omega

set_option maxRecDepth 100000 in
set_option maxHeartbeats 1600000 in
theorem spec_users (A : Option Addr) (n c : Nat) (gs : List Nd) (t : Nat) (w : World) (B : Nat) (hB : B ≤ w.heap.size) (hn : n = gs.length) (h : GS w B A gs) (hv : validG gs = true) (hG : GB gs) (ht : t < n) :
    Calls Try.prog 29 #[.agg #[.slice A n c], .int .i64 t] w fun e w' => RetI w (usI gs n t) e w' := by
  obtain ⟨i0, hi, hz0, hz1, hz2⟩ := info_parts info_int
  have hn10 : n ≤ 10 := by have := (validG_parts gs hv).1; omega
  have hs0 := usI_start gs hv t (by omega)
  have H := Lib.hid h
  have HN := Lib.hid hn
  have HV := Lib.hid hv
  have HS := Lib.hid hG
  have HS0 := Lib.hid hs0
  clear h hn hv hG hs0
  go_enter Try.func29, Try.ntmps29
  go_wp2
  go_loopw [5, 6] (fun v i wr => ∃ k : Nat, t + 1 ≤ k ∧ k ≤ n ∧ i = .int .i64 k ∧ Hid (OwnI wr (w.heap.size + 1) v (usI gs k t)) ∧ Below (w.heap.size + 1) (w.alloc (.cells #[.slice A n c] 30)) wr) (fun _ i _ => n - (intOf i).toNat)
  case atStart =>
    refine ⟨t + 1, Nat.le_refl _, by omega, by go_num, ?_, (Below.refl _ _).alloc (by simp) _⟩
    rw [HS0.out]
    have := World.ownsRow_lit (e := 3) (size := 1) (base := w.heap.size + 1) (w.alloc (.cells #[.slice A n c] 30)) #[] 0 (by simp) (by unfold maxLen; omega) rfl
    simpa [OwnI, Hid] using this
  case round =>
    obtain ⟨k, hk1, hk, rfl, HO, hbr⟩ := hrel
    have hbox : wr.cell? ⟨w.heap.size, 0, none⟩ = some (.slice A n c) := (hbr.cell (p := ⟨w.heap.size, 0, none⟩) (by simp)).trans (by go_simp)
    have hwr : w.heap.size + 1 ≤ wr.heap.size := by have := hbr.size; simpa using this
    by_cases hlt : k < n
    · have hkg : k < gs.length := by have := HN.out; omega
      obtain ⟨b, off, rfl, hbB, c0, A1, n1, c1, c2, hn1', hps⟩ := H.out.at_ k hkg
      have hx := HS.out.2 k
      have e1 : wr.cell? ⟨b, off + k * 2 + 1, none⟩ = _ := ((hbr.cell (p := ⟨b, off + k * 2 + 1, none⟩) (by simp; omega)).trans (World.cell?_alloc_lt _ _ _ (by simp; omega))).trans c2
      have HPS := Lib.hid (((hps.alloc hB (.cells #[.slice (some ⟨b, off, none⟩) n c] 30)).below hbr (by omega)).more (B' := wr.heap.size) (by omega))
      have HST := Lib.hid (usI_succ gs k t)
      have hml := usI_len gs k t
      generalize gs.getD k default = d at *
      have HMR := Lib.hid fun (w' : World) (hB : wr.heap.size ≤ w'.heap.size) (h : PS w' wr.heap.size A1 d.ps) => spec_mayRead A1 n1 c1 d.ps w' wr.heap.size hB hn1' h (by omega)
      have hlm := mayR_len d.ps 10
      rw [mayR_below] at hlm
      generalize mayR d.ps = L at *
      generalize usI gs k t = M at *
      generalize hl : L.length = l at *
      have HL := Lib.hid hl
      clear hl hn1' hx c0 c2 hps
      go_wp2_with fail
      refine (HMR.out _ (Nat.le_refl _) HPS.out).mono ?_
      rintro e w2 ⟨v2, rfl, hown2, hb2⟩
      obtain ⟨g, cL, hgv, hbg, hgw⟩ := hown2.form
      rw [HL.out] at hgv
      subst hgv
      have hIL : IS w2 w2.heap.size (some ⟨g, 0, none⟩) L := by have := hown2.1; rw [HL.out] at this; exact IS.of_own this
      have HIL := Lib.hid hIL
      have HO2 := Lib.hid (own_below HO.out hb2)
      have hbr2 := hbr.trans (hb2.mono hwr)
      have hw2 : w.heap.size + 1 ≤ w2.heap.size := by have := hb2.size; omega
      have hpl := plc_ge L (t : Int)
      clear hown2 hIL hb2
      go_wp2_with fail
      refine (spec_placeIn (some ⟨g, 0, none⟩) l cL L (t : Int) w2 w2.heap.size (Nat.le_refl _) HL.out.symm HIL.out (by omega)).mono ?_
      rintro e w3 ⟨rfl, rfl⟩
      generalize plc L (t : Int) = p at *
      by_cases hm : (t : Int) ∈ L
      · rw [decide_eq_true hm] at hpl
        have HST2 := Lib.hid (HST.out.trans (by rw [if_pos hm]))
        clear hm HST
        go_wp2_with (at_builtin; refine wpList_append_own _ rfl _ _ 26 rfl (w.heap.size + 1) 3 i0 (.int .i64 0) 1 8 Try.underlying26 hi hz0 hz1 hz2 rfl (by decide) _ _ _ rfl (HO2.out.alloc _) ⟨_, 0, none⟩ 1 1 [.int .i64 k] rfl rfl (cell_one_new _ _ _) ?c2 ?c3 ?c4 ?c5 ?_)
        case c2 => first | rfl | (intro u hu; simp at hu; subst hu; rfl)
        case c3 => unfold maxLen; omega
        case c4 => omega
        case c5 => first | omega | (simp; omega)
        intro v' w4 hown' hgrow _
        have hpos := (HO2.out.alloc (.cells #[.int .i64 k] 3)).lt
        have HO' : Hid (OwnI w4 (w.heap.size + 1) v' (usI gs (k + 1) t)) := by
          rw [HST2.out]
          simpa [OwnI, Hid] using hown'
        have HB' := Lib.hid ((hbr2.alloc hw2 (.cells #[.int .i64 k] 3)).grown hgrow (by simp; omega) (fun q hq => (hpos q hq).1))
        clear hown' hgrow hpos
        go_wp2
        go_roundw
        case rel => exact ⟨k + 1, by omega, by omega, by go_num, HO'.out, HB'.out⟩
        case measure => simp [intOf]; omega
      · rw [decide_eq_false hm] at hpl
        have HST2 := Lib.hid (HST.out.trans (by rw [if_neg hm, List.append_nil]))
        clear hm HST
        go_wp2
        go_roundw
        case rel => exact ⟨k + 1, by omega, by omega, by go_num, by rw [HST2.out]; exact HO2.out, hbr2⟩
        case measure => simp [intOf]; omega
    · obtain rfl : k = n := by omega
      go_wp2
      go_ret
      exact ⟨_, rfl, own_mono HO.out (by omega), ((Below.refl _ _).alloc (Nat.le_refl _) _).trans (hbr.mono (by omega))⟩

/-- What reach adds for the node at k. -/
def rchB (gs : List Nd) (st : List Int) (k : Nat) : Bool := decide ((k : Int) ∈ st) || (mayR (gs.getD k default).ps).any fun r => decide (r ∈ reachTo gs st k)
theorem reachTo_step (gs : List Nd) (st : List Int) (k : Nat) : reachTo gs st (k + 1) = reachTo gs st k ++ if rchB gs st k then [(k : Int)] else [] := rfl
theorem any_take (L M : List Int) (b : Bool) (j : Nat) (hj : j < L.length) : (b || (L.take (j + 1)).any fun r => decide (r ∈ M)) = ((b || (L.take j).any fun r => decide (r ∈ M)) || decide (L.getD j 0 ∈ M)) := by
  rw [List.take_succ_eq_append_getElem hj, List.any_append, Bool.or_assoc]
  simp [List.getD, hj]

set_option maxRecDepth 100000 in
set_option maxHeartbeats 1600000 in
theorem spec_reach (A A' : Option Addr) (n c m c' : Nat) (gs : List Nd) (st : List Int) (w : World) (B : Nat) (hB : B ≤ w.heap.size) (hn : n = gs.length) (hm : m = st.length) (h : GS w B A gs) (hx : IS w B A' st) (hv : validG gs = true) (hG : GB gs) (hms : m ≤ 2000000) :
    Calls Try.prog 35 #[.agg #[.slice A n c], .slice A' m c'] w fun e w' => RetI w (reachTo gs st n) e w' := by
  obtain ⟨i0, hi, hz0, hz1, hz2⟩ := info_parts info_int
  have hn10 : n ≤ 10 := by have := (validG_parts gs hv).1; omega
  have H := Lib.hid h
  have HX := Lib.hid hx
  have HN := Lib.hid hn
  have HM := Lib.hid hm
  have HV := Lib.hid hv
  have HS := Lib.hid hG
  clear h hn hv hG hx hm
  go_enter Try.func35, Try.ntmps35
  go_wp2
  go_loopw [5, 6] (fun v i wr => ∃ k : Nat, k ≤ n ∧ i = .int .i64 k ∧ Hid (OwnI wr (w.heap.size + 1) v (reachTo gs st k)) ∧ Below (w.heap.size + 1) (w.alloc (.cells #[.slice A n c] 30)) wr) (fun _ i _ => n - (intOf i).toNat)
  case atStart =>
    refine ⟨0, by omega, rfl, ?_, (Below.refl _ _).alloc (by simp) _⟩
    have := World.ownsRow_lit (e := 3) (size := 1) (base := w.heap.size + 1) (w.alloc (.cells #[.slice A n c] 30)) #[] 0 (by simp) (by unfold maxLen; omega) rfl
    simpa [OwnI, Hid, reachTo] using this
  case round =>
    obtain ⟨k, hk, rfl, HO, hbr⟩ := hrel
    have hbox : wr.cell? ⟨w.heap.size, 0, none⟩ = some (.slice A n c) := (hbr.cell (p := ⟨w.heap.size, 0, none⟩) (by simp)).trans (by go_simp)
    have hwr : w.heap.size + 1 ≤ wr.heap.size := by have := hbr.size; simpa using this
    by_cases hlt : k < n
    · have hkg : k < gs.length := by have := HN.out; omega
      obtain ⟨b, off, rfl, hbB, c0, A1, n1, c1, c2, hn1', hps⟩ := H.out.at_ k hkg
      have hx := HS.out.2 k
      have e1 : wr.cell? ⟨b, off + k * 2 + 1, none⟩ = _ := ((hbr.cell (p := ⟨b, off + k * 2 + 1, none⟩) (by simp; omega)).trans (World.cell?_alloc_lt _ _ _ (by simp; omega))).trans c2
      have HPS := Lib.hid (((hps.alloc hB (.cells #[.slice (some ⟨b, off, none⟩) n c] 30)).below hbr (by omega)).more (B' := wr.heap.size) (by omega))
      have HXR := Lib.hid (((HX.out.alloc hB (.cells #[.slice (some ⟨b, off, none⟩) n c] 30)).below hbr (by omega)).more (B' := wr.heap.size) (by omega))
      have HST := Lib.hid (reachTo_step gs st k)
      have hml := reachTo_len gs st k
      have hrb : rchB gs st k = (decide ((k : Int) ∈ st) || (mayR (gs.getD k default).ps).any fun r => decide (r ∈ reachTo gs st k)) := rfl
      generalize gs.getD k default = d at *
      have HMR := Lib.hid fun (w' : World) (hB : wr.heap.size ≤ w'.heap.size) (h : PS w' wr.heap.size A1 d.ps) => spec_mayRead A1 n1 c1 d.ps w' wr.heap.size hB hn1' h (by omega)
      have hlm := mayR_len d.ps 10
      rw [mayR_below] at hlm
      generalize mayR d.ps = L at *
      generalize reachTo gs st k = M at *
      have HRB := Lib.hid hrb
      generalize hl : L.length = l at *
      have HL := Lib.hid hl
      generalize hdk : decide ((k : Int) ∈ st) = b0 at *
      have hpl0 := plc_ge st (k : Int)
      rw [hdk] at hpl0
      have HMLE := Lib.hid hml
      obtain ⟨A4, c4, hv4, hI4⟩ := HO.out.form
      subst hv4
      generalize hmm : M.length = mm at *
      have HMM := Lib.hid hmm
      have HI4 := Lib.hid hI4
      clear hl hn1' hx c0 c2 hps hrb hdk hmm hI4
      go_wp2_with fail
      refine (spec_placeIn A' m c' st (k : Int) wr wr.heap.size (Nat.le_refl _) HM.out HXR.out hms).mono ?_
      rintro e w3 ⟨rfl, rfl⟩
      generalize plc st (k : Int) = p0 at *
      go_wp2_with fail
      refine (HMR.out _ (Nat.le_refl _) HPS.out).mono ?_
      rintro e w2 ⟨v2, rfl, hown2, hb2⟩
      obtain ⟨g, cL, hgv, hbg, hgw⟩ := hown2.form
      rw [HL.out] at hgv
      subst hgv
      have hIL : IS w2 w2.heap.size (some ⟨g, 0, none⟩) L := by have := hown2.1; rw [HL.out] at this; exact IS.of_own this
      have HIL := Lib.hid hIL
      have HO2 := Lib.hid (own_below HO.out hb2)
      have HI2 := Lib.hid ((HI4.out.below hb2 (Nat.le_refl _)).more (B' := w2.heap.size) hb2.size)
      have hbr2 := hbr.trans (hb2.mono hwr)
      have hw2 : w.heap.size + 1 ≤ w2.heap.size := by have := hb2.size; omega
      clear hown2 hIL hb2 HO HI4 HPS HXR
      go_wp2
      go_loopw [7, 9] (fun mv jv wx => ∃ j : Nat, j ≤ l ∧ jv = .int .i64 j ∧ mv = .bool (b0 || (L.take j).any fun r => decide (r ∈ M)) ∧ wx = w2) (fun _ jv _ => l - (intOf jv).toNat)
      case atStart => exact ⟨0, Nat.zero_le _, rfl, by rw [List.take_zero, List.any_nil, Bool.or_false], rfl⟩
      case round =>
        obtain ⟨j, hj, rfl, rfl, rfl⟩ := hrel
        by_cases hjl : j < l
        · obtain ⟨b', off', e', _, hc⟩ := HIL.out (by have := HL.out; omega)
          cases e'
          have hxj := hc j (by have := HL.out; omega)
          have hat := any_take L M b0 j (by have := HL.out; omega)
          have hplj := plc_ge M (L.getD j 0)
          rw [Nat.zero_add] at hxj
          clear hc
          generalize L.getD j 0 = x at *
          generalize (b0 || (L.take j).any fun r => decide (r ∈ M)) = bj at *
          have HAT := Lib.hid hat
          clear hat
          cases bj
          · go_wp2_with fail
            refine (spec_placeIn A4 mm c4 M x wr wr.heap.size (Nat.le_refl _) HMM.out.symm HI2.out (by omega)).mono ?_
            rintro e w5 ⟨rfl, rfl⟩
            generalize plc M x = p1 at *
            go_wp2
            go_roundw
            case rel => exact ⟨j + 1, by omega, by go_num, by rw [HAT.out, Bool.false_or, ← hplj], by first | rfl | trivial⟩
            case measure => simp [intOf]; omega
          · go_wp2
            go_roundw
            case rel => exact ⟨j + 1, by omega, by go_num, by rw [HAT.out, Bool.true_or], by first | rfl | trivial⟩
            case measure => simp [intOf]; omega
        · obtain rfl : j = l := by omega
          have hLt : L.take j = L := List.take_of_length_le (by have := HL.out; omega)
          rw [hLt, ← HRB.out]
          clear hLt
          generalize rchB gs st k = rb at *
          cases rb
          · have HST2 := Lib.hid (HST.out.trans (by rw [if_neg (by simp), List.append_nil]))
            go_wp2
            go_roundw
            case rel => exact ⟨k + 1, by omega, by go_num, by rw [HST2.out]; exact HO2.out, hbr2⟩
            case measure => simp [intOf]; omega
          · have HST2 := Lib.hid (HST.out.trans (by rw [if_pos rfl]))
            have HO2' : Hid (wr.ownsRow (w.heap.size + 1) 3 1 (.slice A4 mm c4) mm (M.map (Value.int .i64))) := by
              have := HO2.out
              unfold OwnI at this
              rw [HMM.out] at this
              exact this
            have hmm10 : mm ≤ k := HMLE.out
            go_wp2_with (at_builtin; refine wpList_append_own _ rfl _ _ 26 rfl (w.heap.size + 1) 3 i0 (.int .i64 0) 1 8 Try.underlying26 hi hz0 hz1 hz2 rfl (by decide) _ _ _ rfl (HO2'.out.alloc _) ⟨_, 0, none⟩ 1 1 [.int .i64 k] rfl rfl (cell_one_new _ _ _) ?c2 ?c3 ?c4 ?c5 ?_)
            case c2 => first | rfl | (intro u hu; simp at hu; subst hu; rfl)
            case c3 => unfold maxLen; omega
            case c4 => omega
            case c5 => first | omega | (simp; omega)
            intro v' w4 hown' hgrow _
            have hpos := (HO2'.out.alloc (.cells #[.int .i64 k] 3)).lt
            have HO' : Hid (OwnI w4 (w.heap.size + 1) v' (reachTo gs st (k + 1))) := by
              rw [HST2.out]
              unfold OwnI
              rw [List.length_append, HMM.out]
              simpa [OwnI, Hid] using hown'
            have HB' := Lib.hid ((hbr2.alloc hw2 (.cells #[.int .i64 k] 3)).grown hgrow (by simp; omega) (fun q hq => (hpos q hq).1))
            clear hown' hgrow hpos
            go_wp2
            go_roundw
            case rel => exact ⟨k + 1, by omega, by go_num, HO'.out, HB'.out⟩
            case measure => simp [intOf]; omega
    · obtain rfl : k = n := by omega
      go_wp2
      go_ret
      exact ⟨_, rfl, own_mono HO.out (by omega), ((Below.refl _ _).alloc (Nat.le_refl _) _).trans (hbr.mono (by omega))⟩
end Go.Proofs.Ytcfiondggnbnoaa
