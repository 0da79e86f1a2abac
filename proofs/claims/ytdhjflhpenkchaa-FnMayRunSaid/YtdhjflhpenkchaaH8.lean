/- Words and contracts for memory that the texts behind use. -/
import Derived.Test.YtdhjflhpenkchaaH0a
import Derived.Test.YtdhjflhpenkchaaH0b
import Derived.Test.YtdhjflhpenkchaaH0
import Derived.Test.YtdhjflhpenkchaaH1
import Derived.Test.YtdhjflhpenkchaaH2
import Derived.Test.YtdhjflhpenkchaaH3
import Derived.Test.YtdhjflhpenkchaaH4
import Derived.Test.YtdhjflhpenkchaaH6
import Derived.Test.YtdhjflhpenkchaaH5
import Derived.Test.YtdhjflhpenkchaaH7
import Derived.WalkKit
import Derived.Laws.OwnMore
import Derived.Deep.Draws
import Derived.Test.YtdhjflhpenkchaaProg
import Derived.WalkSpells
import Derived.WalkLawsBesides
import Derived.Outline
import Derived.Lib.Hide
import Derived.BigQuiet
import Derived.Deep.QuietTactic
import Derived.StillTailTactics
import Derived.Deep.LoopGhost
import Derived.Laws.MakeOwn
import Derived.WalkSmall
import Derived.RegionTactic
import Derived.BigRegion
import Derived.Deep.RegionWith
import Derived.Deep.RegionHeld3
import Derived.Laws.Entries
import Derived.Laws.Bits64
import Derived.IntWalk
import Derived.Maps.AppendAt
import Derived.Deep.RegionLaw
import Derived.Deep.AppendLies
import Derived.Deep.Cut
import Derived.Deep.DeepCutAuto
import Derived.Maps.Own
import Derived.Maps.Views
import Derived.Laws.CopyOwn
import Derived.ChangeAlike

namespace Go.Proofs.Ytdhjflhpenkchaa
set_option linter.unusedSimpArgs false
set_option linter.unusedVariables false
open Go.RowKit
theorem info_bool1 : (Try.prog.info? 4).map (fun i => (i.zero, i.size, i.bytes)) = some (some (.bool false), 1, 1) := by kernel_rfl
theorem bools_at (m : List Bool) (k : Nat) (h : k < m.length) : (m.map Value.bool)[k]? = some (.bool (m.getD k false)) := by simp [List.getD, h]
theorem metSt_true (gs : List Nd) (st : List Int) (m : List Bool) (i : Nat) (h : (m.getD i false || decide ((i : Int) ∈ st)) = true) : metSt gs st m i = (mayR (gs.getD i default).ps).foldl (fun m r => m.set r.toNat true) (m.set i true) := by unfold metSt; rw [if_pos h]
theorem metSt_false (gs : List Nd) (st : List Int) (m : List Bool) (i : Nat) (h : (m.getD i false || decide ((i : Int) ∈ st)) = false) : metSt gs st m i = m := by unfold metSt; rw [if_neg (by rw [h]; simp)]
theorem set_same (m : List Bool) (i : Nat) (h : i < m.length) (b : Bool) (hb : m.getD i false = b) : m.set i b = m := by
  apply List.ext_getElem?
  intro j
  rw [List.getElem?_set]
  by_cases e : i = j
  · subst e
    rw [if_pos rfl, if_pos h]
    simp [List.getD, h] at hb
    simp [hb, h]
  · rw [if_neg e]
theorem fold_keep (l : List Int) (m : List Bool) (i : Nat) (b : Bool) (h : ∀ x ∈ l, x.toNat ≠ i) (hb : m.getD i false = b) : (l.foldl (fun m r => m.set r.toNat true) m).getD i false = b := by
  induction l generalizing m with
  | nil => exact hb
  | cons x l ih =>
    rw [List.foldl_cons]
    refine ih _ (fun y hy => h y (by simp [hy])) ?_
    have := h x (by simp)
    rw [← hb]
    simp [List.getD, List.getElem?_set, this]
set_option maxRecDepth 100000 in
set_option maxHeartbeats 3200000 in
theorem spec_need (A A' : Option Addr) (n c m c' : Nat) (gs : List Nd) (st : List Int) (w : World) (B : Nat) (hB : B ≤ w.heap.size) (hn : n = gs.length) (hm : m = st.length) (h : GS w B A gs) (hx : IS w B A' st) (hv : validG gs = true) (hG : GB gs) (hms : m ≤ 2000000) :
    Calls Try.prog 66 #[.agg #[.slice A n c], .slice A' m c'] w fun e w' => RetI w (needTo gs st) e w' := by
  obtain ⟨i0, hi, hz0, hz1, hz2⟩ := info_parts info_int
  obtain ⟨i1, gi, gz0, gz1, gz2⟩ := info_parts info_bool1
  have hn10 : n ≤ 10 := by have := (validG_parts gs hv).1; omega
  obtain ⟨w0, hmk, hown0, hgr0⟩ := run_make_full (P := Try.prog) (w.alloc (.cells #[.slice A n c] 25)) (w.heap.size + 1) 107 4 i1 _ 1 Try.underlying107 gi gz0 gz1 .i64 .i64 n (by rw [gz2]; omega) (by unfold maxLen; omega) (by simp)
  simp only [World.size_alloc] at hmk hown0
  have hb0 : Below (w.heap.size + 1) (w.alloc (.cells #[.slice A n c] 25)) w0 := ⟨hgr0.os, hgr0.tape, hgr0.output, hgr0.size, fun k hk => hgr0.block k (by simpa using hk) (by simp)⟩
  have HO0 : Hid (w0.ownsRow (w.heap.size + 1) 4 1 (.slice (some ⟨w.heap.size + 1, 0, none⟩) n n) n ((metGo gs st 0).map Value.bool)) := by
    have e : (metGo gs st 0).map Value.bool = (madeCells (Value.bool false).cells (n * 1)).toList := by
      simp [metGo, Value.cells, toList_madeCells_one, hn]
    rw [e]; exact hown0
  have HB0 := Lib.hid hb0
  have H := Lib.hid h
  have HX := Lib.hid hx
  have HN := Lib.hid hn
  have HM := Lib.hid hm
  have HV := Lib.hid hv
  have HS := Lib.hid hG
  have hnd : needTo gs st = nwTo (fun i => (metF gs st).getD i false) n := by unfold needTo; rw [hn]
  rw [hnd]
  have hmf : metF gs st = metGo gs st n := by unfold metF; rw [hn]
  rw [hmf]
  have hgl : w.heap.size + 1 < w0.heap.size := (hown0.lt _ rfl).2
  have hbox0 : w0.cell? ⟨w.heap.size, 0, none⟩ = some (.slice A n c) := (hb0.cell (p := ⟨w.heap.size, 0, none⟩) (by simp)).trans (by go_simp)
  have hgl0 : w.heap.size < w0.heap.size := by omega
  clear h hn hv hG hx hm hown0 hgr0 hb0 hnd hmf
  go_enter Try.func66, Try.ntmps66
  go_wp2
  clear hmk
  go_loopw [6] (fun i wr => ∃ r : Nat, r ≤ n ∧ i = .int .i64 ((n : Int) - 1 - r) ∧ Hid (wr.ownsRow (w.heap.size + 1) 4 1 (.slice (some ⟨w.heap.size + 1, 0, none⟩) n n) n ((metGo gs st r).map Value.bool)) ∧ Hid (Below (w.heap.size + 1) (w.alloc (.cells #[.slice A n c] 25)) wr) ∧ w0.heap.size ≤ wr.heap.size) (fun i _ => (intOf i + 1).toNat)
  case atStart => exact ⟨0, Nat.zero_le _, by go_num, HO0.out, HB0.out, Nat.le_refl _⟩
  case round =>
    obtain ⟨r, hr, rfl, HO, HBR, hwr⟩ := hrel
    have hbox : wr.cell? ⟨w.heap.size, 0, none⟩ = some (.slice A n c) := (HBR.out.cell (p := ⟨w.heap.size, 0, none⟩) (by simp)).trans (by go_simp)
    by_cases hlt : r < n
    · obtain ⟨k, hk⟩ : ∃ k, k = n - 1 - r := ⟨_, rfl⟩
      have hki : (n : Int) - 1 - (r : Int) = (k : Int) := by omega
      have hkg : k < gs.length := by have := HN.out; omega
      have hkn : k < n := by omega
      have hgs : metGo gs st (r + 1) = metSt gs st (metGo gs st r) k := by rw [metGo, ← HN.out, hk]
      have hml : (metGo gs st r).length = n := by rw [metGo_len, ← HN.out]
      have hr1 : (n : Int) - 1 - ((r + 1 : Nat) : Int) = (k : Int) - 1 := by omega
      have HR1 := Lib.hid hr1
      have hwk : IntKind.i64.wrap ((k : Int) - 1) = (k : Int) - 1 := by rw [IntKind.wrap_i64]; omega
      have hrk : k + r + 1 = n := by omega
      rw [hki]
      obtain ⟨b, off, rfl, hbB, c0, A1, n1, c1, c2, hn1', hps⟩ := H.out.at_ k hkg
      have hx := HS.out.2 k
      have e1 : wr.cell? ⟨b, off + k * 2 + 1, none⟩ = _ := ((HBR.out.cell (p := ⟨b, off + k * 2 + 1, none⟩) (by simp; omega)).trans (World.cell?_alloc_lt _ _ _ (by simp; omega))).trans c2
      have HPS := Lib.hid (((hps.alloc hB (.cells #[.slice (some ⟨b, off, none⟩) n c] 25)).below HBR.out (by omega)))
      have HXR := Lib.hid (((HX.out.alloc hB (.cells #[.slice (some ⟨b, off, none⟩) n c] 25)).below HBR.out (by omega)).more (B' := wr.heap.size) (by omega))
      have HGS := Lib.hid hgs
      have HST := Lib.hid (metSt_true gs st (metGo gs st r) k)
      have HSF := Lib.hid (metSt_false gs st (metGo gs st r) k)
      have HAH := Lib.hid (mayR_ahead gs k HV.out hkg)
      have hbw : b < w.heap.size := by omega
      generalize gs.getD k default = d at *
      have hlm := mayR_len d.ps 10
      rw [mayR_below] at hlm
      have HMR := Lib.hid fun (w' : World) (hB : w.heap.size ≤ w'.heap.size) (h : PS w' w.heap.size A1 d.ps) => spec_mayRead A1 n1 c1 d.ps w' w.heap.size hB hn1' h (by omega)
      generalize mayR d.ps = L at *
      generalize metGo gs st r = M at *
      have uk := HO.out.cellAt k (by omega)
      rw [bools_at M k (by omega)] at uk
      have fk := HO.out.frozenAt k
      have HSM := Lib.hid (set_same M k (by omega))
      have HGT := Lib.hid (show ∀ b, (M.set k b).getD k false = b from fun b => by simp [List.getD, show k < M.length by omega])
      have HML := Lib.hid hml
      generalize hl : L.length = l at *
      have HL := Lib.hid hl
      have hpl0 := plc_ge st (k : Int)
      generalize hdk : decide ((k : Int) ∈ st) = bs at *
      generalize hbk : M.getD k false = bk at *
      have HBK := Lib.hid hbk
      clear hl hn1' hx c0 c2 hps hdk hgs hk hki hr1 hml hbk
      cases bk
      · go_wp2_with fail
        refine (spec_placeIn A' m c' st (k : Int) wr wr.heap.size (Nat.le_refl _) HM.out HXR.out hms).mono ?_
        rintro e w3 ⟨rfl, rfl⟩
        generalize plc st (k : Int) = p0 at *
        cases bs
        · have HOW := Lib.hid ((HO.out.stored k (.bool false)).1)
          have HBW := Lib.hid (HBR.out.setCell (p := ⟨w.heap.size + 1, k, none⟩) (by show w.heap.size + 1 ≤ w.heap.size + 1; omega) (.bool false))
          have hzw : (wr.setCell ⟨w.heap.size + 1, k, none⟩ (.bool false)).heap.size = wr.heap.size := by simp [World.setCell]
          have HZW := Lib.hid hzw
          clear hzw
          go_upto_region 6 with fail
          obtain ⟨W, hW⟩ : ∃ W, W = wr.setCell ⟨w.heap.size + 1, k, none⟩ (.bool false) := ⟨_, rfl⟩
          rw [← hW] at HOW HBW HZW
          rw [← hW]
          rw [← List.map_set] at HOW
          have hzW : w0.heap.size ≤ W.heap.size := by have := HZW.out; omega
          have e2 : W.cell? ⟨b, off + k * 2 + 1, none⟩ = some (.slice A1 n1 c1) := by rw [hW]; exact (World.cell?_setCell_other _ _ _ _ (by intro e; have := congrArg Addr.block e; simp at this; omega)).trans e1
          have hbox2 : W.cell? ⟨w.heap.size, 0, none⟩ = some (.slice (some ⟨b, off, none⟩) n c) := by rw [hW]; exact (World.cell?_setCell_other _ _ _ _ (by intro e; have := congrArg Addr.block e; simp at this)).trans hbox
          have HPW : Hid (PS W w.heap.size A1 d.ps) := (HPS.out.more (by omega)).keep fun p hp => by rw [hW]; exact World.cell?_setCell_other _ _ _ _ (by intro e; have := congrArg Addr.block e; simp at this; omega)
          clear hW e1 hbox uk fk HO HBR
          go_wp2_with fail
          refine (HMR.out _ (by omega) HPW.out).mono ?_
          rintro e w2 ⟨v2, rfl, hown2, hb2⟩
          obtain ⟨g, cL, hgv, hbg, hgw⟩ := hown2.form
          rw [HL.out] at hgv
          subst hgv
          have hIL : w2.ownsRow W.heap.size 3 1 (.slice (some ⟨g, 0, none⟩) l cL) l (L.map (Value.int .i64)) := by have := hown2.1; rw [HL.out] at this; exact this
          have HIL := Lib.hid hIL
          have HOV := Lib.hid (own_below HOW.out hb2)
          have HBV := Lib.hid (HBW.out.trans (hb2.mono (by omega)))
          have hzV : w0.heap.size ≤ w2.heap.size := Nat.le_trans hzW hb2.size
          clear hown2 hIL hb2 HOW HBW
          go_wp2
          go_loopw [8] (fun j wx => j = .int .i64 0 ∧ wx = w2) (fun j _ => 0)
          case atStart => exact ⟨rfl, rfl⟩
          case round =>
            obtain ⟨rfl, rfl⟩ := hrel
            have hgk := HGT.out false
            have uk := HOV.out.cellAt k (by omega)
            rw [bools_at _ k (by rw [List.length_set, HML.out]; omega), hgk] at uk
            have hO9 := HOV.out
            rw [HSM.out false (by first | rfl | exact HBK.out), ← HSF.out (by first | rfl | simp | (rw [HBK.out]; rfl)), ← HGS.out] at hO9
            have HO9 := Lib.hid hO9
            clear hO9 hgk
            by_cases hl0 : 0 < l
            all_goals
              go_wp2
              go_roundw
              case rel => exact ⟨r + 1, by omega, by rw [HR1.out], HO9.out, HBV.out, hzV⟩
              case measure => first | (simp [intOf]; omega) | simp [intOf]
        · have HOW := Lib.hid ((HO.out.stored k (.bool true)).1)
          have HBW := Lib.hid (HBR.out.setCell (p := ⟨w.heap.size + 1, k, none⟩) (by show w.heap.size + 1 ≤ w.heap.size + 1; omega) (.bool true))
          have hzw : (wr.setCell ⟨w.heap.size + 1, k, none⟩ (.bool true)).heap.size = wr.heap.size := by simp [World.setCell]
          have HZW := Lib.hid hzw
          clear hzw
          go_upto_region 6 with fail
          obtain ⟨W, hW⟩ : ∃ W, W = wr.setCell ⟨w.heap.size + 1, k, none⟩ (.bool true) := ⟨_, rfl⟩
          rw [← hW] at HOW HBW HZW
          rw [← hW]
          rw [← List.map_set] at HOW
          have hzW : w0.heap.size ≤ W.heap.size := by have := HZW.out; omega
          have e2 : W.cell? ⟨b, off + k * 2 + 1, none⟩ = some (.slice A1 n1 c1) := by rw [hW]; exact (World.cell?_setCell_other _ _ _ _ (by intro e; have := congrArg Addr.block e; simp at this; omega)).trans e1
          have hbox2 : W.cell? ⟨w.heap.size, 0, none⟩ = some (.slice (some ⟨b, off, none⟩) n c) := by rw [hW]; exact (World.cell?_setCell_other _ _ _ _ (by intro e; have := congrArg Addr.block e; simp at this)).trans hbox
          have HPW : Hid (PS W w.heap.size A1 d.ps) := (HPS.out.more (by omega)).keep fun p hp => by rw [hW]; exact World.cell?_setCell_other _ _ _ _ (by intro e; have := congrArg Addr.block e; simp at this; omega)
          clear hW e1 hbox uk fk HO HBR
          go_wp2_with fail
          refine (HMR.out _ (by omega) HPW.out).mono ?_
          rintro e w2 ⟨v2, rfl, hown2, hb2⟩
          obtain ⟨g, cL, hgv, hbg, hgw⟩ := hown2.form
          rw [HL.out] at hgv
          subst hgv
          have hIL : w2.ownsRow W.heap.size 3 1 (.slice (some ⟨g, 0, none⟩) l cL) l (L.map (Value.int .i64)) := by have := hown2.1; rw [HL.out] at this; exact this
          have HIL := Lib.hid hIL
          have HOV := Lib.hid (own_below HOW.out hb2)
          have HBV := Lib.hid (HBW.out.trans (hb2.mono (by omega)))
          have hzV : w0.heap.size ≤ w2.heap.size := Nat.le_trans hzW hb2.size
          clear hown2 hIL hb2 HOW HBW
          go_wp2
          go_loopw [8] (fun j wx => ∃ q : Nat, q ≤ l ∧ j = .int .i64 q ∧ Hid (wx.ownsRow (w.heap.size + 1) 4 1 (.slice (some ⟨w.heap.size + 1, 0, none⟩) n n) n (((L.take q).foldl (fun m r => m.set r.toNat true) (M.set k true)).map Value.bool)) ∧ Hid (wx.ownsRow W.heap.size 3 1 (.slice (some ⟨g, 0, none⟩) l cL) l (L.map (Value.int .i64))) ∧ Hid (Below (w.heap.size + 1) (w.alloc (.cells #[.slice (some ⟨b, off, none⟩) n c] 25)) wx) ∧ w0.heap.size ≤ wx.heap.size) (fun j _ => l - (intOf j).toNat)
          case atStart => exact ⟨0, Nat.zero_le _, rfl, HOV.out, HIL.out, HBV.out, hzV⟩
          case round =>
            obtain ⟨q, hq, rfl, HOQ, HIQ, HBQ, hzQ⟩ := hrel
            have hfl : ((L.take q).foldl (fun m r => m.set r.toNat true) (M.set k true)).length = n := by rw [foldset_len, List.length_set]; exact HML.out
            have hgk : ((L.take q).foldl (fun m r => m.set r.toNat true) (M.set k true)).getD k false = true := fold_keep _ _ _ _ (fun x hx => by have := HAH.out x (List.mem_of_mem_take hx); omega) (HGT.out true)
            have uk := HOQ.out.cellAt k (by omega)
            rw [bools_at _ k (by omega), hgk] at uk
            by_cases hql : q < l
            · have hqL : q < L.length := by have := HL.out; omega
              have xq := HIQ.out.cellAt q (by omega)
              rw [List.getElem?_map, List.getElem?_eq_getElem hqL, Option.map_some] at xq
              obtain ⟨hx0, hx1⟩ := HAH.out L[q] (List.getElem_mem hqL)
              obtain ⟨t, ht⟩ : ∃ t : Nat, L[q] = (t : Int) := ⟨L[q].toNat, by omega⟩
              have hst : (L.take (q + 1)).foldl (fun m r => m.set r.toNat true) (M.set k true) = ((L.take q).foldl (fun m r => m.set r.toNat true) (M.set k true)).set t true := by
                rw [List.take_succ_eq_append_getElem hqL, List.foldl_append, ht]; rfl
              rw [ht] at xq hx0 hx1
              have HSTQ := Lib.hid hst
              have ut := HOQ.out.cellAt t (by omega)
              rw [bools_at _ t (by omega)] at ut
              have ft := HOQ.out.frozenAt t
              have htn : t < n := by omega
              clear ht hst hfl hgk
              generalize ((L.take q).foldl (fun m r => m.set r.toNat true) (M.set k true)).getD t false = ov at *
              go_wp2
              go_roundw
              case rel =>
                have ho := (HOQ.out.stored t (.bool true)).1
                rw [← List.map_set, ← HSTQ.out] at ho
                exact ⟨q + 1, by omega, by go_num, ho, ownsRow_setCell_below HIQ.out (by show w.heap.size + 1 < W.heap.size; omega) _, HBQ.out.setCell (by show w.heap.size + 1 ≤ w.heap.size + 1; omega) _, by simpa [World.setCell] using hzQ⟩
              case measure => first | (simp [intOf]; omega) | simp [intOf]
            · obtain rfl : q = l := by omega
              have hLt : L.take q = L := List.take_of_length_le (by have := HL.out; omega)
              have hO9 := HOQ.out
              rw [hLt, ← HST.out (by first | rfl | simp | (rw [HBK.out]; rfl)), ← HGS.out] at hO9
              have HO9 := Lib.hid hO9
              clear hO9 hLt
              go_wp2
              go_roundw
              case rel => exact ⟨r + 1, by omega, by rw [HR1.out], HO9.out, HBQ.out, hzQ⟩
              case measure => first | (simp [intOf]; omega) | simp [intOf]
      · have HOW := Lib.hid ((HO.out.stored k (.bool true)).1)
        have HBW := Lib.hid (HBR.out.setCell (p := ⟨w.heap.size + 1, k, none⟩) (by show w.heap.size + 1 ≤ w.heap.size + 1; omega) (.bool true))
        have hzw : (wr.setCell ⟨w.heap.size + 1, k, none⟩ (.bool true)).heap.size = wr.heap.size := by simp [World.setCell]
        have HZW := Lib.hid hzw
        clear hzw
        go_upto_region 6 with fail
        obtain ⟨W, hW⟩ : ∃ W, W = wr.setCell ⟨w.heap.size + 1, k, none⟩ (.bool true) := ⟨_, rfl⟩
        rw [← hW] at HOW HBW HZW
        rw [← hW]
        rw [← List.map_set] at HOW
        have hzW : w0.heap.size ≤ W.heap.size := by have := HZW.out; omega
        have e2 : W.cell? ⟨b, off + k * 2 + 1, none⟩ = some (.slice A1 n1 c1) := by rw [hW]; exact (World.cell?_setCell_other _ _ _ _ (by intro e; have := congrArg Addr.block e; simp at this; omega)).trans e1
        have hbox2 : W.cell? ⟨w.heap.size, 0, none⟩ = some (.slice (some ⟨b, off, none⟩) n c) := by rw [hW]; exact (World.cell?_setCell_other _ _ _ _ (by intro e; have := congrArg Addr.block e; simp at this)).trans hbox
        have HPW : Hid (PS W w.heap.size A1 d.ps) := (HPS.out.more (by omega)).keep fun p hp => by rw [hW]; exact World.cell?_setCell_other _ _ _ _ (by intro e; have := congrArg Addr.block e; simp at this; omega)
        clear hW e1 hbox uk fk HO HBR
        go_wp2_with fail
        refine (HMR.out _ (by omega) HPW.out).mono ?_
        rintro e w2 ⟨v2, rfl, hown2, hb2⟩
        obtain ⟨g, cL, hgv, hbg, hgw⟩ := hown2.form
        rw [HL.out] at hgv
        subst hgv
        have hIL : w2.ownsRow W.heap.size 3 1 (.slice (some ⟨g, 0, none⟩) l cL) l (L.map (Value.int .i64)) := by have := hown2.1; rw [HL.out] at this; exact this
        have HIL := Lib.hid hIL
        have HOV := Lib.hid (own_below HOW.out hb2)
        have HBV := Lib.hid (HBW.out.trans (hb2.mono (by omega)))
        have hzV : w0.heap.size ≤ w2.heap.size := Nat.le_trans hzW hb2.size
        clear hown2 hIL hb2 HOW HBW
        go_wp2
        go_loopw [8] (fun j wx => ∃ q : Nat, q ≤ l ∧ j = .int .i64 q ∧ Hid (wx.ownsRow (w.heap.size + 1) 4 1 (.slice (some ⟨w.heap.size + 1, 0, none⟩) n n) n (((L.take q).foldl (fun m r => m.set r.toNat true) (M.set k true)).map Value.bool)) ∧ Hid (wx.ownsRow W.heap.size 3 1 (.slice (some ⟨g, 0, none⟩) l cL) l (L.map (Value.int .i64))) ∧ Hid (Below (w.heap.size + 1) (w.alloc (.cells #[.slice (some ⟨b, off, none⟩) n c] 25)) wx) ∧ w0.heap.size ≤ wx.heap.size) (fun j _ => l - (intOf j).toNat)
        case atStart => exact ⟨0, Nat.zero_le _, rfl, HOV.out, HIL.out, HBV.out, hzV⟩
        case round =>
          obtain ⟨q, hq, rfl, HOQ, HIQ, HBQ, hzQ⟩ := hrel
          have hfl : ((L.take q).foldl (fun m r => m.set r.toNat true) (M.set k true)).length = n := by rw [foldset_len, List.length_set]; exact HML.out
          have hgk : ((L.take q).foldl (fun m r => m.set r.toNat true) (M.set k true)).getD k false = true := fold_keep _ _ _ _ (fun x hx => by have := HAH.out x (List.mem_of_mem_take hx); omega) (HGT.out true)
          have uk := HOQ.out.cellAt k (by omega)
          rw [bools_at _ k (by omega), hgk] at uk
          by_cases hql : q < l
          · have hqL : q < L.length := by have := HL.out; omega
            have xq := HIQ.out.cellAt q (by omega)
            rw [List.getElem?_map, List.getElem?_eq_getElem hqL, Option.map_some] at xq
            obtain ⟨hx0, hx1⟩ := HAH.out L[q] (List.getElem_mem hqL)
            obtain ⟨t, ht⟩ : ∃ t : Nat, L[q] = (t : Int) := ⟨L[q].toNat, by omega⟩
            have hst : (L.take (q + 1)).foldl (fun m r => m.set r.toNat true) (M.set k true) = ((L.take q).foldl (fun m r => m.set r.toNat true) (M.set k true)).set t true := by
              rw [List.take_succ_eq_append_getElem hqL, List.foldl_append, ht]; rfl
            rw [ht] at xq hx0 hx1
            have HSTQ := Lib.hid hst
            have ut := HOQ.out.cellAt t (by omega)
            rw [bools_at _ t (by omega)] at ut
            have ft := HOQ.out.frozenAt t
            have htn : t < n := by omega
            clear ht hst hfl hgk
            generalize ((L.take q).foldl (fun m r => m.set r.toNat true) (M.set k true)).getD t false = ov at *
            go_wp2
            go_roundw
            case rel =>
              have ho := (HOQ.out.stored t (.bool true)).1
              rw [← List.map_set, ← HSTQ.out] at ho
              exact ⟨q + 1, by omega, by go_num, ho, ownsRow_setCell_below HIQ.out (by show w.heap.size + 1 < W.heap.size; omega) _, HBQ.out.setCell (by show w.heap.size + 1 ≤ w.heap.size + 1; omega) _, by simpa [World.setCell] using hzQ⟩
            case measure => first | (simp [intOf]; omega) | simp [intOf]
          · obtain rfl : q = l := by omega
            have hLt : L.take q = L := List.take_of_length_le (by have := HL.out; omega)
            have hO9 := HOQ.out
            rw [hLt, ← HST.out (by first | rfl | simp | (rw [HBK.out]; rfl)), ← HGS.out] at hO9
            have HO9 := Lib.hid hO9
            clear hO9 hLt
            go_wp2
            go_roundw
            case rel => exact ⟨r + 1, by omega, by rw [HR1.out], HO9.out, HBQ.out, hzQ⟩
            case measure => first | (simp [intOf]; omega) | simp [intOf]
    · obtain ⟨wo, rfl⟩ : ∃ wo : World, wo = wr := ⟨_, rfl⟩
      have hrn : r = n := by omega
      have hneg : (n : Int) - 1 - (r : Int) = -1 := by omega
      rw [hneg]
      have hOn := HO.out
      rw [hrn] at hOn
      have HON := Lib.hid hOn
      have hml : (metGo gs st n).length = n := by rw [metGo_len, ← HN.out]
      have HML := Lib.hid hml
      generalize hMM : metGo gs st n = M at *
      have HMM := Lib.hid hMM
      clear hMM
      clear hrn hneg hlt hOn hml HO
      go_wp2
      go_loopw [9, 10] (fun v u wx => ∃ k : Nat, k ≤ n ∧ u = .int .i64 k ∧ Hid (OwnI wx wo.heap.size v (nwTo (fun i => M.getD i false) k)) ∧ Hid (Below wo.heap.size wo wx)) (fun _ u _ => n - (intOf u).toNat)
      case atStart => exact ⟨0, Nat.zero_le _, rfl, World.ownsRow_lit (e := 3) (size := 1) wo #[] 0 (Nat.le_refl _) (by unfold maxLen; omega) rfl, (Below.refl _ _).alloc (Nat.le_refl _) _⟩
      case round =>
        obtain ⟨k, hk, rfl, HOK, HBK⟩ := hrel
        by_cases hlt : k < n
        · have uk := (HBK.out.cell (p := ⟨w.heap.size + 1, k, none⟩) (by show w.heap.size + 1 < _; omega)).trans (HON.out.cellAt k (by omega))
          rw [bools_at M k (by have := HML.out; omega)] at uk
          have HSTK := Lib.hid (nwTo_step (fun i => M.getD i false) k)
          have hdl := nwTo_len (fun i => M.getD i false) k
          have hbb := HBK.out.size
          generalize nwTo (fun i => M.getD i false) k = D at *
          generalize M.getD k false = b at *
          cases b
          · go_wp2
            go_roundw
            case rel => exact ⟨k + 1, by omega, by go_num, by rw [HSTK.out]; simpa [OwnI, Hid] using HOK.out, HBK.out⟩
            case measure => first | (simp [intOf]; omega) | simp [intOf]
          · go_wp2_with (at_builtin; refine wpList_append_own _ rfl _ _ 28 rfl wo.heap.size 3 i0 (.int .i64 0) 1 8 Try.underlying28 hi hz0 hz1 hz2 rfl (by decide) _ _ _ rfl (HOK.out.alloc _) ⟨_, 0, none⟩ 1 1 [.int .i64 k] rfl rfl (cell_one_new _ _ _) ?c2 ?c3 ?c4 ?c5 ?_)
            case c2 => first | rfl | (intro u hu; simp at hu; subst hu; rfl)
            case c3 => unfold maxLen; omega
            case c4 => omega
            case c5 => first | omega | (simp; omega)
            intro v' w4 hown' hgrow _
            have hpos := (HOK.out.alloc (.cells #[.int .i64 k] 3)).lt
            have HO' : Hid (OwnI w4 wo.heap.size v' (nwTo (fun i => M.getD i false) (k + 1))) := by
              rw [HSTK.out]
              simpa [OwnI, Hid] using hown'
            have HB' := Lib.hid ((HBK.out.alloc hbb (.cells #[.int .i64 k] 3)).grown hgrow (by simp; omega) (fun q hq => (hpos q hq).1))
            clear hown' hgrow hpos
            go_wp2
            go_roundw
            case rel => exact ⟨k + 1, by omega, by go_num, HO'.out, HB'.out⟩
            case measure => first | (simp [intOf]; omega) | simp [intOf]
        · obtain rfl : k = n := by omega
          go_wp2
          go_ret
          have hbw : Below w.heap.size w wo := ((Below.refl _ _).alloc (Nat.le_refl _) _).trans (HBR.out.mono (by omega))
          refine ⟨_, rfl, ?_, hbw.trans (HBK.out.mono hbw.size)⟩
          rw [HMM.out]
          exact own_mono HOK.out hbw.size
end Go.Proofs.Ytdhjflhpenkchaa

namespace Go.Proofs.Ytdhjflhpenkchaa
set_option linter.unusedSimpArgs false
set_option linter.unusedVariables false
open Go.RowKit Go.Maps
set_option maxRecDepth 100000 in
set_option maxHeartbeats 1600000 in
theorem top_spec_NeedOf (gs : List Nd) (x : Int) (hG : GB gs) : ∀ (A : Option Addr) (n c : Nat) (w : World), n = gs.length → n ≤ c → GS w w.heap.size A gs →
    Calls Try.prog 27 #[.agg #[.slice A n c], .int .i64 x] w fun e w' => RetI w (needF gs x) e w' := by
  intro A n c w hn hnc h
  have HH := Lib.hid (spec_validGraph A n c gs (w.alloc (.cells #[.slice A n c] 25)) w.heap.size (by simp) hn (h.alloc (Nat.le_refl _) _) hG)
  have H := Lib.hid h
  have hn1 : n ≤ 1048576 := by rw [hn]; exact hG.1
  have hrg : rng x 0 ((n : Int) - 1) = hasN gs x := by rw [hn]; rfl
  cases hb : hasB gs x
  · have hr : needF gs x = [] := by unfold needF; rw [hb]; rfl
    rw [hr]
    have hbb : (validG gs && hasN gs x) = false := hb
    generalize validG gs = b0 at *
    generalize hasN gs x = b1 at *
    clear hb hr h hn hG
    go_enter Try.func27, Try.ntmps27
    go_wp2_with fail
    refine HH.out.mono ?_
    rintro e w1 ⟨rfl, hb⟩
    have q1 : w1.cell? ⟨w.heap.size, 0, none⟩ = some (.slice A n c) := (hb.cell (p := ⟨w.heap.size, 0, none⟩) (by simp)).trans (by go_simp)
    have hB1 : Below w.heap.size w w1 := ((Below.refl _ _).alloc (Nat.le_refl _) _).trans (hb.mono (by simp))
    have hl1 : w.heap.size < w1.heap.size := by have := hb.size; simp at this; omega
    clear hb
    cases b0
    · go_wp2
      go_ret
      exact RetI.nil hB1
    · have hb1 : b1 = false := by simpa using hbb
      subst hb1
      go_wp2_with (go_at_call 58; refine (spec_inRange _ _ _ _).mono ?_; rintro e w' ⟨rfl, rfl⟩)
      go_ret
      exact RetI.nil hB1
  · obtain ⟨hv, h10, t, rfl, ht⟩ := hasB_parts gs x hb
    have hr : needF gs t = needTo gs [(t : Int)] := by unfold needF; rw [hb]; rfl
    have hhn : hasN gs (t : Int) = true := by unfold hasB at hb; simp only [Bool.and_eq_true] at hb; exact hb.2
    rw [hr]
    rw [hv] at HH
    rw [hhn] at hrg
    have htn : t < n := by omega
    have HFU := Lib.hid fun (A1 : Option Addr) (c1 : Nat) (w' : World) (hB : w.heap.size ≤ w'.heap.size) (h : GS w' w.heap.size A gs) (hx : IS w' w'.heap.size A1 [(t : Int)]) => (by exact spec_need A A1 n c 1 c1 gs [(t : Int)] w' w'.heap.size (Nat.le_refl _) hn rfl (h.more hB) hx hv hG (by omega) : Calls Try.prog 66 #[.agg #[.slice A n c], .slice A1 1 c1] w' fun e w'' => RetI w' (needTo gs [(t : Int)]) e w'')
    generalize needTo gs [(t : Int)] = R at *
    clear hb hr h hn hG hhn
    go_enter Try.func27, Try.ntmps27
    go_wp2_with fail
    refine HH.out.mono ?_
    rintro e w1 ⟨rfl, hb⟩
    have q1 : w1.cell? ⟨w.heap.size, 0, none⟩ = some (.slice A n c) := (hb.cell (p := ⟨w.heap.size, 0, none⟩) (by simp)).trans (by go_simp)
    have HG1 := Lib.hid ((H.out.alloc (Nat.le_refl _) (.cells #[.slice A n c] 25)).below hb (by simp))
    have hB1 : Below w.heap.size w w1 := ((Below.refl _ _).alloc (Nat.le_refl _) _).trans (hb.mono (by simp))
    have hl1 : w.heap.size < w1.heap.size := by have := hb.size; simp at this; omega
    clear hb
    go_wp2_with (go_at_call 58; refine (spec_inRange _ _ _ _).mono ?_; rintro e w' ⟨rfl, rfl⟩)
    have HI1 : Hid (IS (w1.alloc (.cells #[.int .i64 t] 3)) (w1.alloc (.cells #[.int .i64 t] 3)).heap.size (some ⟨w1.heap.size, 0, none⟩) [(t : Int)]) := fun _ => ⟨w1.heap.size, 0, rfl, by simp, fun j hj => by
      have : j = 0 := by simp at hj; omega
      subst this; go_simp⟩
    have HG2 := Lib.hid (HG1.out.alloc hB1.size (.cells #[.int .i64 t] 3))
    have hB2 := Lib.hid (hB1.alloc hB1.size (.cells #[.int .i64 t] 3))
    refine (HFU.out _ _ _ hB2.out.size HG2.out HI1.out).mono ?_
    rintro e w2 ⟨v, rfl, ho, hb2⟩
    go_wp2
    go_ret
    exact ⟨v, by simp, own_mono ho hB2.out.size, hB2.out.trans (hb2.mono hB2.out.size)⟩
end Go.Proofs.Ytdhjflhpenkchaa

namespace Go.Proofs.Ytdhjflhpenkchaa
set_option linter.unusedSimpArgs false
set_option linter.unusedVariables false
open Go.RowKit
theorem addr_add' (b off j : Nat) : (⟨b, off, none⟩ : Addr).add j = ⟨b, off + j, none⟩ := by
  cases j <;> simp [Addr.add]
end Go.Proofs.Ytdhjflhpenkchaa
