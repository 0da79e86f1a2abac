/- Words and contracts for memory that the texts behind use. -/
import Derived.Test.YtdhjflhpenkchaaH0a
import Derived.Test.YtdhjflhpenkchaaH0b
import Derived.Test.YtdhjflhpenkchaaH0
import Derived.Test.YtdhjflhpenkchaaH1
import Derived.Test.YtdhjflhpenkchaaH2
import Derived.Test.YtdhjflhpenkchaaH3
import Derived.Test.YtdhjflhpenkchaaH4
import Derived.Test.YtdhjflhpenkchaaH6
import Derived.Test.YtdhjflhpenkchaaH5
import Derived.Test.YtdhjflhpenkchaaH7
import Derived.Test.YtdhjflhpenkchaaH8
import Derived.Test.YtdhjflhpenkchaaH9
import Derived.Test.YtdhjflhpenkchaaH10
import Derived.WalkKit
import Derived.Laws.OwnMore
import Derived.Deep.Draws
import Derived.Test.YtdhjflhpenkchaaProg
import Derived.WalkSpells
import Derived.WalkLawsBesides
import Derived.Outline
import Derived.Lib.Hide
import Derived.BigQuiet
import Derived.Deep.QuietTactic
import Derived.StillTailTactics
import Derived.Deep.LoopGhost
import Derived.Laws.MakeOwn
import Derived.WalkSmall
import Derived.RegionTactic
import Derived.BigRegion
import Derived.Deep.RegionWith
import Derived.Deep.RegionHeld3
import Derived.Laws.Entries
import Derived.Laws.Bits64
import Derived.IntWalk
import Derived.Maps.AppendAt
import Derived.Deep.RegionLaw
import Derived.Deep.AppendLies
import Derived.Deep.Cut
import Derived.Deep.DeepCutAuto
import Derived.Maps.Own
import Derived.Maps.Views
import Derived.Laws.CopyOwn
import Derived.ChangeAlike

namespace Go.Proofs.Ytdhjflhpenkchaa
set_option linter.unusedSimpArgs false
set_option linter.unusedVariables false
open Go.RowKit
theorem htTo_bd (gs : List Nd) (i : Nat) : ∀ j, 0 ≤ (htTo gs i).getD j 0 ∧ (htTo gs i).getD j 0 ≤ i := by
  induction i with
  | zero => intro j; simp [htTo]
  | succ i ih =>
    intro j
    have hl := htTo_len gs i
    rcases Nat.lt_or_ge j i with h1 | h1
    · have := ih j
      have e : (htTo gs (i + 1)).getD j 0 = (htTo gs i).getD j 0 := by simp [htTo, List.getD, List.getElem?_append, hl, h1]
      rw [e]; omega
    · by_cases hj : j = i
      · subst hj
        have e : (htTo gs (j + 1)).getD j 0 = (mayR (gs.getD j default).ps).foldl (fun h x => max h ((htTo gs j).getD x.toNat 0 + 1)) 0 := by simp [htTo, List.getD, List.getElem?_append, hl]
        rw [e]
        have := foldl_max_bd (mayR (gs.getD j default).ps) (fun x => (htTo gs j).getD x.toNat 0 + 1) 0 (j + 1 : Nat) (by omega) (by omega) (fun x _ => by have := ih x.toNat; omega)
        exact this
      · have e : (htTo gs (i + 1)).getD j 0 = 0 := by
          have : (htTo gs (i + 1)).length ≤ j := by rw [htTo_len]; omega
          simp [List.getD, List.getElem?_eq_none this]
        rw [e]; omega
end Go.Proofs.Ytdhjflhpenkchaa

namespace Go.Proofs.Ytdhjflhpenkchaa
set_option linter.unusedSimpArgs false
set_option linter.unusedVariables false
open Go.RowKit
theorem htF_len (gs : List Nd) : (htF gs).length ≤ 10 := by
  unfold htF
  cases h : validG gs
  · simp
  · simp only [if_true]
    rw [htTo_len]
    exact (validG_parts gs h).1
/-- The height of the node at k, as far as the first j nodes that it may read tell. -/
def htAt (gs : List Nd) (k : Nat) (L : List Int) : Int := L.foldl (fun h x => max h ((htTo gs k).getD x.toNat 0 + 1)) 0
theorem htAt_step (gs : List Nd) (k : Nat) (L : List Int) (j : Nat) (t : Nat) (hj : j < L.length) (ht : L.getD j 0 = (t : Int)) : htAt gs k (L.take (j + 1)) = max (htAt gs k (L.take j)) ((htTo gs k).getD t 0 + 1) := by
  rw [take_succ_int L j _ hj ht]
  unfold htAt
  rw [List.foldl_append]
  simp
theorem htAt_bd (gs : List Nd) (k : Nat) (L : List Int) : 0 ≤ htAt gs k L ∧ htAt gs k L ≤ (k : Int) + 1 :=
  foldl_max_bd L (fun x => (htTo gs k).getD x.toNat 0 + 1) 0 (k + 1) (by omega) (by omega) (fun x _ => by have := htTo_bd gs k x.toNat; omega)
theorem htTo_succ (gs : List Nd) (k : Nat) : htTo gs (k + 1) = htTo gs k ++ [htAt gs k (mayR (gs.getD k default).ps)] := rfl
set_option maxRecDepth 100000 in
set_option maxHeartbeats 3200000 in
theorem spec_heights (A : Option Addr) (n c : Nat) (gs : List Nd) (w : World) (B : Nat) (hB : B ≤ w.heap.size) (hn : n = gs.length) (h : GS w B A gs) (hs : GB gs) (hv : validG gs = true) :
    Calls Try.prog 71 #[.agg #[.slice A n c]] w fun e w' => RetI w (htTo gs gs.length) e w' := by
  obtain ⟨i0, hi, hz0, hz1, hz2⟩ := info_parts info_int
  have hn10 : n ≤ 10 := by have := (validG_parts gs hv).1; omega
  have H := Lib.hid h
  have HN := Lib.hid hn
  have HV := Lib.hid hv
  have HS := Lib.hid hs
  clear h hn hv hs
  go_enter Try.func71, Try.ntmps71
  go_wp2
  go_loopw [3, 4] (fun v i wr => ∃ k : Nat, k ≤ n ∧ i = .int .i64 k ∧ Hid (OwnI wr (w.heap.size + 1) v (htTo gs k)) ∧ Below (w.heap.size + 1) (w.alloc (.cells #[.slice A n c] 25)) wr) (fun _ i _ => n - (intOf i).toNat)
  case atStart =>
    refine ⟨0, Nat.zero_le _, rfl, ?_, (Below.refl _ _).alloc (by simp) _⟩
    have := World.ownsRow_lit (e := 3) (size := 1) (base := w.heap.size + 1) (w.alloc (.cells #[.slice A n c] 25)) #[] 0 (by simp) (by unfold maxLen; omega) rfl
    simpa [OwnI, Hid, htTo] using this
  case round =>
    obtain ⟨k, hk, rfl, HO, hbr⟩ := hrel
    have hbox : wr.cell? ⟨w.heap.size, 0, none⟩ = some (.slice A n c) := (hbr.cell (p := ⟨w.heap.size, 0, none⟩) (by simp)).trans (by go_simp)
    have hwr : w.heap.size + 1 ≤ wr.heap.size := by have := hbr.size; simpa using this
    by_cases hlt : k < n
    · have hkg : k < gs.length := by have := HN.out; omega
      obtain ⟨b, off, rfl, hbB, c0, A1, n1, c1, c2, hn1', hps⟩ := H.out.at_ k hkg
      have hx := HS.out.2 k
      have e1 : wr.cell? ⟨b, off + k * 2 + 1, none⟩ = _ := ((hbr.cell (p := ⟨b, off + k * 2 + 1, none⟩) (by simp; omega)).trans (World.cell?_alloc_lt _ _ _ (by simp; omega))).trans c2
      have HPS := Lib.hid (((hps.alloc hB (.cells #[.slice (some ⟨b, off, none⟩) n c] 25)).below hbr (by omega)).more (B' := wr.heap.size) (by omega))
      have HST := Lib.hid (htTo_succ gs k)
      have hml := htTo_len gs k
      have HAH := Lib.hid (mayR_ahead gs k HV.out hkg)
      have HSTEP := Lib.hid (htAt_step gs k)
      have hbd := htAt_bd gs k
      have hbd2 := htTo_bd gs k
      have hlm := mayR_len (gs.getD k default).ps 10
      rw [mayR_below] at hlm
      generalize gs.getD k default = d at *
      have HMR := Lib.hid fun (w' : World) (hB : wr.heap.size ≤ w'.heap.size) (h : PS w' wr.heap.size A1 d.ps) => spec_mayRead A1 n1 c1 d.ps w' wr.heap.size hB hn1' h (by omega)
      generalize mayR d.ps = L at *
      generalize htTo gs k = M at *
      generalize hl : L.length = l at *
      have HL := Lib.hid hl
      have HBD := Lib.hid hbd
      have HBD2 := Lib.hid hbd2
      obtain ⟨A3, c3, rfl, hI3⟩ := HO.out.at_ hml
      have HI3 := Lib.hid hI3
      have HML := Lib.hid hml
      clear hml hI3 hl hbd hbd2 hn1' hx c0 c2 hps
      go_wp2_with fail
      refine (HMR.out _ (Nat.le_refl _) HPS.out).mono ?_
      rintro e w2 ⟨v2, rfl, hown2, hb2⟩
      obtain ⟨g, cL, hgv, hbg, hgw⟩ := hown2.form
      rw [HL.out] at hgv
      subst hgv
      have hIL : IS w2 w2.heap.size (some ⟨g, 0, none⟩) L := by have := hown2.1; rw [HL.out] at this; exact IS.of_own this
      have HIL := Lib.hid hIL
      have HI4 := Lib.hid (HI3.out.below hb2 (Nat.le_refl _))
      have HO2 := Lib.hid (own_below HO.out hb2)
      have hbr2 := hbr.trans (hb2.mono hwr)
      have hw2 : w.heap.size + 1 ≤ w2.heap.size := by have := hb2.size; omega
      clear hown2 hIL hb2
      go_wp2
      go_loop [5, 7] (fun u i => ∃ j : Nat, j ≤ l ∧ i = .int .i64 j ∧ u = .int .i64 (htAt gs k (L.take j))) (fun _ i => l - (intOf i).toNat)
      case atStart => exact ⟨0, Nat.zero_le _, rfl, by simp [htAt]⟩
      case round =>
        obtain ⟨j, hj, rfl, rfl⟩ := hrel
        by_cases hjl : j < l
        · obtain ⟨b', off', e', _, hc⟩ := HIL.out (by have := HL.out; omega)
          cases e'
          have hx := hc j (by have := HL.out; omega)
          have hah := HAH.out (L.getD j 0) (by have := HL.out; simp [List.getD, show j < L.length by omega])
          have HSJ := Lib.hid fun (t : Nat) (ht : L.getD j 0 = (t : Int)) => HSTEP.out L j t (by have := HL.out; omega) ht
          clear hc
          generalize hxx : L.getD j 0 = x at *
          obtain ⟨t, rfl⟩ : ∃ t : Nat, x = (t : Int) := ⟨x.toNat, by omega⟩
          have HSJ2 := Lib.hid (HSJ.out t rfl)
          obtain ⟨b3, off3, e3, _, hc3⟩ := HI4.out (by have := HML.out; omega)
          cases e3
          have hy := hc3 t (by have := HML.out; omega)
          have hy2 := HBD2.out t
          have hq := HBD.out (L.take j)
          have htk : t < k := by omega
          clear hc3 hxx HSJ
          rw [Nat.zero_add] at hx
          generalize M.getD t 0 = y at *
          generalize htAt gs k (L.take j) = q at *
          go_wp2
          go_round
          case rel => exact ⟨j + 1, by omega, by go_num, by rw [HSJ2.out]; first | rfl | go_num⟩
          case measure => simp [intOf]; omega
        · obtain rfl : j = l := by omega
          have hLt : L.take j = L := List.take_of_length_le (by have := HL.out; omega)
          rw [hLt]
          clear hLt
          generalize htAt gs k L = E at *
          go_wp2_with (at_builtin; refine wpList_append_own _ rfl _ _ 28 rfl (w.heap.size + 1) 3 i0 (.int .i64 0) 1 8 Try.underlying28 hi hz0 hz1 hz2 rfl (by decide) _ _ _ rfl (HO2.out.alloc _) ⟨_, 0, none⟩ 1 1 [.int .i64 E] rfl rfl (cell_one_new _ _ _) ?c2 ?c3 ?c4 ?c5 ?_)
          case c2 => first | rfl | (intro u hu; simp at hu; subst hu; rfl)
          case c3 => have := HML.out; unfold maxLen; omega
          case c4 => have := HML.out; omega
          case c5 => first | omega | (simp; omega)
          intro v' w3 hown' hgrow _
          have hpos := (HO2.out.alloc (.cells #[.int .i64 E] 3)).lt
          have HO' : Hid (OwnI w3 (w.heap.size + 1) v' (htTo gs (k + 1))) := by
            rw [HST.out]
            simpa [OwnI, Hid] using hown'
          have HB' := Lib.hid ((hbr2.alloc hw2 (.cells #[.int .i64 E] 3)).grown hgrow (by simp; omega) (fun q hq => (hpos q hq).1))
          clear hown' hgrow hpos
          go_wp2
          go_roundw
          case rel => exact ⟨k + 1, by omega, by go_num, HO'.out, HB'.out⟩
          case measure => simp [intOf]; omega
    · obtain rfl : k = n := by omega
      go_wp2
      go_ret
      refine ⟨_, rfl, ?_, ((Below.refl _ _).alloc (Nat.le_refl _) _).trans (hbr.mono (by omega))⟩
      have := HO.out
      rw [HN.out] at this
      exact own_mono this (by omega)
/-- The heights while those of the node at k are found. -/
def hmix (gs : List Nd) (n k : Nat) (q : Int) : List Int := htTo gs k ++ q :: List.replicate (n - k - 1) 0
def hmix0 (gs : List Nd) (n k : Nat) : List Int := htTo gs k ++ List.replicate (n - k) 0
theorem hmix_zero (gs : List Nd) (n k : Nat) (h : k < n) : hmix0 gs n k = hmix gs n k 0 := by
  unfold hmix0 hmix
  rw [show n - k = (n - k - 1) + 1 by omega, List.replicate_succ]
  simp
theorem hmix_next (gs : List Nd) (n k : Nat) : hmix gs n k (htAt gs k (mayR (gs.getD k default).ps)) = hmix0 gs n (k + 1) := by
  unfold hmix0 hmix
  rw [htTo_succ, List.append_assoc, show n - (k + 1) = n - k - 1 by omega]
  rfl
theorem hmix_set (gs : List Nd) (n k : Nat) (q q' : Int) : (hmix gs n k q).set k q' = hmix gs n k q' := by
  have := htTo_len gs k
  unfold hmix
  rw [List.set_append_right _ _ (by omega), this, Nat.sub_self, List.set_cons_zero]
theorem hmix_at (gs : List Nd) (n k : Nat) (q : Int) : ((hmix gs n k q).map (Value.int .i64))[k]? = some (.int .i64 q) := by
  have := htTo_len gs k
  unfold hmix
  rw [List.getElem?_map, List.getElem?_append_right (by omega), this, Nat.sub_self]
  rfl
theorem hmix_lt (gs : List Nd) (n k : Nat) (q : Int) (t : Nat) (h : t < k) : ((hmix gs n k q).map (Value.int .i64))[t]? = some (.int .i64 ((htTo gs k).getD t 0)) := by
  have := htTo_len gs k
  unfold hmix
  rw [List.getElem?_map, List.getElem?_append_left (by omega)]
  simp [List.getD, this, h]
set_option maxRecDepth 100000 in
set_option maxHeartbeats 3200000 in
theorem impl_HeightsOf (A : Option Addr) (n c : Nat) (gs : List Nd) (w : World) (B : Nat) (hB : B ≤ w.heap.size) (hn : n = gs.length) (hnc : n ≤ c) (h : GS w B A gs) (hs : GB gs) :
    Calls Try.prog 33 #[.agg #[.slice A n c]] w fun e w' => RetI w (htF gs) e w' := by
  obtain ⟨i0, hi, hz0, hz1, hz2⟩ := info_parts info_int
  have HVG := Lib.hid fun (w' : World) (hB : B ≤ w'.heap.size) (h : GS w' B A gs) => impl_ValidGraph A n c gs w' B hB hn h hs hnc
  have hf : htF gs = if validG gs then htTo gs gs.length else [] := rfl
  have H := Lib.hid h
  have HN := Lib.hid hn
  have HS := Lib.hid hs
  clear h hn hs
  cases hv : validG gs
  · rw [hf, hv]
    rw [hv] at HVG
    clear hf hv
    go_enter Try.func33, Try.ntmps33
    go_wp2_with fail
    refine (HVG.out _ (by simp; omega) (H.out.alloc hB _)).mono ?_
    rintro e w1 ⟨rfl, hb⟩
    go_wp2
    go_ret
    exact RetI.nil (((Below.refl _ _).alloc (Nat.le_refl _) _).trans (hb.mono (by simp)))
  have hf2 : htF gs = htTo gs gs.length := by rw [hf, hv]; rfl
  rw [hf2]
  have hn10 : n ≤ 10 := by have := (validG_parts gs hv).1; have := HN.out; omega
  have HV := Lib.hid hv
  rw [hv] at HVG
  clear hf hf2 hv
  have HMK := Lib.hid fun (w1 : World) => run_make_full (P := Try.prog) w1 w1.heap.size 28 3 i0 _ 1 Try.underlying28 hi hz0 hz1 .i64 .i64 n (by rw [hz2]; omega) (by unfold maxLen; omega) (Nat.le_refl _)
  go_enter Try.func33, Try.ntmps33
  go_wp2_with fail
  refine (HVG.out _ (by simp; omega) (H.out.alloc hB _)).mono ?_
  rintro e w1 ⟨rfl, hb⟩
  have q : w1.cell? ⟨w.heap.size, 0, none⟩ = some (.slice A n c) := (hb.cell (p := ⟨w.heap.size, 0, none⟩) (by simp)).trans (by go_simp)
  have HG1 := Lib.hid ((H.out.alloc hB (.cells #[.slice A n c] 25)).below hb (by simp; omega))
  have hz : w.heap.size < w1.heap.size := by have := hb.size; simp at this; omega
  have hB1 : Below w.heap.size w w1 := ((Below.refl _ _).alloc (Nat.le_refl _) _).trans (hb.mono (by simp))
  obtain ⟨w2, hmk, hown2, hgr2⟩ := HMK.out w1
  have hb2 : Below w1.heap.size w1 w2 := ⟨hgr2.os, hgr2.tape, hgr2.output, hgr2.size, fun k hk => hgr2.block k hk (by simp)⟩
  have q2 := (hb2.cell (p := ⟨w.heap.size, 0, none⟩) hz).trans q
  have HG2 := Lib.hid (HG1.out.below hb2 (by omega))
  have HO2 : Hid (w2.ownsRow w1.heap.size 3 1 (.slice (some ⟨w1.heap.size, 0, none⟩) n n) n ((hmix0 gs n 0).map (Value.int .i64))) := by
    have e : (hmix0 gs n 0).map (Value.int .i64) = (madeCells (Value.int .i64 0).cells (n * 1)).toList := by
      simp [hmix0, htTo, Value.cells, toList_madeCells_one]
    rw [e]; exact hown2
  have hgl : w1.heap.size < w2.heap.size := (hown2.lt _ rfl).2
  have hB2 := hB1.trans (hb2.mono (by omega))
  clear hown2 hgr2 hb2 hb HG1 hB1
  go_wp2
  clear hmk
  go_loopw [18] (fun u wr => ∃ k : Nat, k ≤ n ∧ u = .int .i64 k ∧ Hid (wr.ownsRow w1.heap.size 3 1 (.slice (some ⟨w1.heap.size, 0, none⟩) n n) n ((hmix0 gs n k).map (Value.int .i64))) ∧ Hid (Below w1.heap.size w2 wr) ∧ w2.heap.size ≤ wr.heap.size) (fun u _ => n - (intOf u).toNat)
  case atStart => exact ⟨0, Nat.zero_le _, rfl, HO2.out, Below.refl _ _, Nat.le_refl _⟩
  case round =>
    obtain ⟨k, hk, rfl, HO, HBR, hwr⟩ := hrel
    by_cases hlt : k < n
    · have hkg : k < gs.length := by have := HN.out; omega
      obtain ⟨b, off, rfl, hbB, c0, A1, n1, c1, c2, hn1', hps⟩ := HG2.out.at_ k hkg
      have hx := HS.out.2 k
      have e0 := (HBR.out.cell (p := ⟨b, off + k * 2, none⟩) (by simp; omega)).trans c0
      have e1 := (HBR.out.cell (p := ⟨b, off + k * 2 + 1, none⟩) (by simp; omega)).trans c2
      have HPS := Lib.hid ((hps.below HBR.out (by omega)).more (B' := wr.heap.size) (by omega))
      have HNX := Lib.hid (hmix_next gs n k)
      have HAH := Lib.hid (mayR_ahead gs k HV.out hkg)
      have HSTEP := Lib.hid (htAt_step gs k)
      have HBD := Lib.hid (htAt_bd gs k)
      have HBD2 := Lib.hid (htTo_bd gs k)
      have hmf := mayF_valid gs k HV.out hkg
      have hlm := mayR_len (gs.getD k default).ps 10
      rw [mayR_below] at hlm
      have HOZ : Hid (wr.ownsRow w1.heap.size 3 1 (.slice (some ⟨w1.heap.size, 0, none⟩) n n) n ((hmix gs n k (htAt gs k [])).map (Value.int .i64))) := by
        rw [show htAt gs k [] = 0 from rfl, ← hmix_zero gs n k hlt]; exact HO.out
      generalize gs.getD k default = d at *
      have HMR := Lib.hid fun (w' : World) (hB : wr.heap.size ≤ w'.heap.size) (h : PS w' wr.heap.size A1 d.ps) => impl_MayRead A1 n1 c1 d.ps w' wr.heap.size hB hn1' h (by omega)
      rw [hmf] at HMR
      generalize mayR d.ps = L at *
      generalize hl : L.length = l at *
      have HL := Lib.hid hl
      clear hmf hl hn1' hx c0 c2 hps HO
      go_wp2_with fail
      refine (HMR.out _ (by simp) (HPS.out.alloc (Nat.le_refl _) _)).mono ?_
      rintro e w3 ⟨v3, rfl, hown3, hb3⟩
      obtain ⟨A3, c3, rfl, hI3⟩ := OwnI.at_ hown3 HL.out
      have hgA : ∀ g', A3 = some ⟨g', 0, none⟩ → wr.heap.size + 1 ≤ g' := fun g' e => by
        subst e
        have := (hown3.lt g' rfl).1
        simpa using this
      have hA0 : A3 = none ∨ ∃ g', A3 = some ⟨g', 0, none⟩ := by
        rcases hown3.2 with ⟨hv, _⟩ | ⟨g', cap, cur, hv, _⟩
        · simp only [Value.slice.injEq] at hv; exact .inl hv.1
        · simp only [Value.slice.injEq] at hv; exact .inr ⟨g', hv.1⟩
      have HIL := Lib.hid hI3
      have HO3 := Lib.hid (own_below (HOZ.out.alloc (.cells #[.int .i64 d.k, .slice A1 n1 c1] 38)) hb3)
      have hw3 : wr.heap.size + 1 ≤ w3.heap.size := by have := hb3.size; simpa using this
      have HB3 : Hid (Below w1.heap.size w2 w3) := (HBR.out.alloc (by omega) (.cells #[.int .i64 d.k, .slice A1 n1 c1] 38)).trans (hb3.mono (by simp; omega))
      clear hown3 hb3 hI3 HOZ e0 e1
      go_wp2
      go_loopw [27] (fun i wi => ∃ j : Nat, j ≤ l ∧ i = .int .i64 j ∧ Hid (wi.ownsRow w1.heap.size 3 1 (.slice (some ⟨w1.heap.size, 0, none⟩) n n) n ((hmix gs n k (htAt gs k (L.take j))).map (Value.int .i64))) ∧ Hid (Tch w1.heap.size (w1.heap.size + 1) w3 wi)) (fun i _ => l - (intOf i).toNat)
      case atStart => exact ⟨0, Nat.zero_le _, rfl, HO3.out, Tch.refl _ _ _⟩
      case round =>
        obtain ⟨j, hj, rfl, HOJ, HTJ⟩ := hrel
        by_cases hjl : j < l
        · obtain ⟨g', rfl⟩ : ∃ g', A3 = some ⟨g', 0, none⟩ := by
            rcases hA0 with e | e
            · subst e
              obtain ⟨_, _, e, _⟩ := HIL.out (by have := HL.out; omega)
              cases e
            · exact e
          have hg' := hgA g' rfl
          obtain ⟨b', off', e', _, hc⟩ := (HIL.out.tch HTJ.out (.inr (by omega)) (Nat.le_refl _)) (by have := HL.out; omega)
          cases e'
          have hx := hc j (by have := HL.out; omega)
          have hah := HAH.out (L.getD j 0) (by have := HL.out; simp [List.getD, show j < L.length by omega])
          have HSJ := Lib.hid fun (t : Nat) (ht : L.getD j 0 = (t : Int)) => HSTEP.out L j t (by have := HL.out; omega) ht
          clear hc
          generalize hxx : L.getD j 0 = x at *
          obtain ⟨t, rfl⟩ : ∃ t : Nat, x = (t : Int) := ⟨x.toNat, by omega⟩
          have HSJ2 := Lib.hid (HSJ.out t rfl)
          have htk : t < k := by omega
          have htn : t < n := by omega
          have hy2 := HBD2.out t
          have hq := HBD.out (L.take j)
          have HLT := Lib.hid (hmix_lt gs n k (htAt gs k (L.take j)) t htk)
          have HAT := Lib.hid (hmix_at gs n k (htAt gs k (L.take j)))
          have HSET := Lib.hid (fun q' => hmix_set gs n k (htAt gs k (L.take j)) q')
          clear hxx HSJ
          rw [Nat.zero_add] at hx
          generalize (htTo gs k).getD t 0 = y at *
          generalize htAt gs k (L.take j) = q at *
          have u1 := (HOJ.out.cellAt k (by omega)).trans HAT.out
          have u2 := (HOJ.out.cellAt t (by omega)).trans HLT.out
          have f1 := HOJ.out.frozenAt k
          have hme : max q (y + 1) = if q < y + 1 then y + 1 else q := by split <;> omega
          have HSJ3 := HSJ2.out
          rw [hme] at HSJ3
          have HSJ4 := Lib.hid HSJ3
          have HNW := Lib.hid (HOJ.out.stored k (.int .i64 (if q < y + 1 then y + 1 else q)))
          clear hme HSJ3
          go_wp2
          go_region
          go_wp2
          go_roundw
          case rel =>
            have hnw := HNW.out
            rw [← List.map_set, HSET.out] at hnw
            refine ⟨j + 1, by omega, by go_num, ?_, ?_⟩
            · rw [HSJ4.out]
              exact hnw.1.drew
            · exact (HTJ.out.trans (Tch.of_grown hnw.2 fun k' hk' => by cases hk'; omega)).drew
          case measure => simp [intOf]; omega
        · obtain rfl : j = l := by omega
          have hLt : L.take j = L := List.take_of_length_le (by have := HL.out; omega)
          rw [hLt] at HOJ
          clear hLt
          go_wp2
          go_roundw
          case rel =>
            refine ⟨k + 1, by omega, by go_num, ?_, HB3.out.trans (HTJ.out.below (Nat.le_refl _) (by omega)), by have := HTJ.out.size; omega⟩
            rw [← HNX.out]; exact HOJ.out
          case measure => simp [intOf]; omega
    · obtain rfl : k = n := by omega
      go_wp2
      go_ret
      have hlen : (htTo gs gs.length).length = k := by rw [htTo_len]; exact HN.out.symm
      refine ⟨_, rfl, ?_, hB2.trans (HBR.out.mono (by omega))⟩
      have := HO.out
      rw [show hmix0 gs k k = htTo gs k by simp [hmix0]] at this
      unfold OwnI
      rw [hlen, ← HN.out]
      exact own_mono this (by omega)
set_option maxHeartbeats 1600000 in
theorem top_spec_HeightsOf (gs : List Nd) (hG : GB gs) : ∀ (A : Option Addr) (n c : Nat) (w : World), n = gs.length → n ≤ c → GS w w.heap.size A gs →
    Calls Try.prog 34 #[.agg #[.slice A n c]] w fun e w' => RetI w (htF gs) e w' := by
  intro A n c w hn _ h
  have H := Lib.hid h
  have HC := Lib.hid fun (w' : World) (hB : w.heap.size ≤ w'.heap.size) (h : GS w' w.heap.size A gs) => spec_validGraph A n c gs w' w.heap.size hB hn h hG
  have HE := Lib.hid fun (w' : World) (hB : w.heap.size ≤ w'.heap.size) (h : GS w' w.heap.size A gs) (hok : validG gs = true) => spec_heights A n c gs w' w.heap.size hB hn h hG hok
  have hf : htF gs = if validG gs then htTo gs gs.length else [] := rfl
  rw [hf]
  clear hf
  generalize validG gs = r at *
  generalize htTo gs gs.length = M at *
  clear h hn hG
  cases r
  · go_enter Try.func34, Try.ntmps34
    go_wp2_with fail
    refine (HC.out _ (by simp) (H.out.alloc (Nat.le_refl _) _)).mono ?_
    rintro e w1 ⟨rfl, hb⟩
    go_wp2
    go_ret
    exact RetI.nil (((Below.refl _ _).alloc (Nat.le_refl _) _).trans (hb.mono (by simp)))
  · go_enter Try.func34, Try.ntmps34
    go_wp2_with fail
    refine (HC.out _ (by simp) (H.out.alloc (Nat.le_refl _) _)).mono ?_
    rintro e w1 ⟨rfl, hb⟩
    have q : w1.cell? ⟨w.heap.size, 0, none⟩ = some (.slice A n c) := (hb.cell (p := ⟨w.heap.size, 0, none⟩) (by simp)).trans (by go_simp)
    have HG1 := Lib.hid ((H.out.alloc (Nat.le_refl _) (.cells #[.slice A n c] 25)).below hb (by simp))
    have hB1 : Below w.heap.size w w1 := ((Below.refl _ _).alloc (Nat.le_refl _) _).trans (hb.mono (by simp))
    go_wp2_with fail
    refine (HE.out _ hB1.size HG1.out (by trivial)).mono ?_
    rintro e w3 ⟨v, rfl, ho, hb3⟩
    go_wp2
    go_ret
    exact ⟨v, by simp, own_mono ho hB1.size, hB1.trans (hb3.mono hB1.size)⟩
end Go.Proofs.Ytdhjflhpenkchaa
