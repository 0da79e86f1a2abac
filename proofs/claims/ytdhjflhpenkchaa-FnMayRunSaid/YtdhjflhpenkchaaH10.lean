/- Words and contracts for memory that the texts behind use. -/
import Derived.Test.YtdhjflhpenkchaaH0a
import Derived.Test.YtdhjflhpenkchaaH0b
import Derived.Test.YtdhjflhpenkchaaH0
import Derived.Test.YtdhjflhpenkchaaH1
import Derived.Test.YtdhjflhpenkchaaH2
import Derived.Test.YtdhjflhpenkchaaH3
import Derived.Test.YtdhjflhpenkchaaH4
import Derived.Test.YtdhjflhpenkchaaH6
import Derived.Test.YtdhjflhpenkchaaH5
import Derived.Test.YtdhjflhpenkchaaH7
import Derived.Test.YtdhjflhpenkchaaH8
import Derived.Test.YtdhjflhpenkchaaH9
import Derived.WalkKit
import Derived.Laws.OwnMore
import Derived.Deep.Draws
import Derived.Test.YtdhjflhpenkchaaProg
import Derived.WalkSpells
import Derived.WalkLawsBesides
import Derived.Outline
import Derived.Lib.Hide
import Derived.BigQuiet
import Derived.Deep.QuietTactic
import Derived.StillTailTactics
import Derived.Deep.LoopGhost
import Derived.Laws.MakeOwn
import Derived.WalkSmall
import Derived.RegionTactic
import Derived.BigRegion
import Derived.Deep.RegionWith
import Derived.Deep.RegionHeld3
import Derived.Laws.Entries
import Derived.Laws.Bits64
import Derived.IntWalk
import Derived.Maps.AppendAt
import Derived.Deep.RegionLaw
import Derived.Deep.AppendLies
import Derived.Deep.Cut
import Derived.Deep.DeepCutAuto
import Derived.Maps.Own
import Derived.Maps.Views
import Derived.Laws.CopyOwn
import Derived.ChangeAlike

namespace Go.Proofs.Ytdhjflhpenkchaa
set_option linter.unusedSimpArgs false
set_option linter.unusedVariables false
open Go.RowKit Go.Maps
theorem needTo_len (gs : List Nd) (st : List Int) : (needTo gs st).length ≤ gs.length := nwTo_len _ _
theorem watchF_len (gs : List Nd) : (watchF gs).length ≤ 10 := by
  unfold watchF
  split
  · rename_i h
    have := (validG_parts gs h).1
    have := needTo_len gs (effs gs)
    omega
  · simp
set_option maxRecDepth 100000 in
set_option maxHeartbeats 1600000 in
theorem spec_effects (A : Option Addr) (n c : Nat) (gs : List Nd) (w : World) (B : Nat) (hB : B ≤ w.heap.size) (hn : n = gs.length) (h : GS w B A gs) (hn10 : n ≤ 10) :
    Calls Try.prog 70 #[.agg #[.slice A n c]] w fun e w' => RetI w (nwTo (effB gs) n) e w' := by
  obtain ⟨i0, hi, hz0, hz1, hz2⟩ := info_parts info_int
  have H := Lib.hid h
  have HN := Lib.hid hn
  clear h hn
  go_enter Try.func70, Try.ntmps70
  go_wp2
  go_loopw [3, 4] (fun v i wr => ∃ k : Nat, k ≤ n ∧ i = .int .i64 k ∧ Hid (OwnI wr (w.heap.size + 1) v (nwTo (effB gs) k)) ∧ Below (w.heap.size + 1) (w.alloc (.cells #[.slice A n c] 25)) wr) (fun _ i _ => n - (intOf i).toNat)
  case atStart =>
    refine ⟨0, by omega, rfl, ?_, (Below.refl _ _).alloc (by simp) _⟩
    have := World.ownsRow_lit (e := 3) (size := 1) (base := w.heap.size + 1) (w.alloc (.cells #[.slice A n c] 25)) #[] 0 (by simp) (by unfold maxLen; omega) rfl
    simpa [OwnI, Hid, nwTo] using this
  case round =>
    obtain ⟨k, hk, rfl, HO, hbr⟩ := hrel
    have hbox : wr.cell? ⟨w.heap.size, 0, none⟩ = some (.slice A n c) := (hbr.cell (p := ⟨w.heap.size, 0, none⟩) (by simp)).trans (by go_simp)
    have hwr : w.heap.size + 1 ≤ wr.heap.size := by have := hbr.size; simpa using this
    by_cases hlt : k < n
    · have hkg : k < gs.length := by have := HN.out; omega
      obtain ⟨b, off, rfl, hbB, c0, _⟩ := H.out.at_ k hkg
      have e0 := ((hbr.cell (p := ⟨b, off + k * 2, none⟩) (by simp; omega)).trans (World.cell?_alloc_lt _ _ _ (by simp; omega))).trans c0
      have HST := Lib.hid (nwTo_step (effB gs) k)
      have hml := nwTo_len (effB gs) k
      have heb : effB gs k = ((gs.getD k default).k == 2) := rfl
      rw [heb] at HST
      generalize (gs.getD k default).k = kd at *
      generalize nwTo (effB gs) k = M at *
      clear c0 heb
      cases hkd : (kd == 2)
      · rw [hkd] at HST
        have HST2 := Lib.hid (HST.out.trans (by rw [if_neg (by simp), List.append_nil]))
        clear HST
        go_wp2
        go_roundw
        case rel => exact ⟨k + 1, by omega, by go_num, by rw [HST2.out]; exact HO.out, hbr⟩
        case measure => simp [intOf]; omega
      · rw [hkd] at HST
        have HST2 := Lib.hid (HST.out.trans (by rw [if_pos rfl]))
        clear HST
        go_wp2_with (at_builtin; refine wpList_append_own _ rfl _ _ 28 rfl (w.heap.size + 1) 3 i0 (.int .i64 0) 1 8 Try.underlying28 hi hz0 hz1 hz2 rfl (by decide) _ _ _ rfl (HO.out.alloc _) ⟨_, 0, none⟩ 1 1 [.int .i64 k] rfl rfl (cell_one_new _ _ _) ?c2 ?c3 ?c4 ?c5 ?_)
        case c2 => first | rfl | (intro u hu; simp at hu; subst hu; rfl)
        case c3 => unfold maxLen; omega
        case c4 => omega
        case c5 => first | omega | (simp; omega)
        intro v' w4 hown' hgrow _
        have hpos := (HO.out.alloc (.cells #[.int .i64 k] 3)).lt
        have HO' : Hid (OwnI w4 (w.heap.size + 1) v' (nwTo (effB gs) (k + 1))) := by
          rw [HST2.out]
          simpa [OwnI, Hid] using hown'
        have HB' := Lib.hid ((hbr.alloc hwr (.cells #[.int .i64 k] 3)).grown hgrow (by simp; omega) (fun q hq => (hpos q hq).1))
        clear hown' hgrow hpos
        go_wp2
        go_roundw
        case rel => exact ⟨k + 1, by omega, by go_num, HO'.out, HB'.out⟩
        case measure => simp [intOf]; omega
    · obtain rfl : k = n := by omega
      go_wp2
      go_ret
      exact ⟨_, rfl, own_mono HO.out (by omega), ((Below.refl _ _).alloc (Nat.le_refl _) _).trans (hbr.mono (by omega))⟩
set_option maxHeartbeats 800000 in
theorem watch1_at (g : Nat) (A : Option Addr) (n c : Nat) (gs : List Nd) (q : Nat) (w : World) (hn : n = gs.length) (hq : q < n) (hg : g < w.heap.size) (h1 : w.cell? ⟨g, 0, none⟩ = some (.slice A n c)) (h : GS w w.heap.size A gs) :
    Calls Try.prog 69 #[.int .i64 q, .pointer (some ⟨g, 0, none⟩)] w fun e w' => e = .returned (.bool (effB gs q)) ∧ Below w.heap.size w w' := by
  obtain ⟨b, off, rfl, hbB, c0, _⟩ := h.at_ q (by omega)
  have he : effB gs q = ((gs.getD q default).k == 2) := rfl
  rw [he]
  have hqn : (q : Int) < (n : Int) := by omega
  generalize (gs.getD q default).k = kd at *
  clear hn h he
  cases hk : (kd == 2)
  all_goals
    go_enter Try.func69, Try.ntmps69
    go_wp2
    go_ret
    exact ⟨ret_b (by simp), Below.refl _ _⟩
set_option maxRecDepth 100000 in
set_option maxHeartbeats 1600000 in
theorem top_impl_WatchedOf (gs : List Nd) (hG : GB gs) : ∀ (A : Option Addr) (n c : Nat) (w : World), n = gs.length → n ≤ c → GS w w.heap.size A gs →
    Calls Try.prog 30 #[.agg #[.slice A n c]] w fun e w' => RetI w (watchF gs) e w' := by
  intro A n c w hn hnc h
  have HH := Lib.hid (impl_ValidGraph A n c gs (w.alloc (.cells #[.slice A n c] 25)) w.heap.size (by simp) hn (h.alloc (Nat.le_refl _) _) hG hnc)
  have H := Lib.hid h
  cases hv : validG gs
  · have hr : watchF gs = [] := by unfold watchF; rw [hv]; rfl
    rw [hr]
    rw [hv] at HH
    clear hv hr h hn hG
    go_enter Try.func30, Try.ntmps30
    go_wp2_with fail
    refine HH.out.mono ?_
    rintro e w1 ⟨rfl, hb⟩
    go_wp2
    go_ret
    exact RetI.nil (((Below.refl _ _).alloc (Nat.le_refl _) _).trans (hb.mono (by simp)))
  · have hr : watchF gs = needTo gs (effs gs) := by unfold watchF; rw [hv]; rfl
    have hn10 : n ≤ 10 := by have := (validG_parts gs hv).1; omega
    have hel : (effs gs).length ≤ n := by rw [hn]; exact nwTo_len _ _
    have hef : effs gs = nwTo (effB gs) n := by rw [hn]; rfl
    rw [hr]
    rw [hv] at HH
    have HFU := Lib.hid fun (A1 : Option Addr) (c1 m : Nat) (w' : World) (hB : w.heap.size ≤ w'.heap.size) (hm : m = (effs gs).length) (h : GS w' w.heap.size A gs) (hx : IS w' w'.heap.size A1 (effs gs)) => from_needs A A1 n c m c1 gs (effs gs) w' w'.heap.size (Nat.le_refl _) hn hm (h.more hB) hx hv hG (by omega) (nwTo_ok _ _)
    have HNW := Lib.hid fun (w1 : World) (h0 : w.heap.size < w1.heap.size) (h1 : w1.cell? ⟨w.heap.size, 0, none⟩ = some (.slice A n c)) (h2 : GS w1 w.heap.size A gs) => impl_nodesWhere1 69 (.pointer (some ⟨w.heap.size, 0, none⟩)) (effB gs)
      (fun w' => w.heap.size < w'.heap.size ∧ w'.cell? ⟨w.heap.size, 0, none⟩ = some (.slice A n c) ∧ GS w' w.heap.size A gs) A n c (by omega)
      (fun wa wb h hb => ⟨Nat.lt_of_lt_of_le h.1 hb.size, (hb.cell (p := ⟨w.heap.size, 0, none⟩) h.1).trans h.2.1, h.2.2.below hb (Nat.le_of_lt h.1)⟩)
      (fun q w => by kernel_rfl)
      (fun q wa hq h => watch1_at w.heap.size A n c gs q wa hn hq h.1 h.2.1 (h.2.2.more (Nat.le_of_lt h.1)))
      w1 ⟨h0, h1, h2⟩
    rw [← hef] at HNW
    generalize needTo gs (effs gs) = R at *
    generalize effs gs = E at *
    clear hv hr h hn hG hef
    go_enter Try.func30, Try.ntmps30
    go_wp2_with fail
    refine HH.out.mono ?_
    rintro e w1 ⟨rfl, hb⟩
    have q1 : w1.cell? ⟨w.heap.size, 0, none⟩ = some (.slice A n c) := (hb.cell (p := ⟨w.heap.size, 0, none⟩) (by simp)).trans (by go_simp)
    have HG1 := Lib.hid ((H.out.alloc (Nat.le_refl _) (.cells #[.slice A n c] 25)).below hb (by simp))
    have hB1 : Below w.heap.size w w1 := ((Below.refl _ _).alloc (Nat.le_refl _) _).trans (hb.mono (by simp))
    have hl1 : w.heap.size < w1.heap.size := by have := hb.size; simp at this; omega
    clear hb
    go_wp2_with fail
    refine (HNW.out w1 hl1 q1 HG1.out).mono ?_
    rintro e w2 ⟨v2, rfl, ho2, hb2⟩
    obtain ⟨A2, c2, rfl, hI2⟩ := OwnI.form ho2
    have q2 := (hb2.cell (p := ⟨w.heap.size, 0, none⟩) hl1).trans q1
    have HG2 := Lib.hid (HG1.out.below hb2 hB1.size)
    have HB2 := Lib.hid (hB1.trans (hb2.mono hB1.size))
    have hl2 : w.heap.size < w2.heap.size := Nat.lt_of_lt_of_le hl1 hb2.size
    have HI2 := Lib.hid hI2
    generalize hm : E.length = m at *
    have HM := Lib.hid hm
    clear ho2 hb2 hI2 q1 HG1 hB1 hl1 hm
    go_wp2_with fail
    refine (HFU.out A2 c2 m _ HB2.out.size (by first | rfl | exact HM.out.symm) HG2.out HI2.out).mono ?_
    rintro e w3 ⟨v, rfl, ho, hb3⟩
    go_wp2
    go_ret
    exact ⟨v, by simp, own_mono ho HB2.out.size, HB2.out.trans (hb3.mono HB2.out.size)⟩
set_option maxRecDepth 100000 in
set_option maxHeartbeats 1600000 in
theorem top_spec_WatchedOf (gs : List Nd) (hG : GB gs) : ∀ (A : Option Addr) (n c : Nat) (w : World), n = gs.length → n ≤ c → GS w w.heap.size A gs →
    Calls Try.prog 31 #[.agg #[.slice A n c]] w fun e w' => RetI w (watchF gs) e w' := by
  intro A n c w hn hnc h
  have HH := Lib.hid (spec_validGraph A n c gs (w.alloc (.cells #[.slice A n c] 25)) w.heap.size (by simp) hn (h.alloc (Nat.le_refl _) _) hG)
  have H := Lib.hid h
  cases hv : validG gs
  · have hr : watchF gs = [] := by unfold watchF; rw [hv]; rfl
    rw [hr]
    rw [hv] at HH
    clear hv hr h hn hG
    go_enter Try.func31, Try.ntmps31
    go_wp2_with fail
    refine HH.out.mono ?_
    rintro e w1 ⟨rfl, hb⟩
    go_wp2
    go_ret
    exact RetI.nil (((Below.refl _ _).alloc (Nat.le_refl _) _).trans (hb.mono (by simp)))
  · have hr : watchF gs = needTo gs (effs gs) := by unfold watchF; rw [hv]; rfl
    have hn10 : n ≤ 10 := by have := (validG_parts gs hv).1; omega
    have hel : (effs gs).length ≤ n := by rw [hn]; exact nwTo_len _ _
    have hef : effs gs = nwTo (effB gs) n := by rw [hn]; rfl
    rw [hr]
    rw [hv] at HH
    have HFU := Lib.hid fun (A1 : Option Addr) (c1 m : Nat) (w' : World) (hB : w.heap.size ≤ w'.heap.size) (hm : m = (effs gs).length) (h : GS w' w.heap.size A gs) (hx : IS w' w'.heap.size A1 (effs gs)) => spec_need A A1 n c m c1 gs (effs gs) w' w'.heap.size (Nat.le_refl _) hn hm (h.more hB) hx hv hG (by omega)
    have HNW := Lib.hid fun (w1 : World) (h0 : w.heap.size ≤ w1.heap.size) (h2 : GS w1 w.heap.size A gs) => spec_effects A n c gs w1 w.heap.size h0 hn h2 hn10
    rw [← hef] at HNW
    generalize needTo gs (effs gs) = R at *
    generalize effs gs = E at *
    clear hv hr h hn hG hef
    go_enter Try.func31, Try.ntmps31
    go_wp2_with fail
    refine HH.out.mono ?_
    rintro e w1 ⟨rfl, hb⟩
    have q1 : w1.cell? ⟨w.heap.size, 0, none⟩ = some (.slice A n c) := (hb.cell (p := ⟨w.heap.size, 0, none⟩) (by simp)).trans (by go_simp)
    have HG1 := Lib.hid ((H.out.alloc (Nat.le_refl _) (.cells #[.slice A n c] 25)).below hb (by simp))
    have hB1 : Below w.heap.size w w1 := ((Below.refl _ _).alloc (Nat.le_refl _) _).trans (hb.mono (by simp))
    have hl1 : w.heap.size < w1.heap.size := by have := hb.size; simp at this; omega
    clear hb
    go_wp2_with fail
    go_region_held3 (fun w' => w'.cell? ⟨w.heap.size, 0, none⟩ = some (.slice A n c)) (first | exact q1 | exact q2 | exact q3)
      (first
        | (go_at_call 70; refine (HNW.out w1.drew hB1.size HG1.out).mono ?_; rintro e w2 ⟨v2, rfl, ho2, hb2'⟩; have hb2 : Below w1.heap.size w1 w2 := below_of_drew hb2'; obtain ⟨A2, c2, rfl, hI2⟩ := OwnI.form ho2; have q2 := (hb2.cell (p := ⟨w.heap.size, 0, none⟩) hl1).trans q1; have HG2 := Lib.hid (HG1.out.below hb2 hB1.size); have HB2 := Lib.hid (hB1.trans (hb2.mono hB1.size)); have hl2 : w.heap.size < w2.heap.size := Nat.lt_of_lt_of_le hl1 hb2.size; have HI2 := Lib.hid hI2; clear ho2 hb2 hb2' hI2)
        | (go_at_call 66; refine (HFU.out A2 c2 E.length w2 HB2.out.size rfl HG2.out HI2.out).mono ?_; rintro e w3 ⟨v, rfl, ho, hb3⟩; have q3 := (hb3.cell (p := ⟨w.heap.size, 0, none⟩) hl2).trans q2))
    go_wp2
    go_ret
    exact ⟨v, by simp, own_mono ho HB2.out.size, HB2.out.trans (hb3.mono HB2.out.size)⟩
end Go.Proofs.Ytdhjflhpenkchaa
