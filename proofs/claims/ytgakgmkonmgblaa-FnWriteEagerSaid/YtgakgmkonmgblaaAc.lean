/- Words and contracts for memory that the texts behind use. -/
import Derived.Test.YtgakgmkonmgblaaA0
import Derived.Test.YtgakgmkonmgblaaA1
import Derived.Test.YtgakgmkonmgblaaA2
import Derived.Test.YtgakgmkonmgblaaA3
import Derived.Test.YtgakgmkonmgblaaA4
import Derived.Test.YtgakgmkonmgblaaA5
import Derived.Test.YtgakgmkonmgblaaA6
import Derived.Test.YtgakgmkonmgblaaA7
import Derived.Test.YtgakgmkonmgblaaA8
import Derived.Test.YtgakgmkonmgblaaA9a
import Derived.Test.YtgakgmkonmgblaaA9b
import Derived.Test.YtgakgmkonmgblaaA9c
import Derived.Test.YtgakgmkonmgblaaA9
import Derived.Test.YtgakgmkonmgblaaAa
import Derived.Test.YtgakgmkonmgblaaAb
import Derived.WalkKit
import Derived.Laws.OwnMore
import Derived.Deep.Draws
import Derived.Test.YtgakgmkonmgblaaProg
import Derived.WalkSpells
import Derived.WalkLawsBesides
import Derived.Outline
import Derived.Lib.Hide
import Derived.BigQuiet
import Derived.Deep.QuietTactic
import Derived.StillTailTactics
import Derived.Deep.LoopGhost
import Derived.Laws.MakeOwn
import Derived.WalkSmall
import Derived.RegionTactic
import Derived.BigRegion
import Derived.Deep.RegionWith
import Derived.Deep.RegionHeld3
import Derived.Laws.Entries
import Derived.Laws.Bits64
import Derived.IntWalk
import Derived.Maps.AppendAt
import Derived.Deep.RegionLaw
import Derived.Deep.AppendLies
import Derived.Deep.Cut
import Derived.Deep.DeepCutAuto
import Derived.Laws.CopyOwn
import Derived.Maps.Own
import Derived.Maps.Views
import Derived.ChangeAlike

namespace Go.Proofs.Ytgakgmkonmgblaa
set_option linter.unusedSimpArgs false
set_option linter.unusedVariables false
open Go.RowKit
theorem take_step {α : Type} [Inhabited α] (l m : List α) (k : Nat) (h : k < l.length) (h' : k < m.length) (ht : l.take k = m.take k) (he : l.getD k default = m.getD k default) : l.take (k + 1) = m.take (k + 1) := by
  rw [take_succ_getD l k h, take_succ_getD m k h', ht, he]
theorem take_all_eq {α : Type} (l m : List α) (n : Nat) (h : n = l.length) (h' : n = m.length) (ht : l.take n = m.take n) : l = m := by
  rw [List.take_of_length_le (by omega), List.take_of_length_le (by omega)] at ht
  exact ht
theorem getD_ne {α : Type} [Inhabited α] [DecidableEq α] (l m : List α) (k : Nat) (h : l.getD k default ≠ m.getD k default) : decide (l = m) = false := by
  rw [decide_eq_false_iff_not]; rintro rfl; exact h rfl
end Go.Proofs.Ytgakgmkonmgblaa

namespace Go.Proofs.Ytgakgmkonmgblaa
set_option linter.unusedSimpArgs false
set_option linter.unusedVariables false
open Go.RowKit
theorem sum_small (xss : List (List Int)) (h : ∀ j, (xss.getD j []).length ≤ 10) : (xss.map List.length).sum ≤ xss.length * 10 := by
  induction xss with
  | nil => simp
  | cons x l ih =>
    have h0 := h 0
    have h1 := ih fun j => by have := h (j + 1); simpa using this
    simp at h0 ⊢
    omega
theorem EM.eb {st : Eg} (h : EM st) : EB st := by
  obtain ⟨h1, h2, h3⟩ := h
  have h4 := sum_small st.rs h3
  exact EB.of_small _ (by omega) ⟨by omega, fun j => by have := h3 j; omega⟩ (by omega)
end Go.Proofs.Ytgakgmkonmgblaa

namespace Go.Proofs.Ytgakgmkonmgblaa
set_option linter.unusedSimpArgs false
set_option linter.unusedVariables false
open Go.RowKit
set_option maxHeartbeats 800000 in
theorem laws_equalInts (A A' : Option Addr) (n n' c c' : Nat) (a b : List Int) (w : World) (B : Nat) (hB : B ≤ w.heap.size) (hn : n = a.length) (hn' : n' = b.length) (h : IS w B A a) (h' : IS w B A' b) (hs : n ≤ 2000000) (hs' : n' ≤ 2000000) :
    Calls Try.prog 9 #[.slice A n c, .slice A' n' c'] w fun e w' => e = .returned (.bool (decide (a = b))) ∧ Below w.heap.size w w' := by
  by_cases hl : n = n'
  · have hne : ((n : Int) != (n' : Int)) = false := by simp [hl]
    have HL := Lib.hid hl
    have HN := Lib.hid hn
    have HN' := Lib.hid hn'
    have H := Lib.hid h
    have H' := Lib.hid h'
    clear hl hn hn' h h'
    go_enter Try.func9, Try.ntmps9
    go_wp2
    go_loopw [5] (fun i wr => ∃ k : Nat, k ≤ n ∧ i = .int .i64 k ∧ Hid (∀ j, j < k → a.getD j 0 = b.getD j 0) ∧ Below w.heap.size w wr) (fun i _ => n - (intOf i).toNat)
    case atStart => exact ⟨0, Nat.zero_le _, rfl, fun j hj => by omega, Below.refl _ _⟩
    case round =>
      obtain ⟨k, hk, rfl, HT, hb⟩ := hrel
      by_cases hlt : k < n
      · have hlt' : k < n' := by have := HL.out; omega
        obtain ⟨b1, off, rfl, hbB, hc⟩ := H.out (by have := HN.out; omega)
        obtain ⟨b2, off', rfl, hbB', hc'⟩ := H'.out (by have := HN'.out; omega)
        have d1 := hc k (by have := HN.out; omega)
        have d2 := hc' k (by have := HN'.out; omega)
        have e1 := (hb.cell (p := ⟨b1, off + k, none⟩) (by simp; omega)).trans d1
        have e2 := (hb.cell (p := ⟨b2, off' + k, none⟩) (by simp; omega)).trans d2
        clear hc hc' d1 d2 H H'
        have HNE : Hid (a.getD k 0 ≠ b.getD k 0 → decide (a = b) = false) := fun hh => by rw [decide_eq_false_iff_not]; rintro rfl; exact hh rfl
        have HEQ : Hid (a.getD k 0 = b.getD k 0 → ∀ j, j < k + 1 → a.getD j 0 = b.getD j 0) := fun hh j hj => by
          rcases Nat.lt_or_ge j k with h1 | h1
          · exact HT.out j h1
          · obtain rfl : j = k := by omega
            exact hh
        generalize a.getD k 0 = x at *
        generalize b.getD k 0 = y at *
        cases hxy : (x == y)
        · have hne2 : (x != y) = true := by simp [bne, hxy]
          have HF := Lib.hid (HNE.out (by simpa using hxy))
          clear hxy
          go_wp2
          go_region
          go_wp2
          go_ret
          exact ⟨ret_b HF.out.symm, hb.drew⟩
        · have hne2 : (x != y) = false := by simp [bne, hxy]
          have HF := Lib.hid (HEQ.out (by simpa using hxy))
          clear hxy
          go_wp2
          go_region
          go_wp2
          go_roundw
          case rel => exact ⟨k + 1, by omega, by go_num, HF.out, hb.drew⟩
          case measure => simp [intOf]; omega
      · obtain rfl : k = n := by omega
        go_wp2
        go_ret
        refine ⟨ret_b ?_, hb⟩
        symm
        apply decide_eq_true
        have h1 := HN.out
        have h2 := HN'.out
        have h3 := HL.out
        apply List.ext_getElem (by omega)
        intro j hj hj'
        have := HT.out j (by omega)
        simpa [List.getD, hj, hj'] using this
  · have hne : ((n : Int) != (n' : Int)) = true := by simp; omega
    have hf : decide (a = b) = false := by rw [decide_eq_false_iff_not]; rintro rfl; omega
    rw [hf]
    clear hl hn hn' h h' hf
    go_enter Try.func9, Try.ntmps9
    go_wp2
    go_ret
    exact ⟨rfl, Below.refl _ _⟩
end Go.Proofs.Ytgakgmkonmgblaa

namespace Go.Proofs.Ytgakgmkonmgblaa
set_option linter.unusedSimpArgs false
set_option linter.unusedVariables false
open Go.RowKit
theorem ES.step {A E : Option Addr} {st : Eg} {wk wl : World} (h : ES wk wk.heap.size A E st) (hb : Below wk.heap.size wk wl) : ES wl wl.heap.size A E st := ⟨h.1.step hb, h.2.step hb⟩
set_option maxRecDepth 100000 in
set_option maxHeartbeats 1600000 in
theorem laws_equalLists (A A' : Option Addr) (n n' c c' : Nat) (xss yss : List (List Int)) (w : World) (B : Nat) (hB : B ≤ w.heap.size) (hn : n = xss.length) (hn' : n' = yss.length) (h : SS w B A xss) (h' : SS w B A' yss) (hb1 : SB xss) (hb2 : SB yss) :
    Calls Try.prog 27 #[.slice A n c, .slice A' n' c'] w fun e w' => e = .returned (.bool (decide (xss = yss))) ∧ Below w.heap.size w w' := by
  have hm1 : n ≤ 1048576 := by rw [hn]; exact hb1.1
  have hm2 : n' ≤ 1048576 := by rw [hn']; exact hb2.1
  by_cases hl : n = n'
  · have hne : ((n : Int) != (n' : Int)) = false := by simp [hl]
    have HL := Lib.hid hl
    have HN := Lib.hid hn
    have HN' := Lib.hid hn'
    have H := Lib.hid h
    have H' := Lib.hid h'
    have HB1 := Lib.hid hb1
    have HB2 := Lib.hid hb2
    clear hl hn hn' h h' hb1 hb2
    go_enter Try.func27, Try.ntmps27
    go_wp2
    go_loopw [5] (fun i wr => ∃ k : Nat, k ≤ n ∧ i = .int .i64 k ∧ Hid (xss.take k = yss.take k) ∧ Below w.heap.size w wr) (fun i _ => n - (intOf i).toNat)
    case atStart => exact ⟨0, Nat.zero_le _, rfl, by simp [Hid], Below.refl _ _⟩
    case round =>
      obtain ⟨k, hk, rfl, HT, hb⟩ := hrel
      by_cases hlt : k < n
      · obtain ⟨b, off, rfl, hbB, hc⟩ := H.out (by have := HN.out; omega)
        obtain ⟨b', off', rfl, hbB', hc'⟩ := H'.out (by have := HN'.out; have := HL.out; omega)
        obtain ⟨A1, n1, c1, c2, hn1', hps⟩ := hc k (by have := HN.out; omega)
        obtain ⟨A2, n2, d1, d2, hn2', hqs⟩ := hc' k (by have := HN'.out; have := HL.out; omega)
        have hx1 := HB1.out.2 k
        have hx2 := HB2.out.2 k
        clear hc hc' H H'
        have hlt' : k < n' := by have := HL.out; omega
        have b1 := (hb.cell (p := ⟨b, off + k, none⟩) (by simp; omega)).trans c2
        have e1 := (hb.cell (p := ⟨b', off' + k, none⟩) (by simp; omega)).trans d2
        have HPS := Lib.hid (hps.below hb hB)
        have HQS := Lib.hid (hqs.below hb hB)
        clear c2 d2 hps hqs
        have hpd : xss.getD k [] = xss.getD k default := rfl
        have hqd : yss.getD k [] = yss.getD k default := rfl
        rw [hpd] at *
        rw [hqd] at *
        clear hpd hqd
        generalize hp : xss.getD k default = p at *
        generalize hq : yss.getD k default = q at *
        have HP := Lib.hid hp
        have HQ := Lib.hid hq
        have HN1 := Lib.hid hn1'
        have HN2 := Lib.hid hn2'
        have hy1 : n1 ≤ 2000000 := by omega
        have hy2 : n2 ≤ 2000000 := by omega
        have HEQ := Lib.hid fun (w' : World) (hB : B ≤ w'.heap.size) (h : IS w' B A1 p) (h' : IS w' B A2 q) => laws_equalInts A1 A2 n1 n2 c1 d1 p q w' B hB HN1.out HN2.out h h' hy1 hy2
        obtain ⟨r, hr⟩ : ∃ r : Bool, r = decide (p = q) := ⟨_, rfl⟩
        rw [← hr] at HEQ
        have HR := Lib.hid hr
        clear hp hq hn1' hn2' hx1 hx2 hr
        go_wp2
        go_still_tail 8, (by kernel_rfl)
        go_wp2_with fail
        refine (HEQ.out wr.drew (Nat.le_trans hB hb.size) HPS.out HQS.out).mono ?_
        rintro e w1 ⟨rfl, hb1⟩
        cases r
        · go_wp2
          go_ret
          refine ⟨ret_b ?_, hb.drew.trans (hb1.mono hb.size)⟩
          have hne : xss.getD k default ≠ yss.getD k default := by
            rw [HP.out, HQ.out]; exact of_decide_eq_false HR.out.symm
          simp [getD_ne xss yss k hne]
        · have he : xss.getD k default = yss.getD k default := by
            rw [HP.out, HQ.out]; exact of_decide_eq_true HR.out.symm
          have hts := take_step xss yss k (by have := HN.out; omega) (by have := HN'.out; omega) HT.out he
          have HTS := Lib.hid hts
          clear he hts
          go_wp2
          go_roundw
          case rel => exact ⟨k + 1, by omega, by go_num, HTS.out, hb.drew.trans (hb1.mono hb.size)⟩
          case measure => simp [intOf]; omega
      · go_wp2
        go_ret
        refine ⟨ret_b ?_, hb⟩
        have hkn : k = n := by omega
        have := take_all_eq xss yss n HN.out (HL.out.trans HN'.out) (by rw [← hkn]; exact HT.out)
        simp [this]
  · have hne : ((n : Int) != (n' : Int)) = true := by simp; omega
    have hf : decide (xss = yss) = false := by
      rw [decide_eq_false_iff_not]; rintro rfl; omega
    rw [hf]
    clear hl hn hn' h h' hf hb1 hb2
    go_enter Try.func27, Try.ntmps27
    go_wp2
    go_ret
    exact ⟨rfl, Below.refl _ _⟩
set_option maxHeartbeats 1600000 in
theorem laws_equalEager (A E A' E' : Option Addr) (n c en ec c' ec' : Nat) (st : Eg) (w : World) (hn : n = st.vs.length) (he : en = st.rs.length) (h : ES w w.heap.size A E st) (h' : ES w w.heap.size A' E' st) (hb : EB st) :
    Calls Try.prog 8 #[.agg #[.slice A n c, .slice E en ec], .agg #[.slice A' n c', .slice E' en ec']] w fun e w' => e = .returned (.bool true) ∧ Below w.heap.size w w' := by
  have H := Lib.hid h
  have H' := Lib.hid h'
  have HI := Lib.hid fun (w' : World) (B : Nat) (hB : B ≤ w'.heap.size) (h : IS w' B A st.vs) (h' : IS w' B A' st.vs) => laws_equalInts A A' n n c c' st.vs st.vs w' B hB hn hn h h' (by have := hb.1; omega) (by have := hb.1; omega)
  have HL := Lib.hid fun (w' : World) (B : Nat) (hB : B ≤ w'.heap.size) (h : SS w' B E st.rs) (h' : SS w' B E' st.rs) => laws_equalLists E E' en en ec ec' st.rs st.rs w' B hB he he h h' hb.2.1 hb.2.1
  rw [show decide (st.vs = st.vs) = true from decide_eq_true rfl] at HI
  rw [show decide (st.rs = st.rs) = true from decide_eq_true rfl] at HL
  clear h h' hn he hb
  go_enter Try.func8, Try.ntmps8
  go_wp2_with fail
  refine (HI.out _ w.heap.size (by simp; omega) ((H.out.1.alloc (Nat.le_refl _) _).alloc (by simp) _) ((H'.out.1.alloc (Nat.le_refl _) _).alloc (by simp) _)).mono ?_
  rintro e w1 ⟨rfl, hb⟩
  have q1 : w1.cell? ⟨w.heap.size, 1, none⟩ = some (.slice E en ec) := (hb.cell (p := ⟨w.heap.size, 1, none⟩) (by simp; omega)).trans (by go_simp)
  have q2 : w1.cell? ⟨w.heap.size + 1, 1, none⟩ = some (.slice E' en ec') := (hb.cell (p := ⟨w.heap.size + 1, 1, none⟩) (by simp)).trans (by go_simp)
  have HS := Lib.hid (((H.out.2.alloc (Nat.le_refl _) (.cells #[.slice A n c, .slice E en ec] 29)).alloc (by simp) (.cells #[.slice A' n c', .slice E' en ec'] 29)).below hb (by simp; omega))
  have HS' := Lib.hid (((H'.out.2.alloc (Nat.le_refl _) (.cells #[.slice A n c, .slice E en ec] 29)).alloc (by simp) (.cells #[.slice A' n c', .slice E' en ec'] 29)).below hb (by simp; omega))
  have HB1 := Lib.hid ((((Below.refl w.heap.size w).alloc (Nat.le_refl _) (.cells #[.slice A n c, .slice E en ec] 29)).alloc (by simp) (.cells #[.slice A' n c', .slice E' en ec'] 29)).trans (hb.mono (by simp; omega)))
  have hs1 : w.heap.size ≤ w1.heap.size := HB1.out.size
  clear hb
  go_wp2_with fail
  refine (HL.out _ w.heap.size hs1 HS.out HS'.out).mono ?_
  rintro e w2 ⟨rfl, hb⟩
  go_wp2
  go_ret
  exact ⟨rfl, HB1.out.trans (hb.mono hs1)⟩
end Go.Proofs.Ytgakgmkonmgblaa

namespace Go.Proofs.Ytgakgmkonmgblaa
set_option linter.unusedSimpArgs false
set_option linter.unusedVariables false
open Go.RowKit
theorem mean_node (gs : List Nd) (cs : List Int) (h : okC gs cs = true) (i : Nat) (hi : i < gs.length) (hk : ((gs.getD i default).k == 0) = false) :
    canEv (gs.getD i default).ps (mean gs cs) = true ∧ valF (gs.getD i default).ps (mean gs cs) = (mean gs cs).getD i 0 := by
  obtain ⟨hg, hc⟩ := okC_parts gs cs h
  have h10 := (validG_parts gs hg).1
  have hml : (mean gs cs).length = gs.length := meanTo_len gs cs gs.length
  have hvf := (nodeOK_formula gs i ((validG_parts gs hg).2 i hi) hk).1
  have hce : canEv (gs.getD i default).ps (mean gs cs) = true := canEv_of _ _ hvf (by omega) (meanTo_VOK gs cs h gs.length (Nat.le_refl _)) (by rw [hml]; exact each_ahead gs i gs.length hg hi hk (by omega))
  refine ⟨hce, ?_⟩
  unfold valF
  rw [hce, if_pos rfl]
  have hok : (whole (gs.getD i default).ps).ok i := whole_ok _ i hvf (each_ahead gs i i hg hi hk (Nat.le_refl _))
  have hag := (ev_agree (whole (gs.getD i default).ps) (meanTo gs cs i) (mean gs cs) i hok fun x hx => by
    obtain ⟨q, hq, rfl⟩ := rds_lt _ _ i hok x hx
    unfold mean
    exact meanTo_pre gs cs i gs.length q (by omega) hq).1
  rw [hag]
  unfold mean
  rw [meanTo_pre gs cs (i + 1) gs.length i (by omega) (by omega), meanTo_last, hk]
  rfl
end Go.Proofs.Ytgakgmkonmgblaa

namespace Go.Proofs.Ytgakgmkonmgblaa
set_option linter.unusedSimpArgs false
set_option linter.unusedVariables false
open Go.RowKit
theorem start_valid (gs : List Nd) (xs : List Int) (h : okC gs xs = true) : validE gs (startF gs xs) = true := by
  obtain ⟨hg, hc⟩ := okC_parts gs xs h
  have hml : (mean gs xs).length = gs.length := meanTo_len gs xs gs.length
  have hvo := meanTo_VOK gs xs h gs.length (Nat.le_refl _)
  unfold startF
  rw [h, if_pos rfl]
  unfold validE
  rw [hg, decide_eq_true hml, decide_eq_true (depTo_len gs (mean gs xs) gs.length)]
  simp only [Bool.true_and, Bool.and_eq_true]
  refine ⟨allR_true _ _ _ fun k hk => ?_, allE_fin _ _ fun i hi => ?_⟩
  · have := hvo k hk
    unfold rng
    simpa [mean] using this
  · unfold okE
    rw [depTo_get gs (mean gs xs) gs.length i hi]
    simp only [Bool.and_eq_true, beq_iff_eq, decide_true, and_true]
    unfold valE
    cases hk : ((gs.getD i default).k == 0)
    · obtain ⟨h1, h2⟩ := mean_node gs xs h i hi hk
      unfold valF at h2
      rw [h1, if_pos rfl] at h2
      simpa using h2
    · simp
end Go.Proofs.Ytgakgmkonmgblaa
