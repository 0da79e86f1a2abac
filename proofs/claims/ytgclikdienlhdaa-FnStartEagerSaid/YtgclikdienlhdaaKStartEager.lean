/- For all bytes the law FnStartEager holds: a state begins with the meaning, is valid, and has the cells; and the bytes stay as they were. Conditions: none. -/
import Derived.Test.YtgclikdienlhdaaZ06
import Derived.Deep.RegionHeld3
/- The laws' own helpers on lists of lists and on eager states. -/
namespace Go.Proofs.Ytgclikdienlhdaa
set_option linter.unusedSimpArgs false
set_option linter.unusedVariables false
open Go.RowKit

theorem ES.step {A E : Option Addr} {st : Eg} {wk wl : World} (h : ES wk wk.heap.size A E st) (hb : Below wk.heap.size wk wl) : ES wl wl.heap.size A E st := ⟨h.1.step hb, h.2.step hb⟩

set_option maxRecDepth 100000 in
set_option maxHeartbeats 1600000 in
theorem laws_equalLists (A A' : Option Addr) (n n' c c' : Nat) (xss yss : List (List Int)) (w : World) (B : Nat) (hB : B ≤ w.heap.size) (hn : n = xss.length) (hn' : n' = yss.length) (h : SS w B A xss) (h' : SS w B A' yss) (hb1 : SB xss) (hb2 : SB yss) :
    Calls Try.prog 15 #[.slice A n c, .slice A' n' c'] w fun e w' => e = .returned (.bool (decide (xss = yss))) ∧ Below w.heap.size w w' := by
  have hm1 : n ≤ 1048576 := by rw [hn]; exact hb1.1
  have hm2 : n' ≤ 1048576 := by rw [hn']; exact hb2.1
  by_cases hl : n = n'
  · have hne : ((n : Int) != (n' : Int)) = false := by simp [hl]
    have HL := Lib.hid hl
    have HN := Lib.hid hn
    have HN' := Lib.hid hn'
    have H := Lib.hid h
    have H' := Lib.hid h'
    have HB1 := Lib.hid hb1
    have HB2 := Lib.hid hb2
    clear hl hn hn' h h' hb1 hb2
    go_enter Try.func15, Try.ntmps15
    go_wp2
    go_loopw [5] (fun i wr => ∃ k : Nat, k ≤ n ∧ i = .int .i64 k ∧ Hid (xss.take k = yss.take k) ∧ Below w.heap.size w wr) (fun i _ => n - (intOf i).toNat)
    case atStart => exact ⟨0, Nat.zero_le _, rfl, by simp [Hid], Below.refl _ _⟩
    case round =>
      obtain ⟨k, hk, rfl, HT, hb⟩ := hrel
      by_cases hlt : k < n
      · obtain ⟨b, off, rfl, hbB, hc⟩ := H.out (by have := HN.out; omega)
        obtain ⟨b', off', rfl, hbB', hc'⟩ := H'.out (by have := HN'.out; have := HL.out; omega)
        obtain ⟨A1, n1, c1, c2, hn1', hps⟩ := hc k (by have := HN.out; omega)
        obtain ⟨A2, n2, d1, d2, hn2', hqs⟩ := hc' k (by have := HN'.out; have := HL.out; omega)
        have hx1 := HB1.out.2 k
        have hx2 := HB2.out.2 k
        clear hc hc' H H'
        have hlt' : k < n' := by have := HL.out; omega
        have b1 := (hb.cell (p := ⟨b, off + k, none⟩) (by simp; omega)).trans c2
        have e1 := (hb.cell (p := ⟨b', off' + k, none⟩) (by simp; omega)).trans d2
        have HPS := Lib.hid (hps.below hb hB)
        have HQS := Lib.hid (hqs.below hb hB)
        clear c2 d2 hps hqs
        have hpd : xss.getD k [] = xss.getD k default := rfl
        have hqd : yss.getD k [] = yss.getD k default := rfl
        rw [hpd] at *
        rw [hqd] at *
        clear hpd hqd
        generalize hp : xss.getD k default = p at *
        generalize hq : yss.getD k default = q at *
        have HP := Lib.hid hp
        have HQ := Lib.hid hq
        have HN1 := Lib.hid hn1'
        have HN2 := Lib.hid hn2'
        have hy1 : n1 ≤ 2000000 := by omega
        have hy2 : n2 ≤ 2000000 := by omega
        have HEQ := Lib.hid fun (w' : World) (hB : B ≤ w'.heap.size) (h : IS w' B A1 p) (h' : IS w' B A2 q) => laws_equalInts A1 A2 n1 n2 c1 d1 p q w' B hB HN1.out HN2.out h h' hy1 hy2
        obtain ⟨r, hr⟩ : ∃ r : Bool, r = decide (p = q) := ⟨_, rfl⟩
        rw [← hr] at HEQ
        have HR := Lib.hid hr
        clear hp hq hn1' hn2' hx1 hx2 hr
        go_wp2
        go_still_tail 8, (by kernel_rfl)
        go_wp2_with fail
        refine (HEQ.out wr.drew (Nat.le_trans hB hb.size) HPS.out HQS.out).mono ?_
        rintro e w1 ⟨rfl, hb1⟩
        cases r
        · go_wp2
          go_ret
          refine ⟨ret_b ?_, hb.drew.trans (hb1.mono hb.size)⟩
          have hne : xss.getD k default ≠ yss.getD k default := by
            rw [HP.out, HQ.out]; exact of_decide_eq_false HR.out.symm
          simp [getD_ne xss yss k hne]
        · have he : xss.getD k default = yss.getD k default := by
            rw [HP.out, HQ.out]; exact of_decide_eq_true HR.out.symm
          have hts := take_step xss yss k (by have := HN.out; omega) (by have := HN'.out; omega) HT.out he
          have HTS := Lib.hid hts
          clear he hts
          go_wp2
          go_roundw
          case rel => exact ⟨k + 1, by omega, by go_num, HTS.out, hb.drew.trans (hb1.mono hb.size)⟩
          case measure => simp [intOf]; omega
      · go_wp2
        go_ret
        refine ⟨ret_b ?_, hb⟩
        have hkn : k = n := by omega
        have := take_all_eq xss yss n HN.out (HL.out.trans HN'.out) (by rw [← hkn]; exact HT.out)
        simp [this]
  · have hne : ((n : Int) != (n' : Int)) = true := by simp; omega
    have hf : decide (xss = yss) = false := by
      rw [decide_eq_false_iff_not]; rintro rfl; omega
    rw [hf]
    clear hl hn hn' h h' hf hb1 hb2
    go_enter Try.func15, Try.ntmps15
    go_wp2
    go_ret
    exact ⟨rfl, Below.refl _ _⟩


set_option maxHeartbeats 1600000 in
theorem laws_equalEager (A E A' E' : Option Addr) (n c en ec c' ec' : Nat) (st : Eg) (w : World) (hn : n = st.vs.length) (he : en = st.rs.length) (h : ES w w.heap.size A E st) (h' : ES w w.heap.size A' E' st) (hb : EB st) :
    Calls Try.prog 10 #[.agg #[.slice A n c, .slice E en ec], .agg #[.slice A' n c', .slice E' en ec']] w fun e w' => e = .returned (.bool true) ∧ Below w.heap.size w w' := by
  have H := Lib.hid h
  have H' := Lib.hid h'
  have HI := Lib.hid fun (w' : World) (B : Nat) (hB : B ≤ w'.heap.size) (h : IS w' B A st.vs) (h' : IS w' B A' st.vs) => laws_equalInts A A' n n c c' st.vs st.vs w' B hB hn hn h h' (by have := hb.1; omega) (by have := hb.1; omega)
  have HL := Lib.hid fun (w' : World) (B : Nat) (hB : B ≤ w'.heap.size) (h : SS w' B E st.rs) (h' : SS w' B E' st.rs) => laws_equalLists E E' en en ec ec' st.rs st.rs w' B hB he he h h' hb.2.1 hb.2.1
  rw [show decide (st.vs = st.vs) = true from decide_eq_true rfl] at HI
  rw [show decide (st.rs = st.rs) = true from decide_eq_true rfl] at HL
  clear h h' hn he hb
  go_enter Try.func10, Try.ntmps10
  go_wp2_with fail
  refine (HI.out _ w.heap.size (by simp; omega) ((H.out.1.alloc (Nat.le_refl _) _).alloc (by simp) _) ((H'.out.1.alloc (Nat.le_refl _) _).alloc (by simp) _)).mono ?_
  rintro e w1 ⟨rfl, hb⟩
  have q1 : w1.cell? ⟨w.heap.size, 1, none⟩ = some (.slice E en ec) := (hb.cell (p := ⟨w.heap.size, 1, none⟩) (by simp; omega)).trans (by go_simp)
  have q2 : w1.cell? ⟨w.heap.size + 1, 1, none⟩ = some (.slice E' en ec') := (hb.cell (p := ⟨w.heap.size + 1, 1, none⟩) (by simp)).trans (by go_simp)
  have HS := Lib.hid (((H.out.2.alloc (Nat.le_refl _) (.cells #[.slice A n c, .slice E en ec] 31)).alloc (by simp) (.cells #[.slice A' n c', .slice E' en ec'] 31)).below hb (by simp; omega))
  have HS' := Lib.hid (((H'.out.2.alloc (Nat.le_refl _) (.cells #[.slice A n c, .slice E en ec] 31)).alloc (by simp) (.cells #[.slice A' n c', .slice E' en ec'] 31)).below hb (by simp; omega))
  have HB1 := Lib.hid ((((Below.refl w.heap.size w).alloc (Nat.le_refl _) (.cells #[.slice A n c, .slice E en ec] 31)).alloc (by simp) (.cells #[.slice A' n c', .slice E' en ec'] 31)).trans (hb.mono (by simp; omega)))
  have hs1 : w.heap.size ≤ w1.heap.size := HB1.out.size
  clear hb
  go_wp2_with fail
  refine (HL.out _ w.heap.size hs1 HS.out HS'.out).mono ?_
  rintro e w2 ⟨rfl, hb⟩
  go_wp2
  go_ret
  exact ⟨rfl, HB1.out.trans (hb.mono hs1)⟩
end Go.Proofs.Ytgclikdienlhdaa

/- Plain facts for the laws of promises on eager states: states begin with the meaning; cells and states go back and forth. -/
namespace Go.Proofs.Ytgclikdienlhdaa
set_option linter.unusedSimpArgs false
set_option linter.unusedVariables false
open Go.RowKit

theorem ext_getD {α : Type} [Inhabited α] (l m : List α) (h : l.length = m.length) (he : ∀ i, i < l.length → l.getD i default = m.getD i default) : l = m := by
  apply List.ext_getElem h
  intro i h1 h2
  have := he i h1
  simpa [List.getD, h1, h2] using this
theorem ext_getD0 (l m : List Int) (h : l.length = m.length) (he : ∀ i, i < l.length → l.getD i 0 = m.getD i 0) : l = m := ext_getD l m h he
theorem ext_getDn (l m : List (List Int)) (h : l.length = m.length) (he : ∀ i, i < l.length → l.getD i [] = m.getD i []) : l = m := ext_getD l m h he

theorem celTo_get (gs : List Nd) (vs : List Int) (k i : Nat) (hi : i < vs.length) : (celTo gs vs k).getD i 0 = if i < k ∧ ((gs.getD i default).k == 0) = false then 0 else vs.getD i 0 := by
  induction k with
  | zero => simp [celTo]
  | succ k ih =>
    rw [celTo_succ]
    have hl := celTo_len gs vs k
    cases hk : ((gs.getD k default).k == 0)
    · simp only [Bool.false_eq_true, if_false]
      by_cases e : k = i
      · subst e
        rw [if_pos ⟨Nat.lt_succ_self _, hk⟩]
        simp [List.getD, List.getElem?_set, show k < (celTo gs vs k).length by omega]
      · have h1 : ((celTo gs vs k).set k 0).getD i 0 = (celTo gs vs k).getD i 0 := by simp [List.getD, List.getElem?_set, e]
        rw [h1, ih]
        by_cases h2 : i < k
        · simp [h2, show i < k + 1 by omega]
        · simp [h2, show ¬ i < k + 1 by omega]
    · simp only [if_true]
      rw [ih]
      by_cases e : k = i
      · subst e
        rw [hk]
        simp
      · by_cases h2 : i < k
        · simp [h2, show i < k + 1 by omega]
        · simp [h2, show ¬ i < k + 1 by omega]

theorem depTo_get (gs : List Nd) (vs : List Int) (n i : Nat) (h : i < n) : (depTo gs vs n).getD i [] = depF gs vs i := by
  unfold depTo
  simp [List.getD, h]

theorem start_valid (gs : List Nd) (xs : List Int) (h : okC gs xs = true) : validE gs (startF gs xs) = true := by
  obtain ⟨hg, hc⟩ := okC_parts gs xs h
  have hml : (mean gs xs).length = gs.length := meanTo_len gs xs gs.length
  have hvo := meanTo_VOK gs xs h gs.length (Nat.le_refl _)
  unfold startF
  rw [h, if_pos rfl]
  unfold validE
  rw [hg, decide_eq_true hml, decide_eq_true (depTo_len gs (mean gs xs) gs.length)]
  simp only [Bool.true_and, Bool.and_eq_true]
  refine ⟨allR_true _ _ _ fun k hk => ?_, allE_fin _ _ fun i hi => ?_⟩
  · have := hvo k hk
    unfold rng
    simpa [mean] using this
  · unfold okE
    rw [depTo_get gs (mean gs xs) gs.length i hi]
    simp only [Bool.and_eq_true, beq_iff_eq, decide_true, and_true]
    unfold valE
    cases hk : ((gs.getD i default).k == 0)
    · obtain ⟨h1, h2⟩ := mean_node gs xs h i hi hk
      unfold valF at h2
      rw [h1, if_pos rfl] at h2
      simpa using h2
    · simp

theorem cells_start (gs : List Nd) (xs : List Int) (h : okC gs xs = true) : cellsF gs (startF gs xs) = xs := by
  obtain ⟨hg, hc⟩ := okC_parts gs xs h
  obtain ⟨hl, hco⟩ := validC_parts gs xs hc
  have hml : (mean gs xs).length = gs.length := meanTo_len gs xs gs.length
  have hv := start_valid gs xs h
  unfold cellsF
  rw [hv, if_pos rfl]
  have hs : (startF gs xs).vs = mean gs xs := by unfold startF; rw [h]; rfl
  rw [hs]
  refine ext_getD0 _ _ (by rw [celTo_len]; omega) fun i hi => ?_
  rw [celTo_len] at hi
  rw [celTo_get gs _ _ i hi]
  have hco := hco i (by omega)
  cases hk : ((gs.getD i default).k == 0)
  · rw [if_pos ⟨by omega, rfl⟩]
    unfold cellOK at hco
    rw [hk] at hco
    simp at hco
    simpa [List.getD] using hco.2.symm
  · rw [if_neg (by simp)]
    exact mean_cell gs xs i (by omega) hk

section
variable (gs : List Nd) (st : Eg)
theorem cells_ok (h : validE gs st = true) : okC gs (cellsF gs st) = true ∧ (cellsF gs st).length = gs.length := by
  obtain ⟨hg, hl, hr, ha, ho⟩ := validE_parts gs st h
  have hcl : (cellsF gs st).length = gs.length := by unfold cellsF; rw [h, if_pos rfl, celTo_len]; exact hl
  refine ⟨?_, hcl⟩
  unfold okC
  rw [hg, Bool.true_and]
  refine validC_fin _ _ hcl fun i hi => ?_
  have hget : (cellsF gs st).getD i 0 = if i < gs.length ∧ ((gs.getD i default).k == 0) = false then 0 else st.vs.getD i 0 := by
    unfold cellsF; rw [h, if_pos rfl]; exact celTo_get gs st.vs gs.length i (by omega)
  unfold cellOK
  rw [hget]
  cases hk : ((gs.getD i default).k == 0)
  · rw [if_pos ⟨hi, rfl⟩]; rfl
  · rw [if_neg (by simp)]
    have hx : rng (st.vs.getD i 0) 0 999 = true := by
      cases hx : rng (st.vs.getD i 0) 0 999
      · rw [allR_false st.vs 0 999 i (by omega) hx] at ha; cases ha
      · rfl
    rw [hx]; rfl

theorem mean_cells (h : validE gs st = true) : mean gs (cellsF gs st) = st.vs := by
  obtain ⟨hg, hl, hr, ha, ho⟩ := validE_parts gs st h
  have key : ∀ i, i ≤ gs.length → meanTo gs (cellsF gs st) i = st.vs.take i := by
    intro i
    induction i with
    | zero => intro _; rfl
    | succ i ih =>
      intro hi
      have ih := ih (by omega)
      have hget : (cellsF gs st).getD i 0 = if i < gs.length ∧ ((gs.getD i default).k == 0) = false then 0 else st.vs.getD i 0 := by
        unfold cellsF; rw [h, if_pos rfl]; exact celTo_get gs st.vs gs.length i (by omega)
      have hoi := ho i (by omega)
      unfold okE valE at hoi
      simp only [Bool.and_eq_true, beq_iff_eq, decide_eq_true_eq] at hoi
      have hts : st.vs.take (i + 1) = st.vs.take i ++ [st.vs.getD i 0] := take_succ_getD st.vs i (by omega)
      rw [hts]
      show meanTo gs (cellsF gs st) i ++ [_] = _
      rw [ih]
      congr 2
      cases hk : ((gs.getD i default).k == 0)
      · have hkn : ¬ (gs.getD i default).k = 0 := by simpa using hk
        rw [if_neg hkn] at hoi
        simp only [Bool.false_eq_true, if_false]
        rw [← hoi.1]
        have hvf := (nodeOK_formula gs i ((validG_parts gs hg).2 i (by omega)) hk).1
        have hok : (whole (gs.getD i default).ps).ok i := whole_ok _ i hvf (each_ahead gs i i hg (by omega) hk (Nat.le_refl _))
        refine (ev_agree (whole (gs.getD i default).ps) (st.vs) (st.vs.take i) i hok fun x hx => ?_).1
        obtain ⟨q, hq, rfl⟩ := rds_lt _ _ i hok x hx
        simp [List.getD, List.getElem?_take, hq]
      · simp only [if_true]
        rw [hget, if_neg (by rw [hk]; simp)]
  unfold mean
  rw [key gs.length (Nat.le_refl _), List.take_of_length_le (by omega)]

theorem start_cells (h : validE gs st = true) : startF gs (cellsF gs st) = st := by
  obtain ⟨hg, hl, hr, ha, ho⟩ := validE_parts gs st h
  unfold startF
  rw [(cells_ok gs st h).1, if_pos rfl, mean_cells gs st h]
  have hd : depTo gs st.vs gs.length = st.rs := by
    refine ext_getDn _ _ (by rw [depTo_len]; exact hr.symm) fun i hi => ?_
    rw [depTo_len] at hi
    rw [depTo_get gs st.vs gs.length i hi]
    have hoi := ho i hi
    unfold okE at hoi
    simp only [Bool.and_eq_true, beq_iff_eq, decide_eq_true_eq] at hoi
    exact hoi.2
  rw [hd]
end

theorem start_parts (gs : List Nd) (xs : List Int) (h : okC gs xs = true) : (startF gs xs).vs = meanF gs xs ∧ (startF gs xs).rs = depsF gs xs := by
  unfold startF meanF depsF
  rw [h]
  exact ⟨rfl, rfl⟩
end Go.Proofs.Ytgclikdienlhdaa

/- laws.FnStartEager returns true for all bytes, and writes nothing that was there. (Made by genpl.py.) -/
namespace Go.Proofs.Ytgclikdienlhdaa
set_option linter.unusedSimpArgs false
set_option linter.unusedVariables false
open Go.RowKit

set_option maxRecDepth 100000 in
set_option maxHeartbeats 6400000 in
theorem plaw_StartEager (A : Option Addr) (n c : Nat) (bs : List Int) (w : World) (hn : n = bs.length) (hnc : n ≤ c) (h : BS w w.heap.size A bs) (hy : BY bs) (hm : n ≤ 9223372036854775807) :
    Calls Try.prog 3 #[.slice A n c] w fun e w' => e = .returned (.bool true) ∧ Below w.heap.size w w' := by
  by_cases hs : 1048576 < n
  · clear hn hnc h hy
    go_enter Try.func3, Try.ntmps3
    go_wp2
    go_ret
    exact ⟨rfl, Below.refl _ _⟩
  have HC := Lib.hid (spec_DrawStartEager A n c bs w hn hnc h hy (by omega))
  clear hn hnc h hy
  go_enter Try.func3, Try.ntmps3
  go_wp2_with fail
  refine HC.out.mono ?_
  rintro e w1 ⟨A1, n1, c1, gs, E1, m1, d1, xs, rfl, hp1, hp2, hp3, hnc1, hsm, hm1, hx1, hx2, hmd, hP, hI, hb⟩
  have HN1 := Lib.hid hp1
  have HG := Lib.hid (GB.of_drawn (by omega) hsm)
  have P_1 := Lib.hid (hP)
  have HM1 := Lib.hid hm1
  have I_1 := Lib.hid (hI)
  have B_1 := Lib.hid (hb)
  clear hP hp1 hb HC hsm hI hm1
  go_wp2_with fail
  obtain ⟨w2, hw2⟩ : ∃ W, W = w1.alloc (.cells #[.slice A1 n1 c1] 25) := ⟨_, rfl⟩
  have hb : Below w1.heap.size w1 w2 := by rw [hw2]; exact (Below.refl _ _).alloc (Nat.le_refl _) _
  have P_2 := Lib.hid (P_1.out.step hb)
  clear P_1
  have I_2 := Lib.hid (I_1.out.step hb)
  clear I_1
  have B_2 := Lib.hid (B_1.out.trans (hb.mono B_1.out.size))
  clear B_1
  have F_2 : Hid (As w1.heap.size (w1.heap.size + 1) (fun w' => w'.cell? ⟨w1.heap.size, 0, none⟩ = some (.slice A1 n1 c1)) w2) := by rw [hw2]; exact box_new _ _ _
  clear hb
  rw [← hw2]
  clear hw2
  have HVC := Lib.hid fun (w' : World) (h : GS w' w'.heap.size A1 gs) (h' : IS w' w'.heap.size E1 xs) => top_impl_ValidCells gs xs HG.out (by have := HM1.out; omega) A1 n1 c1 E1 m1 d1 w' HN1.out hnc1 h HM1.out h'
  have HIM := Lib.hid fun (w' : World) (h : GS w' w'.heap.size A1 gs) (h' : IS w' w'.heap.size E1 xs) => top_impl_StartEager gs xs HG.out (by have := HM1.out; omega) A1 n1 c1 E1 m1 d1 w' HN1.out hnc1 h HM1.out h'
  have HSP := Lib.hid fun (w' : World) (h : GS w' w'.heap.size A1 gs) (h' : IS w' w'.heap.size E1 xs) => top_spec_StartEager gs xs HG.out (by have := HM1.out; omega) A1 n1 c1 E1 m1 d1 w' HN1.out hnc1 h HM1.out h'
  have HMO := Lib.hid fun (w' : World) (h : GS w' w'.heap.size A1 gs) (h' : IS w' w'.heap.size E1 xs) => top_impl_MeaningOf gs xs HG.out (by have := HM1.out; omega) A1 n1 c1 E1 m1 d1 w' HN1.out hnc1 h HM1.out h'
  have HDO := Lib.hid fun (w' : World) (h : GS w' w'.heap.size A1 gs) (h' : IS w' w'.heap.size E1 xs) => top_impl_DepsOf gs xs HG.out (by have := HM1.out; omega) A1 n1 c1 E1 m1 d1 w' HN1.out hnc1 h HM1.out h'
  have HVE := Lib.hid fun (A c' E p ec) (m : Nat) (w' : World) (hm : m = (startF gs xs).vs.length) (hp : p = (startF gs xs).rs.length) (h : GS w' w'.heap.size A1 gs) (h' : ES w' w'.heap.size A E (startF gs xs)) => top_impl_ValidEager gs (startF gs xs) HG.out (startF_EB gs xs) A1 n1 c1 A m c' E p ec w' HN1.out hnc1 h hm hp h'
  have HCE := Lib.hid fun (A c' E p ec) (m : Nat) (w' : World) (hm : m = (startF gs xs).vs.length) (hp : p = (startF gs xs).rs.length) (h : GS w' w'.heap.size A1 gs) (h' : ES w' w'.heap.size A E (startF gs xs)) => top_impl_CellsOf gs (startF gs xs) HG.out (startF_EB gs xs) A1 n1 c1 A m c' E p ec w' HN1.out hnc1 h hm hp h'
  have HSV := Lib.hid (start_valid gs xs)
  have HCS := Lib.hid (cells_start gs xs)
  have HSP2 := Lib.hid (start_parts gs xs)
  have HEB := Lib.hid (startF_EB gs xs)
  have hrl : (meanF gs xs).length ≤ 10 := meanF_len gs xs
  generalize okC gs xs = v at *
  generalize validE gs (startF gs xs) = ve at *
  generalize cellsF gs (startF gs xs) = cf at *
  generalize meanF gs xs = R at *
  generalize depsF gs xs = D at *
  generalize startF gs xs = S at *
  have q0 := F_2.out.it
  go_wp2_with fail
  refine (HIM.out w2 P_2.out I_2.out).mono ?_
  rintro e w3 ⟨A3, m3, c3, E3, p3, e3, rfl, ho, hb⟩
  have hm3 := ho.1
  have hp3 := ho.2.1
  have hE3 : ES w3 w3.heap.size A3 E3 S := ho.reads
  have P_3 := Lib.hid (P_2.out.step hb)
  clear P_2
  have I_3 := Lib.hid (I_2.out.step hb)
  clear I_2
  have B_3 := Lib.hid (B_2.out.trans (hb.mono B_2.out.size))
  clear B_2
  have F_3 := Lib.hid (F_2.out.step hb)
  clear F_2
  clear hb
  clear q0
  have S_3 := Lib.hid (hE3)
  have HM3 := Lib.hid hm3
  have HP3 := Lib.hid hp3
  clear hm3 hp3 ho hE3
  go_wp2_with fail
  obtain ⟨w4, hw4⟩ : ∃ W, W = w3.alloc (.cells #[.slice A3 m3 c3, .slice E3 p3 e3] 31) := ⟨_, rfl⟩
  have hb : Below w3.heap.size w3 w4 := by rw [hw4]; exact (Below.refl _ _).alloc (Nat.le_refl _) _
  have P_4 := Lib.hid (P_3.out.step hb)
  clear P_3
  have I_4 := Lib.hid (I_3.out.step hb)
  clear I_3
  have B_4 := Lib.hid (B_3.out.trans (hb.mono B_3.out.size))
  clear B_3
  have F_4 := Lib.hid (F_3.out.step hb)
  clear F_3
  have S_4 := Lib.hid (S_3.out.step hb)
  clear S_3
  have X_4 : Hid (As w3.heap.size (w3.heap.size + 1) (fun w' => w'.cell? ⟨w3.heap.size, 0, none⟩ = some (.slice A3 m3 c3) ∧ w'.cell? ⟨w3.heap.size, 1, none⟩ = some (.slice E3 p3 e3)) w4) := by rw [hw4]; exact box2_new _ _ _ _
  clear hb
  rw [← hw4]
  clear hw4
  go_wp2
  have q0 := F_4.out.it
  obtain ⟨x0, y0⟩ := X_4.out.it
  refine wp_region_held_drew (S := fun w' => w'.cell? ⟨w1.heap.size, 0, none⟩ = some (.slice A1 n1 c1) ∧ w'.cell? ⟨w3.heap.size, 0, none⟩ = some (.slice A3 m3 c3) ∧ w'.cell? ⟨w3.heap.size, 1, none⟩ = some (.slice E3 p3 e3)) (by kernel_rfl) ⟨q0, x0, y0⟩ (fun hHeld => ?_)
  refine wpAnyH_take (i := 0) (oi := ⟨some 17, _, _, _, _, _⟩) (v := ?_) rfl (by kernel_rfl) (by kernel_rfl) (by kernel_rfl) (fun _ _ _ h => h) (Or.inl ⟨by rfl, ?_⟩) (by assumption) ?_; rotate_left; (focus (intro w hSw; (try dsimp only at hSw); go_simp; (try with_reducible rfl))); (try simp only [Act.put, List.setIfInBounds_toArray, List.set_cons_zero, List.set_cons_succ])
  refine wpAnyH_take (i := 1) (oi := ⟨some 18, _, _, _, _, _⟩) (v := ?_) rfl (by kernel_rfl) (by kernel_rfl) (by kernel_rfl) (fun _ _ _ h => h) (Or.inl ⟨by rfl, ?_⟩) (by assumption) ?_; rotate_left; (focus (intro w hSw; (try dsimp only at hSw); go_simp; (try with_reducible rfl))); (try simp only [Act.put, List.setIfInBounds_toArray, List.set_cons_zero, List.set_cons_succ])
  refine wpAnyH_take (i := 2) (oi := ⟨some 19, _, _, _, _, _⟩) (v := ?_) rfl (by kernel_rfl) (by kernel_rfl) (by kernel_rfl) (fun _ _ _ h => h) (Or.inl ⟨by rfl, ?_⟩) (by assumption) ?_; rotate_left; (focus (intro w hSw; (try dsimp only at hSw); go_simp; (try with_reducible rfl))); (try simp only [Act.put, List.setIfInBounds_toArray, List.set_cons_zero, List.set_cons_succ])
  refine wpAnyH_ready (rs := [3]) (by kernel_rfl) (by simp) ?_; refine AllReadyH.cons (o := ⟨some 20, _, _, _, _, _⟩) rfl (fun K hK => ?_) AllReadyH.nil; go_simp
  go_at_call 11
  refine (HSP.out w4.drew P_4.out I_4.out).mono ?_
  rintro e w5 ⟨A4, m4, c4, E4, p4, e4, rfl, ho, hb'⟩
  have hb : Below w4.heap.size w4 w5 := below_of_drew hb'
  have hm4 : m3 = m4 := by rw [HM3.out, ho.1]
  have hp4 : p3 = p4 := by rw [HP3.out, ho.2.1]
  subst hm4 hp4
  have hE4 : ES w5 w5.heap.size A4 E4 S := ho.reads
  have P_5 := Lib.hid (P_4.out.step hb)
  clear P_4
  have I_5 := Lib.hid (I_4.out.step hb)
  clear I_4
  have B_5 := Lib.hid (B_4.out.trans (hb.mono B_4.out.size))
  clear B_4
  have F_5 := Lib.hid (F_4.out.step hb)
  clear F_4
  have S_5 := Lib.hid (S_4.out.step hb)
  clear S_4
  have X_5 := Lib.hid (X_4.out.step hb)
  clear X_4
  clear hb hb'
  have q9 := F_5.out.it
  obtain ⟨x9, y9⟩ := X_5.out.it
  refine hK.out _ _ ⟨q9, x9, y9⟩ (fun hHeld => ?_); clear hK K; (try simp only [Act.put, List.setIfInBounds_toArray, List.set_cons_zero, List.set_cons_succ])
  refine wpAnyH_ready (rs := [4]) (by kernel_rfl) (by simp) ?_; refine AllReadyH.cons (o := ⟨some 21, _, _, _, _, _⟩) rfl (fun K hK => ?_) AllReadyH.nil; go_simp
  go_at_call 10
  refine (laws_equalEager A3 E3 A4 E4 _ c3 _ e3 c4 e4 S w5 HM3.out HP3.out S_5.out hE4 HEB.out).mono ?_
  rintro e w6 ⟨rfl, hb⟩
  have P_6 := Lib.hid (P_5.out.step hb)
  clear P_5
  have I_6 := Lib.hid (I_5.out.step hb)
  clear I_5
  have B_6 := Lib.hid (B_5.out.trans (hb.mono B_5.out.size))
  clear B_5
  have F_6 := Lib.hid (F_5.out.step hb)
  clear F_5
  have S_6 := Lib.hid (S_5.out.step hb)
  clear S_5
  have X_6 := Lib.hid (X_5.out.step hb)
  clear X_5
  clear hb
  clear ho hE4
  have q9 := F_6.out.it
  obtain ⟨x9, y9⟩ := X_6.out.it
  refine hK.out _ _ ⟨q9, x9, y9⟩ (fun hHeld => ?_); clear hK K; (try simp only [Act.put, List.setIfInBounds_toArray, List.set_cons_zero, List.set_cons_succ])
  refine wpAnyH_take (i := 5) (oi := ⟨some 22, _, _, _, _, _⟩) (v := ?_) rfl (by kernel_rfl) (by kernel_rfl) (by kernel_rfl) (fun _ _ _ h => h) (Or.inl ⟨by rfl, ?_⟩) (by assumption) ?_; rotate_left; (focus (intro w hSw; (try dsimp only at hSw); go_simp; (try with_reducible rfl))); (try simp only [Act.put, List.setIfInBounds_toArray, List.set_cons_zero, List.set_cons_succ])
  refine wpAnyH_take (i := 6) (oi := ⟨some 23, _, _, _, _, _⟩) (v := ?_) rfl (by kernel_rfl) (by kernel_rfl) (by kernel_rfl) (fun _ _ _ h => h) (Or.inl ⟨by rfl, ?_⟩) (by assumption) ?_; rotate_left; (focus (intro w hSw; (try dsimp only at hSw); go_simp; (try with_reducible rfl))); (try simp only [Act.put, List.setIfInBounds_toArray, List.set_cons_zero, List.set_cons_succ])
  refine wpAnyH_take (i := 7) (oi := ⟨some 24, _, _, _, _, _⟩) (v := ?_) rfl (by kernel_rfl) (by kernel_rfl) (by kernel_rfl) (fun _ _ _ h => h) (Or.inl ⟨by rfl, ?_⟩) (by assumption) ?_; rotate_left; (focus (intro w hSw; (try dsimp only at hSw); go_simp; (try with_reducible rfl))); (try simp only [Act.put, List.setIfInBounds_toArray, List.set_cons_zero, List.set_cons_succ])
  refine wpAnyH_take (i := 8) (oi := ⟨some 25, _, _, _, _, _⟩) (v := ?_) rfl (by kernel_rfl) (by kernel_rfl) (by kernel_rfl) (fun _ _ _ h => h) (Or.inl ⟨by rfl, ?_⟩) (by assumption) ?_; rotate_left; (focus (intro w hSw; (try dsimp only at hSw); go_simp; (try with_reducible rfl))); (try simp only [Act.put, List.setIfInBounds_toArray, List.set_cons_zero, List.set_cons_succ])
  refine wpAnyH_ready (rs := [9]) (by kernel_rfl) (by simp) ?_; refine AllReadyH.cons (o := ⟨some 26, _, _, _, _, _⟩) rfl (fun K hK => ?_) AllReadyH.nil; go_simp
  go_at_call 12
  refine (HVC.out w6 P_6.out I_6.out).mono ?_
  rintro e w7 ⟨rfl, hb⟩
  have P_7 := Lib.hid (P_6.out.step hb)
  clear P_6
  have I_7 := Lib.hid (I_6.out.step hb)
  clear I_6
  have B_7 := Lib.hid (B_6.out.trans (hb.mono B_6.out.size))
  clear B_6
  have F_7 := Lib.hid (F_6.out.step hb)
  clear F_6
  have S_7 := Lib.hid (S_6.out.step hb)
  clear S_6
  have X_7 := Lib.hid (X_6.out.step hb)
  clear X_6
  clear hb
  have q9 := F_7.out.it
  obtain ⟨x9, y9⟩ := X_7.out.it
  refine hK.out _ _ ⟨q9, x9, y9⟩ (fun hHeld => ?_); clear hK K; (try simp only [Act.put, List.setIfInBounds_toArray, List.set_cons_zero, List.set_cons_succ])
  refine wpAnyH_take (i := 10) (oi := ⟨some 27, _, _, _, _, _⟩) (v := ?_) rfl (by kernel_rfl) (by kernel_rfl) (by kernel_rfl) (fun _ _ _ h => h) (Or.inl ⟨by rfl, ?_⟩) (by assumption) ?_; rotate_left; (focus (intro w hSw; (try dsimp only at hSw); go_simp; (try with_reducible rfl))); (try simp only [Act.put, List.setIfInBounds_toArray, List.set_cons_zero, List.set_cons_succ])
  refine wpAnyH_take (i := 11) (oi := ⟨some 28, _, _, _, _, _⟩) (v := ?_) rfl (by kernel_rfl) (by kernel_rfl) (by kernel_rfl) (fun _ _ _ h => h) (Or.inl ⟨by rfl, ?_⟩) (by assumption) ?_; rotate_left; (focus (intro w hSw; (try dsimp only at hSw); go_simp; (try with_reducible rfl))); (try simp only [Act.put, List.setIfInBounds_toArray, List.set_cons_zero, List.set_cons_succ])
  refine wpAnyH_done (by kernel_rfl) ?_ _
  cases v
  · skip
    clear q0 x0 y0 q9 x9 y9
    go_wp2
    have q0 := F_7.out.it
    obtain ⟨x0, y0⟩ := X_7.out.it
    refine wp_region_held_drew (S := fun w' => w'.cell? ⟨w1.heap.size, 0, none⟩ = some (.slice A1 n1 c1) ∧ w'.cell? ⟨w3.heap.size, 0, none⟩ = some (.slice A3 m3 c3) ∧ w'.cell? ⟨w3.heap.size, 1, none⟩ = some (.slice E3 p3 e3)) (by kernel_rfl) ⟨q0, x0, y0⟩ (fun hHeld => ?_)
    refine wpAnyH_take (i := 0) (oi := ⟨some 29, _, _, _, _, _⟩) (v := ?_) rfl (by kernel_rfl) (by kernel_rfl) (by kernel_rfl) (fun _ _ _ h => h) (Or.inl ⟨by rfl, ?_⟩) (by assumption) ?_; rotate_left; (focus (intro w hSw; (try dsimp only at hSw); go_simp; (try with_reducible rfl))); (try simp only [Act.put, List.setIfInBounds_toArray, List.set_cons_zero, List.set_cons_succ])
    refine wpAnyH_take (i := 1) (oi := ⟨some 30, _, _, _, _, _⟩) (v := ?_) rfl (by kernel_rfl) (by kernel_rfl) (by kernel_rfl) (fun _ _ _ h => h) (Or.inl ⟨by rfl, ?_⟩) (by assumption) ?_; rotate_left; (focus (intro w hSw; (try dsimp only at hSw); go_simp; (try with_reducible rfl))); (try simp only [Act.put, List.setIfInBounds_toArray, List.set_cons_zero, List.set_cons_succ])
    refine wpAnyH_take (i := 2) (oi := ⟨some 31, _, _, _, _, _⟩) (v := ?_) rfl (by kernel_rfl) (by kernel_rfl) (by kernel_rfl) (fun _ _ _ h => h) (Or.inl ⟨by rfl, ?_⟩) (by assumption) ?_; rotate_left; (focus (intro w hSw; (try dsimp only at hSw); go_simp; (try with_reducible rfl))); (try simp only [Act.put, List.setIfInBounds_toArray, List.set_cons_zero, List.set_cons_succ])
    refine wpAnyH_ready (rs := [3]) (by kernel_rfl) (by simp) ?_; refine AllReadyH.cons (o := ⟨some 32, _, _, _, _, _⟩) rfl (fun K hK => ?_) AllReadyH.nil; go_simp
    go_at_call 11
    refine (HSP.out w7.drew P_7.out I_7.out).mono ?_
    rintro e w8 ⟨A4, m4, c4, E4, p4, e4, rfl, ho, hb'⟩
    have hb : Below w7.heap.size w7 w8 := below_of_drew hb'
    have hm4 : m3 = m4 := by rw [HM3.out, ho.1]
    have hp4 : p3 = p4 := by rw [HP3.out, ho.2.1]
    subst hm4 hp4
    have hE4 : ES w8 w8.heap.size A4 E4 S := ho.reads
    have P_8 := Lib.hid (P_7.out.step hb)
    clear P_7
    have I_8 := Lib.hid (I_7.out.step hb)
    clear I_7
    have B_8 := Lib.hid (B_7.out.trans (hb.mono B_7.out.size))
    clear B_7
    have F_8 := Lib.hid (F_7.out.step hb)
    clear F_7
    have S_8 := Lib.hid (S_7.out.step hb)
    clear S_7
    have X_8 := Lib.hid (X_7.out.step hb)
    clear X_7
    clear hb hb'
    have q9 := F_8.out.it
    obtain ⟨x9, y9⟩ := X_8.out.it
    refine hK.out _ _ ⟨q9, x9, y9⟩ (fun hHeld => ?_); clear hK K; (try simp only [Act.put, List.setIfInBounds_toArray, List.set_cons_zero, List.set_cons_succ])
    refine wpAnyH_ready (rs := [4]) (by kernel_rfl) (by simp) ?_; refine AllReadyH.cons (o := ⟨some 33, _, _, _, _, _⟩) rfl (fun K hK => ?_) AllReadyH.nil; go_simp
    go_at_call 10
    refine (laws_equalEager A3 E3 A4 E4 _ c3 _ e3 c4 e4 S w8 HM3.out HP3.out S_8.out hE4 HEB.out).mono ?_
    rintro e w9 ⟨rfl, hb⟩
    have P_9 := Lib.hid (P_8.out.step hb)
    clear P_8
    have I_9 := Lib.hid (I_8.out.step hb)
    clear I_8
    have B_9 := Lib.hid (B_8.out.trans (hb.mono B_8.out.size))
    clear B_8
    have F_9 := Lib.hid (F_8.out.step hb)
    clear F_8
    have S_9 := Lib.hid (S_8.out.step hb)
    clear S_8
    have X_9 := Lib.hid (X_8.out.step hb)
    clear X_8
    clear hb
    clear ho hE4
    have q9 := F_9.out.it
    obtain ⟨x9, y9⟩ := X_9.out.it
    refine hK.out _ _ ⟨q9, x9, y9⟩ (fun hHeld => ?_); clear hK K; (try simp only [Act.put, List.setIfInBounds_toArray, List.set_cons_zero, List.set_cons_succ])
    refine wpAnyH_take (i := 5) (oi := ⟨some 2, _, _, _, _, _⟩) (v := ?_) rfl (by kernel_rfl) (by kernel_rfl) (by kernel_rfl) (fun _ _ _ h => h) (Or.inl ⟨by rfl, ?_⟩) (by assumption) ?_; rotate_left; (focus (intro w hSw; (try dsimp only at hSw); go_simp; (try with_reducible rfl))); (try simp only [Act.put, List.setIfInBounds_toArray, List.set_cons_zero, List.set_cons_succ])
    refine wpAnyH_done (by kernel_rfl) ?_ _
    go_wp2
    go_ret
    exact ⟨rfl, B_9.out⟩
  · obtain ⟨hsv, hsr⟩ := HSP2.out (by first | rfl | trivial)
    have hve := HSV.out (by first | rfl | trivial)
    have hcf := HCS.out (by first | rfl | trivial)
    subst hve hcf hsv hsr
    clear HSV HCS HSP2 HSP HIM
    have hv3 : m3 ≤ 2000000 := by have := HEB.out.1; have := HM3.out; omega
    clear q0 x0 y0 q9 x9 y9
    go_wp2
    have q0 := F_7.out.it
    obtain ⟨x0, y0⟩ := X_7.out.it
    refine wp_region_held_drew (S := fun w' => w'.cell? ⟨w1.heap.size, 0, none⟩ = some (.slice A1 n1 c1) ∧ w'.cell? ⟨w3.heap.size, 0, none⟩ = some (.slice A3 m3 c3) ∧ w'.cell? ⟨w3.heap.size, 1, none⟩ = some (.slice E3 p3 e3)) (by kernel_rfl) ⟨q0, x0, y0⟩ (fun hHeld => ?_)
    refine wpAnyH_take (i := 0) (oi := ⟨some 34, _, _, _, _, _⟩) (v := ?_) rfl (by kernel_rfl) (by kernel_rfl) (by kernel_rfl) (fun _ _ _ h => h) (Or.inl ⟨by rfl, ?_⟩) (by assumption) ?_; rotate_left; (focus (intro w hSw; (try dsimp only at hSw); go_simp; (try with_reducible rfl))); (try simp only [Act.put, List.setIfInBounds_toArray, List.set_cons_zero, List.set_cons_succ])
    refine wpAnyH_take (i := 1) (oi := ⟨some 35, _, _, _, _, _⟩) (v := ?_) rfl (by kernel_rfl) (by kernel_rfl) (by kernel_rfl) (fun _ _ _ h => h) (Or.inl ⟨by rfl, ?_⟩) (by assumption) ?_; rotate_left; (focus (intro w hSw; (try dsimp only at hSw); go_simp; (try with_reducible rfl))); (try simp only [Act.put, List.setIfInBounds_toArray, List.set_cons_zero, List.set_cons_succ])
    refine wpAnyH_take (i := 2) (oi := ⟨some 36, _, _, _, _, _⟩) (v := ?_) rfl (by kernel_rfl) (by kernel_rfl) (by kernel_rfl) (fun _ _ _ h => h) (Or.inl ⟨by rfl, ?_⟩) (by assumption) ?_; rotate_left; (focus (intro w hSw; (try dsimp only at hSw); go_simp; (try with_reducible rfl))); (try simp only [Act.put, List.setIfInBounds_toArray, List.set_cons_zero, List.set_cons_succ])
    refine wpAnyH_take (i := 3) (oi := ⟨some 37, _, _, _, _, _⟩) (v := ?_) rfl (by kernel_rfl) (by kernel_rfl) (by kernel_rfl) (fun _ _ _ h => h) (Or.inl ⟨by rfl, ?_⟩) (by assumption) ?_; rotate_left; (focus (intro w hSw; (try dsimp only at hSw); go_simp; (try with_reducible rfl))); (try simp only [Act.put, List.setIfInBounds_toArray, List.set_cons_zero, List.set_cons_succ])
    refine wpAnyH_ready (rs := [4]) (by kernel_rfl) (by simp) ?_; refine AllReadyH.cons (o := ⟨some 38, _, _, _, _, _⟩) rfl (fun K hK => ?_) AllReadyH.nil; go_simp
    go_at_call 14
    refine (HMO.out w7.drew P_7.out I_7.out).mono ?_
    rintro e w8 ⟨v, rfl, ho, hb'⟩
    have hb : Below w7.heap.size w7 w8 := below_of_drew hb'
    obtain ⟨A5, c5, rfl, hI5⟩ := OwnI.form ho
    have P_8 := Lib.hid (P_7.out.step hb)
    clear P_7
    have I_8 := Lib.hid (I_7.out.step hb)
    clear I_7
    have B_8 := Lib.hid (B_7.out.trans (hb.mono B_7.out.size))
    clear B_7
    have F_8 := Lib.hid (F_7.out.step hb)
    clear F_7
    have S_8 := Lib.hid (S_7.out.step hb)
    clear S_7
    have X_8 := Lib.hid (X_7.out.step hb)
    clear X_7
    clear hb hb'
    rw [← HM3.out]
    have q9 := F_8.out.it
    obtain ⟨x9, y9⟩ := X_8.out.it
    refine hK.out _ _ ⟨q9, x9, y9⟩ (fun hHeld => ?_); clear hK K; (try simp only [Act.put, List.setIfInBounds_toArray, List.set_cons_zero, List.set_cons_succ])
    refine wpAnyH_ready (rs := [5]) (by kernel_rfl) (by simp) ?_; refine AllReadyH.cons (o := ⟨some 39, _, _, _, _, _⟩) rfl (fun K hK => ?_) AllReadyH.nil; go_simp
    go_at_call 13
    refine (laws_equalInts A3 A5 m3 m3 c3 c5 S.vs S.vs w8 w8.heap.size (Nat.le_refl _) HM3.out HM3.out S_8.out.1 hI5 (by omega) (by omega)).mono ?_
    rintro e w9 ⟨rfl, hb⟩
    have P_9 := Lib.hid (P_8.out.step hb)
    clear P_8
    have I_9 := Lib.hid (I_8.out.step hb)
    clear I_8
    have B_9 := Lib.hid (B_8.out.trans (hb.mono B_8.out.size))
    clear B_8
    have F_9 := Lib.hid (F_8.out.step hb)
    clear F_8
    have S_9 := Lib.hid (S_8.out.step hb)
    clear S_8
    have X_9 := Lib.hid (X_8.out.step hb)
    clear X_8
    clear hb
    rw [show decide (S.vs = S.vs) = true from decide_eq_true rfl]
    clear ho hI5
    have q9 := F_9.out.it
    obtain ⟨x9, y9⟩ := X_9.out.it
    refine hK.out _ _ ⟨q9, x9, y9⟩ (fun hHeld => ?_); clear hK K; (try simp only [Act.put, List.setIfInBounds_toArray, List.set_cons_zero, List.set_cons_succ])
    refine wpAnyH_take (i := 6) (oi := ⟨some 40, _, _, _, _, _⟩) (v := ?_) rfl (by kernel_rfl) (by kernel_rfl) (by kernel_rfl) (fun _ _ _ h => h) (Or.inl ⟨by rfl, ?_⟩) (by assumption) ?_; rotate_left; (focus (intro w hSw; (try dsimp only at hSw); go_simp; (try with_reducible rfl))); (try simp only [Act.put, List.setIfInBounds_toArray, List.set_cons_zero, List.set_cons_succ])
    refine wpAnyH_take (i := 7) (oi := ⟨some 41, _, _, _, _, _⟩) (v := ?_) rfl (by kernel_rfl) (by kernel_rfl) (by kernel_rfl) (fun _ _ _ h => h) (Or.inl ⟨by rfl, ?_⟩) (by assumption) ?_; rotate_left; (focus (intro w hSw; (try dsimp only at hSw); go_simp; (try with_reducible rfl))); (try simp only [Act.put, List.setIfInBounds_toArray, List.set_cons_zero, List.set_cons_succ])
    refine wpAnyH_take (i := 8) (oi := ⟨some 42, _, _, _, _, _⟩) (v := ?_) rfl (by kernel_rfl) (by kernel_rfl) (by kernel_rfl) (fun _ _ _ h => h) (Or.inl ⟨by rfl, ?_⟩) (by assumption) ?_; rotate_left; (focus (intro w hSw; (try dsimp only at hSw); go_simp; (try with_reducible rfl))); (try simp only [Act.put, List.setIfInBounds_toArray, List.set_cons_zero, List.set_cons_succ])
    refine wpAnyH_take (i := 9) (oi := ⟨some 43, _, _, _, _, _⟩) (v := ?_) rfl (by kernel_rfl) (by kernel_rfl) (by kernel_rfl) (fun _ _ _ h => h) (Or.inl ⟨by rfl, ?_⟩) (by assumption) ?_; rotate_left; (focus (intro w hSw; (try dsimp only at hSw); go_simp; (try with_reducible rfl))); (try simp only [Act.put, List.setIfInBounds_toArray, List.set_cons_zero, List.set_cons_succ])
    refine wpAnyH_take (i := 10) (oi := ⟨some 44, _, _, _, _, _⟩) (v := ?_) rfl (by kernel_rfl) (by kernel_rfl) (by kernel_rfl) (fun _ _ _ h => h) (Or.inl ⟨by rfl, ?_⟩) (by assumption) ?_; rotate_left; (focus (intro w hSw; (try dsimp only at hSw); go_simp; (try with_reducible rfl))); (try simp only [Act.put, List.setIfInBounds_toArray, List.set_cons_zero, List.set_cons_succ])
    refine wpAnyH_ready (rs := [11]) (by kernel_rfl) (by simp) ?_; refine AllReadyH.cons (o := ⟨some 45, _, _, _, _, _⟩) rfl (fun K hK => ?_) AllReadyH.nil; go_simp
    go_at_call 16
    refine (HDO.out w9 P_9.out I_9.out).mono ?_
    rintro e w10 ⟨v, rfl, ho, hb⟩
    have hl9 := ho.1
    obtain ⟨A6, c6, rfl⟩ := ho.form
    have hL6 : SS w10 w10.heap.size A6 S.rs := ho.lists
    have P_10 := Lib.hid (P_9.out.step hb)
    clear P_9
    have I_10 := Lib.hid (I_9.out.step hb)
    clear I_9
    have B_10 := Lib.hid (B_9.out.trans (hb.mono B_9.out.size))
    clear B_9
    have F_10 := Lib.hid (F_9.out.step hb)
    clear F_9
    have S_10 := Lib.hid (S_9.out.step hb)
    clear S_9
    have X_10 := Lib.hid (X_9.out.step hb)
    clear X_9
    clear hb
    rw [← HP3.out]
    have q9 := F_10.out.it
    obtain ⟨x9, y9⟩ := X_10.out.it
    refine hK.out _ _ ⟨q9, x9, y9⟩ (fun hHeld => ?_); clear hK K; (try simp only [Act.put, List.setIfInBounds_toArray, List.set_cons_zero, List.set_cons_succ])
    refine wpAnyH_ready (rs := [12]) (by kernel_rfl) (by simp) ?_; refine AllReadyH.cons (o := ⟨some 46, _, _, _, _, _⟩) rfl (fun K hK => ?_) AllReadyH.nil; go_simp
    go_at_call 15
    refine (laws_equalLists E3 A6 p3 p3 e3 c6 S.rs S.rs w10 w10.heap.size (Nat.le_refl _) HP3.out HP3.out S_10.out.2 hL6 HEB.out.2.1 HEB.out.2.1).mono ?_
    rintro e w11 ⟨rfl, hb⟩
    have P_11 := Lib.hid (P_10.out.step hb)
    clear P_10
    have I_11 := Lib.hid (I_10.out.step hb)
    clear I_10
    have B_11 := Lib.hid (B_10.out.trans (hb.mono B_10.out.size))
    clear B_10
    have F_11 := Lib.hid (F_10.out.step hb)
    clear F_10
    have S_11 := Lib.hid (S_10.out.step hb)
    clear S_10
    have X_11 := Lib.hid (X_10.out.step hb)
    clear X_10
    clear hb
    rw [show decide (S.rs = S.rs) = true from decide_eq_true rfl]
    clear ho hL6 hl9
    have q9 := F_11.out.it
    obtain ⟨x9, y9⟩ := X_11.out.it
    refine hK.out _ _ ⟨q9, x9, y9⟩ (fun hHeld => ?_); clear hK K; (try simp only [Act.put, List.setIfInBounds_toArray, List.set_cons_zero, List.set_cons_succ])
    refine wpAnyH_take (i := 13) (oi := ⟨some 47, _, _, _, _, _⟩) (v := ?_) rfl (by kernel_rfl) (by kernel_rfl) (by kernel_rfl) (fun _ _ _ h => h) (Or.inl ⟨by rfl, ?_⟩) (by assumption) ?_; rotate_left; (focus (intro w hSw; (try dsimp only at hSw); go_simp; (try with_reducible rfl))); (try simp only [Act.put, List.setIfInBounds_toArray, List.set_cons_zero, List.set_cons_succ])
    refine wpAnyH_take (i := 14) (oi := ⟨some 48, _, _, _, _, _⟩) (v := ?_) rfl (by kernel_rfl) (by kernel_rfl) (by kernel_rfl) (fun _ _ _ h => h) (Or.inl ⟨by rfl, ?_⟩) (by assumption) ?_; rotate_left; (focus (intro w hSw; (try dsimp only at hSw); go_simp; (try with_reducible rfl))); (try simp only [Act.put, List.setIfInBounds_toArray, List.set_cons_zero, List.set_cons_succ])
    refine wpAnyH_take (i := 15) (oi := ⟨some 49, _, _, _, _, _⟩) (v := ?_) rfl (by kernel_rfl) (by kernel_rfl) (by kernel_rfl) (fun _ _ _ h => h) (Or.inl ⟨by rfl, ?_⟩) (by assumption) ?_; rotate_left; (focus (intro w hSw; (try dsimp only at hSw); go_simp; (try with_reducible rfl))); (try simp only [Act.put, List.setIfInBounds_toArray, List.set_cons_zero, List.set_cons_succ])
    refine wpAnyH_take (i := 16) (oi := ⟨some 50, _, _, _, _, _⟩) (v := ?_) rfl (by kernel_rfl) (by kernel_rfl) (by kernel_rfl) (fun _ _ _ h => h) (Or.inl ⟨by rfl, ?_⟩) (by assumption) ?_; rotate_left; (focus (intro w hSw; (try dsimp only at hSw); go_simp; (try with_reducible rfl))); (try simp only [Act.put, List.setIfInBounds_toArray, List.set_cons_zero, List.set_cons_succ])
    refine wpAnyH_ready (rs := [17]) (by kernel_rfl) (by simp) ?_; refine AllReadyH.cons (o := ⟨some 51, _, _, _, _, _⟩) rfl (fun K hK => ?_) AllReadyH.nil; go_simp
    go_at_call 17
    refine (HVE.out _ _ _ _ _ _ w11 HM3.out HP3.out P_11.out S_11.out).mono ?_
    rintro e w12 ⟨rfl, hb⟩
    have P_12 := Lib.hid (P_11.out.step hb)
    clear P_11
    have I_12 := Lib.hid (I_11.out.step hb)
    clear I_11
    have B_12 := Lib.hid (B_11.out.trans (hb.mono B_11.out.size))
    clear B_11
    have F_12 := Lib.hid (F_11.out.step hb)
    clear F_11
    have S_12 := Lib.hid (S_11.out.step hb)
    clear S_11
    have X_12 := Lib.hid (X_11.out.step hb)
    clear X_11
    clear hb
    have q9 := F_12.out.it
    obtain ⟨x9, y9⟩ := X_12.out.it
    refine hK.out _ _ ⟨q9, x9, y9⟩ (fun hHeld => ?_); clear hK K; (try simp only [Act.put, List.setIfInBounds_toArray, List.set_cons_zero, List.set_cons_succ])
    refine wpAnyH_take (i := 18) (oi := ⟨some 52, _, _, _, _, _⟩) (v := ?_) rfl (by kernel_rfl) (by kernel_rfl) (by kernel_rfl) (fun _ _ _ h => h) (Or.inl ⟨by rfl, ?_⟩) (by assumption) ?_; rotate_left; (focus (intro w hSw; (try dsimp only at hSw); go_simp; (try with_reducible rfl))); (try simp only [Act.put, List.setIfInBounds_toArray, List.set_cons_zero, List.set_cons_succ])
    refine wpAnyH_take (i := 19) (oi := ⟨some 53, _, _, _, _, _⟩) (v := ?_) rfl (by kernel_rfl) (by kernel_rfl) (by kernel_rfl) (fun _ _ _ h => h) (Or.inl ⟨by rfl, ?_⟩) (by assumption) ?_; rotate_left; (focus (intro w hSw; (try dsimp only at hSw); go_simp; (try with_reducible rfl))); (try simp only [Act.put, List.setIfInBounds_toArray, List.set_cons_zero, List.set_cons_succ])
    refine wpAnyH_take (i := 20) (oi := ⟨some 54, _, _, _, _, _⟩) (v := ?_) rfl (by kernel_rfl) (by kernel_rfl) (by kernel_rfl) (fun _ _ _ h => h) (Or.inl ⟨by rfl, ?_⟩) (by assumption) ?_; rotate_left; (focus (intro w hSw; (try dsimp only at hSw); go_simp; (try with_reducible rfl))); (try simp only [Act.put, List.setIfInBounds_toArray, List.set_cons_zero, List.set_cons_succ])
    refine wpAnyH_take (i := 21) (oi := ⟨some 55, _, _, _, _, _⟩) (v := ?_) rfl (by kernel_rfl) (by kernel_rfl) (by kernel_rfl) (fun _ _ _ h => h) (Or.inl ⟨by rfl, ?_⟩) (by assumption) ?_; rotate_left; (focus (intro w hSw; (try dsimp only at hSw); go_simp; (try with_reducible rfl))); (try simp only [Act.put, List.setIfInBounds_toArray, List.set_cons_zero, List.set_cons_succ])
    refine wpAnyH_take (i := 23) (oi := ⟨some 57, _, _, _, _, _⟩) (v := ?_) rfl (by kernel_rfl) (by kernel_rfl) (by kernel_rfl) (fun _ _ _ h => h) (Or.inl ⟨by rfl, ?_⟩) (by assumption) ?_; rotate_left; (focus (intro w hSw; (try dsimp only at hSw); go_simp; (try with_reducible rfl))); (try simp only [Act.put, List.setIfInBounds_toArray, List.set_cons_zero, List.set_cons_succ])
    refine wpAnyH_ready (rs := [22]) (by kernel_rfl) (by simp) ?_; refine AllReadyH.cons (o := ⟨some 56, _, _, _, _, _⟩) rfl (fun K hK => ?_) AllReadyH.nil; go_simp
    go_at_call 18
    refine (HCE.out _ _ _ _ _ _ w12 HM3.out HP3.out P_12.out S_12.out).mono ?_
    rintro e w13 ⟨v, rfl, ho, hb⟩
    obtain ⟨A7, c7, rfl, hI7⟩ := OwnI.form ho
    have P_13 := Lib.hid (P_12.out.step hb)
    clear P_12
    have I_13 := Lib.hid (I_12.out.step hb)
    clear I_12
    have B_13 := Lib.hid (B_12.out.trans (hb.mono B_12.out.size))
    clear B_12
    have F_13 := Lib.hid (F_12.out.step hb)
    clear F_12
    have S_13 := Lib.hid (S_12.out.step hb)
    clear S_12
    have X_13 := Lib.hid (X_12.out.step hb)
    clear X_12
    clear hb
    rw [← HM1.out]
    have q9 := F_13.out.it
    obtain ⟨x9, y9⟩ := X_13.out.it
    refine hK.out _ _ ⟨q9, x9, y9⟩ (fun hHeld => ?_); clear hK K; (try simp only [Act.put, List.setIfInBounds_toArray, List.set_cons_zero, List.set_cons_succ])
    refine wpAnyH_ready (rs := [24]) (by kernel_rfl) (by simp) ?_; refine AllReadyH.cons (o := ⟨some 58, _, _, _, _, _⟩) rfl (fun K hK => ?_) AllReadyH.nil; go_simp
    go_at_call 13
    refine (laws_equalInts A7 E1 m1 m1 c7 d1 cf cf w13 w13.heap.size (Nat.le_refl _) HM1.out HM1.out hI7 I_13.out (by omega) (by omega)).mono ?_
    rintro e w14 ⟨rfl, hb⟩
    have P_14 := Lib.hid (P_13.out.step hb)
    clear P_13
    have I_14 := Lib.hid (I_13.out.step hb)
    clear I_13
    have B_14 := Lib.hid (B_13.out.trans (hb.mono B_13.out.size))
    clear B_13
    have F_14 := Lib.hid (F_13.out.step hb)
    clear F_13
    have S_14 := Lib.hid (S_13.out.step hb)
    clear S_13
    have X_14 := Lib.hid (X_13.out.step hb)
    clear X_13
    clear hb
    rw [show decide (cf = cf) = true from decide_eq_true rfl]
    clear ho hI7
    have q9 := F_14.out.it
    obtain ⟨x9, y9⟩ := X_14.out.it
    refine hK.out _ _ ⟨q9, x9, y9⟩ (fun hHeld => ?_); clear hK K; (try simp only [Act.put, List.setIfInBounds_toArray, List.set_cons_zero, List.set_cons_succ])
    refine wpAnyH_take (i := 25) (oi := ⟨some 59, _, _, _, _, _⟩) (v := ?_) rfl (by kernel_rfl) (by kernel_rfl) (by kernel_rfl) (fun _ _ _ h => h) (Or.inl ⟨by rfl, ?_⟩) (by assumption) ?_; rotate_left; (focus (intro w hSw; (try dsimp only at hSw); go_simp; (try with_reducible rfl))); (try simp only [Act.put, List.setIfInBounds_toArray, List.set_cons_zero, List.set_cons_succ])
    refine wpAnyH_take (i := 26) (oi := ⟨some 2, _, _, _, _, _⟩) (v := ?_) rfl (by kernel_rfl) (by kernel_rfl) (by kernel_rfl) (fun _ _ _ h => h) (Or.inl ⟨by rfl, ?_⟩) (by assumption) ?_; rotate_left; (focus (intro w hSw; (try dsimp only at hSw); go_simp; (try with_reducible rfl))); (try simp only [Act.put, List.setIfInBounds_toArray, List.set_cons_zero, List.set_cons_succ])
    refine wpAnyH_done (by kernel_rfl) ?_ _
    go_wp2
    go_ret
    exact ⟨rfl, B_14.out⟩
end Go.Proofs.Ytgclikdienlhdaa


namespace Go.Proofs.Ytgclikdienlhdaa
set_option linter.unusedSimpArgs false
set_option linter.unusedVariables false
open Go.ChangeShapes Go.WideShapes Go.ChangeAt Go.RowKit

set_option maxRecDepth 100000 in
theorem plifted_StartEager (os : Os) (started : os.Started) (H : Type) (enc : TypeId × Value → H) :
    ReturnsInHanded {} Try.checked os 3 .any (Rows.fnStartEagerSpec.pre6 enc Try.prog Try.f3 Rows.fnStartEagerRow.domain false) (Rows.fnStartEagerSpec.post enc Try.prog Try.f3 false true false false) := by
  refine returnsInHanded_of_change (C := Try.checked) own started (by kernel_rfl) Try.func3
    (ChangeSpec.witness6 (enc := enc) (C := Try.checked) false ⟨#[], #[.slice none 0 0], []⟩ 8 (by kernel_rfl) (by kernel_rfl) (by kernel_rfl) (by kernel_rfl)) ?_
  intro W base args ds gs before hval0 hW hcnd _
  have hval : ∀ (j : Nat) t v, Try.f3.params[j]? = some t → args[j]? = some v → Value.okWide Try.prog W .any base t v := hval0
  have hW' := hW
  obtain ⟨p, q, hA0, hV, rfl, hfz, hnd⟩ := hW
  have hA : DataW.TrodAll enc Try.prog W 0 (fun _ => true) true Try.f3.params.toList args.toList ds p := hA0
  rw [Try.params3] at hA hval
  obtain ⟨v0, vs0, d0, ds0, p0, q0, hargs, rfl, rfl, h0, r0⟩ := trodAll_cons hA
  obtain ⟨rfl, rfl, rfl⟩ := trodAll_nil r0
  obtain rfl : args = #[v0] := by cases args; simp_all
  obtain ⟨rfl, rfl⟩ := trodVars_none hV
  have k0 := h0
  have lt0 : ∀ x ∈ p0, x.block < W.heap.size := by obtain ⟨m, hm⟩ := k0; exact DataW.trod_lt m _ _ _ hm
  obtain ⟨A, n, c, bs, rfl, hn, hnc, hm, hy, hbs⟩ := open_code (hval 0 22 v0 rfl rfl) h0
  clear hA0 hval0
  refine (plaw_StartEager A n c bs W hn hnc hbs hy hm).mono fun e W' ⟨he, bel⟩ => ?_
  subst he
  exact ⟨_, rfl, _, _, _, [], _, [], hW', trodAll_mk1 (shut_bool Try.underlying4 _), (trodAll_cons_mk (Below.trod laidOut (by kernel_rfl) (of_decide_eq_true (by kernel_rfl)) k0 bel lt0) trodAll_mk0), rfl, bel.frame _, fun h => by cases h⟩

theorem pproved_StartEager : Rows.FnStartEagerSaid :=
  OpenClaim.holds_of_wide 3 Try.f3 rfl rfl rfl rfl rfl rfl rfl ⟨rfl, rfl, rfl, rfl, rfl⟩ rfl rfl rfl rfl rfl (by kernel_rfl) Try.func3 (by kernel_rfl)
    (of_decide_eq_true (by kernel_rfl)) (by unfold Func.isWrapper; first | (rw [if_pos (by decide +kernel)]; kernel_rfl) | (rw [if_neg (by decide +kernel)]; exact ⟨rfl, rfl⟩))
    (fun os started H enc _ => plifted_StartEager os started H enc)
#print axioms pproved_StartEager
end Go.Proofs.Ytgclikdienlhdaa
