/- Owners: the standing contracts of OpenUnder. -/
import Derived.Test.YtdcfmoaomlfijaaV16

namespace Go.Proofs.Ytdcfmoaomlfijaa
set_option linter.unusedSimpArgs false
set_option linter.unusedVariables false
open Go.RowKit

theorem SSk.putLow {lo hi a b : Nat} {vs vs' : List Value} {lens lens' : Nat → Nat} {cont cont' : Nat → List Value} {w : World} {A : Option Addr} {m c : Nat} (h : SSk lo hi vs lens cont w) (k : Nat) (hk : vs'[k]? = some (.slice A m c)) (hl : ∀ j, j ≠ k → vs'[j]? = vs[j]?)
    (hlen : ∀ j, j < vs'.length → j ≠ k → j < vs.length) (hm : m = lens' k) (hc : ∀ j, j ≠ k → lens' j = lens j ∧ cont' j = cont j) (hr : OwR a b 3 1 (.slice A m c) m (cont' k) w) (h1 : b ≤ lo) (h2 : a ≤ lo) (h3 : lo ≤ hi) : SSk a hi vs' lens' cont' w := by
  refine ⟨fun j hj => ?_, fun i j v u q hij hi' hj' hv hu => ?_⟩
  · by_cases e : j = k
    · subst e
      exact ⟨A, m, c, hk, hm, hr.mono (Nat.le_refl _) (by omega)⟩
    · obtain ⟨A', m', c', e1, e2, e3⟩ := h.row j (hlen j hj e)
      obtain ⟨e4, e5⟩ := hc j e
      exact ⟨A', m', c', by rw [hl j e]; exact e1, by rw [e4]; exact e2, by rw [e5]; exact e3.mono h2 (Nat.le_refl _)⟩
  · by_cases e : i = k
    · subst e
      rw [hk] at hi'
      cases hi'
      have a1 := hr.2 q hv
      rw [hl j (fun e => hij e.symm)] at hj'
      have a2 := (h.lt j u q hj' hu).1
      omega
    · by_cases e' : j = k
      · subst e'
        rw [hk] at hj'
        cases hj'
        have a1 := hr.2 q hu
        rw [hl i e] at hi'
        have a2 := (h.lt i v q hi' hv).1
        omega
      · rw [hl i e] at hi'
        rw [hl j e'] at hj'
        exact h.apart i j v u q hij hi' hj' hv hu

theorem OwO.snocLow {a b lo hi mid k : Nat} {v v' : Value} {ds : List On} {w w' : World} {d : On} {A A' : Option Addr} {m c m' c' : Nat} {xs us : List Value}
    (h0 : k = ds.length) (hx : OwR lo hi 50 4 v k xs w) (hul : us.length = k * 2) (hf : OwF xs us ds) (hs : SSk lo hi us (lenOf (rowsO ds)) (rowOf (rowsO ds)) w)
    (h1 : OwR hi mid 3 1 (.slice A m c) m (d.cl.map (Value.int .i64)) w) (hm : m = d.cl.length) (h2 : OwR a b 3 1 (.slice A' m' c') m' (d.cx.map (Value.int .i64)) w) (hm' : m' = d.cx.length) (hab : b ≤ lo) (hal : a ≤ lo) (hlo : lo ≤ hi) (hmid : hi ≤ mid) (hsz : mid ≤ w.heap.size)
    (hg : w.grownBy w' v.ownBlock) (hv : w'.ownsRow lo 50 4 v' (k + 1) (xs ++ [.int .i64 d.p, .bool d.o, .slice A m c, .slice A' m' c'])) : OwO a w'.heap.size v' (k + 1) (ds ++ [d]) w' := by
  have hxl : xs.length = k * 4 := hx.1.1
  have hw' := hg.size
  have hs1 := hs.grown hg (hs.ne hx.1 owner_ne_int.symm)
  have r1 := h1.1.kept hg (blocks_ne h1.1 hx.1 owner_ne_int.symm)
  have r2 := h2.1.kept hg (blocks_ne h2.1 hx.1 owner_ne_int.symm)
  have hrow (i : Nat) : rowO (ds ++ [d]) i = if i = k * 2 then d.cl else if i = k * 2 + 1 then d.cx else rowO ds i := by
    unfold rowO
    rw [getD_snoc ds d (i / 2), ← h0]
    by_cases e1 : i / 2 = k
    · rw [if_pos e1]
      by_cases e2 : i % 2 = 0
      · rw [if_pos e2, if_pos (by omega)]
      · rw [if_neg e2, if_neg (by omega), if_pos (by omega)]
    · have e3 : ¬ i = k * 2 := by omega
      have e4 : ¬ i = k * 2 + 1 := by omega
      simp only [if_neg e1, if_neg e3, if_neg e4]
  refine ⟨by simp [h0], _, (us ++ [.slice A m c]) ++ [.slice A' m' c'], ⟨own_mono hv hal, fun q hq => (hv.lt q hq).2⟩, by simp [hul]; omega, ?_, ?_⟩
  · intro j hj
    rw [getD_snoc ds d j, ← h0]
    by_cases e : j = k
    · subst e
      rw [if_pos rfl]
      refine ⟨?_, ?_, ?_, ?_⟩
      · rw [List.getElem?_append_right (by omega), hxl]; simp
      · rw [List.getElem?_append_right (by omega), hxl, show j * 4 + 1 - j * 4 = 1 by omega]; rfl
      · rw [List.getElem?_append_right (by omega), hxl, show j * 4 + 2 - j * 4 = 2 by omega, List.getElem?_append_left (by simp; omega), List.getElem?_append_right (by omega), hul]; simp
      · rw [List.getElem?_append_right (by omega), hxl, show j * 4 + 3 - j * 4 = 3 by omega, List.getElem?_append_right (by simp; omega)]; simp [hul]
    · rw [if_neg e]
      have hjk : j < k := by simp at hj; omega
      obtain ⟨f0, f1, f2, f3⟩ := hf j (by omega)
      refine ⟨?_, ?_, ?_, ?_⟩
      · rw [List.getElem?_append_left (by omega)]; exact f0
      · rw [List.getElem?_append_left (by omega)]; exact f1
      · rw [List.getElem?_append_left (by omega), List.getElem?_append_left (by simp; omega), List.getElem?_append_left (by omega)]; exact f2
      · rw [List.getElem?_append_left (by omega), List.getElem?_append_left (by simp; omega), List.getElem?_append_left (by omega)]; exact f3
  · have p1 : SSk lo mid (us ++ [.slice A m c]) (fun i => if i = k * 2 then d.cl.length else lenOf (rowsO ds) i) (fun i => if i = k * 2 then d.cl.map (Value.int .i64) else rowOf (rowsO ds) i) w' :=
      hs1.put (A := A) (m := m) (c := c) (k * 2) (by rw [List.getElem?_append_right (by omega), hul]; simp) (fun j hj => by
        rcases Nat.lt_or_ge j (k * 2) with h | h
        · rw [List.getElem?_append_left (by omega)]
        · rw [List.getElem?_eq_none (by simp; omega), List.getElem?_eq_none (by omega)]) (fun j hj h => by simp at hj; omega) (by simpa using hm) (fun j hj => by simp [hj]) (by simpa using ⟨r1, h1.2⟩) hlo hmid
    have p2 := p1.putLow (a := a) (b := b) (k := k * 2 + 1) (vs' := (us ++ [.slice A m c]) ++ [.slice A' m' c']) (lens' := lenOf (rowsO (ds ++ [d]))) (cont' := rowOf (rowsO (ds ++ [d]))) (A := A') (m := m') (c := c') (by rw [List.getElem?_append_right (by simp; omega)]; simp [hul]) (fun j hj => by
        rcases Nat.lt_or_ge j (k * 2 + 1) with h | h
        · rw [List.getElem?_append_left (by simp; omega)]
        · rw [List.getElem?_eq_none (by simp; omega), List.getElem?_eq_none (by simp; omega)]) (fun j hj h => by simp at hj ⊢; omega) ?_ (fun j hj => ?_) ?_ hab hal (by omega)
    · exact p2.mono (Nat.le_refl _) (by omega)
    · rw [lenOfO, hrow, if_neg (by omega), if_pos rfl]; exact hm'
    · rw [lenOfO, rowOfO, hrow]
      by_cases e : j = k * 2
      · simp [e]
      · rw [if_neg e, if_neg hj, if_neg e, if_neg e, ← lenOfO, ← rowOfO]; exact ⟨rfl, rfl⟩
    · rw [rowOfO, hrow, if_neg (by omega), if_pos rfl]; exact ⟨r2, h2.2⟩

def newD (o : Int) : On := ⟨o, true, [], noCtx⟩
def openB (ds : List On) (o : Int) : Bool := hasOpO ds o && !(decide (ds.length = 12))
def openF (ds : List On) (o : Int) : List On := if openB ds o then ds ++ [newD o] else []
theorem openF_OB (ds : List On) (o : Int) : OB (openF ds o) := by
  unfold openF
  cases h : openB ds o
  · exact OB.of_sum (by simp) (by simp [rowsO])
  · unfold openB at h
    rw [Bool.and_eq_true] at h
    obtain ⟨k, rfl, hk, hv⟩ := hasOpO_at h.1
    have hl := okO_len hv
    have h12 : ds.length ≠ 12 := by simpa using h.2
    have := (validO_ok hv).2.1
    simp only [if_true]
    refine OB.small (by simp; omega) fun j => ?_
    rw [getD_snoc]
    by_cases e : j = ds.length
    · rw [if_pos e]; simp [newD, noCtx]
    · rw [if_neg e]; have := hl j; omega

set_option maxRecDepth 100000 in
set_option maxHeartbeats 800000 in
theorem spec_emptyContext (w : World) : Calls Try.prog 51 #[] w fun e w' => RetI w noCtx e w' := by
  obtain ⟨i0, hi, hz0, hz1, hz2⟩ := info_parts info_int
  go_enter Try.func51, Try.ntmps51
  go_wp2
  go_loopw [1, 2] (fun v u wr => ∃ k : Nat, k ≤ 3 ∧ u = .int .i64 k ∧ Hid (OwnI wr w.heap.size v (List.replicate k (-1))) ∧ Hid (Below w.heap.size w wr) ∧ w.heap.size ≤ wr.heap.size) (fun _ u _ => 3 - (intOf u).toNat)
  case atStart =>
    refine ⟨0, by omega, rfl, ?_, (Below.refl _ _).alloc (Nat.le_refl _) _, by simp⟩
    have := World.ownsRow_lit (e := 3) (size := 1) (base := w.heap.size) w #[] 0 (Nat.le_refl _) (by unfold maxLen; omega) rfl
    simpa [OwnI, Hid] using this
  case round =>
    obtain ⟨k, hk, rfl, HO, HB, hwr⟩ := hrel
    by_cases hlt : k < 3
    · have hdl : (List.replicate k (-1 : Int)).length ≤ 3 := by simp; omega
      have HST := Lib.hid (show List.replicate (k + 1) (-1 : Int) = List.replicate k (-1) ++ [-1] from List.replicate_succ')
      generalize List.replicate k (-1 : Int) = D at *
      go_wp2_with (at_builtin; refine wpList_append_own _ rfl _ _ 29 rfl w.heap.size 3 i0 (.int .i64 0) 1 8 Try.underlying29 hi hz0 hz1 hz2 rfl (by decide) _ _ _ rfl (HO.out.alloc _) ⟨_, 0, none⟩ 1 1 [.int .i64 (-1)] rfl rfl (cell_one_new _ _ _) ?c2 ?c3 ?c4 ?c5 ?_)
      case c2 => first | rfl | (intro u hu; simp at hu; subst hu; rfl)
      case c3 => unfold maxLen; omega
      case c4 => omega
      case c5 => first | omega | (simp; omega)
      intro v' w3 hown' hgrow _
      have hpos := (HO.out.alloc (.cells #[.int .i64 (-1)] 3)).lt
      have HO' : Hid (OwnI w3 w.heap.size v' (List.replicate (k + 1) (-1))) := by
        rw [HST.out]
        simpa [OwnI, Hid] using hown'
      have HB' := Lib.hid ((HB.out.alloc hwr (.cells #[.int .i64 (-1)] 3)).grown hgrow (by first | (simp; omega) | omega) (fun q hq => (hpos q hq).1))
      clear hown' hgrow hpos
      go_wp2
      go_roundw
      case rel => exact ⟨k + 1, by omega, by go_num, HO'.out, HB'.out, HB'.out.size⟩
      case measure => simp [intOf]; omega
    · obtain rfl : k = 3 := by omega
      go_wp2
      go_ret
      exact ⟨_, rfl, HO.out, HB.out⟩


set_option maxRecDepth 100000 in
set_option maxHeartbeats 3200000 in
theorem top_impl_OpenUnder (ds : List On) (o : Int) (hO : OB ds) : ∀ (A : Option Addr) (n c : Nat) (w : World), n = ds.length → n ≤ c → OS w w.heap.size A ds →
    Calls Try.prog 25 #[.slice A n c, .int .i64 o] w fun e w' => RetOB w (openF ds o) (openB ds o) e w' := by
  intro A n c w hn hnc h
  obtain ⟨i1, hi1, hy0, hy1, hy2⟩ := info_parts info_owner
  have hnb : n ≤ 1048576 := by rw [hn]; exact hO.1
  have HS := Lib.hid h
  have HC := Lib.hid (impl_hasOpenOwner A n c ds o w w.heap.size (Nat.le_refl _) hn hnc h hO)
  cases hv : hasOpO ds o
  · rw [hv] at HC
    have hf : openB ds o = false := by unfold openB; rw [hv]; rfl
    unfold openF
    rw [hf]
    clear hf hn h hO hv
    simp only [Bool.false_eq_true, if_false]
    go_enter Try.func25, Try.ntmps25
    go_wp2_with fail
    refine HC.out.mono ?_
    rintro e w1 ⟨rfl, hb⟩
    go_wp2
    go_ret2
    exact RetOB.nil hb
  rw [hv] at HC
  by_cases h12 : n = 12
  · have h12' : ((n : Int) == 12) = true := by simp; omega
    have hf : openB ds o = false := by unfold openB; rw [← hn, decide_eq_true h12]; simp
    unfold openF
    rw [hf]
    clear hf hn h hO h12 hv
    simp only [Bool.false_eq_true, if_false]
    go_enter Try.func25, Try.ntmps25
    go_wp2_with fail
    refine HC.out.mono ?_
    rintro e w1 ⟨rfl, hb⟩
    go_wp2
    go_ret2
    exact RetOB.nil hb
  have h12' : ((n : Int) == 12) = false := by simp; omega
  have hf : openB ds o = true := by unfold openB; rw [hv, ← hn, decide_eq_false h12]; rfl
  have hce : openF ds o = ds ++ [newD o] := by unfold openF; rw [hf]; simp
  rw [hf, hce]
  have HCP := Lib.hid fun (w' : World) (hB : w.heap.size ≤ w'.heap.size) (h : OS w' w.heap.size A ds) => impl_copyOwners A n c ds w' w.heap.size hB hn h hO
  have HN := Lib.hid hn
  clear hf hce hn h hO h12 hv
  go_enter Try.func25, Try.ntmps25
  go_wp2_with fail
  refine HC.out.mono ?_
  rintro e w1 ⟨rfl, hb⟩
  have HB1 := Lib.hid hb
  have hs1 := hb.size
  have HS1 := Lib.hid (HS.out.below hb (Nat.le_refl _))
  clear hb HC HS
  go_wp2_with fail
  refine (slices_Repeat w1.heap.size _ (by simp) (by go_simp)).mono ?_
  rintro e w2 ⟨rfl, hoc, hbc⟩
  simp only [World.size_alloc] at hoc
  have hs2 : w1.heap.size + 1 ≤ w2.heap.size := by have := hbc.size; simpa using this
  have hlc := (hoc.lt _ rfl).2
  have HB2 := Lib.hid (((Below.refl w1.heap.size w1).alloc (Nat.le_refl _) (.cells #[.int .i64 (-1)] 3)).trans (hbc.mono (by simp)))
  have HOC := Lib.hid hoc
  clear hoc hbc
  go_wp2_with fail
  refine (HCP.out w2 (by omega) (HS1.out.below HB2.out (by omega))).mono ?_
  rintro e w3 ⟨rfl, ho, hb3⟩
  have hs3 := hb3.size
  obtain ⟨-, xs, us, hr2', hul, hfl, hss⟩ := ho
  have HR := Lib.hid hr2'
  have HUL := Lib.hid hul
  have HFL := Lib.hid hfl
  have HSS := Lib.hid hss
  have HC3 := Lib.hid (own_below HOC.out hb3)
  have HB3 := Lib.hid (HB1.out.trans ((HB2.out.trans (hb3.mono (by omega))).mono hs1))
  clear hr2' hul hfl hss hb3 HCP HS1 HOC HB2
  go_wp2_with (at_builtin; refine wpList_append_own _ rfl _ _ 25 rfl w2.heap.size 50 i1 _ 4 64 Try.underlying25 hi1 hy0 hy1 hy2 rfl (by decide) _ _ _ rfl (HR.out.1.alloc _) ⟨_, 0, none⟩ 1 1 [.int .i64 o, .bool true, .slice none 0 0, .slice (some ⟨w1.heap.size + 1, 0, none⟩) 3 3] rfl rfl (cells_new _ _ _ _ rfl) ?c2 ?c3 ?c4 ?c5 ?_)
  case c2 => first | rfl | (intro u hu; simp at hu; rcases hu with rfl | rfl | rfl | rfl <;> rfl)
  case c3 => unfold maxLen; omega
  case c4 => omega
  case c5 => first | omega | (simp; omega)
  intro v' w6 hown' hgrow _
  have HSN : Hid (OwO w1.heap.size w6.heap.size v' (n + 1) (ds ++ [newD o]) w6) :=
    OwO.snocLow (d := newD o) (a := w1.heap.size) (b := w2.heap.size) (lo := w2.heap.size) (hi := w3.heap.size) (mid := w3.heap.size) HN.out (HR.out.keep (w' := w3.alloc (.cells #[.int .i64 o, .bool true, .slice none 0 0, .slice (some ⟨w1.heap.size + 1, 0, none⟩) 3 3] 50)) (fun q _ hq => ((Below.refl w3.heap.size w3).alloc (Nat.le_refl _) _).block q (by omega))) HUL.out HFL.out (HSS.out.keep (fun q _ hq => ((Below.refl w3.heap.size w3).alloc (Nat.le_refl _) _).block q (by omega))) (OwR.nil _ _ _ _ _) rfl ⟨own_mono (HC3.out.alloc _) (by omega), fun q hq => by cases hq; exact hlc⟩ rfl (Nat.le_refl _) (by omega) hs3 (Nat.le_refl _) (by simp) hgrow hown'
  have hpos := (HR.out.1.alloc (.cells #[.int .i64 o, .bool true, .slice none 0 0, .slice (some ⟨w1.heap.size + 1, 0, none⟩) 3 3] 50)).lt
  have HB6 := Lib.hid ((HB3.out.alloc HB3.out.size (.cells #[.int .i64 o, .bool true, .slice none 0 0, .slice (some ⟨w1.heap.size + 1, 0, none⟩) 3 3] 50)).grown hgrow (by simp; omega) (fun q hq => by have := (hpos q hq).1; omega))
  clear hown' hgrow hpos
  go_wp2
  go_ret2
  refine ⟨_, rfl, ?_, HB6.out⟩
  rw [List.length_append, ← HN.out]
  exact HSN.out.mono (by omega) (Nat.le_refl _)

set_option maxRecDepth 100000 in
set_option maxHeartbeats 3200000 in
theorem top_spec_OpenUnder (ds : List On) (o : Int) (hO : OB ds) : ∀ (A : Option Addr) (n c : Nat) (w : World), n = ds.length → n ≤ c → OS w w.heap.size A ds →
    Calls Try.prog 24 #[.slice A n c, .int .i64 o] w fun e w' => RetOB w (openF ds o) (openB ds o) e w' := by
  intro A n c w hn hnc h
  obtain ⟨i1, hi1, hy0, hy1, hy2⟩ := info_parts info_owner
  have hnb : n ≤ 1048576 := by rw [hn]; exact hO.1
  have HS := Lib.hid h
  have HC := Lib.hid (spec_validOwners A n c ds w w.heap.size (Nat.le_refl _) hn h hO)
  have HI := Lib.hid fun (w' : World) (hB : w.heap.size ≤ w'.heap.size) (h : OS w' w.heap.size A ds) => spec_isOpen A n c ds o w' w.heap.size hB hn h hnb
  cases hv0 : validO ds
  · rw [hv0] at HC
    have hf : openB ds o = false := by unfold openB hasOpO hasO; rw [hv0]; rfl
    unfold openF
    rw [hf]
    clear hf hn h hO hv0 HI
    simp only [Bool.false_eq_true, if_false]
    go_enter Try.func24, Try.ntmps24
    go_wp2_with fail
    refine HC.out.mono ?_
    rintro e w1 ⟨rfl, hb⟩
    go_wp2
    go_ret2
    exact RetOB.nil hb
  rw [hv0] at HC
  cases hio : (rng o 0 ((n : Int) - 1) && opn ds o)
  · rw [hio] at HI
    have hf : openB ds o = false := by unfold openB hasOpO hasO; rw [hv0, Bool.true_and, ← hn, hio]; rfl
    unfold openF
    rw [hf]
    clear hf hn h hO hv0 hio
    simp only [Bool.false_eq_true, if_false]
    go_enter Try.func24, Try.ntmps24
    go_wp2_with fail
    refine HC.out.mono ?_
    rintro e w1 ⟨rfl, hb⟩
    go_wp2_with fail
    refine (HI.out w1 hb.size (HS.out.below hb (Nat.le_refl _))).mono ?_
    rintro e w1' ⟨rfl, rfl⟩
    go_wp2
    go_ret2
    exact RetOB.nil hb
  rw [hio] at HI
  have hv : hasOpO ds o = true := by unfold hasOpO hasO; rw [hv0, Bool.true_and, ← hn, hio]
  clear hio hv0
  by_cases h12 : n = 12
  · have h12' : ((n : Int) == 12) = true := by simp; omega
    have hf : openB ds o = false := by unfold openB; rw [← hn, decide_eq_true h12]; simp
    unfold openF
    rw [hf]
    clear hf hn h hO h12 hv
    simp only [Bool.false_eq_true, if_false]
    go_enter Try.func24, Try.ntmps24
    go_wp2_with fail
    refine HC.out.mono ?_
    rintro e w1 ⟨rfl, hb⟩
    go_wp2_with fail
    refine (HI.out w1 hb.size (HS.out.below hb (Nat.le_refl _))).mono ?_
    rintro e w1' ⟨rfl, rfl⟩
    go_wp2
    go_ret2
    exact RetOB.nil hb
  have h12' : ((n : Int) == 12) = false := by simp; omega
  have hf : openB ds o = true := by unfold openB; rw [hv, ← hn, decide_eq_false h12]; rfl
  have hce : openF ds o = ds ++ [newD o] := by unfold openF; rw [hf]; simp
  rw [hf, hce]
  have HCP := Lib.hid fun (w' : World) (hB : w.heap.size ≤ w'.heap.size) (h : OS w' w.heap.size A ds) => spec_copyOwners A n c ds w' w.heap.size hB hn h hO
  have HN := Lib.hid hn
  clear hf hce hn h hO h12 hv
  go_enter Try.func24, Try.ntmps24
  go_wp2_with fail
  refine HC.out.mono ?_
  rintro e w1 ⟨rfl, hb⟩
  have HB1 := Lib.hid hb
  go_wp2_with fail
  refine (HI.out w1 hb.size (HS.out.below hb (Nat.le_refl _))).mono ?_
  rintro e w1' ⟨rfl, rfl⟩
  have hs1 := hb.size
  have HS1 := Lib.hid (HS.out.below hb (Nat.le_refl _))
  clear hb HC HS
  go_wp2_with fail
  refine (HCP.out w1 hs1 HS1.out).mono ?_
  rintro e w2 ⟨v, rfl, ho, hb2⟩
  rw [← HN.out] at ho
  have hs2 := hb2.size
  have HO := Lib.hid ho
  have HB2 := Lib.hid (HB1.out.trans (hb2.mono hs1))
  clear ho hb2 HCP HS1
  go_wp2_with fail
  refine (spec_emptyContext _).mono ?_
  rintro e w3 ⟨v3, rfl, hoc, hbc⟩
  obtain ⟨A3, c3, rfl, -⟩ := hoc.form
  have hs3 := hbc.size
  have hoc' : w3.ownsRow w2.heap.size 3 1 (.slice A3 3 c3) 3 (noCtx.map (Value.int .i64)) := hoc
  have hl3 : noCtx.length = 3 := rfl
  rw [hl3]
  have HC3 := Lib.hid hoc'
  obtain ⟨-, xs, us, hr2', hul, hfl, hss⟩ := HO.out.step hbc (Nat.le_refl _)
  have HR := Lib.hid hr2'
  have HUL := Lib.hid hul
  have HFL := Lib.hid hfl
  have HSS := Lib.hid hss
  have HB3 := Lib.hid (HB2.out.trans (hbc.mono HB2.out.size))
  clear hr2' hul hfl hss hoc hoc' hbc HO HB2 hl3
  go_wp2_with (at_builtin; refine wpList_append_own _ rfl _ _ 25 rfl w1.heap.size 50 i1 _ 4 64 Try.underlying25 hi1 hy0 hy1 hy2 rfl (by decide) _ _ _ rfl (HR.out.1.alloc _) ⟨_, 0, none⟩ 1 1 [.int .i64 o, .bool true, .slice none 0 0, .slice A3 3 c3] rfl rfl (cells_new _ _ _ _ rfl) ?c2 ?c3 ?c4 ?c5 ?_)
  case c2 => first | rfl | (intro u hu; simp at hu; rcases hu with rfl | rfl | rfl | rfl <;> rfl)
  case c3 => unfold maxLen; omega
  case c4 => omega
  case c5 => first | omega | (simp; omega)
  intro v' w6 hown' hgrow _
  have HSN : Hid (OwO w1.heap.size w6.heap.size v' (n + 1) (ds ++ [newD o]) w6) :=
    OwO.snoc (d := newD o) (lo := w1.heap.size) (hi := w2.heap.size) (mid := w2.heap.size) (top := w3.heap.size) HN.out (HR.out.keep (w' := w3.alloc (.cells #[.int .i64 o, .bool true, .slice none 0 0, .slice A3 3 c3] 50)) (fun q _ hq => ((Below.refl w3.heap.size w3).alloc (Nat.le_refl _) _).block q (by omega))) HUL.out HFL.out (HSS.out.keep (fun q _ hq => ((Below.refl w3.heap.size w3).alloc (Nat.le_refl _) _).block q (by omega))) (OwR.nil _ _ _ _ _) rfl ⟨HC3.out.alloc _, fun q hq => (HC3.out.lt q hq).2⟩ rfl hs2 (Nat.le_refl _) hs3 (by simp) hgrow hown'
  have hpos := (HR.out.1.alloc (.cells #[.int .i64 o, .bool true, .slice none 0 0, .slice A3 3 c3] 50)).lt
  have HB6 := Lib.hid ((HB3.out.alloc HB3.out.size (.cells #[.int .i64 o, .bool true, .slice none 0 0, .slice A3 3 c3] 50)).grown hgrow (by simp; omega) (fun q hq => by have := (hpos q hq).1; omega))
  clear hown' hgrow hpos
  go_wp2
  go_ret2
  refine ⟨_, rfl, ?_, HB6.out⟩
  rw [List.length_append, ← HN.out]
  exact HSN.out.mono (by omega) (Nat.le_refl _)
end Go.Proofs.Ytdcfmoaomlfijaa
