/- Parts in order: impl.appendParts, formulaOf, OrderParts. -/
import Derived.Test.YteeljfblncffpaaA21
namespace Go.Proofs.Yteeljfblncffpaa
set_option linter.unusedSimpArgs false
set_option linter.unusedVariables false
open Go.RowKit

set_option maxRecDepth 100000 in
set_option maxHeartbeats 3200000 in
theorem impl_appendParts (D : Nat) : ∀ (t : Tm) (v : Value) (n : Nat) (ps : List Pt) (base : Nat) (w : World), t.deep ≤ D → n = ps.length → n + t.size ≤ 1000000 → base ≤ w.heap.size → w.ownsRow base 51 5 v n (ps.flatMap Pt.cells) →
    Calls Try.prog 78 #[v, t.val] w fun e w' => RetG w v base (n + t.size) (ps ++ t.post n) e w' := by
  obtain ⟨i0, hi, hz0, hz1, hz2⟩ := info_parts info_int
  obtain ⟨i1, hi1, hy0, hy1, hy2⟩ := info_parts info_part
  induction D with
  | zero => intro t v n ps base w ht; have := t.deep_kids; omega
  | succ D ih =>
    intro t v n ps base w ht hn hsz hbase hown
    obtain ⟨T, x, fn, fp, hv, hme, hcf, hbe, hme2, hcf2, hpa⟩ := both_inv t
    rw [hv]
    have HPK := Lib.hid (t.post_kids n)
    have hsk := t.size_kids
    have IH := Lib.hid ih
    have HBE := Lib.hid hbe
    have HPA := Lib.hid hpa
    have HDK := Lib.hid t.deep_kids
    have HTD := Lib.hid ht
    have HN := Lib.hid hn
    obtain ⟨A, c, rfl⟩ := own_form hown
    have HO := Lib.hid hown
    clear ih hbe hv ht hpa hn hown
    have hk3 : t.kids.length ≤ 3 := by cases t <;> simp [Tm.kids]
    generalize hK : t.kids = ks at *
    generalize hd : t.deep = d at *
    generalize t.size = z at *
    generalize hL : ks.length = L at *
    have HL := Lib.hid hL
    have hdk : ∀ t ∈ ks, t.deep ≤ D := by
      intro t ht
      have := le_foldl_max (ks.map Tm.deep) 0 t.deep (List.mem_map_of_mem ht)
      have := HDK.out
      have := HTD.out
      omega
    have HDD := Lib.hid hdk
    have HK := Lib.hid hK
    have HSK := Lib.hid hsk
    have hnz : n + z ≤ 1000000 := hsz
    clear hL hdk hK hsk
    go_enter Try.func78, Try.ntmps78
    go_wp2_with fail
    refine (HBE.out _).mono ?_
    rintro e w1 ⟨vk, rfl, hownk, hb1⟩
    obtain ⟨A2, c2, rfl⟩ := own_form hownk
    clear hme hcf HBE
    have hkr : w1.ownsRow w.heap.size 61 1 (.slice A2 L c2) L (ks.map Tm.val) := by
      have := hownk; rw [OwnT, HL.out] at this; exact this
    have HKR := Lib.hid hkr
    have HO1 := Lib.hid (own_below HO.out hb1)
    have G1 := Lib.hid ((Gr.refl w (.slice A n c)).below hb1)
    have hw1 : w.heap.size ≤ w1.heap.size := hb1.size
    have hkap : Apart (.slice A n c) (.slice A2 L c2) := by
      intro k hk e
      have h1 := (HO.out.lt k hk).2
      have h2 := (hkr.lt k e).1
      omega
    have HKAP := Lib.hid hkap
    rw [HL.out]
    clear hownk hkr hb1 hkap HO
    have hLP : LP w (.slice A n c) (.slice A2 L c2) base n L ps ks 0 n (.slice A n c) (.slice none 0 0) w1 :=
      ⟨by simp [ksize], by simpa [kpost] using HO1.out, World.ownsRow_nil _ _ _ _, HKR.out, G1.out, fun k _ => by simp [Value.ownBlock], HKAP.out, fun k hk => by simp [Value.ownBlock] at hk⟩
    have HLP0 := Lib.hid hLP
    clear HO1 HKR G1 HKAP hLP
    go_wp2
    go_loopw [0, 5, 11] (fun v u i wr => ∃ m nm : Nat, m ≤ L ∧ i = .int .i64 m ∧ Hid (LP w (.slice A n c) (.slice A2 L c2) base n L ps ks m nm v u wr)) (fun _ _ i _ => L - (intOf i).toNat)
    case atStart => exact ⟨0, n, Nat.zero_le _, rfl, HLP0.out⟩
    case round =>
      clear HLP0
      obtain ⟨m, nm, hm, rfl, HLP⟩ := hrel
      by_cases hml : m < L
      · obtain ⟨b, off, rfl, hbl, hc⟩ := (VS.of_own HLP.out.kids) (by have := HL.out; simp; omega)
        have hcm := hc m (by have := HL.out; simp; omega)
        have hcm' : wr.cell? ⟨b, off + m, none⟩ = some (ks.getD m default).val := by
          have hlm : m < ks.length := by have := HL.out; omega
          rw [hcm]; simp [List.getD, hlm]
        clear hc hcm
        have hdm : (ks.getD m default).deep ≤ D := HDD.out _ (getD_mem ks m (by have := HL.out; omega))
        have HTS := Lib.hid (take_succ_tm ks m (by have := HL.out; omega))
        have hks1 := ksize_take ks (m + 1)
        rw [HTS.out, ksize_snoc] at hks1
        have hnum := HLP.out.num
        have hsz1 : nm + (ks.getD m default).size ≤ 1000000 := by have := HSK.out; omega
        have HHS := Lib.hid hnum
        clear hks1 hnum
        generalize hx : ks.getD m default = tm at *
        clear hx
        obtain ⟨Av, cv, rfl⟩ := own_form HLP.out.row
        obtain ⟨Au, cu, rfl⟩ := own_form HLP.out.at_
        have hbw : base ≤ wr.heap.size := by have := HLP.out.gr.size; omega
        have hlen : nm = (ps ++ kpost (ks.take m) n).length := by
          have h1 := HHS.out
          have h2 := HN.out
          rw [List.length_append, kpost_len]; omega
        have HLEN := Lib.hid hlen
        clear hlen
        go_wp2_with fail
        refine (IH.out tm _ nm _ base _ hdm HLEN.out hsz1 hbw HLP.out.row).mono ?_
        rintro e w2 ⟨v2, rfl, hown2, hgr2⟩
        obtain ⟨A3, c3, rfl⟩ := own_form hown2
        have LA := Lib.hid (hgr2.other HLP.out.at_ HLP.out.avu)
        have LK := Lib.hid (hgr2.other HLP.out.kids HLP.out.avk)
        have LG := Lib.hid (HLP.out.gr.trans hgr2)
        have LU := Lib.hid HLP.out.auk
        have LO := Lib.hid hown2
        have hws2 : w.heap.size ≤ w2.heap.size := LG.out.size
        clear hown2 hgr2 HLP hcm'
        obtain ⟨n2, hn2⟩ : ∃ n2 : Nat, n2 = nm + tm.size := ⟨_, rfl⟩
        rw [← hn2] at LO LA LK LG
        have hn2b : n2 ≤ 1000000 := by omega
        have hn20 : 1 ≤ n2 := by have := tm.size_pos; omega
        have HN2 := Lib.hid hn2
        rw [← HN2.out]
        clear hn2 hsz1
        go_wp2_with (at_builtin; refine wpList_append_own_at _ rfl _ _ 33 rfl w.heap.size 3 i0 (.int .i64 0) 1 8 Try.underlying33 hi hz0 hz1 hz2 rfl (by decide) _ _ _ rfl (LA.out.1.alloc _) ⟨_, 0, none⟩ 1 1 [.int .i64 (n2 - 1)] rfl rfl (cell_one_new _ _ _) ?c2 ?c3 ?c4 ?c5 ?_)
        case c2 => intro u hu; simp at hu; subst hu; rfl
        case c3 => unfold maxLen; omega
        case c4 => omega
        case c5 => simp; omega
        intro v' w3 hown' hgrow _ hwhere
        have hapk : Gr w2 (.slice Au m cu) w3 v' := (Gr.refl w2 _).alloc (.cells #[.int .i64 (n2 - 1)] 3) |>.trans (Gr.of_append hgrow (by rw [World.size_alloc]; exact hwhere))
        have hkk := hapk.other LK.out.1 LU.out
        have hvv := hapk.other LO.out (LA.out.2.symm)
        have HLP' : Hid (LP w (.slice A n c) (.slice (some ⟨b, off, none⟩) L c2) base n L ps ks (m + 1) n2 (.slice A3 n2 c3) v' w3) := by
          refine ⟨?_, ?_, ?_, hkk.1, LG.out.elsewhere hapk.1 (fun k hk => (LA.out.1.lt k hk).1), hvv.2.symm, LK.out.2, hkk.2⟩
          · rw [HTS.out, ksize_snoc]; have := HN2.out; have := HHS.out; omega
          · have h1 := hvv.1
            rw [HTS.out, kpost_snoc, ← HHS.out, ← List.append_assoc]
            exact h1
          · rw [HTS.out, kat_snoc, ← HHS.out, ← HN2.out, List.map_append]
            exact hown'
        clear hown' hgrow hwhere hapk hkk hvv LA LK LG LU LO
        go_wp2
        go_roundw
        case rel => exact ⟨m + 1, n2, by omega, by go_num, HLP'.out⟩
        case measure => simp [intOf]; omega
      · obtain rfl : m = L := by omega
        have htk : ks.take m = ks := List.take_of_length_le (by have := HL.out; omega)
        have hrow := HLP.out.row
        have hat := HLP.out.at_
        have hnum := HLP.out.num
        rw [htk] at hrow hat hnum
        obtain ⟨Av, cv, rfl⟩ := own_form hrow
        obtain ⟨Au, cu, rfl⟩ := own_form hat
        have hkl : (kat ks n).length = m := by rw [kat_len]; exact HL.out
        have hnm : nm ≤ 1000000 := by have := HSK.out; omega
        have HR := Lib.hid hrow
        have HAT := Lib.hid hat
        have HG := Lib.hid HLP.out.gr
        have HNM := Lib.hid hnum
        have hpt := HPA.out wr Au m cu (kat ks n) hkl rfl (IS.of_own hat)
        have HPT := Lib.hid hpt
        clear HPA hpt hrow hat hnum hkl HLP htk hml hm
        generalize t.own (kat ks n) = q at *
        go_wp2_with fail
        refine HPT.out.mono ?_
        rintro e w2 ⟨rfl, hb2⟩
        have HR2 := Lib.hid (own_below HR.out hb2)
        have HG2 := Lib.hid (HG.out.below hb2)
        have hw2 : w.heap.size ≤ w2.heap.size := HG2.out.size
        clear hb2 HR HG HPT HAT hme2 hcf2
        go_wp2_with (at_builtin; refine wpList_append_own_at _ rfl _ _ 27 rfl base 51 i1 _ 5 40 Try.underlying27 hi1 hy0 hy1 hy2 rfl (by decide) _ _ _ rfl (HR2.out.alloc _) ⟨_, 0, none⟩ 1 1 q.cells rfl rfl (cells_new _ _ _ _ rfl) ?d2 ?d3 ?d4 ?d5 ?_)
        case d2 => intro u hu; simp [Pt.cells] at hu; rcases hu with rfl | rfl | rfl | rfl | rfl <;> rfl
        case d3 => unfold maxLen; omega
        case d4 => omega
        case d5 => simp; omega
        intro v' w3 hown' hgrow _ hwhere
        have hap : Gr w2 (.slice Av nm cv) w3 v' := (Gr.refl w2 _).alloc (.cells #[.int .i64 q.k, .int .i64 q.a, .int .i64 q.b, .int .i64 q.c, .int .i64 q.n] 51) |>.trans (Gr.of_append hgrow (by rw [World.size_alloc]; exact hwhere))
        have HF := Lib.hid (HG2.out.trans hap)
        have hN : nm + 1 = n + z := by have := HNM.out; have := HSK.out; omega
        rw [hN] at hown'
        have hL : (ps ++ kpost ks n).flatMap Pt.cells ++ q.cells = (ps ++ t.post n).flatMap Pt.cells := by
          rw [HPK.out, ← List.append_assoc, List.flatMap_append (xs := ps ++ kpost ks n)]; simp
        have HW := Lib.hid (show w3.ownsRow base 51 5 v' (n + z) ((ps ++ t.post n).flatMap Pt.cells) by rw [← hL]; simpa using hown')
        clear hown' hgrow hwhere hap hN hL
        go_wp2
        go_ret
        exact ⟨v', rfl, HW.out, HF.out⟩

/-- Returns a formula with fresh parts. -/
def RetP (w : World) (ps : List Pt) (e : Ending) (w' : World) : Prop := ∃ v, e = .returned (.agg #[v]) ∧ w'.ownsRow w.heap.size 51 5 v ps.length (ps.flatMap Pt.cells) ∧ Below w.heap.size w w'

set_option maxHeartbeats 400000 in
theorem impl_formulaOf (t : Tm) (w : World) (hs : t.size ≤ 1000000) :
    Calls Try.prog 58 #[t.val] w fun e w' => RetP w (t.post 0) e w' := by
  have HP := Lib.hid (t.post_len 0)
  go_enter Try.func58, Try.ntmps58
  go_wp2_with fail
  refine (impl_appendParts t.deep t (.slice none 0 0) 0 [] (w.heap.size + 1) _ (Nat.le_refl _) rfl (by omega) (by simp) (World.ownsRow_nil _ _ _ _)).mono ?_
  rintro e w1 ⟨v, rfl, hown, hgr⟩
  have hb := hgr.bel (B := w.heap.size + 1) (fun k hk => by simp [Value.ownBlock] at hk) (by simp)
  obtain ⟨A, c, rfl⟩ := own_form hown
  have HO := Lib.hid hown
  have HB := Lib.hid hb
  have hz : w.heap.size < w1.heap.size := by have := hb.size; simp at this; omega
  have hf : w1.frozen? ⟨w.heap.size, 0, none⟩ = false := (hb.frozen (p := ⟨w.heap.size, 0, none⟩) (by simp)).trans (by go_simp)
  have hc : w1.cell? ⟨w.heap.size, 0, none⟩ = some (.slice none 0 0) := (hb.cell (p := ⟨w.heap.size, 0, none⟩) (by simp)).trans (by go_simp)
  clear hown hgr hb
  go_wp2
  refine bodyPost_ret (v := .agg #[.slice A t.size c]) (by simp [results, Try.results58, go_sem, hz, hc]) rfl ⟨_, rfl, ?_, ?_⟩
  · have h1 := HO.out
    simp only [Nat.zero_add, List.nil_append] at h1
    rw [HP.out]
    exact own_mono (ownsRow_setCell_below h1 (by simp) _) (by omega)
  · exact (((Below.refl _ _).alloc (Nat.le_refl _) _).trans (HB.out.mono (by simp))).setCell (by simp) _
end Go.Proofs.Yteeljfblncffpaa
