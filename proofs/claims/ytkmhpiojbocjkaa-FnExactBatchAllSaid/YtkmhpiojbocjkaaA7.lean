/- The contract of impl.ValidFormula. -/
import Derived.Test.YtkmhpiojbocjkaaM2
import Derived.Test.YtkmhpiojbocjkaaA5
import Derived.BigRegion
namespace Go.Proofs.Ytkmhpiojbocjkaa
set_option linter.unusedSimpArgs false
set_option linter.unusedVariables false
open Go.RowKit

/-- Twelve marks: which numbers stand in the list. -/
def Mrk (w : World) (g : Nat) (L : List Int) : Prop :=
  g < w.heap.size ∧ ∀ t : Nat, t < 12 → w.cell? ⟨g, t, none⟩ = some (.bool (decide ((t : Int) ∈ L))) ∧ w.frozen? ⟨g, t, none⟩ = false

theorem Mrk.below {w w' : World} {g : Nat} {L : List Int} (h : Mrk w g L) (hb : Below w.heap.size w w') : Mrk w' g L :=
  ⟨Nat.lt_of_lt_of_le h.1 hb.size, fun t ht => ⟨(hb.cell (p := ⟨g, t, none⟩) h.1).trans (h.2 t ht).1, (hb.frozen (p := ⟨g, t, none⟩) h.1).trans (h.2 t ht).2⟩⟩

theorem Mrk.set {w : World} {g : Nat} {L : List Int} (h : Mrk w g L) (t : Nat) (ht : t < 12) : Mrk (w.setCell ⟨g, t, none⟩ (.bool true)) g (L ++ [(t : Int)]) := by
  refine ⟨by simpa [World.setCell] using h.1, fun j hj => ?_⟩
  obtain ⟨h1, h2⟩ := h.2 j hj
  by_cases e : j = t
  · subst e
    refine ⟨?_, by simpa using h2⟩
    rw [World.cell?_setCell_same _ _ _ h1]; try simp
  · refine ⟨?_, by simpa using h2⟩
    rw [World.cell?_setCell_other _ _ _ _ (by intro e'; simp at e'; try omega), h1]
    have : ((j : Int) = (t : Int)) = False := by simp; omega
    simp [this]

set_option maxRecDepth 100000 in
set_option maxHeartbeats 1600000 in
theorem impl_ValidFormula (A : Option Addr) (n c : Nat) (ps : List Pt) (w : World) (B : Nat) (hB : B ≤ w.heap.size) (hn : n = ps.length) (h : PS w B A ps) (hs : n ≤ 2000000) :
    Calls Try.prog 55 #[.agg #[.slice A n c]] w fun e w' => e = .returned (.bool (validF ps)) ∧ Below w.heap.size w w' := by
  by_cases h1 : n < 1
  · have hf : validF ps = false := by
      unfold validF rng
      have : ¬ (1 ≤ (ps.length : Int) ∧ (ps.length : Int) ≤ 12) := by omega
      simp [this]
    rw [hf]
    clear hn h hf
    go_enter Try.func55, Try.ntmps55
    go_wp2
    go_ret
    exact ⟨rfl, (Below.refl _ _).alloc (Nat.le_refl _) _⟩
  by_cases h12 : 12 < n
  · have hf : validF ps = false := by
      unfold validF rng
      have : ¬ (1 ≤ (ps.length : Int) ∧ (ps.length : Int) ≤ 12) := by omega
      simp [this]
    rw [hf]
    clear hn h hf
    go_enter Try.func55, Try.ntmps55
    go_wp2
    go_ret
    exact ⟨rfl, (Below.refl _ _).alloc (Nat.le_refl _) _⟩
  have H := Lib.hid h
  have HN := Lib.hid hn
  clear hn h
  go_enter Try.func55, Try.ntmps55
  go_wp2
  go_loopw [24, 4] (fun i u wr => ∃ k : Nat, k ≤ n ∧ i = .int .i64 k ∧ u = .int .i64 (((ps.take k).flatMap bel).length : Nat) ∧ Hid (Mrk wr (w.heap.size + 1) ((ps.take k).flatMap bel)) ∧ Hid (((ps.take k).flatMap bel).Nodup) ∧ Hid (∀ j, j < k → goodPt (ps.getD j default) j = true) ∧ Below (w.heap.size + 1) (w.alloc (.cells #[.slice A n c] 83)) wr) (fun i _ _ => n - (intOf i).toNat)
  case atStart =>
    refine ⟨0, Nat.zero_le _, rfl, rfl, ⟨by simp, fun t ht => ?_⟩, List.nodup_nil, by intro j hj; omega, (Below.refl _ _).alloc (by simp) _⟩
    have ht' : t = 0 ∨ t = 1 ∨ t = 2 ∨ t = 3 ∨ t = 4 ∨ t = 5 ∨ t = 6 ∨ t = 7 ∨ t = 8 ∨ t = 9 ∨ t = 10 ∨ t = 11 := by omega
    rcases ht' with rfl | rfl | rfl | rfl | rfl | rfl | rfl | rfl | rfl | rfl | rfl | rfl <;> exact ⟨by go_simp, by go_simp⟩
  case round =>
    obtain ⟨k, hk, rfl, rfl, HM, HD, HG, hb⟩ := hrel
    have hbox : wr.cell? ⟨w.heap.size, 0, none⟩ = some (.slice A n c) := (hb.cell (p := ⟨w.heap.size, 0, none⟩) (by simp)).trans (by go_simp)
    have hgs : w.heap.size + 1 < wr.heap.size := HM.out.1
    have hfl : ((ps.take k).flatMap bel).length ≤ 36 := by
      have h2 := flat_len (ps.take k)
      have h3 : (ps.take k).length ≤ k := List.length_take_le _ _
      omega
    by_cases hlt : k < n
    · obtain ⟨b, off, rfl, hbB, hc⟩ := H.out (by have := HN.out; omega)
      obtain ⟨c0, c1, c2, c3, c4⟩ := hc k (by have := HN.out; omega)
      clear hc
      have hbw : b < w.heap.size := by omega
      have hbr : b < wr.heap.size := by omega
      have b0 := ((hb.cell (p := ⟨b, off + k * 5, none⟩) (by simp; omega)).trans (World.cell?_alloc_lt _ _ _ (by simpa using hbw))).trans c0
      have b1 := ((hb.cell (p := ⟨b, off + k * 5 + 1, none⟩) (by simp; omega)).trans (World.cell?_alloc_lt _ _ _ (by simpa using hbw))).trans c1
      have b2 := ((hb.cell (p := ⟨b, off + k * 5 + 2, none⟩) (by simp; omega)).trans (World.cell?_alloc_lt _ _ _ (by simpa using hbw))).trans c2
      have b3 := ((hb.cell (p := ⟨b, off + k * 5 + 3, none⟩) (by simp; omega)).trans (World.cell?_alloc_lt _ _ _ (by simpa using hbw))).trans c3
      have b4 := ((hb.cell (p := ⟨b, off + k * 5 + 4, none⟩) (by simp; omega)).trans (World.cell?_alloc_lt _ _ _ (by simpa using hbw))).trans c4
      clear c0 c1 c2 c3 c4 H
      generalize hp : ps.getD k default = p at *
      have HP := Lib.hid hp
      clear hp
      generalize hF : (ps.take k).flatMap bel = Fk at *
      have HF := Lib.hid hF
      clear hF
      go_wp2_with fail
      refine (impl_partsBelow p _).mono ?_
      rintro e w2 ⟨v, rfl, hown, hb2⟩
      obtain ⟨A2, c2, rfl, hI⟩ := hown.form
      clear hI
      rw [pbI_bel] at hown ⊢
      have HO := Lib.hid hown
      have HM2 : Hid (Mrk w2 (w.heap.size + 1) (Fk ++ (bel p).take 0)) := by
        have := (HM.out.below ((Below.refl _ _).alloc (Nat.le_refl _) _)).below hb2
        simpa [Hid] using this
      have hbw2 := (hb.alloc (by omega) _).trans (hb2.mono (by simp; omega))
      clear hown HM hb b0 b1 b2 b3 b4
      cases hok : pbOk p
      · go_wp2
        go_ret
        refine ⟨ret_b ?_, ((Below.refl _ _).alloc (Nat.le_refl _) _).trans (hbw2.mono (by omega))⟩
        have hgf : goodPt p k = false := by rw [good_iff, hok]; rfl
        simp [validF_bad ps k (by have := HN.out; omega) (by rw [HP.out]; exact hgf)]
      · have HOK := Lib.hid hok
        clear hok
        generalize hL : (bel p).length = L at *
        have HL := Lib.hid hL
        have hL3 : L ≤ 3 := by rw [← hL]; exact bel_len p
        clear hL hbox
        go_wp2
        go_loopw [38, 4] (fun i u wi => ∃ m : Nat, m ≤ L ∧ i = .int .i64 m ∧ u = .int .i64 ((Fk.length + m : Nat)) ∧ Hid (Mrk wi (w.heap.size + 1) (Fk ++ (bel p).take m)) ∧ Hid ((Fk ++ (bel p).take m).Nodup) ∧ Hid (∀ x ∈ (bel p).take m, 0 ≤ x ∧ x ≤ (k : Int) - 1) ∧ Hid (wi.ownsRow (wr.heap.size + 1) 3 1 (.slice A2 L c2) L ((bel p).map (Value.int .i64))) ∧ Hid (Below (w.heap.size + 1) w2 wi)) (fun i _ _ => L - (intOf i).toNat)
        case atStart => exact ⟨0, Nat.zero_le _, rfl, rfl, HM2.out, by simpa [Hid] using HD.out, by simp [Hid], by have := HO.out; simp only [OwnI, World.size_alloc] at this; rw [HL.out] at this; exact this, Below.refl _ _⟩
        case round =>
          clear HM2 HO
          obtain ⟨m, hm, rfl, rfl, HM, HD2, HR, HO, HB⟩ := hrel
          by_cases hml : m < L
          · obtain ⟨b2, off2, rfl, hb2', hc2⟩ := (IS.of_own HO.out) (by have := HL.out; omega)
            have hx := hc2 m (by have := HL.out; omega)
            clear hc2
            generalize hxx : (bel p).getD m 0 = x at *
            have HX := Lib.hid hxx
            clear hxx
            cases hr : rng x 0 ((k : Int) - 1)
            · go_wp2_with (go_at_call 40; refine (impl_inRange _ _ _).mono ?_; rintro e w' ⟨rfl, rfl⟩)
              go_ret
              refine ⟨ret_b ?_, ((Below.refl _ _).alloc (Nat.le_refl _) _).trans ((hbw2.trans HB.out).mono (by omega))⟩
              have hgf : goodPt p k = false := by
                cases hgg : goodPt p k
                · rfl
                · have := good_bel p k hgg x (by rw [← HX.out]; simp [List.getD, show m < (bel p).length by have := HL.out; omega])
                  simp [rng] at hr
                  omega
              simp [validF_bad ps k (by have := HN.out; omega) (by rw [HP.out]; exact hgf)]
            · obtain ⟨t, rfl⟩ : ∃ t : Nat, x = (t : Int) := ⟨x.toNat, by simp [rng] at hr; omega⟩
              have htk : t < k := by simp [rng] at hr; omega
              obtain ⟨hu1, hu2⟩ := HM.out.2 t (by omega)
              cases hin : decide ((t : Int) ∈ Fk ++ (bel p).take m)
              · have HIN := Lib.hid hin
                rw [hin] at hu1
                clear hin
                go_wp2_with (go_at_call 40; refine (impl_inRange _ _ _).mono ?_; rintro e w' ⟨rfl, rfl⟩)
                go_roundw
                case rel =>
                  have hts := take_succ_int (bel p) m _ (by have := HL.out; omega) HX.out
                  have hn0 := HM.out.set t (by omega)
                  have hnm : ¬ (t : Int) ∈ Fk ++ (bel p).take m := of_decide_eq_false HIN.out
                  have hown := ownsRow_setCell_below HO.out (a := ⟨w.heap.size + 1, t, none⟩) (by simp; try omega) (.bool true)
                  refine ⟨m + 1, by omega, by go_num, by go_num, ?_, ?_, ?_, hown, HB.out.setCell (p := ⟨w.heap.size + 1, t, none⟩) (by simp) _⟩
                  · rw [hts, ← List.append_assoc]; exact hn0
                  · rw [hts, ← List.append_assoc]
                    refine List.nodup_append.2 ⟨HD2.out, by simp, ?_⟩
                    intro a ha b hb e
                    simp at hb
                    subst hb
                    subst e
                    exact hnm ha
                  · rw [hts]
                    intro y hy
                    rcases List.mem_append.1 hy with hy | hy
                    · exact HR.out y hy
                    · simp at hy; omega
                case measure => simp [intOf]; omega
              · have HIN := Lib.hid hin
                rw [hin] at hu1
                clear hin
                go_wp2_with (go_at_call 40; refine (impl_inRange _ _ _).mono ?_; rintro e w' ⟨rfl, rfl⟩)
                go_ret
                refine ⟨ret_b ?_, ((Below.refl _ _).alloc (Nat.le_refl _) _).trans ((hbw2.trans HB.out).mono (by omega))⟩
                have hfd : validF ps = false := by
                  refine validF_dup ps k m (by have := HN.out; omega) (by rw [HP.out]; have := HL.out; omega) t (by rw [HP.out]; exact HX.out) htk ?_
                  rw [HF.out, HP.out]
                  exact of_decide_eq_true HIN.out
                simp [hfd]
          · go_wp2
            go_roundw
            case rel =>
              have hf := take_flat ps k (by have := HN.out; omega)
              rw [HP.out, HF.out] at hf
              have hmL : m = L := by omega
              have htm : (bel p).take m = bel p := List.take_of_length_le (by have := HL.out; omega)
              have hlen : ((Fk.length + m : Nat)) = ((ps.take (k + 1)).flatMap bel).length := by rw [hf, List.length_append, HL.out, hmL]
              refine ⟨k + 1, by omega, by go_num, by rw [← hlen]; try go_num, ?_, ?_, ?_, hbw2.trans HB.out⟩
              · rw [hf]; have := HM.out; rwa [htm] at this
              · rw [hf]; have := HD2.out; rwa [htm] at this
              · intro j hj
                rcases Nat.lt_or_ge j k with h1 | h1
                · exact HG.out j h1
                · obtain rfl : j = k := by omega
                  rw [HP.out, good_iff, HOK.out, Bool.true_and]
                  have := HR.out
                  rw [htm] at this
                  exact decide_eq_true this
            case measure => simp [intOf]; omega
    · obtain rfl : k = n := by omega
      rw [List.take_of_length_le (by have := HN.out; omega)] at HM HD hfl ⊢
      go_wp2
      go_ret
      refine ⟨ret_b ?_, ((Below.refl _ _).alloc (Nat.le_refl _) _).trans (hb.mono (by omega))⟩
      have hkn := HN.out
      rw [validF_marks ps (by omega) (by omega) (fun i hi => HG.out i (by omega)) HD.out, ← hkn]
      try simp
end Go.Proofs.Ytkmhpiojbocjkaa
