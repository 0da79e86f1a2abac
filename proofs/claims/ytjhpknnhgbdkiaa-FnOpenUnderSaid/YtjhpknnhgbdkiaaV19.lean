/- spec.clear: an owner is cleared, in place. -/
import Derived.Test.YtjhpknnhgbdkiaaV18
import Derived.Test.YtjhpknnhgbdkiaaP1a

namespace Go.Proofs.Ytjhpknnhgbdkiaa
set_option linter.unusedSimpArgs false
set_option linter.unusedVariables false
open Go.RowKit

/-- Returns the labels that were met; the owners are written in place; their lists avoid what they avoided, and the labels. -/
def RetClr (Q : Nat → Prop) (lo g cap n : Nat) (w : World) (ls : List Int) (es : List On) (e : Ending) (w' : World) : Prop :=
  ∃ (g6 c6 l6 : Nat), e = .returned (.slice (some ⟨g6, 0, none⟩) l6 c6) ∧ l6 = ls.length ∧ w'.ownsRow w.heap.size 3 1 (.slice (some ⟨g6, 0, none⟩) l6 c6) l6 (ls.map (Value.int .i64)) ∧ OwOn (fun q => Q q ∨ q = g6) lo w'.heap.size (.slice (some ⟨g, 0, none⟩) n cap) n es w' ∧ Tch g (g + 1) w w'

theorem row_some2 {w : World} {base n size : Nat} {e : TypeId} {v : Value} {xs : List Value} (h : w.ownsRow base e size v n xs) (h0 : ¬ v = .slice none 0 0) : ∃ g c, v = .slice (some ⟨g, 0, none⟩) n c := by
  rcases h.2 with ⟨hv, _⟩ | ⟨g, cap, cur, hv, _⟩
  · exact absurd hv h0
  · exact ⟨g, cap, hv⟩
theorem take_rev_succ (cl : List Int) (q j : Nat) (h : q + j + 1 = cl.length) : cl.reverse.take (q + 1) = cl.reverse.take q ++ [cl.getD j 0] := by
  have hr : q < cl.reverse.length := by rw [List.length_reverse]; omega
  rw [List.take_succ_eq_append_getElem hr, List.getElem_reverse]
  have e1 : cl.length - 1 - q = j := by omega
  simp [List.getD, e1, show j < cl.length by omega]

theorem tot_ge : ∀ (ds : List On) (b : Nat), (ds.getD b default).cl.length ≤ tot ds := by
  intro ds
  induction ds with
  | nil => intro b; simp [List.getD]; exact Nat.zero_le _
  | cons e ds ih =>
    intro b
    cases b with
    | zero => simp [tot, List.getD]
    | succ b =>
      have := ih b
      simp only [tot, List.map_cons, List.sum_cons, List.getD_cons_succ] at *
      omega
theorem Tch.grownNew {a b q : Nat} {w w1 w2 : World} (h : Tch a b w w1) (hg : w1.grownBy w2 (some q)) (hq : w.heap.size ≤ q) : Tch a b w w2 :=
  ⟨hg.os.trans h.os, hg.tape.trans h.tape, hg.output.trans h.output, Nat.le_trans h.size hg.size, fun i hi hr => (hg.block i (Nat.lt_of_lt_of_le hi h.size) (by intro e; cases e; omega)).trans (h.block i hi hr)⟩
theorem Tch.setIn {a b g j : Nat} {w w1 : World} (h : Tch a b w w1) (ha : a ≤ g) (hb : g < b) (x : Value) : Tch a b w (w1.setCell ⟨g, j, none⟩ x) :=
  ⟨h.os, h.tape, h.output, by simpa [World.setCell] using h.size, fun i hi hr => (Below.heap_setCell _ _ _ _ (by show i ≠ g; omega)).trans (h.block i hi hr)⟩
section
variable {Q : Nat → Prop} {lo hi n cap g : Nat} {ds : List On} {w : World}
theorem OwOn.frozen (h : OwOn Q lo hi (.slice (some ⟨g, 0, none⟩) n cap) n ds w) (j : Nat) : w.frozen? ⟨g, j, none⟩ = false := by
  obtain ⟨_, xs, us, h1, _⟩ := h
  exact h1.1.frozenAt j
theorem OwOn.op (h : OwOn Q lo hi (.slice (some ⟨g, 0, none⟩) n cap) n ds w) (k : Nat) (hk : k < ds.length) : w.cell? ⟨g, k * 4 + 1, none⟩ = some (.bool (ds.getD k default).o) := by
  obtain ⟨b, off, e, _, _, c1, _⟩ := h.all.owners.at_ k hk
  cases e
  simpa using c1
theorem OwOn.cl (h : OwOn Q lo hi (.slice (some ⟨g, 0, none⟩) n cap) n ds w) (k : Nat) (hk : k < ds.length) : ∃ A m c, w.cell? ⟨g, k * 4 + 2, none⟩ = some (.slice A m c) ∧ m = (ds.getD k default).cl.length ∧ IS w hi A (ds.getD k default).cl := by
  obtain ⟨b, off, e, _, _, _, ⟨A, m, c, c2, h1, h2⟩, _⟩ := h.all.owners.at_ k hk
  cases e
  exact ⟨A, m, c, by simpa using c2, h1, h2⟩
end

set_option maxRecDepth 100000 in
set_option maxHeartbeats 12800000 in
theorem spec_clear (lo g cap n : Nat) : ∀ (f : Nat) (ds : List On) (o hi : Nat) (Q : Nat → Prop) (w : World), n - o ≤ f → o < n → n = ds.length → PO ds → n ≤ 1000 → tot ds ≤ 1000000 → OwOn Q lo hi (.slice (some ⟨g, 0, none⟩) n cap) n ds w → hi ≤ w.heap.size → (∀ q, Q q → q < w.heap.size) →
    Calls Try.prog 67 #[.slice (some ⟨g, 0, none⟩) n cap, .int .i64 o] w fun e w' => RetClr Q lo g cap n w (clr f ds o).1 (clr f ds o).2 e w' := by
  intro f
  induction f with
  | zero => intro ds o hi Q w h1 h2; omega
  | succ f ih =>
  intro ds o hi Q w hf ho hn hpo hs htot hown hle hQ
  obtain ⟨i0, hi0, hz0, hz1, hz2⟩ := info_parts info_int
  have IH := Lib.hid ih
  have HN := Lib.hid hn
  have HPO := Lib.hid hpo
  have HTT := Lib.hid htot
  have hgl : lo ≤ g ∧ g < w.heap.size := by
    obtain ⟨_, xs, us, h1, _⟩ := hown
    have := h1.1.lt g rfl
    exact this
  have HB0 : Hid (Below w.heap.size w (w.alloc (.cells #[] 3))) := below_new w _
  have HOW0 := Lib.hid (((hown.more (Q' := fun q => Q q ∨ q = w.heap.size) (fun q h => h.imp id (fun e => by omega))).step HB0.out hle).mono (hi' := (w.alloc (.cells #[] 3)).heap.size) (by simp; omega))
  have hOS : OS w hi (some ⟨g, 0, none⟩) ds := hown.all.owners
  have HKD := Lib.hid (spec_kids (some ⟨g, 0, none⟩) n cap ds o (w.alloc (.cells #[] 3)) hi (by simp; omega) hn (hOS.alloc hle _) (by omega) ho (fun i hi => hpo.low o i hi (by omega)))
  have HROW0 := Lib.hid (World.ownsRow_lit (e := 3) (size := 1) (base := w.heap.size) w #[] 0 (Nat.le_refl _) (by unfold maxLen; omega) rfl)
  have HST := Lib.hid (clr_step f ds o)
  have HSC := Lib.hid fun (m k : Nat) (h : m + k + 1 = (nwTo (kidB ds o) ds.length).length) => clrK_succ f ds o m k h
  have HSM := Lib.hid fun (m : Nat) => clrK_same f ds o m
  have HCT := Lib.hid fun (m : Nat) => clrK_tot f ds o m
  have HKK := Lib.hid fun (k : Nat) (hk : k < (nwTo (kidB ds o) ds.length).length) => hpo.kid o k (by omega) hk
  have HQ := Lib.hid hQ
  have HK0 : Hid (clrK f ds o 0 = ([], ds)) := rfl
  have hll := nwTo_len (kidB ds o) ds.length
  rw [← hn] at HST HSC HKK hll
  rw [hn] at HKD
  rw [← hn] at HKD
  generalize hLL : nwTo (kidB ds o) n = L at *
  generalize clr (f + 1) ds o = RES at *
  obtain ⟨Ln, hLn⟩ : ∃ Ln, Ln = L.length := ⟨_, rfl⟩
  rw [← hLn] at HST HSC HKK hll
  have HLN := Lib.hid hLn
  clear ih hn hpo htot hown hOS hQ hLn hLL
  go_enter Try.func67, Try.ntmps67
  go_wp2_with fail
  refine HKD.out.mono ?_
  rintro e w2 ⟨v2, rfl, ho2, hb2⟩
  unfold OwnI at ho2
  rw [← HLN.out] at ho2
  obtain ⟨A2, c2, rfl⟩ := own_form ho2
  have HR2 : Hid (OwR (w.heap.size + 1) w2.heap.size 3 1 (.slice A2 Ln c2) Ln (L.map (Value.int .i64)) w2) := by
    have h9 := OwR.start ho2
    rw [World.size_alloc] at h9
    exact h9
  have HIL : Hid (IS w2 w2.heap.size A2 L) := IS.of_own ho2
  have hs2 : w.heap.size < w2.heap.size := by have := hb2.size; simp at this; omega
  have HO2 : Hid (w2.ownsRow w.heap.size 3 1 (.slice (some ⟨w.heap.size, 0, none⟩) 0 0) 0 []) := own_below (by simpa using HROW0.out) hb2
  have HW2 : Hid (OwOn (fun q => Q q ∨ q = w.heap.size) lo w2.heap.size (.slice (some ⟨g, 0, none⟩) n cap) n ds w2) := (HOW0.out.step hb2 (Nat.le_refl _)).mono hb2.size
  have HT2 : Hid (Tch g (g + 1) w w2) := (Tch.of_below HB0.out).trans (Tch.of_below hb2)
  clear ho2 hb2 HKD HROW0 HOW0 HB0
  go_wp2
  go_loopw [5, 7] (fun v u wr => ∃ (m : Nat) (y : Int) (g5 c5 l5 : Nat), m ≤ Ln ∧ y = (Ln : Int) - 1 - m ∧ u = .int .i64 y ∧ v = .slice (some ⟨g5, 0, none⟩) l5 c5 ∧ Hid (l5 = (clrK f ds o m).1.length) ∧ Hid (wr.ownsRow w.heap.size 3 1 (.slice (some ⟨g5, 0, none⟩) l5 c5) l5 ((clrK f ds o m).1.map (Value.int .i64))) ∧ Hid (OwOn (fun q => Q q ∨ q = g5) lo wr.heap.size (.slice (some ⟨g, 0, none⟩) n cap) n (clrK f ds o m).2 wr) ∧ Hid (Tch g (g + 1) w wr) ∧ w2.heap.size ≤ wr.heap.size ∧ (g5 = w.heap.size ∨ w2.heap.size ≤ g5) ∧ Hid (OwR (w.heap.size + 1) w2.heap.size 3 1 (.slice A2 Ln c2) Ln (L.map (Value.int .i64)) wr)) (fun _ u _ => (intOf u + 1).toNat)
  case atStart =>
    refine ⟨0, (Ln : Int) - 1, w.heap.size, 0, 0, Nat.zero_le _, by simp, rfl, rfl, ?_, ?_, ?_, HT2.out, Nat.le_refl _, .inl rfl, HR2.out⟩
    · rw [HK0.out]; rfl
    · rw [HK0.out]; exact HO2.out
    · rw [HK0.out]; exact HW2.out
  case round =>
    obtain ⟨m, y, g5, c5, l5, hm, hy, rfl, rfl, HL5, HO, HW, HT, hwr, hg5c, HRL⟩ := hrel
    have hCT := HCT.out m
    have hg5 := HO.out.lt g5 rfl
    by_cases hmL : m < Ln
    · obtain ⟨k, hk⟩ : ∃ k, m + k + 1 = Ln := ⟨Ln - 1 - m, by omega⟩
      have hyk : y = (k : Int) := by omega
      have hkL : k < Ln := by omega
      obtain ⟨b, hb, hob, hbn⟩ := HKK.out k hkL
      have hbn2 : b < n := hbn
      have HL : Hid (IS wr wr.heap.size A2 L) := (HRL.out.ints).more hwr
      obtain ⟨bl, offl, hA2, hblw, hcl⟩ := HL.out (by have := HLN.out; omega)
      have c0 := hcl k (by have := HLN.out; omega)
      rw [hb] at c0
      have HLK : Hid (L.getD k 0 = (b : Int)) := hb
      have HSK := Lib.hid (HSC.out m k hk)
      rw [hb] at HSK
      have hsm := HSM.out m
      have HIH := Lib.hid (IH.out (clrK f ds o m).2 b wr.heap.size (fun q => Q q ∨ q = g5) wr (by omega) hbn2 (by rw [hsm.len]; exact HN.out) (HPO.out.same hsm) hs (by have := HTT.out; omega) HW.out (Nat.le_refl _) (by
        rintro q (hq | rfl)
        · have := HQ.out q hq; omega
        · exact hg5.2))
      have hsl : l5 ≤ 1000000 := by have := HL5.out; have := HTT.out; omega
      have hCT2 := clr_tot f (clrK f ds o m).2 b
      have hl6 : (clr f (clrK f ds o m).2 b).1.length ≤ 1000000 := by have := HTT.out; omega
      have HSL : Hid (∀ s, clrS f (clrK f ds o m) (b : Int) = s → s = ((clrK f ds o m).1 ++ (clr f (clrK f ds o m).2 b).1, shut (clr f (clrK f ds o m).2 b).2 b)) := by
        intro s hs9; rw [← hs9]; unfold clrS; simp only [Int.toNat_natCast]
      have hS := HSL.out _ HSK.out.symm
      have HS1 := Lib.hid hS
      subst hA2
      clear hcl hb hS HSL HSK hCT hCT2 HL
      generalize (clr f (clrK f ds o m).2 b).1 = LB at *
      generalize hES : (clr f (clrK f ds o m).2 b).2 = ES at *
      have hsame : ES.length = n := by rw [← hES, (clr_same f _ b).len, hsm.len]; exact HN.out.symm
      generalize clrK f ds o m = K at *
      clear hES hsm
      obtain ⟨P1, D⟩ := K
      dsimp only at *
      have hkn : (k : Int) < (Ln : Int) := by omega
      have hbni : (b : Int) < (n : Int) := by omega
      subst hyk
      clear hy
      go_wp2_with fail
      refine HIH.out.mono ?_
      rintro e w3 ⟨g6, c6, l6, rfl, hl6e, hrow6, hown6, ht6⟩
      have hs3 := ht6.size
      have hg6 := hrow6.lt g6 rfl
      have HOut : Hid (w3.ownsRow w.heap.size 3 1 (.slice (some ⟨g5, 0, none⟩) l5 c5) l5 (P1.map (Value.int .i64))) :=
        ((OwR.start HO.out).keep fun q hq hq2 => ht6.block q hq2 (.inr (by omega))).1
      have hnews : ∀ (j : Nat) (u : Value), (LB.map (Value.int .i64))[j]? = some u → w3.cell? ((⟨g6, 0, none⟩ : Addr).add j) = some u := fun j u hu => hrow6.cells rfl j u hu
      have HNW := Lib.hid hnews
      have HW6 := Lib.hid hown6
      have HT6 := Lib.hid ht6
      have HLB := Lib.hid hl6e
      have hl66 : l6 ≤ 1000000 := by omega
      clear hnews hown6 hrow6 ht6 HIH HO HW hl6e
      go_wp2_with (at_builtin; refine wpList_append_own_at _ rfl _ _ 26 rfl w.heap.size 3 i0 (.int .i64 0) 1 8 Try.underlying26 hi0 hz0 hz1 hz2 rfl (by decide) _ _ _ rfl HOut.out ⟨g6, 0, none⟩ l6 c6 (LB.map (Value.int .i64)) rfl (by rw [List.length_map, ← HLB.out]; omega) HNW.out (by intro u hu; obtain ⟨x, _, rfl⟩ := List.mem_map.1 hu; rfl) (by unfold maxLen; omega) (by omega) (by omega) ?_)
      intro v9 w4 hown9 hgrow9 hnil9 hblk9
      obtain ⟨g9, c9, rfl⟩ := row_some2 hown9 hnil9
      have hs4 := hgrow9.size
      have hg9 : g9 = g5 ∨ g9 = w3.heap.size := by
        rcases hblk9 with h | h
        · left; simpa [Value.ownBlock] using h
        · right; simpa [Value.ownBlock] using h
      have hwb : w3.grownBy w4 (some g5) := hgrow9
      have HW4 : Hid (OwOn (fun q => Q q ∨ q = g9) lo w4.heap.size (.slice (some ⟨g, 0, none⟩) n cap) n ES w4) := by
        refine ((HW6.out.grown hwb (.inl (.inr rfl)) (fun h => by simp [Value.ownBlock] at h; omega)).more (Q' := fun q => Q q ∨ q = g9) ?_).mono hs4
        rintro q (hq | rfl)
        · exact .inl (.inl (.inl hq))
        · rcases hg9 with rfl | rfl
          · exact .inl (.inl (.inr rfl))
          · exact .inr (Nat.le_refl _)
      have HT4 := Lib.hid ((HT.out.trans HT6.out).grownNew hwb (by omega))
      have HRL4 : Hid (OwR (w.heap.size + 1) w2.heap.size 3 1 (.slice (some ⟨bl, offl, none⟩) Ln c2) Ln (L.map (Value.int .i64)) w4) :=
        (HRL.out.keep fun q hq hq2 => HT6.out.block q (by omega) (.inr (by omega))).keep fun q hq hq2 => hwb.block q (by omega) (by intro e; cases e; omega)
      have hcl4 : IS w4 w4.heap.size (some ⟨bl, offl, none⟩) L := HRL4.out.ints.more (by omega)
      obtain ⟨bl2, offl2, hee, hblw2, hcl2⟩ := hcl4 (by have := HLN.out; omega)
      cases hee
      have d0 := hcl2 k (by have := HLN.out; omega)
      rw [HLK.out] at d0
      have u1 := HW4.out.op b (by rw [hsame]; exact hbn2)
      have f1 := HW4.out.frozen (b * 4 + 1)
      have hg4 : g < w4.heap.size := by omega
      have hne : g ≠ g9 := by rcases hg9 with h | h <;> omega
      have HO5 := Lib.hid (own_set (by simpa using hown9 : w4.ownsRow w.heap.size 3 1 (.slice (some ⟨g9, 0, none⟩) (l5 + l6) c9) (l5 + l6) ((P1 ++ LB).map (Value.int .i64))) ⟨g, b * 4 + 1, none⟩ hne (.bool false))
      have HW5 := Lib.hid (HW4.out.setOpen b hbn2)
      have HT5 := Lib.hid (HT4.out.setIn (g := g) (j := b * 4 + 1) (Nat.le_refl _) (Nat.lt_succ_self _) (.bool false))
      have HRL5 : Hid (OwR (w.heap.size + 1) w2.heap.size 3 1 (.slice (some ⟨bl, offl, none⟩) Ln c2) Ln (L.map (Value.int .i64)) (w4.setCell ⟨g, b * 4 + 1, none⟩ (.bool false))) := HRL4.out.keep fun q hq _ => Below.heap_setCell _ _ _ _ (by show q ≠ g; omega)
      generalize (ES.getD b default).o = ob at u1
      have hs5 : w2.heap.size ≤ (w4.setCell ⟨g, b * 4 + 1, none⟩ (.bool false)).heap.size := by
        have e : (w4.setCell ⟨g, b * 4 + 1, none⟩ (.bool false)).heap.size = w4.heap.size := by simp [World.setCell]
        omega
      have hg9c : g9 = w.heap.size ∨ w2.heap.size ≤ g9 := by rcases hg9 with h | h <;> omega
      clear hcl2 HT HT4 HW4 HRL4 hown9 hgrow9 hnil9 hblk9 hwb HRL HW6 HT6 HNW HOut c0 hg9
      go_wp2
      go_roundw
      case rel =>
        refine ⟨m + 1, (k : Int) - 1, g9, c9, l5 + l6, by omega, by omega, rfl, rfl, ?_, ?_, ?_, HT5.out, hs5, hg9c, HRL5.out⟩
        · rw [HS1.out]; show _ = _; rw [List.length_append, ← HL5.out, ← HLB.out]
        · rw [HS1.out]; exact HO5.out
        · rw [HS1.out]
          have hE : (w4.setCell ⟨g, b * 4 + 1, none⟩ (.bool false)).heap.size = w4.heap.size := by simp [World.setCell]
          rw [hE]; exact HW5.out
      case measure => first | (simp [intOf]; done) | (simp [intOf]; omega)
    · obtain rfl : m = Ln := by omega
      have hneg : y < 0 := by omega
      clear hy
      have hsm := HSM.out m
      have hto := HCT.out m
      have hcb := tot_ge (clrK f ds o m).2 o
      have HRS := Lib.hid HST.out
      generalize clrK f ds o m = K at *
      obtain ⟨P1, D⟩ := K
      dsimp only at *
      have hod : o < D.length := by rw [hsm.len, ← HN.out]; exact ho
      obtain ⟨A7, m7, c7, u2, hm7, hi7⟩ := HW.out.cl o hod
      have hgr : g < wr.heap.size := by have := HT.out.size; omega
      have hto2 : P1.length + m7 ≤ 1000000 := by have := HTT.out; omega
      have HM7 := Lib.hid hm7
      clear hm7 hi7 hto hcb HST HSM HCT HSC HKK IH HK0 HR2 HIL HO2 HW2 HT2 HRL
      generalize hCL : (D.getD o default).cl = CL at *
      have HCL := Lib.hid hCL
      clear hCL
      have hm7c : m7 ≤ 1000000 := by omega
      have hon : (o : Int) < (n : Int) := by omega
      go_wp2
      clear hneg
      go_loopw [5, 8] (fun v u wx => ∃ (q : Nat) (z : Int) (g5 c5 l5 : Nat), q ≤ m7 ∧ z = (m7 : Int) - 1 - q ∧ u = .int .i64 z ∧ v = .slice (some ⟨g5, 0, none⟩) l5 c5 ∧ Hid (l5 = (P1 ++ CL.reverse.take q).length) ∧ Hid (wx.ownsRow w.heap.size 3 1 (.slice (some ⟨g5, 0, none⟩) l5 c5) l5 ((P1 ++ CL.reverse.take q).map (Value.int .i64))) ∧ Hid (OwOn (fun q => Q q ∨ q = g5) lo wx.heap.size (.slice (some ⟨g, 0, none⟩) n cap) n D wx) ∧ Hid (Tch g (g + 1) w wx)) (fun _ u _ => (intOf u + 1).toNat)
      case atStart => exact ⟨0, (m7 : Int) - 1, g5, c5, l5, Nat.zero_le _, by simp, rfl, rfl, by have := HL5.out; simpa [Hid] using this, by simpa [Hid] using HO.out, HW.out, HT.out⟩
      case round =>
        clear HL5 HO HW HT hg5 hg5c hwr
        obtain ⟨q, z, g5, c5, l5, hq, hz, rfl, rfl, HL5, HO, HW, HT⟩ := hrel
        have hg5 := HO.out.lt g5 rfl
        obtain ⟨A8, m8, c8, u8, hm8, hi8⟩ := HW.out.cl o hod
        rw [HCL.out] at hm8 hi8
        have hmm : m8 = m7 := by rw [hm8, HM7.out]
        subst hmm
        have hgx : g < wr.heap.size := by have := HT.out.size; omega
        have hl5 : l5 ≤ 1000000 := by
          have := HL5.out
          rw [List.length_append, List.length_take, List.length_reverse, ← hm8] at this
          omega
        have HM8 := Lib.hid hm8
        clear hm8
        by_cases hqm : q < m8
        · obtain ⟨j, hj⟩ : ∃ j, q + j + 1 = m8 := ⟨m8 - 1 - q, by omega⟩
          have hzj : z = (j : Int) := by omega
          obtain ⟨b8, o8, hA8, hb8, hc8⟩ := hi8 (by have := HM8.out; omega)
          have c0 := hc8 j (by have := HM8.out; omega)
          have HTK := Lib.hid (take_rev_succ CL q j (by have := HM8.out; omega))
          have hjm : j < m8 := by omega
          generalize CL.getD j 0 = x at *
          subst hA8 hzj
          clear hc8 hi8 hz
          have HT9 := Lib.hid (HT.out.trans (Tch.of_below (below_new wr (.cells #[.int .i64 x] 3))))
          have HW9 := Lib.hid ((HW.out.step (below_new wr (.cells #[.int .i64 x] 3)) (Nat.le_refl _)).mono (hi' := (wr.alloc (.cells #[.int .i64 x] 3)).heap.size) (by simp))
          go_wp2_with (at_builtin; refine wpList_append_own_at _ rfl _ _ 26 rfl w.heap.size 3 i0 (.int .i64 0) 1 8 Try.underlying26 hi0 hz0 hz1 hz2 rfl (by decide) _ _ _ rfl (HO.out.alloc (.cells #[.int .i64 x] 3)) ⟨wr.heap.size, 0, none⟩ 1 1 [.int .i64 x] rfl rfl (cell_one_new _ _ _) (by intro u hu; simp at hu; subst hu; rfl) (by unfold maxLen; omega) (by omega) (by simp; omega) ?_)
          intro v9 w4 hown9 hgrow9 hnil9 hblk9
          obtain ⟨g9, c9, rfl⟩ := row_form2 hown9 (by omega)
          have hs4 := hgrow9.size
          have hwb : (wr.alloc (.cells #[.int .i64 x] 3)).grownBy w4 (some g5) := hgrow9
          have hg9 : g9 = g5 ∨ g9 = (wr.alloc (.cells #[.int .i64 x] 3)).heap.size := by
            rcases hblk9 with h | h
            · left; simpa [Value.ownBlock] using h
            · right; simpa [Value.ownBlock] using h
          have HW4 : Hid (OwOn (fun q => Q q ∨ q = g9) lo w4.heap.size (.slice (some ⟨g, 0, none⟩) n cap) n D w4) := by
            refine ((HW9.out.grown hwb (.inr rfl) (fun h => by simp [Value.ownBlock] at h; omega)).more (Q' := fun q => Q q ∨ q = g9) ?_).mono hs4
            rintro q (hq | rfl)
            · exact .inl (.inl hq)
            · rcases hg9 with rfl | rfl
              · exact .inl (.inr rfl)
              · exact .inr (Nat.le_refl _)
          have HT4 := Lib.hid (HT9.out.grownNew hwb (by omega))
          have HO4 : Hid (w4.ownsRow w.heap.size 3 1 (.slice (some ⟨g9, 0, none⟩) (l5 + 1) c9) (l5 + 1) ((P1 ++ CL.reverse.take (q + 1)).map (Value.int .i64))) := by
            show w4.ownsRow _ _ _ _ _ _
            rw [HTK.out, ← List.append_assoc]
            simpa using hown9
          have HL4 : Hid (l5 + 1 = (P1 ++ CL.reverse.take (q + 1)).length) := by
            show _ = _
            rw [HTK.out, ← List.append_assoc, List.length_append, ← HL5.out]; rfl
          clear hown9 hgrow9 hnil9 hblk9 hwb hg9 HW9 HT9 HO HW HT HL5 hs4 c0 u8
          go_wp2
          go_roundw
          case rel => exact ⟨q + 1, (j : Int) - 1, g9, c9, l5 + 1, by omega, by omega, rfl, rfl, HL4.out, HO4.out, HW4.out, HT4.out⟩
          case measure => first | (simp [intOf]; done) | (simp [intOf]; omega)
        · obtain rfl : q = m8 := by omega
          have hzn : z < 0 := by omega
          have hge : CL.reverse.take q = CL.reverse := List.take_of_length_le (by rw [List.length_reverse, ← HM8.out]; exact Nat.le_refl _)
          rw [hge] at HO HL5
          have f2 := HW.out.frozen (o * 4 + 2)
          have HW5 := Lib.hid (OwOn.setNone (top := (wr.alloc (.cells #[] 3)).heap.size) (HW.out.step (below_new wr (.cells #[] 3)) (Nat.le_refl _)) (fun q hq => by
            rcases hq with hq | rfl
            · have := HQ.out q hq; omega
            · exact hg5.2) o ho (A := some ⟨wr.heap.size, 0, none⟩) (c := 0) (OwR.start (World.ownsRow_lit (e := 3) (size := 1) (base := wr.heap.size) wr #[] 0 (Nat.le_refl _) (by unfold maxLen; omega) rfl)) (by omega) (by simp))
          have HO5 := Lib.hid (own_set (HO.out.alloc (.cells #[] 3)) ⟨g, o * 4 + 2, none⟩ (by show g ≠ g5; omega) (.slice (some ⟨wr.heap.size, 0, none⟩) 0 0))
          have HT5 := Lib.hid ((HT.out.trans (Tch.of_below (below_new wr (.cells #[] 3)))).setIn (g := g) (j := o * 4 + 2) (Nat.le_refl _) (Nat.lt_succ_self _) (.slice (some ⟨wr.heap.size, 0, none⟩) 0 0))
          clear HW HO HT hge hz hqm
          go_wp2
          go_ret
          rw [HRS.out]
          have hcm : (wr.alloc (.cells #[] 3)).setCell ⟨g, o * 4 + 2, none⟩ (.slice (some ⟨wr.heap.size, 0, none⟩) 0 0) = (wr.setCell ⟨g, o * 4 + 2, none⟩ (.slice (some ⟨wr.heap.size, 0, none⟩) 0 0)).alloc (.cells #[] 3) := by
            exact World.setCell_alloc_past _ _ _ _ hgx
          rw [hcm] at HT5 HO5 HW5
          refine ⟨g5, c5, l5, rfl, HL5.out, HO5.out, ?_, HT5.out⟩
          have hE : ((wr.setCell ⟨g, o * 4 + 2, none⟩ (.slice (some ⟨wr.heap.size, 0, none⟩) 0 0)).alloc (.cells #[] 3)).heap.size = (wr.alloc (.cells #[] 3)).heap.size := by simp [World.setCell]
          rw [hE]; exact HW5.out
end Go.Proofs.Ytjhpknnhgbdkiaa
