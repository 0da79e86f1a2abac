/- Valid rows of keys: spec.validRows, impl.areRows. (Made by k15.py.) -/
import Derived.Test.YtjlfabfejnpaaaaS25
import Derived.Test.YtjlfabfejnpaaaaK14

namespace Go.Proofs.Ytjlfabfejnpaaaa
set_option linter.unusedSimpArgs false
set_option linter.unusedVariables false
open Go.RowKit

theorem cell_grown {w w3 : World} {row : Option Nat} (hg : w.grownBy w3 row) (p : Addr) (hp : p.block < w.heap.size) (hne : ∀ k, row = some k → k ≠ p.block) : w3.cell? p = w.cell? p :=
  World.cell?_of_block (hg.block p.block hp fun e => hne _ e.symm rfl)

set_option maxRecDepth 100000 in
set_option maxHeartbeats 3200000 in
theorem spec_validRows (A : Option Addr) (n c : Nat) (rs : List Rk) (nx : Int) (w : World) (B : Nat) (hB : B ≤ w.heap.size) (hn : n = rs.length) (h : WS w B A rs) (hs : n ≤ 1048576) :
    Calls Try.prog 61 #[.slice A n c, .int .i64 nx] w fun e w' => e = .returned (.bool (rowsOK rs nx)) ∧ Below w.heap.size w w' := by
  obtain ⟨i0, hi, hz0, hz1, hz2⟩ := info_parts info_int
  have H := Lib.hid h
  have HN := Lib.hid hn
  have ho1 : OwnI ((w.alloc (.cells #[] 3)).alloc (.cells #[] 3)) w.heap.size (.slice (some ⟨w.heap.size, 0, none⟩) 0 0) [] := World.ownsRow.alloc (World.ownsRow_lit (e := 3) (size := 1) w #[] 0 (Nat.le_refl _) (by unfold maxLen; omega) rfl) _
  have ho2 : OwnI ((w.alloc (.cells #[] 3)).alloc (.cells #[] 3)) w.heap.size (.slice (some ⟨w.heap.size + 1, 0, none⟩) 0 0) [] := by
    have := World.ownsRow_lit (e := 3) (size := 1) (base := w.heap.size) (w.alloc (.cells #[] 3)) #[] 0 (by simp) (by unfold maxLen; omega) rfl
    simpa [OwnI] using this
  have HO1 := Lib.hid ho1
  have HO2 := Lib.hid ho2
  clear hn h ho1 ho2
  go_enter Try.func61, Try.ntmps61
  go_wp2
  go_loopw [5, 6, 7] (fun v u i wr => ∃ k : Nat, k ≤ n ∧ i = .int .i64 k ∧ Hid (OwnI wr w.heap.size v (kyW (rs.take k))) ∧ Hid (OwnI wr w.heap.size u (idW (rs.take k))) ∧ Hid (ApV v u) ∧ Hid (Below w.heap.size w wr)) (fun _ _ i _ => n - (intOf i).toNat)
  case atStart =>
    refine ⟨0, Nat.zero_le _, rfl, by simpa [kyW, Hid] using HO1.out, by simpa [idW, Hid] using HO2.out, ?_, ((Below.refl _ _).alloc (Nat.le_refl _) _).alloc (by simp) _⟩
    intro k h1 h2
    simp [Value.ownBlock] at h1 h2
    omega
  case round =>
    obtain ⟨k, hk, rfl, HK, HI, HAp, HB⟩ := hrel
    have hwr : w.heap.size ≤ wr.heap.size := HB.out.size
    by_cases hlt : k < n
    · have hkx : k < rs.length := by have := HN.out; omega
      obtain ⟨b, off, rfl, hbB, c0, c1⟩ := H.out.at_ k hkx
      have q0 := (HB.out.cell (p := ⟨b, off + k * 2, none⟩) (by simp; omega)).trans c0
      have q1 := (HB.out.cell (p := ⟨b, off + k * 2 + 1, none⟩) (by simp; omega)).trans c1
      have hlk : (kyW (rs.take k)).length ≤ k := by rw [kyW_len]; exact List.length_take_le _ _
      have hli : (idW (rs.take k)).length ≤ k := by rw [idW_len]; exact List.length_take_le _ _
      have HSK := Lib.hid (kyW_step rs k hkx)
      have HSI := Lib.hid (idW_step rs k hkx)
      generalize rs.getD k default = p at *
      generalize kyW (rs.take k) = F at *
      generalize idW (rs.take k) = G at *
      have HLK := Lib.hid hlk
      have HLI := Lib.hid hli
      have HC1 := Lib.hid c1
      clear hlk hli c0 c1 q1
      go_wp2_with (at_builtin; refine wpList_append_own_at _ rfl _ _ 22 rfl w.heap.size 3 i0 (.int .i64 0) 1 8 Try.underlying22 hi hz0 hz1 hz2 rfl (by decide) _ _ _ rfl (HK.out.alloc _) ⟨_, 0, none⟩ 1 1 [.int .i64 (p.k)] rfl rfl (cell_one_new _ _ _) ?c2 ?c3 ?c4 ?c5 ?_)
      case c2 => first | rfl | (intro u hu; simp at hu; subst hu; rfl)
      case c3 => have := HLK.out; have := HLI.out; unfold maxLen; omega
      case c4 => have := HLK.out; have := HLI.out; omega
      case c5 => first | omega | (simp; omega)
      intro v3 w3 hown1 hg1 _ hb1
      obtain ⟨hi1, hap1⟩ := HAp.out.grow (World.ownsRow.alloc HI.out _) hg1 hb1 (by simp)
      have HI1 := Lib.hid hi1
      have HAp1 := Lib.hid hap1
      have HK1 : Hid (OwnI w3 w.heap.size v3 (F ++ [p.k])) := by simpa [OwnI, Hid] using hown1
      have hpos := (World.ownsRow.alloc HK.out (.cells #[.int .i64 p.k] 3)).lt
      have HB1 := Lib.hid ((HB.out.alloc hwr (.cells #[.int .i64 p.k] 3)).grown hg1 (by first | (simp; omega) | omega) (fun q hq => (hpos q hq).1))
      have q1 := (HB1.out.cell (p := ⟨b, off + k * 2 + 1, none⟩) (by simp; omega)).trans HC1.out
      have hw3 : w.heap.size ≤ w3.heap.size := HB1.out.size
      clear hown1 hg1 hb1 hi1 hap1 hpos HK HI HAp
      go_wp2_with (at_builtin; refine wpList_append_own_at _ rfl _ _ 22 rfl w.heap.size 3 i0 (.int .i64 0) 1 8 Try.underlying22 hi hz0 hz1 hz2 rfl (by decide) _ _ _ rfl (HI1.out.alloc _) ⟨_, 0, none⟩ 1 1 [.int .i64 (p.a)] rfl rfl (cell_one_new _ _ _) ?d2 ?d3 ?d4 ?d5 ?_)
      case d2 => first | rfl | (intro u hu; simp at hu; subst hu; rfl)
      case d3 => have := HLK.out; have := HLI.out; unfold maxLen; omega
      case d4 => have := HLK.out; have := HLI.out; omega
      case d5 => first | omega | (simp; omega)
      intro v4 w4 hown2 hg2 _ hb2
      obtain ⟨hk2, hap2⟩ := HAp1.out.symm.grow (World.ownsRow.alloc HK1.out _) hg2 hb2 (by simp)
      have HK2 := Lib.hid hk2
      have HAp2 := Lib.hid hap2.symm
      have HI2 : Hid (OwnI w4 w.heap.size v4 (G ++ [p.a])) := by simpa [OwnI, Hid] using hown2
      have hpos := (World.ownsRow.alloc HI1.out (.cells #[.int .i64 p.a] 3)).lt
      have HB2 := Lib.hid ((HB1.out.alloc hw3 (.cells #[.int .i64 p.a] 3)).grown hg2 (by first | (simp; omega) | omega) (fun q hq => (hpos q hq).1))
      clear hown2 hg2 hb2 hk2 hap2 hpos HK1 HI1 HAp1
      go_wp2
      go_roundw
      case rel => exact ⟨k + 1, by omega, by go_num, by rw [HSK.out]; exact HK2.out, by rw [HSI.out]; exact HI2.out, HAp2.out, HB2.out⟩
      case measure => simp [intOf]; omega
    · obtain rfl : k = n := by omega
      have htk : rs.take k = rs := List.take_of_length_le (by have := HN.out; omega)
      rw [htk] at HK HI
      obtain ⟨A1, c1, rfl, hi1, hc1, _⟩ := HK.out.form' k (by rw [kyW_len]; exact HN.out)
      obtain ⟨A2, c2, rfl, hi2, hc2, _⟩ := HI.out.form' k (by rw [idW_len]; exact HN.out)
      have HVK := Lib.hid (spec_validKeys A1 k c1 (kyW rs) wr wr.heap.size (Nat.le_refl _) (by rw [kyW_len]; exact HN.out) hc1 hi1 (by omega))
      have HAL := Lib.hid fun (q : Int) (w' : World) (hb : Below wr.heap.size wr w') => spec_allIn A2 k c2 (idW rs) 0 q w' wr.heap.size hb.size (by rw [idW_len]; exact HN.out) (hi2.below hb (Nat.le_refl _)) (by omega)
      have HFO := Lib.hid fun (w' : World) (hb : Below wr.heap.size wr w') => spec_firstOnly A2 k c2 (idW rs) w' wr.heap.size hb.size (by rw [idW_len]; exact HN.out) (hi2.below hb (Nat.le_refl _)) (by omega)
      have hfe := firsts_eq (idW rs)
      have hfl := firsts_len (idW rs)
      rw [idW_len, ← HN.out] at hfe hfl
      have hok : rowsOK rs nx = (rng nx 0 100 && (validK (kyW rs) && (allR (idW rs) 0 (nx - 1) && decide (idW rs).Nodup))) := rfl
      have HOK := Lib.hid hok
      generalize hr1 : validK (kyW rs) = r1 at *
      obtain ⟨l, hl⟩ : ∃ l : Nat, l = (firsts (idW rs)).length := ⟨_, rfl⟩
      rw [← hl] at hfe hfl
      have HL := Lib.hid hl
      have HFE := Lib.hid hfe
      have HB0 := Lib.hid HB.out
      clear hi1 hi2 hok hr1 hl hfe htk HK HI HAp
      cases r1
      · have hf : rowsOK rs nx = false := by rw [HOK.out]; simp
        have HF := Lib.hid hf
        clear hf
        go_wp2_with fail
        refine HVK.out.mono ?_
        rintro e w2 ⟨rfl, hb2⟩
        go_wp2
        go_ret
        exact ⟨ret_b (by rw [HF.out]), HB0.out.trans (hb2.mono HB0.out.size)⟩
      · by_cases hrg : 0 ≤ nx ∧ nx ≤ 100
        · obtain ⟨hn0, hn1⟩ := hrg
          have hrt : rng nx 0 100 = true := by simp [rng]; omega
          have HRT := Lib.hid hrt
          have HIR := Lib.hid (spec_inRange nx 0 100)
          have HA2 := Lib.hid (HAL.out (nx - 1))
          generalize hr2 : allR (idW rs) 0 (nx - 1) = r2 at *
          rw [hrt] at HIR
          clear hrt hr2 HAL
          cases r2
          · have hf : rowsOK rs nx = false := by rw [HOK.out]; simp
            have HF := Lib.hid hf
            clear hf
            go_wp2_with fail
            refine HVK.out.mono ?_
            rintro e w2 ⟨rfl, hb2⟩
            go_wp2_with fail
            refine (HA2.out _ hb2).mono ?_
            rintro e w3 ⟨rfl, rfl⟩
            go_wp2
            go_ret
            exact ⟨ret_b (by rw [HF.out]), HB0.out.trans (hb2.mono HB0.out.size)⟩
          · by_cases hlk : l = k
            · have hf : rowsOK rs nx = true := by rw [HOK.out, HRT.out, ← HFE.out, decide_eq_true hlk]; rfl
              have HF := Lib.hid hf
              have hbl : ((l : Int) == (k : Int)) = true := by simp [hlk]
              have HLK := Lib.hid hlk
              clear hf hlk
              go_wp2_with fail
              refine HVK.out.mono ?_
              rintro e w2 ⟨rfl, hb2⟩
              go_wp2_with fail
              refine (HA2.out _ hb2).mono ?_
              rintro e w3 ⟨rfl, rfl⟩
              go_wp2_with fail
              refine (HFO.out _ hb2).mono ?_
              rintro e w4 ⟨v4, rfl, ho4, hb4⟩
              obtain ⟨A4, c4, rfl⟩ := own_form ho4.1
              rw [← HL.out]
              clear ho4
              go_wp2_with fail
              refine (HIR.out _).mono ?_
              rintro e w5 ⟨rfl, rfl⟩
              go_wp2
              go_ret
              exact ⟨ret_b (by rw [HF.out]), HB0.out.trans ((hb2.trans (hb4.mono hb2.size)).mono HB0.out.size)⟩
            · have hf : rowsOK rs nx = false := by rw [HOK.out, ← HFE.out, decide_eq_false hlk]; simp
              have HF := Lib.hid hf
              have hbl : ((l : Int) == (k : Int)) = false := by simp; omega
              clear hf hlk
              go_wp2_with fail
              refine HVK.out.mono ?_
              rintro e w2 ⟨rfl, hb2⟩
              go_wp2_with fail
              refine (HA2.out _ hb2).mono ?_
              rintro e w3 ⟨rfl, rfl⟩
              go_wp2_with fail
              refine (HFO.out _ hb2).mono ?_
              rintro e w4 ⟨v4, rfl, ho4, hb4⟩
              obtain ⟨A4, c4, rfl⟩ := own_form ho4.1
              rw [← HL.out]
              clear ho4
              go_wp2
              go_ret
              exact ⟨ret_b (by rw [HF.out]), HB0.out.trans ((hb2.trans (hb4.mono hb2.size)).mono HB0.out.size)⟩
        · have hrt : rng nx 0 100 = false := by unfold rng; exact decide_eq_false hrg
          have HRT := Lib.hid hrt
          have HIR := Lib.hid (spec_inRange nx 0 100)
          rw [hrt] at HIR
          have hf : rowsOK rs nx = false := by rw [HOK.out, hrt]; rfl
          have HF := Lib.hid hf
          obtain ⟨y, hy⟩ : ∃ y, IntKind.i64.wrap (nx - 1) = y := ⟨_, rfl⟩
          have HA2 := Lib.hid (HAL.out y)
          generalize allR (idW rs) 0 y = r2 at *
          clear hrt hrg hf HAL HOK HRT
          cases r2
          · go_wp2_with fail
            refine HVK.out.mono ?_
            rintro e w2 ⟨rfl, hb2⟩
            go_wp2_with fail
            refine (HA2.out _ hb2).mono ?_
            rintro e w3 ⟨rfl, rfl⟩
            go_wp2
            go_ret
            exact ⟨ret_b (by rw [HF.out]), HB0.out.trans (hb2.mono HB0.out.size)⟩
          · by_cases hlk : l = k
            · have hbl : ((l : Int) == (k : Int)) = true := by simp [hlk]
              clear hlk
              go_wp2_with fail
              refine HVK.out.mono ?_
              rintro e w2 ⟨rfl, hb2⟩
              go_wp2_with fail
              refine (HA2.out _ hb2).mono ?_
              rintro e w3 ⟨rfl, rfl⟩
              go_wp2_with fail
              refine (HFO.out _ hb2).mono ?_
              rintro e w4 ⟨v4, rfl, ho4, hb4⟩
              obtain ⟨A4, c4, rfl⟩ := own_form ho4.1
              rw [← HL.out]
              clear ho4
              go_wp2_with fail
              refine (HIR.out _).mono ?_
              rintro e w5 ⟨rfl, rfl⟩
              go_wp2
              go_ret
              exact ⟨ret_b (by rw [HF.out]), HB0.out.trans ((hb2.trans (hb4.mono hb2.size)).mono HB0.out.size)⟩
            · have hbl : ((l : Int) == (k : Int)) = false := by simp; omega
              clear hlk
              go_wp2_with fail
              refine HVK.out.mono ?_
              rintro e w2 ⟨rfl, hb2⟩
              go_wp2_with fail
              refine (HA2.out _ hb2).mono ?_
              rintro e w3 ⟨rfl, rfl⟩
              go_wp2_with fail
              refine (HFO.out _ hb2).mono ?_
              rintro e w4 ⟨v4, rfl, ho4, hb4⟩
              obtain ⟨A4, c4, rfl⟩ := own_form ho4.1
              rw [← HL.out]
              clear ho4
              go_wp2
              go_ret
              exact ⟨ret_b (by rw [HF.out]), HB0.out.trans ((hb2.trans (hb4.mono hb2.size)).mono HB0.out.size)⟩

set_option maxRecDepth 100000 in
set_option maxHeartbeats 3200000 in
theorem impl_areRows (A : Option Addr) (n c : Nat) (rs : List Rk) (nx : Int) (w : World) (B : Nat) (hB : B ≤ w.heap.size) (hn : n = rs.length) (h : WS w B A rs) (hs : n ≤ 1048576) :
    Calls Try.prog 63 #[.slice A n c, .int .i64 nx] w fun e w' => e = .returned (.bool (rowsOK rs nx)) ∧ Below w.heap.size w w' := by
  obtain ⟨i0, hi, hz0, hz1, hz2⟩ := info_parts info_int
  have H := Lib.hid h
  have HN := Lib.hid hn
  clear hn h
  go_enter Try.func63, Try.ntmps63
  go_wp2
  go_loopw [5, 6, 11] (fun v u i wr => ∃ k : Nat, k ≤ n ∧ i = .int .i64 k ∧ Hid (OwnI wr w.heap.size v (kyW (rs.take k))) ∧ Hid (OwnI wr w.heap.size u (idW (rs.take k))) ∧ Hid (ApV v u) ∧ Hid (Below w.heap.size w wr)) (fun _ _ i _ => n - (intOf i).toNat)
  case atStart => exact ⟨0, Nat.zero_le _, rfl, World.ownsRow_nil _ _ _ _, World.ownsRow_nil _ _ _ _, fun k h1 _ => by simp [Value.ownBlock] at h1, Below.refl _ _⟩
  case round =>
    obtain ⟨k, hk, rfl, HK, HI, HAp, HB⟩ := hrel
    have hwr : w.heap.size ≤ wr.heap.size := HB.out.size
    by_cases hlt : k < n
    · have hkx : k < rs.length := by have := HN.out; omega
      obtain ⟨b, off, rfl, hbB, c0, c1⟩ := H.out.at_ k hkx
      have q0 := (HB.out.cell (p := ⟨b, off + k * 2, none⟩) (by simp; omega)).trans c0
      have q1 := (HB.out.cell (p := ⟨b, off + k * 2 + 1, none⟩) (by simp; omega)).trans c1
      have hlk : (kyW (rs.take k)).length ≤ k := by rw [kyW_len]; exact List.length_take_le _ _
      have hli : (idW (rs.take k)).length ≤ k := by rw [idW_len]; exact List.length_take_le _ _
      have HSK := Lib.hid (kyW_step rs k hkx)
      have HSI := Lib.hid (idW_step rs k hkx)
      generalize rs.getD k default = p at *
      generalize kyW (rs.take k) = F at *
      generalize idW (rs.take k) = G at *
      have HLK := Lib.hid hlk
      have HLI := Lib.hid hli
      clear hlk hli c0 c1
      have hnw := cell_one_new (wr.alloc (.cells #[.int .i64 p.k, .int .i64 p.a] 63)) (.int .i64 p.k) 3
      rw [World.size_alloc] at hnw
      have HNW := Lib.hid hnw
      clear hnw
      go_wp2_with (at_builtin; refine wpList_append_own_at _ rfl _ _ 22 rfl w.heap.size 3 i0 (.int .i64 0) 1 8 Try.underlying22 hi hz0 hz1 hz2 rfl (by decide) _ _ _ rfl ((HK.out.alloc _).alloc _) ⟨wr.heap.size + 1, 0, none⟩ 1 1 [.int .i64 (p.k)] rfl rfl HNW.out ?c2 ?c3 ?c4 ?c5 ?_)
      case c2 => first | rfl | (intro u hu; simp at hu; subst hu; rfl)
      case c3 => have := HLK.out; have := HLI.out; unfold maxLen; omega
      case c4 => have := HLK.out; have := HLI.out; omega
      case c5 => first | omega | (simp; omega)
      intro v3 w3 hown1 hg1 _ hb1
      obtain ⟨hi1, hap1⟩ := HAp.out.grow (World.ownsRow.alloc (World.ownsRow.alloc HI.out _) _) hg1 hb1 (by simp)
      have HI1 := Lib.hid hi1
      have HAp1 := Lib.hid hap1
      have HK1 : Hid (OwnI w3 w.heap.size v3 (F ++ [p.k])) := by simpa [OwnI, Hid] using hown1
      have hpos := (World.ownsRow.alloc (World.ownsRow.alloc HK.out (.cells #[.int .i64 p.k, .int .i64 p.a] 63)) (.cells #[.int .i64 p.k] 3)).lt
      have hpos0 := HK.out.lt
      have HB1 := Lib.hid (((HB.out.alloc hwr (.cells #[.int .i64 p.k, .int .i64 p.a] 63)).alloc (by simp; omega) (.cells #[.int .i64 p.k] 3)).grown hg1 (by first | (simp; omega) | omega) (fun q hq => (hpos q hq).1))
      have x1 : w3.cell? ⟨wr.heap.size, 1, none⟩ = some (.int .i64 p.a) := (cell_grown hg1 ⟨wr.heap.size, 1, none⟩ (by simp; omega) (fun q hq e => by have h1 := (hpos0 q hq).2; have h2 : q = wr.heap.size := e; omega)).trans (by go_simp)
      have hw3 : w.heap.size ≤ w3.heap.size := HB1.out.size
      clear hown1 hg1 hb1 hi1 hap1 hpos hpos0 HK HI HAp
      go_wp2_with (at_builtin; refine wpList_append_own_at _ rfl _ _ 22 rfl w.heap.size 3 i0 (.int .i64 0) 1 8 Try.underlying22 hi hz0 hz1 hz2 rfl (by decide) _ _ _ rfl (HI1.out.alloc _) ⟨_, 0, none⟩ 1 1 [.int .i64 (p.a)] rfl rfl (cell_one_new _ _ _) ?d2 ?d3 ?d4 ?d5 ?_)
      case d2 => first | rfl | (intro u hu; simp at hu; subst hu; rfl)
      case d3 => have := HLK.out; have := HLI.out; unfold maxLen; omega
      case d4 => have := HLK.out; have := HLI.out; omega
      case d5 => first | omega | (simp; omega)
      intro v4 w4 hown2 hg2 _ hb2
      obtain ⟨hk2, hap2⟩ := HAp1.out.symm.grow (World.ownsRow.alloc HK1.out _) hg2 hb2 (by simp)
      have HK2 := Lib.hid hk2
      have HAp2 := Lib.hid hap2.symm
      have HI2 : Hid (OwnI w4 w.heap.size v4 (G ++ [p.a])) := by simpa [OwnI, Hid] using hown2
      have hpos := (World.ownsRow.alloc HI1.out (.cells #[.int .i64 p.a] 3)).lt
      have HB2 := Lib.hid ((HB1.out.alloc hw3 (.cells #[.int .i64 p.a] 3)).grown hg2 (by first | (simp; omega) | omega) (fun q hq => (hpos q hq).1))
      clear hown2 hg2 hb2 hk2 hap2 hpos HK1 HI1 HAp1
      go_wp2
      go_roundw
      case rel => exact ⟨k + 1, by omega, by go_num, by rw [HSK.out]; exact HK2.out, by rw [HSI.out]; exact HI2.out, HAp2.out, HB2.out⟩
      case measure => simp [intOf]; omega
    · obtain rfl : k = n := by omega
      have htk : rs.take k = rs := List.take_of_length_le (by have := HN.out; omega)
      rw [htk] at HK HI
      obtain ⟨A1, c1, rfl, hi1, hc1, _⟩ := HK.out.form' k (by rw [kyW_len]; exact HN.out)
      obtain ⟨A2, c2, rfl, hi2, hc2, _⟩ := HI.out.form' k (by rw [idW_len]; exact HN.out)
      have HVK := Lib.hid (impl_ValidKeys A1 k c1 (kyW rs) wr wr.heap.size (Nat.le_refl _) (by rw [kyW_len]; exact HN.out) hc1 hi1 (by omega))
      have HAD := Lib.hid fun (w' : World) (hb : Below wr.heap.size wr w') => impl_areDifferentUpTo (nx - 1) A2 k c2 (idW rs) w' wr.heap.size hb.size (by rw [idW_len]; exact HN.out) hc2 (hi2.below hb (Nat.le_refl _)) (by omega)
      have HIR := Lib.hid (impl_inRange nx 100)
      have hok : rowsOK rs nx = (rng nx 0 100 && (validK (kyW rs) && difB (nx - 1) (idW rs))) := rfl
      have HOK := Lib.hid hok
      generalize hr1 : validK (kyW rs) = r1 at *
      generalize hr2 : difB (nx - 1) (idW rs) = r2 at *
      generalize hr0 : rng nx 0 100 = r0 at *
      have HB0 := Lib.hid HB.out
      have hrg : r0 = true → 0 ≤ nx ∧ nx ≤ 100 := fun e => by rw [e] at hr0; simpa [rng] using hr0
      clear hi1 hi2 hok hr1 hr2 hr0 htk HK HI HAp
      cases r0
      · have hf : rowsOK rs nx = false := by rw [HOK.out]; rfl
        have HF := Lib.hid hf
        clear hf hrg
        go_wp2_with fail
        refine (HIR.out _).mono ?_
        rintro e w2 ⟨rfl, rfl⟩
        go_wp2
        go_ret
        exact ⟨ret_b (by rw [HF.out]), HB0.out⟩
      · obtain ⟨hn0, hn1⟩ := hrg rfl
        clear hrg
        cases r1
        · have hf : rowsOK rs nx = false := by rw [HOK.out]; rfl
          have HF := Lib.hid hf
          clear hf
          go_wp2_with fail
          refine (HIR.out _).mono ?_
          rintro e w2 ⟨rfl, rfl⟩
          go_wp2_with fail
          refine HVK.out.mono ?_
          rintro e w2 ⟨rfl, hb2⟩
          go_wp2
          go_ret
          exact ⟨ret_b (by rw [HF.out]), HB0.out.trans (hb2.mono HB0.out.size)⟩
        · have hf : rowsOK rs nx = r2 := by rw [HOK.out]; cases r2 <;> rfl
          have HF := Lib.hid hf
          clear hf
          go_wp2_with fail
          refine (HIR.out _).mono ?_
          rintro e w2 ⟨rfl, rfl⟩
          go_wp2_with fail
          refine HVK.out.mono ?_
          rintro e w2 ⟨rfl, hb2⟩
          go_wp2_with fail
          refine (HAD.out _ hb2).mono ?_
          rintro e w3 ⟨rfl, hb3⟩
          go_wp2
          go_ret
          exact ⟨ret_b (by rw [HF.out]), HB0.out.trans ((hb2.trans (hb3.mono hb2.size)).mono HB0.out.size)⟩
end Go.Proofs.Ytjlfabfejnpaaaa
