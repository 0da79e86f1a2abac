/- impl.treeOf. -/
import Derived.Test.YtkfglodjnnlbkaaT2b
import Derived.Test.YtkfglodjnnlbkaaV23

namespace Go.Proofs.Ytkfglodjnnlbkaa
set_option linter.unusedSimpArgs false
set_option linter.unusedVariables false
open Go.RowKit Go.Maps

theorem row_head3 {w : World} {base n size : Nat} {e : TypeId} {v : Value} {xs : List Value} (h : w.ownsRow base e size v n xs) (hn : 0 < n) : ∃ g cap, v = .slice (some ⟨g, 0, none⟩) n cap := by
  rcases h.2 with ⟨hv, h0⟩ | ⟨g, cap, cur, hv, _⟩
  · omega
  · exact ⟨g, cap, hv⟩
set_option maxRecDepth 100000 in
set_option maxHeartbeats 6400000 in
theorem impl_treeOf (b off n c : Nat) (ds : List On) (C X : Nat → Value) (w : World) (hn : n = ds.length) (hbw : b < w.heap.size) (hc : ∀ j, j < n → ∃ A1 n1 c1 A2 n2 c2, C j = .slice A1 n1 c1 ∧ X j = .slice A2 n2 c2 ∧
      w.cell? ⟨b, off + j * 4, none⟩ = some (.int .i64 (ds.getD j default).p) ∧ w.cell? ⟨b, off + j * 4 + 1, none⟩ = some (.bool (ds.getD j default).o) ∧ w.cell? ⟨b, off + j * 4 + 2, none⟩ = some (C j) ∧ w.cell? ⟨b, off + j * 4 + 3, none⟩ = some (X j)) (hv : validO ds = true) :
    Calls Try.prog 48 #[.slice (some ⟨b, off, none⟩) n c] w fun e w' => e = .returned (.pointer (some ⟨w.heap.size + 1, 0, none⟩)) ∧ TrS w n ds C X w' := by
  obtain ⟨i1, hi, hz0, hz1, hz2⟩ := info_parts info_hold
  have hmm := @run_makeMap Try.prog
  have hn12 : n ≤ 12 := by have := ((validO_iff ds).1 hv).2.1; omega
  have HN := Lib.hid hn
  have HV := Lib.hid hv
  have HC := Lib.hid hc
  clear hn hv hc
  go_enter Try.func48, Try.ntmps48
  go_wp2
  obtain ⟨w1, hw1⟩ : ∃ w1, w1 = (w.alloc (.map #[] 0)).alloc (.cells #[.map (some w.heap.size), .slice none 0 0] 60) := ⟨_, rfl⟩
  rw [← hw1]
  have HT1 : Hid (TrS w 0 ds C X w1) := by
    rw [hw1]
    refine ⟨fun _ => none, [], 0, Nat.le_refl _, fun j => by simp, (TrW.start _ C X ds _).rows' (fun j => rfl), ?_, ?_, ?_, ?_⟩
    · exact ((MpH.made w).alloc _).congr fun k _ _ => by unfold mf; split <;> rfl
    · have := Bx.start (w.alloc (.map #[] 0)) #[.map (some w.heap.size), .slice none 0 0] 60
      simpa using this
    · have := Tg.new (w.alloc (.map #[] 0)) #[.map (some w.heap.size), .slice none 0 0] 60 (0, 0)
      simpa using this
    · exact ((Below.refl _ _).alloc (Nat.le_refl _) _).alloc (by simp) _
  clear hw1 hmm
  go_loopw [14] (fun u wr => ∃ k : Nat, k ≤ n ∧ u = .int .i64 k ∧ Hid (TrS w k ds C X wr)) (fun u _ => n - (intOf u).toNat)
  case atStart => exact ⟨0, Nat.zero_le _, rfl, HT1.out⟩
  case round =>
    obtain ⟨k, hk, rfl, HT⟩ := hrel
    by_cases hlt : k < n
    · have hkg : k < ds.length := by have := HN.out; omega
      obtain ⟨lb, V, cm, hcm, hlbs, htr, hmp, hbx, htg, hbe⟩ := HT.out
      obtain ⟨A1, n1, c1, A2, n2, c2, eC, eX, q0, q1, q2, q3⟩ := HC.out k hlt
      rw [eC] at q2
      rw [eX] at q3
      have b0 := (hbe.cell (p := ⟨b, off + k * 4, none⟩) hbw).trans q0
      have b1 := (hbe.cell (p := ⟨b, off + k * 4 + 1, none⟩) hbw).trans q1
      have b2 := (hbe.cell (p := ⟨b, off + k * 4 + 2, none⟩) hbw).trans q2
      have b3 := (hbe.cell (p := ⟨b, off + k * 4 + 3, none⟩) hbw).trans q3
      have hbr : b < wr.heap.size := by have := hbe.size; omega
      have hwr : w.heap.size + 2 ≤ wr.heap.size := by have := hbx.lt; omega
      obtain ⟨_, _, hpo, hvo, _⟩ := (validO_iff ds).1 HV.out
      have HEC := Lib.hid eC
      have HEX := Lib.hid eX
      have HLB := Lib.hid hlbs
      clear q0 q1 q2 q3 eC eX HC
      by_cases hop : isO ds k = true
      case neg =>
        have ho : isO ds k = false := by simpa using hop
        have HTS := Lib.hid (HT.out.shut ho)
        have hoF : (ds.getD k default).o = false := ho
        rw [hoF] at b1
        clear hop ho hoF hlbs htr hmp hbx htg hbe hpo hvo HT HLB HEC HEX
        generalize (ds.getD k default).p = p at *
        go_wp2
        go_roundw
        case rel => exact ⟨k + 1, by omega, by go_num, HTS.out.step (below_new wr _)⟩
        case measure => simp [intOf]; omega
      case pos =>
        have hoT : (ds.getD k default).o = true := hop
        rw [hoT] at b1
        have hlk : lb k = none := by
          have := hlbs k
          rw [show decide (k < k) = false by simp] at this
          simpa using this
        obtain ⟨p, hp⟩ : ∃ p, p = (ds.getD k default).p := ⟨_, rfl⟩
        rw [← hp] at b0
        have HBW : Below wr.heap.size wr (wr.alloc (.cells #[.int .i64 p, .bool true, .slice A1 n1 c1, .slice A2 n2 c2] 30)) := below_new wr _
        have hTN : (TrW (w.heap.size + 2) (k + 1) (fun j => if j = k then some (wr.heap.size + 1) else lb j) (kdN ds k) (V ++ [.slice none 0 0]) C X ds ((wr.alloc (.cells #[.int .i64 p, .bool true, .slice A1 n1 c1, .slice A2 n2 c2] 30)).alloc (.cells #[.int .i64 k, .slice none 0 0, .int .i64 p, .bool true, .slice A1 n1 c1, .slice A2 n2 c2] 80))) := by
          have := (htr.step HBW).new (by simp; omega) hlk
          rw [HEC.out, HEX.out, ← hp] at this
          simpa using this
        have HTN := Lib.hid hTN
        clear hTN
        have HMP := Lib.hid ((hmp.step HBW).alloc (.cells #[.int .i64 k, .slice none 0 0, .int .i64 p, .bool true, .slice A1 n1 c1, .slice A2 n2 c2] 80))
        have HBX := Lib.hid ((hbx.step HBW).alloc (.cells #[.int .i64 k, .slice none 0 0, .int .i64 p, .bool true, .slice A1 n1 c1, .slice A2 n2 c2] 80))
        have HTG := Lib.hid ((htg.below HBW hbx.lt).below (below_new _ (.cells #[.int .i64 k, .slice none 0 0, .int .i64 p, .bool true, .slice A1 n1 c1, .slice A2 n2 c2] 80)) (by have := hbx.lt; simp; omega))
        have HXB := Lib.hid ((Bx.start wr #[.int .i64 p, .bool true, .slice A1 n1 c1, .slice A2 n2 c2] 30).alloc (.cells #[.int .i64 k, .slice none 0 0, .int .i64 p, .bool true, .slice A1 n1 c1, .slice A2 n2 c2] 80))
        have HBE := Lib.hid ((hbe.trans (HBW.mono (by omega))).alloc (by simp; omega) (.cells #[.int .i64 k, .slice none 0 0, .int .i64 p, .bool true, .slice A1 n1 c1, .slice A2 n2 c2] 80))
        have HP := Lib.hid hp
        have HPO := Lib.hid (hpo k hkg)
        have HUP := Lib.hid (hvo.up k hkg)
        have HOP := Lib.hid hop
        have t0 := HBX.out.c 0 _ rfl
        have t1 : w.heap.size + 1 < wr.heap.size := hbx.lt
        clear hop hoT hlk hp HBW hlbs htr hmp hbx htg hbe hpo hvo HT HEC HEX
        go_wp2_with (at_mapUpdate; refine wpList_store_hold _ rfl _ _ _ rfl w.heap.size cm _ rfl HMP.out (by unfold maxLen; omega) k (wr.heap.size + 1) (by omega) (by omega) rfl rfl ?_)
        intro w9 hmp9 hgrow9
        have HTM := Lib.hid (HTN.out.map hgrow9 (by omega))
        have MP9 := Lib.hid (hmp9.congr fun x _ _ => (mf_put lb k (wr.heap.size + 1) x))
        have BX9 := Lib.hid (Bx.keepE HBX.out (hgrow9.block _ HBX.out.lt (by simp)) hgrow9.size)
        have TG9 := Lib.hid (HTG.out.keep (hgrow9.block _ HBX.out.lt (by simp)))
        have XB9 := Lib.hid (Bx.keepE HXB.out (hgrow9.block _ HXB.out.lt (by simp; omega)) hgrow9.size)
        have BE9 : Hid (Below w.heap.size w w9) := HBE.out.grown hgrow9 (by simp; omega) (fun q hq => by simp at hq; omega)
        have hz9 : wr.heap.size + 2 ≤ w9.heap.size := by have := hgrow9.size; simpa using this
        clear hmp9 hgrow9 HTN HMP HBX HTG HXB HBE t0
        have t0 := BX9.out.c 0 _ rfl
        have x0 := XB9.out.c 0 _ rfl
        have ht9 : w.heap.size + 1 < w9.heap.size := by omega
        have hx9 : wr.heap.size < w9.heap.size := by omega
        by_cases hk0 : k = 0
        · subst hk0
          have hpm : p = -1 := by rw [HP.out]; exact HPO.out.1 rfl
          subst hpm
          have hlook : (Instr.lookup 58 (.map (some w.heap.size)) (.int .i64 (-1)) true).run Try.prog w9.drew = .ok (.tuple #[.pointer none, .bool false]) w9.drew := by
            have h := (MP9.out.step ((Below.refl w9.heap.size w9).drew)).look_ok (-1) (by omega) (by omega)
            have e : mf (fun j => if j = 0 then some (wr.heap.size + 1) else lb j) (-1) = none := by unfold mf; rw [if_pos (by omega)]
            rw [e] at h
            exact h
          have HTS : Hid (TrS w 1 ds C X w9) := by
            refine ⟨_, _, cm + 1, by omega, fun j => ?_, HTM.out.rows' fun j => ?_, MP9.out, BX9.out, TG9.out, BE9.out⟩
            · by_cases e : j = 0
              · subst e; rw [if_pos rfl]; simp [HOP.out]
              · rw [if_neg e, HLB.out, show decide (j < 0) = false by simp, show decide (j < 0 + 1) = false by simp; omega]
            · rw [kdN_succ]
              have : kidB ds (j : Int) 0 = false := by
                unfold kidB
                rw [← HP.out]
                have : ((-1 : Int) == (j : Int)) = false := by simp
                rw [this]; simp
              rw [this]; simp
          clear HTM MP9 BX9 TG9 XB9 BE9 HLB HP HPO HUP HOP
          go_wp2
          go_region
          go_wp2
          go_roundw
          case rel => exact ⟨1, by omega, by go_num, HTS.out.step ((Below.refl w9.heap.size w9).drew)⟩
          case measure => simp [intOf]; omega
        · obtain ⟨lb2, hl2⟩ : ∃ l : Nat → Option Nat, l = fun j => if j = k then some (wr.heap.size + 1) else lb j := ⟨_, rfl⟩
          rw [← hl2] at HTM MP9
          have HLJ : Hid (∀ j, lb2 j = if j = k then some (wr.heap.size + 1) else lb j) := fun j => by rw [hl2]
          clear hl2
          obtain ⟨hp0, hpk⟩ := HPO.out.2 (by omega)
          rw [← HP.out] at hp0 hpk
          obtain ⟨q, rfl⟩ : ∃ q : Nat, p = (q : Int) := ⟨p.toNat, by omega⟩
          have hqk : q < k := by omega
          have hpar : parN ds k = q := by unfold parN; rw [← HP.out]; omega
          have hqo : isO ds q = true := by have := HUP.out (by omega) HOP.out; rw [hpar] at this; exact this
          have hkb : ∀ j : Nat, kidB ds (j : Int) k = decide (j = q) := fun j => by
            unfold kidB
            have h1 : (ds.getD k default).o = true := HOP.out
            rw [h1, ← HP.out]
            by_cases e : j = q
            · subst e; simp
            · have : ((q : Int) == (j : Int)) = false := by simp; omega
              rw [this]; simp [e]
          have HKB := Lib.hid hkb
          obtain ⟨gq, hgq⟩ : ∃ g, lb q = some g := by
            have := HLB.out q
            rw [hqo, show decide (q < k) = true by simp [hqk]] at this
            exact Option.isSome_iff_exists.1 (by simpa using this)
          have hgq2 : lb2 q = some gq := by rw [HLJ.out, if_neg (by omega)]; exact hgq
          have hgk2 : lb2 k = some (wr.heap.size + 1) := by rw [HLJ.out, if_pos rfl]
          have HGQ := Lib.hid hgq2
          have HGK := Lib.hid hgk2
          have hlook : (Instr.lookup 58 (.map (some w.heap.size)) (.int .i64 (q : Int)) true).run Try.prog w9.drew = .ok (.tuple #[.pointer (some ⟨gq, 0, none⟩), .bool true]) w9.drew := by
            have h := (MP9.out.step ((Below.refl w9.heap.size w9).drew)).look_ok (q : Int) (by omega) (by omega)
            have e : mf lb2 (q : Int) = some gq := (mf_nat _ q).trans hgq2
            rw [e] at h
            exact h
          have hgqw : gq < w9.heap.size := HTM.out.lt hgq2
          have hgqb : w.heap.size + 2 ≤ gq := (HTM.out.bx q _ hgq2).2.2.2
          clear hgq hgq2 hgk2 hp0 hpk hkb hpar hqo x0 t0
          have t0 := BX9.out.c 0 _ rfl
          have x0 := XB9.out.c 0 _ rfl
          clear XB9
          go_wp2
          go_region
          have hdr : Below w9.heap.size w9 w9.drew := (Below.refl _ _).drew
          have HTD := Lib.hid (HTM.out.step hdr)
          have MPD := Lib.hid (MP9.out.step hdr)
          have BXD := Lib.hid (BX9.out.step hdr)
          have TGD := Lib.hid (TG9.out.below hdr ht9)
          have BED := Lib.hid (BE9.out.trans (hdr.mono (by omega)))
          have hzd : wr.heap.size + 2 ≤ w9.drew.heap.size := hz9
          have hgqd : gq < w9.drew.heap.size := hgqw
          clear t0 x0 hlook hdr HTM MP9 BX9 TG9 BE9 hz9 ht9 hx9 hgqw
          generalize w9.drew = wd at *
          obtain ⟨A5, c5, hX5, hX5', hr5⟩ := HTD.out.row (j := q) (by omega)
          have hbk := (HTD.out.bx q _ HGQ.out).2.1
          rw [hX5'] at hbk
          have k1 := hbk.c 1 _ rfl
          have HX5 := Lib.hid hX5
          have HR5 := Lib.hid hr5
          have hrl : (kdN ds k q).length ≤ 12 := by
            unfold kdN
            have := List.length_filter_le (fun i => kidB ds (q : Int) i) (List.range k)
            rw [List.length_range] at this; omega
          clear hX5 hX5' hr5 hbk
          generalize hml : (kdN ds k q).length = m5 at *
          have HML := Lib.hid hml
          clear hml
          go_wp2_with (at_builtin; refine wpList_append_own_at _ rfl _ _ 76 rfl (w.heap.size + 2) 57 i1 (.pointer none) 1 8 Try.underlying76 hi hz0 hz1 hz2 rfl (by decide) _ _ _ rfl (HR5.out.alloc _) ⟨_, 0, none⟩ 1 1 [.pointer (some ⟨wr.heap.size + 1, 0, none⟩)] rfl rfl (cell_one_new _ _ _) ?c2 ?c3 ?c4 ?c5 ?_)
          case c2 => first | rfl | (intro u hu; simp at hu; subst hu; rfl)
          case c3 => unfold maxLen; omega
          case c4 => omega
          case c5 => first | omega | (simp; omega)
          intro v' w5 hown' hgrow _ hat
          obtain ⟨g5, c5', rfl⟩ := row_head3 hown' (by omega)
          have hsz : (wd.alloc (.cells #[.pointer (some ⟨wr.heap.size + 1, 0, none⟩)] 57)).heap.size = wd.heap.size + 1 := by simp
          have hmid := HTD.out.mid HX5.out hgrow
          have m1 := (hmid q _ HGQ.out).1
          have f1' := m1.f 1
          have n1' := m1.c 1 _ (show _ = some _ from rfl)
          have hg5 : gq < w5.heap.size := m1.lt
          have HAPP := Lib.hid (HTD.out.app (j := q) (q := k) HGQ.out HGK.out HX5.out hown' (by have := HML.out; omega) hgrow (by rcases hat with h | h; exact .inl h; exact .inr (by rw [hsz]; exact h)))
          have hrow5 := (HR5.out.alloc (.cells #[.pointer (some ⟨wr.heap.size + 1, 0, none⟩)] 57)).lt
          have MP5 := Lib.hid (((MPD.out.alloc (.cells #[.pointer (some ⟨wr.heap.size + 1, 0, none⟩)] 57)).grown hgrow (fun e => by have := (hrow5 _ e.symm).1; omega)).setCell ⟨gq, 1, none⟩ (by show w.heap.size ≠ gq; omega) (.slice (some ⟨g5, 0, none⟩) (m5 + 1) c5'))
          have hbt := hgrow.block (w.heap.size + 1) (by rw [hsz]; omega) (fun e => by have := (hrow5 _ e.symm).1; omega)
          have BX5 := Lib.hid ((Bx.keepE (BXD.out.alloc (.cells #[.pointer (some ⟨wr.heap.size + 1, 0, none⟩)] 57)) hbt hgrow.size).other ⟨gq, 1, none⟩ (by show w.heap.size + 1 ≠ gq; omega) (.slice (some ⟨g5, 0, none⟩) (m5 + 1) c5'))
          have TG5 := Lib.hid (((TGD.out.below (below_new wd (.cells #[.pointer (some ⟨wr.heap.size + 1, 0, none⟩)] 57)) (by omega)).keep hbt).set ⟨gq, 1, none⟩ (.slice (some ⟨g5, 0, none⟩) (m5 + 1) c5'))
          have HB5 : Hid (Below w.heap.size w (w5.setCell ⟨gq, 1, none⟩ (.slice (some ⟨g5, 0, none⟩) (m5 + 1) c5'))) := ((BED.out.alloc BED.out.size (.cells #[.pointer (some ⟨wr.heap.size + 1, 0, none⟩)] 57)).grown hgrow (by omega) (fun x hx => by have := (hrow5 x hx).1; omega)).setCell (by show w.heap.size ≤ gq; omega) _
          have HTS : Hid (TrS w (k + 1) ds C X (w5.setCell ⟨gq, 1, none⟩ (.slice (some ⟨g5, 0, none⟩) (m5 + 1) c5'))) := by
            refine ⟨_, _, cm + 1, by omega, fun j => ?_, HAPP.out.rows' fun j => ?_, MP5.out, BX5.out, TG5.out, HB5.out⟩
            · rw [HLJ.out]
              by_cases e : j = k
              · subst e; rw [if_pos rfl]; simp [HOP.out]
              · rw [if_neg e, HLB.out]
                have e2 : decide (j < k) = decide (j < k + 1) := by rw [decide_eq_decide]; omega
                rw [e2]
            · rw [kdN_succ, HKB.out j]
              by_cases e : j = q
              · subst e; rw [if_pos rfl]; simp
              · rw [if_neg e]; simp [e]
          clear hown' hgrow hat hmid m1 hrow5 hbt HAPP MP5 BX5 TG5 HB5 HTD MPD BXD TGD BED HR5 HX5 HKB HLB HP HPO HUP HOP HGQ HGK HLJ
          go_wp2
          go_roundw
          case rel => exact ⟨k + 1, by omega, by go_num, HTS.out⟩
          case measure => simp [intOf]; omega
    · obtain rfl : k = n := by omega
      clear hlt HC
      go_wp2
      go_ret
      exact ⟨rfl, HT.out⟩
end Go.Proofs.Ytkfglodjnnlbkaa
