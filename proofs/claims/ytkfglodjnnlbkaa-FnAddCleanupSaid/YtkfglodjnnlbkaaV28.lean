/- impl's tree of owners: applyTo. -/
import Derived.Test.YtkfglodjnnlbkaaV27
import Derived.Test.YtkfglodjnnlbkaaT6a
import Derived.Deep.Cut

namespace Go.Proofs.Ytkfglodjnnlbkaa
set_option linter.unusedSimpArgs false
set_option linter.unusedVariables false
open Go.RowKit Go.Maps

set_option maxRecDepth 100000 in
set_option maxHeartbeats 3200000 in
theorem impl_applyTo (tb mb cm : Nat) (lb : Nat → Option Nat) (A : Option Addr) (n c : Nat) (ds es : List On) (w : World) (hn : n = ds.length) (hn12 : n ≤ 12) (h : OS w w.heap.size A ds) (hO : OB ds) (hS : SameP ds es) (hV : VO es)
    (htb : tb < w.heap.size) (ht : w.cell? ⟨tb, 0, none⟩ = some (.map (some mb))) (hM : MpH w mb cm (mf fun j => if isO es j then lb j else none))
    (hH : ∀ j, j < n → isO es j = true → ∃ g A m c, lb j = some g ∧ g < w.heap.size ∧ w.cell? ⟨g, 4, none⟩ = some (.slice A m c) ∧ m = (clO es j).length ∧ m ≤ 1000 ∧ IS w w.heap.size A (clO es j)) :
    Calls Try.prog 51 #[.pointer (some ⟨tb, 0, none⟩), .slice A n c] w fun e w' => e = .returned (.slice (some ⟨w.heap.size, 0, none⟩) n n) ∧ OwO w.heap.size w'.heap.size (.slice (some ⟨w.heap.size, 0, none⟩) n n) n es w' ∧ Below w.heap.size w w' := by
  have hel := hS.len
  have HCO := Lib.hid (impl_copyOwners A n c ds w w.heap.size (Nat.le_refl _) hn h hO)
  have HN := Lib.hid hn
  have HEL := Lib.hid hel
  have HS := Lib.hid hS
  have HV := Lib.hid hV
  have HT := Lib.hid ht
  have HM := Lib.hid hM
  have HH := Lib.hid hH
  have hmb : mb < w.heap.size := hM.lt
  clear hn h hO hS hV ht hM hH hel
  go_enter Try.func51, Try.ntmps51
  go_wp2_with fail
  refine HCO.out.mono ?_
  rintro e w1 ⟨rfl, ho, hb⟩
  have HO1 := Lib.hid ho
  have HB1 := Lib.hid hb
  have hs1 : w.heap.size < w1.heap.size := by obtain ⟨_, xs, us, h1, _⟩ := ho; exact h1.2 _ rfl
  clear ho hb HCO
  go_wp2
  go_loopw [13] (fun u wr => ∃ k : Nat, k ≤ n ∧ u = .int .i64 k ∧ Hid (OwO w.heap.size wr.heap.size (.slice (some ⟨w.heap.size, 0, none⟩) n n) n (apO ds es k) wr) ∧ Hid (Below w.heap.size w wr) ∧ w.heap.size < wr.heap.size) (fun u _ => n - (intOf u).toNat)
  case atStart => exact ⟨0, Nat.zero_le _, rfl, by rw [apO_zero]; exact HO1.out, HB1.out, hs1⟩
  case round =>
    obtain ⟨k, hk, rfl, HO, HB, hwr⟩ := hrel
    by_cases hlt : k < n
    · have hkd : k < ds.length := by have := HN.out; omega
      have hget := apO_get ds es HEL.out k hkd
      have hsucc := apO_succ ds es HEL.out k hkd
      have hkc : k < (apO ds es k).length := by rw [apO_len ds es HEL.out k (by omega)]; exact hkd
      have hep : (es.getD k default).p = (ds.getD k default).p := HS.out.par k
      have hec : (es.getD k default).cx = (ds.getD k default).cx := HS.out.cxs k
      have hxt : (∃ v1 v2, wr.cell? ⟨w.heap.size, k * 4 + 1, none⟩ = some v1 ∧ wr.cell? ⟨w.heap.size, k * 4 + 2, none⟩ = some v2) ∧ wr.frozen? ⟨w.heap.size, k * 4 + 1, none⟩ = false ∧ wr.frozen? ⟨w.heap.size, k * 4 + 2, none⟩ = false := by
        obtain ⟨_, xs, us, hr, _⟩ := HO.out
        have hxl : xs.length = n * 4 := hr.1.1
        have u1 := hr.1.cellAt (k * 4 + 1) (by omega)
        have u2 := hr.1.cellAt (k * 4 + 2) (by omega)
        rw [List.getElem?_eq_getElem (by omega)] at u1 u2
        exact ⟨⟨_, _, u1, u2⟩, hr.1.frozenAt _, hr.1.frozenAt _⟩
      obtain ⟨⟨v1, v2, u1, u2⟩, f1, f2⟩ := hxt
      generalize hcur : apO ds es k = cur at *
      have e1 : (cur.set k ⟨(cur.getD k default).p, false, (cur.getD k default).cl, (cur.getD k default).cx⟩).getD k default = ⟨(cur.getD k default).p, false, (cur.getD k default).cl, (cur.getD k default).cx⟩ := by rw [getD_set _ _ _ _ hkc, if_pos rfl]
      have HOA := Lib.hid (HO.out.setHead (e := 1) (d := ⟨(cur.getD k default).p, false, (cur.getD k default).cl, (cur.getD k default).cx⟩) (x := .bool false) hlt (by omega) rfl rfl (.inr ⟨rfl, rfl, rfl⟩))
      have HOB := Lib.hid (HOA.out.setCl k hlt (A := none) (m := 0) (c := 0) (l := []) (OwR.nil _ _ _ _ _) rfl (by omega) (Nat.le_refl _))
      rw [e1] at HOB
      simp only [List.set_set] at HOB
      rw [hget] at HOB
      have HBB : Hid (Below w.heap.size w ((wr.setCell ⟨w.heap.size, k * 4 + 1, none⟩ (.bool false)).setCell ⟨w.heap.size, k * 4 + 2, none⟩ (.slice none 0 0))) := (HB.out.setCell (Nat.le_refl _) _).setCell (Nat.le_refl _) _
      have hsz : ((wr.setCell ⟨w.heap.size, k * 4 + 1, none⟩ (.bool false)).setCell ⟨w.heap.size, k * 4 + 2, none⟩ (.slice none 0 0)).heap.size = wr.heap.size := by simp [World.setCell]
      clear HOA e1
      go_upto_region 6 with fail
      have hcd : (cur.set k ⟨(ds.getD k default).p, false, [], (ds.getD k default).cx⟩).length = cur.length := List.length_set
      have e2 : (cur.set k ⟨(ds.getD k default).p, false, [], (ds.getD k default).cx⟩).getD k default = ⟨(ds.getD k default).p, false, [], (ds.getD k default).cx⟩ := by rw [getD_set _ _ _ _ hkc, if_pos rfl]
      have HE2 := Lib.hid e2
      have HCD := Lib.hid hcd
      have HSU := Lib.hid hsucc
      have HEP := Lib.hid hep
      have HEC := Lib.hid hec
      have HKC := Lib.hid hkc
      clear u1 u2 f1 f2 hget hsucc hep hec e2 hcd hcur HO HB hkc
      generalize (wr.setCell ⟨w.heap.size, k * 4 + 1, none⟩ (.bool false)).setCell ⟨w.heap.size, k * 4 + 2, none⟩ (.slice none 0 0) = W at *
      have HZ := Lib.hid hsz
      have hz1 : wr.heap.size ≤ W.heap.size := by omega
      have hz2 : W.heap.size ≤ wr.heap.size := by omega
      clear hsz
      have t0 : W.cell? ⟨tb, 0, none⟩ = some (.map (some mb)) := (HBB.out.cell (p := ⟨tb, 0, none⟩) htb).trans HT.out
      have htW : tb < W.heap.size := by omega
      have hML := (HM.out.step HBB.out).look_ok (k : Int) (by omega) (by omega)
      rw [mf_nat] at hML
      by_cases ho : isO es k = true
      case neg =>
        have hoF : isO es k = false := by simpa using ho
        rw [if_neg ho] at hML
        have hcl := HV.out.no k (by rw [HEL.out]; exact hkd) hoF
        have hlook : (Instr.lookup 58 (.map (some mb)) (.int .i64 (k : Int)) true).run Try.prog W = .ok (.tuple #[.pointer none, .bool false]) W := hML
        have hes : es.getD k default = ⟨(ds.getD k default).p, false, [], (ds.getD k default).cx⟩ := by
          rw [← HEP.out, ← HEC.out]
          unfold clO at hcl
          unfold isO at hoF
          rw [← hcl, ← hoF]
        have hfin := HSU.out
        rw [hes] at hfin
        have HF : Hid (OwO w.heap.size W.heap.size (.slice (some ⟨w.heap.size, 0, none⟩) n n) n (apO ds es (k + 1)) W) := by rw [← hfin, HZ.out]; exact HOB.out
        have hWs : w.heap.size < W.heap.size := by omega
        clear ho hoF hcl hML hes hfin HOB HE2 HCD HSU HEP HEC HKC
        go_wp2
        go_roundw
        case rel => exact ⟨k + 1, by omega, by go_num, HF.out, HBB.out, hWs⟩
        case measure => simp [intOf]; omega
      case pos =>
        obtain ⟨g, A5, m, c5, hg, hgw, hg4, hm, hm1, hIS⟩ := HH.out k hlt ho
        rw [if_pos ho, hg] at hML
        have hlook : (Instr.lookup 58 (.map (some mb)) (.int .i64 (k : Int)) true).run Try.prog W = .ok (.tuple #[.pointer (some ⟨g, 0, none⟩), .bool true]) W := hML
        have g4 : W.cell? ⟨g, 4, none⟩ = some (.slice A5 m c5) := (HBB.out.cell (p := ⟨g, 4, none⟩) hgw).trans hg4
        have hgW : g < W.heap.size := by omega
        have HCP := Lib.hid (impl_copyOf A5 m c5 (clO es k) W w.heap.size (by omega) hm (hIS.below HBB.out (Nat.le_refl _)) (by omega))
        have hes : es.getD k default = ⟨(ds.getD k default).p, true, clO es k, (ds.getD k default).cx⟩ := by
          rw [← HEP.out, ← HEC.out]
          unfold isO at ho
          unfold clO
          rw [← ho]
        have hfin := HSU.out
        rw [hes] at hfin
        have HFI := Lib.hid hfin
        have HMM := Lib.hid hm
        clear ho hML hes hfin HSU HEP HEC hg hg4 hm hIS
        generalize clO es k = L at *
        go_wp2_with fail
        refine HCP.out.mono ?_
        rintro e w5 ⟨rfl, ho5, hb5⟩
        have hs5 := hb5.size
        have hg5 : W.heap.size < w5.heap.size := (ho5.lt _ rfl).2
        have hwW : w.heap.size < W.heap.size := by omega
        have HO5 := Lib.hid ((HOB.out.mono (Nat.le_refl _) (show wr.heap.size ≤ W.heap.size by omega)).step hb5 (Nat.le_refl _))
        have hxt : (∃ v1 v2, w5.cell? ⟨w.heap.size, k * 4 + 1, none⟩ = some v1 ∧ w5.cell? ⟨w.heap.size, k * 4 + 2, none⟩ = some v2) ∧ w5.frozen? ⟨w.heap.size, k * 4 + 1, none⟩ = false ∧ w5.frozen? ⟨w.heap.size, k * 4 + 2, none⟩ = false := by
          obtain ⟨_, xs, us, hr, _⟩ := HO5.out
          have hxl : xs.length = n * 4 := hr.1.1
          have u1 := hr.1.cellAt (k * 4 + 1) (by omega)
          have u2 := hr.1.cellAt (k * 4 + 2) (by omega)
          rw [List.getElem?_eq_getElem (by omega)] at u1 u2
          exact ⟨⟨_, _, u1, u2⟩, hr.1.frozenAt _, hr.1.frozenAt _⟩
        obtain ⟨⟨v3, v4, u1, u2⟩, f1, f2⟩ := hxt
        have HOC := Lib.hid (HO5.out.setHead (e := 1) (d := ⟨(ds.getD k default).p, true, [], (ds.getD k default).cx⟩) (x := .bool true) hlt (by omega) (by rw [HE2.out]) (by rw [HE2.out]) (.inr ⟨rfl, rfl, by rw [HE2.out]⟩))
        have hx5 : OwR W.heap.size w5.heap.size 3 1 (.slice (some ⟨W.heap.size, 0, none⟩) m m) m (L.map (Value.int .i64)) (w5.setCell ⟨w.heap.size, k * 4 + 1, none⟩ (.bool true)) :=
          OwR.keep (w := w5) ⟨ho5, fun q hq => (ho5.lt q hq).2⟩ fun q hq _ => Below.heap_setCell _ _ _ _ (by show q ≠ w.heap.size; omega)
        have HOD := Lib.hid (HOC.out.setCl k hlt hx5 HMM.out (by omega) hs5)
        have e3 : ((cur.set k ⟨(ds.getD k default).p, false, [], (ds.getD k default).cx⟩).set k ⟨(ds.getD k default).p, true, [], (ds.getD k default).cx⟩).getD k default = ⟨(ds.getD k default).p, true, [], (ds.getD k default).cx⟩ := by rw [getD_set _ _ _ _ (by rw [HCD.out]; exact HKC.out), if_pos rfl]
        rw [e3] at HOD
        simp only [List.set_set] at HOD
        rw [HFI.out] at HOD
        have hsz2 : ((w5.setCell ⟨w.heap.size, k * 4 + 1, none⟩ (.bool true)).setCell ⟨w.heap.size, k * 4 + 2, none⟩ (.slice (some ⟨W.heap.size, 0, none⟩) m m)).heap.size = w5.heap.size := by simp [World.setCell]
        have HF : Hid (OwO w.heap.size ((w5.setCell ⟨w.heap.size, k * 4 + 1, none⟩ (.bool true)).setCell ⟨w.heap.size, k * 4 + 2, none⟩ (.slice (some ⟨W.heap.size, 0, none⟩) m m)).heap.size (.slice (some ⟨w.heap.size, 0, none⟩) n n) n (apO ds es (k + 1)) ((w5.setCell ⟨w.heap.size, k * 4 + 1, none⟩ (.bool true)).setCell ⟨w.heap.size, k * 4 + 2, none⟩ (.slice (some ⟨W.heap.size, 0, none⟩) m m))) := by rw [hsz2]; exact HOD.out
        have HBF : Hid (Below w.heap.size w ((w5.setCell ⟨w.heap.size, k * 4 + 1, none⟩ (.bool true)).setCell ⟨w.heap.size, k * 4 + 2, none⟩ (.slice (some ⟨W.heap.size, 0, none⟩) m m))) := ((HBB.out.trans (hb5.mono (by omega))).setCell (Nat.le_refl _) _).setCell (Nat.le_refl _) _
        have hw5 : w.heap.size < w5.heap.size := by omega
        have HSZ := Lib.hid hsz2
        clear ho5 hb5 HO5 HOC hx5 HOD e3 hsz2 HFI HE2 HCD HKC HMM HOB HCP g4 hlook
        go_wp2
        go_roundw
        case rel => exact ⟨k + 1, by omega, by go_num, HF.out, HBF.out, by rw [HSZ.out]; exact hw5⟩
        case measure => simp [intOf]; omega
    · obtain rfl : k = n := by omega
      have hall := apO_all ds es HEL.out
      rw [← HN.out] at hall
      rw [hall] at HO
      clear hlt hall
      go_wp2
      go_ret
      exact ⟨rfl, HO.out, HB.out⟩
end Go.Proofs.Ytkfglodjnnlbkaa
