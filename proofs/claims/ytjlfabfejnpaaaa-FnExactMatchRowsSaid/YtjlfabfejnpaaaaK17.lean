/- impl.MatchRows. (Made by k16.py.) -/
import Derived.Test.YtjlfabfejnpaaaaS27
import Derived.Test.YtjlfabfejnpaaaaK16

namespace Go.Proofs.Ytjlfabfejnpaaaa
set_option linter.unusedSimpArgs false
set_option linter.unusedVariables false
open Go.RowKit

set_option maxRecDepth 100000 in
set_option maxHeartbeats 6400000 in
theorem top_impl_MatchRows (rs : List Rk) (nx : Int) (ys : List Int) (hL : rs.length ≤ 1048576) (hL2 : ys.length ≤ 1048576) : ∀ (A : Option Addr) (n c : Nat) (A' : Option Addr) (m c' : Nat) (w : World), n = rs.length → n ≤ c → WS w w.heap.size A rs → m = ys.length → m ≤ c' → IS w w.heap.size A' ys →
    Calls Try.prog 35 #[.slice A n c, .int .i64 nx, .slice A' m c'] w fun e w' => RetWI w (matchF rs nx ys) (matchN rs nx ys) e w' := by
  intro A n c A' m c' w hn hnc h hm hmc h'
  obtain ⟨i1, hi1, hy0, hy1, hy2⟩ := info_parts info_row
  have hn1 : n ≤ 1048576 := by omega
  have hm1 : m ≤ 1048576 := by omega
  have HVR := Lib.hid (impl_areRows A n c rs nx w w.heap.size (Nat.le_refl _) hn h hn1)
  have HVK := Lib.hid fun (w' : World) (hb : Below w.heap.size w w') => impl_ValidKeys A' m c' ys w' w.heap.size hb.size hm hmc (h'.below hb (Nat.le_refl _)) (by omega)
  have hpt := rowsOK_parts rs nx
  have hmF : matchF rs nx ys = if matchB rs nx ys then (mtc rs ys nx ys.length).1 else [] := rfl
  have hmN : matchN rs nx ys = if matchB rs nx ys then (mtc rs ys nx ys.length).2 else -1 := rfl
  have hmB : matchB rs nx ys = ((rowsOK rs nx && validK ys) && decide ((mtc rs ys nx ys.length).2 ≤ 100)) := rfl
  generalize rowsOK rs nx = r at *
  generalize validK ys = s at *
  have H := Lib.hid h
  have HN := Lib.hid hn
  have H' := Lib.hid h'
  have HM := Lib.hid hm
  have HMF := Lib.hid hmF
  have HMN := Lib.hid hmN
  have HMB := Lib.hid hmB
  clear hn h hm h' hnc hmc hmF hmN hmB hL hL2
  cases r
  · have HB0 : Hid (matchB rs nx ys = false) := by rw [HMB.out]; exact Lib.hid rfl
    clear hpt
    go_enter Try.func35, Try.ntmps35
    go_wp2_with fail
    refine HVR.out.mono ?_
    rintro e w1 ⟨rfl, hb⟩
    go_wp2
    go_ret2
    rw [HMF.out, HMN.out, HB0.out]
    exact ⟨_, rfl, World.ownsRow_nil _ _ _ _, hb⟩
  cases s
  · have HB0 : Hid (matchB rs nx ys = false) := by rw [HMB.out]; exact Lib.hid rfl
    clear hpt
    go_enter Try.func35, Try.ntmps35
    go_wp2_with fail
    refine HVR.out.mono ?_
    rintro e w1 ⟨rfl, hb⟩
    go_wp2_with fail
    refine (HVK.out _ hb).mono ?_
    rintro e w2 ⟨rfl, hb2⟩
    go_wp2
    go_ret2
    rw [HMF.out, HMN.out, HB0.out]
    exact ⟨_, rfl, World.ownsRow_nil _ _ _ _, hb.trans (hb2.mono hb.size)⟩
  have HMB2 : Hid (matchB rs nx ys = decide ((mtc rs ys nx ys.length).2 ≤ 100)) := by rw [HMB.out]; exact Lib.hid (by simp)
  obtain ⟨hx0, hx1, hnd, hn10, hids⟩ := hpt rfl
  have HND := Lib.hid hnd
  have HIDS := Lib.hid hids
  rw [← HM.out] at HMF HMN HMB2
  clear hpt hnd hids hn10 HMB
  go_enter Try.func35, Try.ntmps35
  go_wp2_with fail
  refine HVR.out.mono ?_
  rintro e w1 ⟨rfl, hb⟩
  go_wp2_with fail
  refine (HVK.out _ hb).mono ?_
  rintro e w2 ⟨rfl, hb2⟩
  have HB2 := Lib.hid (hb.trans (hb2.mono hb.size))
  have hw2 := HB2.out.size
  have HZ : Hid (mtc rs ys nx 0 = ([], nx)) := rfl
  clear hb hb2 HVR HVK
  go_wp2
  go_loopw [8, 1, 23] (fun v q i wr => ∃ k : Nat, k ≤ m ∧ i = .int .i64 k ∧ q = .int .i64 (mtc rs ys nx k).2 ∧ Hid (OwnW wr w.heap.size v (mtc rs ys nx k).1) ∧ Hid (Below w.heap.size w wr)) (fun _ _ i _ => m - (intOf i).toNat)
  case atStart => exact ⟨0, Nat.zero_le _, rfl, by rw [HZ.out], by rw [HZ.out]; exact World.ownsRow_nil _ _ _ _, HB2.out⟩
  case round =>
    obtain ⟨k, hk, rfl, rfl, HO, HB⟩ := hrel
    have hwr : w.heap.size ≤ wr.heap.size := HB.out.size
    have hmb := mtc_bd rs ys nx k
    by_cases hlt : k < m
    · have hky : k < ys.length := by have := HM.out; omega
      obtain ⟨b2, o2, rfl, hbB2, hc2⟩ := (H'.out.below HB.out (Nat.le_refl _)) (by omega)
      have y0 := hc2 k hky
      have HYE := Lib.hid (mtc_yes rs ys nx k)
      have HNO := Lib.hid (mtc_no rs ys nx k)
      have hkr := kyW_row rs (ys.getD k 0)
      have hno := plc_ge (kyW rs) (ys.getD k 0)
      have HIX := Lib.hid fun (g : Nat) (w' : World) (hb : Below w.heap.size w w') (h1 : w'.cell? ⟨g, 0, none⟩ = some (.int .i64 (ys.getD k 0))) (hg : g < w'.heap.size) => index_row g (ys.getD k 0) A n c rs w' HN.out ((H.out.below hb (Nat.le_refl _)).more hb.size) (by omega) h1 hg
      generalize ys.getD k 0 = y at *
      generalize mtc rs ys nx k = S at *
      obtain ⟨F, q⟩ := S
      obtain ⟨hF1, hF2, hF3⟩ := hmb
      simp only at hF1 hF2 hF3 HYE HNO HO ⊢
      have HFL := Lib.hid hF1
      have HBa := Lib.hid (HB.out.alloc hwr (.cells #[.int .i64 y] 3))
      have HOa := Lib.hid (World.ownsRow.alloc HO.out (.cells #[.int .i64 y] 3))
      have hbx : (wr.alloc (.cells #[.int .i64 y] 3)).cell? ⟨wr.heap.size, 0, none⟩ = some (.int .i64 y) := by go_simp
      have HI2 := Lib.hid (HIX.out wr.heap.size (wr.alloc (.cells #[.int .i64 y] 3)) HBa.out hbx (by simp))
      have HBX := Lib.hid hbx
      clear hF1 hc2 HIX hbx HO HB
      by_cases hym : y ∈ kyW rs
      · obtain ⟨p, hp, hpn, hpr⟩ := hkr hym
        obtain ⟨b, off, rfl, hbB, c0, c1⟩ := H.out.at_ p hpn
        rw [hpr] at c0 c1
        rw [hp] at HI2
        have HS2 := Lib.hid (HYE.out hym)
        have HC0 := Lib.hid c0
        have HC1 := Lib.hid c1
        have hpn2 : p < n := by have := HN.out; omega
        generalize idOf rs y = z at *
        clear hno hkr hp hpr hpn hym HYE HNO c0 c1
        go_wp2_with fail
        refine HI2.out.mono ?_
        rintro e w4 ⟨rfl, hb4⟩
        have HO : Hid (OwnW w4 w.heap.size u8 F) := own_below HOa.out hb4
        have HB := Lib.hid (HBa.out.trans (hb4.mono HBa.out.size))
        clear hwr
        have hwr : w.heap.size ≤ w4.heap.size := HB.out.size
        have q0 : w4.cell? ⟨b, off + p * 2, none⟩ = some (.int .i64 y) := (HB.out.cell (p := ⟨b, off + p * 2, none⟩) hbB).trans HC0.out
        have q1 : w4.cell? ⟨b, off + p * 2 + 1, none⟩ = some (.int .i64 z) := (HB.out.cell (p := ⟨b, off + p * 2 + 1, none⟩) hbB).trans HC1.out
        clear hb4 HOa HBa
        go_wp2_with (at_builtin; refine wpList_append_own _ rfl _ _ 41 rfl w.heap.size 63 i1 _ 2 16 Try.underlying41 hi1 hy0 hy1 hy2 rfl (by decide) _ _ _ rfl (HO.out.alloc _) ⟨_, 0, none⟩ 1 1 (Rk.cells ⟨y, z⟩) rfl rfl (acells_new _ _ _ _ rfl) ?c2 ?c3 ?c4 ?c5 ?_)
        case c2 => intro u hu; simp [Rk.cells] at hu; rcases hu with rfl | rfl <;> rfl
        case c3 => have := HFL.out; unfold maxLen; omega
        case c4 => have := HFL.out; omega
        case c5 => first | omega | (simp; omega)
        intro v' w5 hown' hgrow _
        have hpos := (World.ownsRow.alloc HO.out (.cells #[.int .i64 (y), .int .i64 (z)] 63)).lt
        have HO' : Hid (OwnW w5 w.heap.size v' (F ++ [⟨y, z⟩])) := by
          unfold OwnW
          rw [List.length_append, List.flatMap_append]
          simpa [Hid] using hown'
        have HB' := Lib.hid ((HB.out.alloc hwr (.cells #[.int .i64 (y), .int .i64 (z)] 63)).grown hgrow (by first | (simp; omega) | omega) (fun q hq => (hpos q hq).1))
        clear hown' hgrow hpos
        go_wp2
        go_roundw
        case rel => exact ⟨k + 1, by omega, by go_num, by rw [HS2.out], by rw [HS2.out]; exact HO'.out, HB'.out⟩
        case measure => simp [intOf]; omega
      · have HS2 := Lib.hid (HNO.out hym)
        rw [decide_eq_false hym] at hno
        generalize plc (kyW rs) y = z at *
        clear hkr hym HYE HNO
        go_wp2_with fail
        refine HI2.out.mono ?_
        rintro e w4 ⟨rfl, hb4⟩
        have HO : Hid (OwnW w4 w.heap.size u8 F) := own_below HOa.out hb4
        have HB := Lib.hid (HBa.out.trans (hb4.mono HBa.out.size))
        have q0 : w4.cell? ⟨wr.heap.size, 0, none⟩ = some (.int .i64 y) := (hb4.cell (p := ⟨wr.heap.size, 0, none⟩) (by simp)).trans HBX.out
        clear hwr
        have hwr : w.heap.size ≤ w4.heap.size := HB.out.size
        clear hb4 HOa HBa
        go_wp2_with (at_builtin; refine wpList_append_own _ rfl _ _ 41 rfl w.heap.size 63 i1 _ 2 16 Try.underlying41 hi1 hy0 hy1 hy2 rfl (by decide) _ _ _ rfl (HO.out.alloc _) ⟨_, 0, none⟩ 1 1 (Rk.cells ⟨y, q⟩) rfl rfl (acells_new _ _ _ _ rfl) ?d2 ?d3 ?d4 ?d5 ?_)
        case d2 => intro u hu; simp [Rk.cells] at hu; rcases hu with rfl | rfl <;> rfl
        case d3 => have := HFL.out; unfold maxLen; omega
        case d4 => have := HFL.out; omega
        case d5 => first | omega | (simp; omega)
        intro v' w5 hown' hgrow _
        have hpos := (World.ownsRow.alloc HO.out (.cells #[.int .i64 (y), .int .i64 (q)] 63)).lt
        have HO' : Hid (OwnW w5 w.heap.size v' (F ++ [⟨y, q⟩])) := by
          unfold OwnW
          rw [List.length_append, List.flatMap_append]
          simpa [Hid] using hown'
        have HB' := Lib.hid ((HB.out.alloc hwr (.cells #[.int .i64 (y), .int .i64 (q)] 63)).grown hgrow (by first | (simp; omega) | omega) (fun q hq => (hpos q hq).1))
        clear hown' hgrow hpos
        go_wp2
        go_roundw
        case rel => exact ⟨k + 1, by omega, by go_num, by rw [HS2.out], by rw [HS2.out]; exact HO'.out, HB'.out⟩
        case measure => simp [intOf]; omega
    · obtain rfl : k = m := by omega
      obtain ⟨hF1, hF2, hF3⟩ := hmb
      generalize hS : mtc rs ys nx k = S at *
      obtain ⟨F, q⟩ := S
      simp only at hF1 hF2 hF3 HO ⊢
      have HS := Lib.hid hS
      clear hS hF1
      by_cases h100 : q ≤ 100
      · have hgt : decide (100 < q) = false := decide_eq_false (by omega)
        have hle : decide (q ≤ 100) = true := decide_eq_true h100
        have HLE := Lib.hid hle
        clear h100 hle
        go_wp2
        go_ret2
        rw [HMF.out, HMN.out, HMB2.out, HLE.out]
        exact ⟨_, rfl, HO.out, HB.out⟩
      · have hgt : 100 < q := by omega
        have hle : decide (q ≤ 100) = false := decide_eq_false h100
        have HLE := Lib.hid hle
        clear h100 hle
        go_wp2
        go_ret2
        rw [HMF.out, HMN.out, HMB2.out, HLE.out]
        exact ⟨_, rfl, World.ownsRow_nil _ _ _ _, HB.out⟩
end Go.Proofs.Ytjlfabfejnpaaaa
