/- MatchRows: both sides. (Made by k16.py.) -/
import Derived.Test.YtjlfabfejnpaaaaK15
import Derived.Test.YtjlfabfejnpaaaaS26

namespace Go.Proofs.Ytjlfabfejnpaaaa
set_option linter.unusedSimpArgs false
set_option linter.unusedVariables false
open Go.RowKit

/-- The number of the row of a key. -/
def idOf (rs : List Rk) (y : Int) : Int := (rs.getD (plc (kyW rs) y).toNat default).a
/-- The rows for the first k keys, and the next free number then. -/
def mtc (rs : List Rk) (ys : List Int) (nx : Int) : Nat → List Rk × Int
  | 0 => ([], nx)
  | k + 1 => if ys.getD k 0 ∈ kyW rs then ((mtc rs ys nx k).1 ++ [⟨ys.getD k 0, idOf rs (ys.getD k 0)⟩], (mtc rs ys nx k).2) else ((mtc rs ys nx k).1 ++ [⟨ys.getD k 0, (mtc rs ys nx k).2⟩], (mtc rs ys nx k).2 + 1)
theorem mtc_yes (rs : List Rk) (ys : List Int) (nx : Int) (k : Nat) (h : ys.getD k 0 ∈ kyW rs) : mtc rs ys nx (k + 1) = ((mtc rs ys nx k).1 ++ [⟨ys.getD k 0, idOf rs (ys.getD k 0)⟩], (mtc rs ys nx k).2) := by
  show (if _ then _ else _) = _
  rw [if_pos h]
theorem mtc_no (rs : List Rk) (ys : List Int) (nx : Int) (k : Nat) (h : ¬ ys.getD k 0 ∈ kyW rs) : mtc rs ys nx (k + 1) = ((mtc rs ys nx k).1 ++ [⟨ys.getD k 0, (mtc rs ys nx k).2⟩], (mtc rs ys nx k).2 + 1) := by
  show (if _ then _ else _) = _
  rw [if_neg h]
theorem mtc_bd (rs : List Rk) (ys : List Int) (nx : Int) (k : Nat) : (mtc rs ys nx k).1.length = k ∧ nx ≤ (mtc rs ys nx k).2 ∧ (mtc rs ys nx k).2 ≤ nx + k := by
  induction k with
  | zero => exact ⟨rfl, Int.le_refl _, by simp [mtc]⟩
  | succ k ih =>
    by_cases h : ys.getD k 0 ∈ kyW rs
    · rw [mtc_yes _ _ _ _ h]; simp; omega
    · rw [mtc_no _ _ _ _ h]; simp; omega
def matchOK (rs : List Rk) (nx : Int) (ys : List Int) : Bool := rowsOK rs nx && validK ys
def matchB (rs : List Rk) (nx : Int) (ys : List Int) : Bool := matchOK rs nx ys && decide ((mtc rs ys nx ys.length).2 ≤ 100)
def matchF (rs : List Rk) (nx : Int) (ys : List Int) : List Rk := if matchB rs nx ys then (mtc rs ys nx ys.length).1 else []
def matchN (rs : List Rk) (nx : Int) (ys : List Int) : Int := if matchB rs nx ys then (mtc rs ys nx ys.length).2 else -1
theorem matchF_len (rs : List Rk) (nx : Int) (ys : List Int) : (matchF rs nx ys).length ≤ 10 := by
  unfold matchF
  split
  · rename_i h
    rw [(mtc_bd rs ys nx ys.length).1]
    unfold matchB matchOK at h
    simp only [Bool.and_eq_true] at h
    exact validK_len _ h.1.2
  · simp

theorem plc_index (l : List Int) (y : Int) (h : y ∈ l) : ∃ p : Nat, plc l y = p ∧ p < l.length ∧ l.getD p 0 = y := by
  refine ⟨l.idxOf y, by unfold plc; rw [if_pos h], List.idxOf_lt_length_of_mem h, ?_⟩
  have := List.idxOf_lt_length_of_mem h
  simp [List.getD, this]
/-- The number of the last row of a key among the first k. -/
def lid (rs : List Rk) (y : Int) : Nat → Int
  | 0 => -1
  | k + 1 => if (rs.getD k default).k = y then (rs.getD k default).a else lid rs y k
theorem lid_yes (rs : List Rk) (y : Int) (k : Nat) (h : (rs.getD k default).k = y) : lid rs y (k + 1) = (rs.getD k default).a := by
  show (if _ then _ else _) = _
  rw [if_pos h]
theorem lid_no (rs : List Rk) (y : Int) (k : Nat) (h : ¬ (rs.getD k default).k = y) : lid rs y (k + 1) = lid rs y k := by
  show (if _ then _ else _) = _
  rw [if_neg h]
theorem lid_all (rs : List Rk) (y : Int) (hd : (kyW rs).Nodup) : lid rs y rs.length = if y ∈ kyW rs then idOf rs y else -1 := by
  split
  · rename_i hy
    obtain ⟨p, hp, hpl, hpy⟩ := plc_index _ _ hy
    rw [kyW_len] at hpl
    have hid : idOf rs y = (rs.getD p default).a := by unfold idOf; rw [hp]; rfl
    have key : ∀ k, p < k → k ≤ rs.length → lid rs y k = (rs.getD p default).a := by
      intro k
      induction k with
      | zero => intro h; omega
      | succ k ih =>
        intro h1 h2
        by_cases hk : (rs.getD k default).k = y
        · rw [lid_yes _ _ _ hk]
          have hkp : k = p := by
            have h3 : (kyW rs)[k]'(by rw [kyW_len]; omega) = (kyW rs)[p]'(by rw [kyW_len]; omega) := by
              have e1 := kyW_get rs k
              have e2 := kyW_get rs p
              rw [hk, ← hpy] at e1
              simp only [List.getD] at e1 e2 hpy
              rw [List.getElem?_eq_getElem (by rw [kyW_len]; omega)] at e1
              rw [List.getElem?_eq_getElem (by rw [kyW_len]; omega)] at e1
              simpa using e1
            have hpw := List.pairwise_iff_getElem.1 hd
            rcases Nat.lt_trichotomy k p with h5 | h5 | h5
            · exact absurd h3 (hpw k p _ _ h5)
            · exact h5
            · exact absurd h3.symm (hpw p k _ _ h5)
          rw [hkp]
        · rw [lid_no _ _ _ hk]
          rcases Nat.lt_or_ge p k with h3 | h3
          · exact ih h3 (by omega)
          · have : p = k := by omega
            subst this
            rw [kyW_get] at hpy
            exact absurd hpy hk
    rw [hid]
    exact key rs.length hpl (Nat.le_refl _)
  · rename_i hy
    have key : ∀ k, k ≤ rs.length → lid rs y k = -1 := by
      intro k
      induction k with
      | zero => intro _; rfl
      | succ k ih =>
        intro h
        rw [lid_no _ _ _ fun e => hy ?_]
        · exact ih (by omega)
        · rw [← e, ← kyW_get]
          have : k < (kyW rs).length := by rw [kyW_len]; omega
          simp [List.getD, this]
    exact key rs.length (Nat.le_refl _)
theorem rowsOK_parts (rs : List Rk) (nx : Int) (h : rowsOK rs nx = true) : 0 ≤ nx ∧ nx ≤ 100 ∧ (kyW rs).Nodup ∧ rs.length ≤ 10 ∧ ∀ y, y ∈ kyW rs → 0 ≤ idOf rs y ∧ idOf rs y ≤ 100 := by
  unfold rowsOK validK difB at h
  simp only [Bool.and_eq_true, decide_eq_true_eq] at h
  obtain ⟨h1, ⟨h2, _, h3⟩, h4, _⟩ := h
  have hr : 0 ≤ nx ∧ nx ≤ 100 := by simpa [rng] using h1
  rw [kyW_len] at h2
  refine ⟨hr.1, hr.2, h3, h2, fun y hy => ?_⟩
  obtain ⟨p, hp, hpl, _⟩ := plc_index _ _ hy
  rw [kyW_len] at hpl
  have hm : idOf rs y ∈ idW rs := by
    unfold idOf
    rw [hp]
    show (rs.getD p default).a ∈ idW rs
    rw [← idW_get]
    have : p < (idW rs).length := by rw [idW_len]; exact hpl
    simp [List.getD, this]
  unfold allR at h4
  have := (List.all_eq_true.1 h4) _ hm
  have h5 : 0 ≤ idOf rs y ∧ idOf rs y ≤ nx - 1 := by simpa [rng] using this
  omega
theorem kyW_row (rs : List Rk) (y : Int) (hy : y ∈ kyW rs) : ∃ p : Nat, plc (kyW rs) y = p ∧ p < rs.length ∧ rs.getD p default = ⟨y, idOf rs y⟩ := by
  obtain ⟨p, hp, hpl, hpy⟩ := plc_index _ _ hy
  rw [kyW_len] at hpl
  refine ⟨p, hp, hpl, ?_⟩
  have h1 : (rs.getD p default).k = y := by rw [← kyW_get]; exact hpy
  have h2 : (rs.getD p default).a = idOf rs y := by unfold idOf; rw [hp]; rfl
  generalize rs.getD p default = q at *
  obtain ⟨a, b⟩ := q
  simp at h1 h2
  rw [h1, h2]

/-- Returns fresh rows and a number. -/
def RetWI (w : World) (xs : List Rk) (m : Int) (e : Ending) (w' : World) : Prop := ∃ v, e = .returned (.tuple #[v, .int .i64 m]) ∧ OwnW w' w.heap.size v xs ∧ Below w.heap.size w w'

set_option maxHeartbeats 800000 in
theorem match1_at (gb : Nat) (p : Rk) (y : Int) (w : World) (h1 : w.cell? ⟨gb, 0, none⟩ = some (.int .i64 y)) (hg : gb < w.heap.size) :
    Calls Try.prog 65 #[.agg #[.int .i64 p.k, .int .i64 p.a], .pointer (some ⟨gb, 0, none⟩)] w fun e w' => e = .returned (.bool (p.k == y)) ∧ Below w.heap.size w w' := by
  obtain ⟨k, a⟩ := p
  go_enter Try.func65, Try.ntmps65
  go_wp2
  go_ret
  exact ⟨rfl, (Below.refl _ _).alloc (Nat.le_refl _) _⟩

set_option maxHeartbeats 1600000 in
theorem index_row (gb : Nat) (y : Int) (A : Option Addr) (n c : Nat) (rs : List Rk) (w : World) (hn : n = rs.length) (h : WS w w.heap.size A rs) (hs : n ≤ 2000000) (h1 : w.cell? ⟨gb, 0, none⟩ = some (.int .i64 y)) (hg : gb < w.heap.size) :
    Calls Try.prog 64 #[.slice A n c, .func (.func 65) #[] #[.pointer (some ⟨gb, 0, none⟩)]] w fun e w' => e = .returned (.int .i64 (plc (kyW rs) y)) ∧ Below w.heap.size w w' := by
  have hcf : ∀ (a b : Int) (w : World), (callFunc 65 #[.agg #[.int .i64 a, .int .i64 b], .pointer (some ⟨gb, 0, none⟩)]).run Try.prog w = .ok (.enter 65 #[.agg #[.int .i64 a, .int .i64 b], .pointer (some ⟨gb, 0, none⟩)]) w := fun a b w => by kernel_rfl
  have H := Lib.hid h
  have HN := Lib.hid hn
  have H1 := Lib.hid h1
  have HCF := Lib.hid hcf
  clear h hn h1 hcf
  go_enter Try.func64, Try.ntmps64
  go_wp2
  go_loopw [8] (fun i wr => ∃ k : Nat, k ≤ n ∧ i = .int .i64 k ∧ Hid (∀ j, j < k → (kyW rs).getD j 0 ≠ y) ∧ Below w.heap.size w wr) (fun i _ => n - (intOf i).toNat)
  case atStart => exact ⟨0, Nat.zero_le _, rfl, fun j hj => by omega, Below.refl _ _⟩
  case round =>
    obtain ⟨k, hk, rfl, HA, hb⟩ := hrel
    have hwr := hb.size
    by_cases hlt : k < n
    · obtain ⟨b, off, rfl, hbB, c0, c1⟩ := H.out.at_ k (by have := HN.out; omega)
      have q0 := (hb.cell (p := ⟨b, off + k * 2, none⟩) hbB).trans c0
      have q1 := (hb.cell (p := ⟨b, off + k * 2 + 1, none⟩) hbB).trans c1
      have HKG := Lib.hid (kyW_get rs k)
      generalize rs.getD k default = p at *
      have hcf := HCF.out p.k p.a
      have HM := Lib.hid (match1_at gb p y wr ((hb.cell (p := ⟨gb, 0, none⟩) hg).trans H1.out) (by omega))
      clear c0 c1
      cases hky : (p.k == y)
      · rw [hky] at HM
        have HNE : Hid (∀ j, j < k + 1 → (kyW rs).getD j 0 ≠ y) := fun j hj => by
          rcases Nat.lt_or_ge j k with h2 | h2
          · exact HA.out j h2
          · obtain rfl : j = k := by omega
            rw [HKG.out]; simpa using hky
        clear hky
        go_wp2_with fail
        refine HM.out.mono ?_
        rintro e w2 ⟨rfl, hb2⟩
        go_wp2
        go_roundw
        case rel => exact ⟨k + 1, by omega, by go_num, HNE.out, hb.trans (hb2.mono hwr)⟩
        case measure => simp [intOf]; omega
      · rw [hky] at HM
        have hpl := plc_at (kyW rs) y k (by rw [kyW_len]; have := HN.out; omega) (by rw [HKG.out]; simpa using hky) HA.out
        have HPL := Lib.hid hpl
        clear hky hpl
        go_wp2_with fail
        refine HM.out.mono ?_
        rintro e w2 ⟨rfl, hb2⟩
        go_wp2
        go_ret
        exact ⟨ret_i (by rw [HPL.out]), hb.trans (hb2.mono hwr)⟩
    · go_wp2
      go_ret
      exact ⟨ret_i (plc_none (kyW rs) y fun j hj => HA.out j (by rw [kyW_len] at hj; have := HN.out; omega)).symm, hb⟩

set_option maxRecDepth 100000 in
set_option maxHeartbeats 6400000 in
theorem top_spec_MatchRows (rs : List Rk) (nx : Int) (ys : List Int) (hL : rs.length ≤ 1048576) (hL2 : ys.length ≤ 1048576) : ∀ (A : Option Addr) (n c : Nat) (A' : Option Addr) (m c' : Nat) (w : World), n = rs.length → n ≤ c → WS w w.heap.size A rs → m = ys.length → m ≤ c' → IS w w.heap.size A' ys →
    Calls Try.prog 33 #[.slice A n c, .int .i64 nx, .slice A' m c'] w fun e w' => RetWI w (matchF rs nx ys) (matchN rs nx ys) e w' := by
  intro A n c A' m c' w hn hnc h hm hmc h'
  obtain ⟨i1, hi1, hy0, hy1, hy2⟩ := info_parts info_row
  have hn1 : n ≤ 1048576 := by omega
  have hm1 : m ≤ 1048576 := by omega
  have HVR := Lib.hid (spec_validRows A n c rs nx w w.heap.size (Nat.le_refl _) hn h hn1)
  have HVK := Lib.hid fun (w' : World) (hb : Below w.heap.size w w') => spec_validKeys A' m c' ys w' w.heap.size hb.size hm hmc (h'.below hb (Nat.le_refl _)) (by omega)
  have hpt := rowsOK_parts rs nx
  have hmF : matchF rs nx ys = if matchB rs nx ys then (mtc rs ys nx ys.length).1 else [] := rfl
  have hmN : matchN rs nx ys = if matchB rs nx ys then (mtc rs ys nx ys.length).2 else -1 := rfl
  have hmB : matchB rs nx ys = ((rowsOK rs nx && validK ys) && decide ((mtc rs ys nx ys.length).2 ≤ 100)) := rfl
  generalize rowsOK rs nx = r at *
  generalize validK ys = s at *
  have H := Lib.hid h
  have HN := Lib.hid hn
  have H' := Lib.hid h'
  have HM := Lib.hid hm
  have HMF := Lib.hid hmF
  have HMN := Lib.hid hmN
  have HMB := Lib.hid hmB
  clear hn h hm h' hnc hmc hmF hmN hmB hL hL2
  cases r
  · have HB0 : Hid (matchB rs nx ys = false) := by rw [HMB.out]; exact Lib.hid rfl
    clear hpt
    go_enter Try.func33, Try.ntmps33
    go_wp2_with fail
    refine HVR.out.mono ?_
    rintro e w1 ⟨rfl, hb⟩
    go_wp2
    go_ret2
    rw [HMF.out, HMN.out, HB0.out]
    exact ⟨_, rfl, World.ownsRow_nil _ _ _ _, hb⟩
  cases s
  · have HB0 : Hid (matchB rs nx ys = false) := by rw [HMB.out]; exact Lib.hid rfl
    clear hpt
    go_enter Try.func33, Try.ntmps33
    go_wp2_with fail
    refine HVR.out.mono ?_
    rintro e w1 ⟨rfl, hb⟩
    go_wp2_with fail
    refine (HVK.out _ hb).mono ?_
    rintro e w2 ⟨rfl, hb2⟩
    go_wp2
    go_ret2
    rw [HMF.out, HMN.out, HB0.out]
    exact ⟨_, rfl, World.ownsRow_nil _ _ _ _, hb.trans (hb2.mono hb.size)⟩
  have HMB2 : Hid (matchB rs nx ys = decide ((mtc rs ys nx ys.length).2 ≤ 100)) := by rw [HMB.out]; exact Lib.hid (by simp)
  obtain ⟨hx0, hx1, hnd, hn10, hids⟩ := hpt rfl
  have HND := Lib.hid hnd
  have HIDS := Lib.hid hids
  rw [← HM.out] at HMF HMN HMB2
  clear hpt hnd hids hn10 HMB
  go_enter Try.func33, Try.ntmps33
  go_wp2_with fail
  refine HVR.out.mono ?_
  rintro e w1 ⟨rfl, hb⟩
  go_wp2_with fail
  refine (HVK.out _ hb).mono ?_
  rintro e w2 ⟨rfl, hb2⟩
  have HB2 := Lib.hid (hb.trans (hb2.mono hb.size))
  have hw2 := HB2.out.size
  have HZ : Hid (mtc rs ys nx 0 = ([], nx)) := rfl
  clear hb hb2 HVR HVK
  have HO0 : Hid (OwnW (w2.alloc (.cells #[] 63)) w.heap.size (.slice (some ⟨w2.heap.size, 0, none⟩) 0 0) []) := World.ownsRow_lit (e := 63) (size := 2) w2 #[] 0 hw2 (by unfold maxLen; omega) rfl
  go_wp2
  go_loopw [8, 1, 9] (fun v q i wr => ∃ k : Nat, k ≤ m ∧ i = .int .i64 k ∧ q = .int .i64 (mtc rs ys nx k).2 ∧ Hid (OwnW wr w.heap.size v (mtc rs ys nx k).1) ∧ Hid (Below w.heap.size w wr)) (fun _ _ i _ => m - (intOf i).toNat)
  case atStart => exact ⟨0, Nat.zero_le _, rfl, by rw [HZ.out], by rw [HZ.out]; exact HO0.out, HB2.out.alloc hw2 _⟩
  case round =>
    obtain ⟨k, hk, rfl, rfl, HO, HB⟩ := hrel
    have hwr : w.heap.size ≤ wr.heap.size := HB.out.size
    have hmb := mtc_bd rs ys nx k
    by_cases hlt : k < m
    · have hky : k < ys.length := by have := HM.out; omega
      obtain ⟨b2, o2, rfl, hbB2, hc2⟩ := (H'.out.below HB.out (Nat.le_refl _)) (by omega)
      have y0 := hc2 k hky
      have HYE := Lib.hid (mtc_yes rs ys nx k)
      have HNO := Lib.hid (mtc_no rs ys nx k)
      have hla := lid_all rs (ys.getD k 0) HND.out
      have hid := HIDS.out (ys.getD k 0)
      have HL0 : Hid (lid rs (ys.getD k 0) 0 = -1) := rfl
      generalize hy : ys.getD k 0 = y at *
      generalize mtc rs ys nx k = S at *
      obtain ⟨F, q⟩ := S
      obtain ⟨hF1, hF2, hF3⟩ := hmb
      simp only at hF1 hF2 hF3 HYE HNO HO ⊢
      have HFL := Lib.hid hF1
      rw [← HN.out] at hla
      have HLA := Lib.hid hla
      have HID := Lib.hid hid
      have HY := Lib.hid hy
      clear hF1 hc2 hy hla hid
      go_wp2
      go_loopw [10, 11] (fun z j wx => ∃ d : Nat, d ≤ n ∧ j = .int .i64 d ∧ z = .int .i64 (lid rs y d) ∧ Hid (OwnW wx w.heap.size u8 F) ∧ Hid (Below w.heap.size w wx)) (fun _ j _ => n - (intOf j).toNat)
      case atStart => exact ⟨0, Nat.zero_le _, rfl, by rw [HL0.out], HO.out, HB.out⟩
      case round =>
        clear HO HB
        obtain ⟨d, hd, rfl, rfl, HO, HB⟩ := hrel
        have hwr : w.heap.size ≤ wr.heap.size := HB.out.size
        have y1 : wr.cell? ⟨b2, o2 + k, none⟩ = some (.int .i64 y) := by
          obtain ⟨b3, o3, e3, _, hc3⟩ := (H'.out.below HB.out (Nat.le_refl _)) (by omega)
          cases e3
          rw [hc3 k hky, HY.out]
        by_cases hdn : d < n
        · obtain ⟨b, off, rfl, hbB, c0, c1⟩ := H.out.at_ d (by have := HN.out; omega)
          have q0 := (HB.out.cell (p := ⟨b, off + d * 2, none⟩) hbB).trans c0
          have q1 := (HB.out.cell (p := ⟨b, off + d * 2 + 1, none⟩) hbB).trans c1
          have HLY := Lib.hid (lid_yes rs y d)
          have HLN := Lib.hid (lid_no rs y d)
          generalize rs.getD d default = p at *
          generalize lid rs y d = z at *
          have hdi : (d : Int) < (n : Int) := by omega
          have hki : (k : Int) < (m : Int) := by omega
          clear c0 c1 y0
          by_cases hpy : p.k = y
          · have hb1 : (p.k == y) = true := by simp [hpy]
            have HL2 := Lib.hid (HLY.out hpy)
            clear HLY HLN hpy
            go_wp2
            go_quiet (fail)
            go_wp2
            go_roundw
            case rel => exact ⟨d + 1, by omega, by go_num, by rw [HL2.out], HO.out, drewN_b HB.out⟩
            case measure => simp [intOf]; omega
          · have hb1 : (p.k == y) = false := by simp [hpy]
            have HL2 := Lib.hid (HLN.out hpy)
            clear HLY HLN hpy
            go_wp2
            go_quiet (fail)
            go_wp2
            go_roundw
            case rel => exact ⟨d + 1, by omega, by go_num, by rw [HL2.out], HO.out, drewN_b HB.out⟩
            case measure => simp [intOf]; omega
        · obtain rfl : d = n := by omega
          have hw4 : F.length ≤ 1048576 := by have := HFL.out; omega
          by_cases hym : y ∈ kyW rs
          · have hl2 : lid rs y d = idOf rs y := by rw [HLA.out, if_pos hym]
            obtain ⟨hd0, hd1⟩ := HID.out hym
            have HS2 := Lib.hid (HYE.out hym)
            have hneg : decide (idOf rs y < 0) = false := decide_eq_false (by omega)
            rw [hl2]
            generalize idOf rs y = z at *
            clear hl2 hym HYE HNO HLA HID y0
            go_wp2_with (at_builtin; refine wpList_append_own _ rfl _ _ 41 rfl w.heap.size 63 i1 _ 2 16 Try.underlying41 hi1 hy0 hy1 hy2 rfl (by decide) _ _ _ rfl (HO.out.alloc _) ⟨_, 0, none⟩ 1 1 (Rk.cells ⟨y, z⟩) rfl rfl (acells_new _ _ _ _ rfl) ?c2 ?c3 ?c4 ?c5 ?_)
            case c2 => intro u hu; simp [Rk.cells] at hu; rcases hu with rfl | rfl <;> rfl
            case c3 => have := HFL.out; unfold maxLen; omega
            case c4 => have := HFL.out; omega
            case c5 => first | omega | (simp; omega)
            intro v' w5 hown' hgrow _
            have hpos := (World.ownsRow.alloc HO.out (.cells #[.int .i64 (y), .int .i64 (z)] 63)).lt
            have HO' : Hid (OwnW w5 w.heap.size v' (F ++ [⟨y, z⟩])) := by
              unfold OwnW
              rw [List.length_append, List.flatMap_append]
              simpa [Hid] using hown'
            have HB' := Lib.hid ((HB.out.alloc hwr (.cells #[.int .i64 (y), .int .i64 (z)] 63)).grown hgrow (by first | (simp; omega) | omega) (fun q hq => (hpos q hq).1))
            clear hown' hgrow hpos
            go_wp2
            go_roundw
            case rel => exact ⟨k + 1, by omega, by go_num, by rw [HS2.out], by rw [HS2.out]; exact HO'.out, HB'.out⟩
            case measure => simp [intOf]; omega
          · have hl2 : lid rs y d = -1 := by rw [HLA.out, if_neg hym]
            have HS2 := Lib.hid (HNO.out hym)
            rw [hl2]
            clear hl2 hym HYE HNO HLA HID y0
            go_wp2_with (at_builtin; refine wpList_append_own _ rfl _ _ 41 rfl w.heap.size 63 i1 _ 2 16 Try.underlying41 hi1 hy0 hy1 hy2 rfl (by decide) _ _ _ rfl (HO.out.alloc _) ⟨_, 0, none⟩ 1 1 (Rk.cells ⟨y, q⟩) rfl rfl (acells_new _ _ _ _ rfl) ?d2 ?d3 ?d4 ?d5 ?_)
            case d2 => intro u hu; simp [Rk.cells] at hu; rcases hu with rfl | rfl <;> rfl
            case d3 => have := HFL.out; unfold maxLen; omega
            case d4 => have := HFL.out; omega
            case d5 => first | omega | (simp; omega)
            intro v' w5 hown' hgrow _
            have hpos := (World.ownsRow.alloc HO.out (.cells #[.int .i64 (y), .int .i64 (q)] 63)).lt
            have HO' : Hid (OwnW w5 w.heap.size v' (F ++ [⟨y, q⟩])) := by
              unfold OwnW
              rw [List.length_append, List.flatMap_append]
              simpa [Hid] using hown'
            have HB' := Lib.hid ((HB.out.alloc hwr (.cells #[.int .i64 (y), .int .i64 (q)] 63)).grown hgrow (by first | (simp; omega) | omega) (fun q hq => (hpos q hq).1))
            clear hown' hgrow hpos
            go_wp2
            go_roundw
            case rel => exact ⟨k + 1, by omega, by go_num, by rw [HS2.out], by rw [HS2.out]; exact HO'.out, HB'.out⟩
            case measure => simp [intOf]; omega
    · obtain rfl : k = m := by omega
      obtain ⟨hF1, hF2, hF3⟩ := hmb
      generalize hS : mtc rs ys nx k = S at *
      obtain ⟨F, q⟩ := S
      simp only at hF1 hF2 hF3 HO ⊢
      have HS := Lib.hid hS
      clear hS hF1
      by_cases h100 : q ≤ 100
      · have hgt : decide (100 < q) = false := decide_eq_false (by omega)
        have hle : decide (q ≤ 100) = true := decide_eq_true h100
        have HLE := Lib.hid hle
        clear h100 hle
        go_wp2
        go_ret2
        rw [HMF.out, HMN.out, HMB2.out, HLE.out]
        exact ⟨_, rfl, HO.out, HB.out⟩
      · have hgt : 100 < q := by omega
        have hle : decide (q ≤ 100) = false := decide_eq_false h100
        have HLE := Lib.hid hle
        clear h100 hle
        go_wp2
        go_ret2
        rw [HMF.out, HMN.out, HMB2.out, HLE.out]
        exact ⟨_, rfl, World.ownsRow_nil _ _ _ _, HB.out⟩
end Go.Proofs.Ytjlfabfejnpaaaa
