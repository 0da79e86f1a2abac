/- impl.putBehind, impl.takeAway, impl.applyChange, impl.ApplyPatch. -/
import Derived.Test.YtlbomopjldhmeaaK19
import Derived.Test.YtlbomopjldhmeaaB2a

namespace Go.Proofs.Ytlbomopjldhmeaa
set_option linter.unusedSimpArgs false
set_option linter.unusedVariables false
open Go.RowKit

theorem In30.no_neg {xs : List Int} (h : In30 xs) (u : Int) (hu : u < 0) : plc xs u = -1 := by
  unfold plc
  rw [if_neg]
  intro hm
  have := (h u hm).1
  omega
theorem putB_eq {xs : List Int} (h : In30 xs) (u k : Int) : putB xs u k = ((decide (u = -1) || decide (0 ≤ plc xs u)) && rng k 0 30) := by
  unfold putB
  by_cases h1 : u < -1
  · rw [decide_eq_false (show ¬ -1 ≤ u by omega), decide_eq_false (show ¬ u = -1 by omega), h.no_neg u (by omega)]; rfl
  · rw [decide_eq_true (show -1 ≤ u by omega)]
    by_cases h2 : u = -1
    · subst h2; rfl
    · have h0 : 0 ≤ u := by omega
      rw [putP_zero xs u h0, decide_eq_false h2, decide_eq_true h0]
      by_cases h3 : plc xs u < 0
      · rw [decide_eq_true h3, decide_eq_false (show ¬ 0 ≤ plc xs u by omega)]; rfl
      · rw [decide_eq_false h3, decide_eq_true (show 0 ≤ plc xs u by omega)]; rfl
theorem putP_eq {xs : List Int} (h : In30 xs) (u : Int) (hu : u = -1 ∨ 0 ≤ plc xs u) : plc xs u + 1 = ((putP xs u : Nat) : Int) := by
  unfold putP
  rcases hu with rfl | hu
  · rw [h.no_neg _ (by omega)]; rfl
  · have : 0 ≤ u := by
      rcases Int.lt_or_le u 0 with h1 | h1
      · rw [h.no_neg u h1] at hu; omega
      · exact h1
    rw [if_pos this]; omega

/-- Returns keys and true, or nothing and false; of what was there the block g may have turned. -/
def RetQP (base g : Nat) (w : World) (b : Bool) (ys : List Int) (e : Ending) (w' : World) : Prop :=
  (b = true ∧ ∃ (g' cap l : Nat), e = .returned (.tuple #[.slice (some ⟨g', 0, none⟩) l cap, .bool true]) ∧ l = ys.length ∧ w'.ownsRow base 3 1 (.slice (some ⟨g', 0, none⟩) l cap) l (ys.map (Value.int .i64)) ∧ w.grownBy w' (some g)) ∨
  (b = false ∧ e = .returned (.tuple #[.slice none 0 0, .bool false]) ∧ w.grownBy w' (some g))
def RetQB (base : Nat) (w : World) (b : Bool) (ys : List Int) (e : Ending) (w' : World) : Prop :=
  (b = true ∧ ∃ (g' cap l : Nat), e = .returned (.tuple #[.slice (some ⟨g', 0, none⟩) l cap, .bool true]) ∧ l = ys.length ∧ w'.ownsRow base 3 1 (.slice (some ⟨g', 0, none⟩) l cap) l (ys.map (Value.int .i64)) ∧ Below base w w') ∨
  (b = false ∧ e = .returned (.tuple #[.slice none 0 0, .bool false]) ∧ Below base w w')
theorem grown_below' {base g : Nat} {w w' : World} (h : w.grownBy w' (some g)) (hb : base ≤ w.heap.size) (hg : base ≤ g) : Below base w w' :=
  (Below.refl base w).grown h hb (fun k hk => by cases hk; exact hg)
theorem RetQP.below {base g : Nat} {w0 w w' : World} {b : Bool} {ys : List Int} {e : Ending} (h : RetQP base g w b ys e w') (hb : Below base w0 w) (hs : base ≤ w.heap.size) (hg : base ≤ g) : RetQB base w0 b ys e w' := by
  rcases h with ⟨h1, g', cap, l, h2, h3, h4, h5⟩ | ⟨h1, h2, h3⟩
  · exact .inl ⟨h1, g', cap, l, h2, h3, h4, hb.trans (grown_below' h5 hs hg)⟩
  · exact .inr ⟨h1, h2, hb.trans (grown_below' h3 hs hg)⟩

set_option maxRecDepth 100000 in
set_option maxHeartbeats 3200000 in
theorem impl_putBehind (base g n cap : Nat) (xs : List Int) (u k : Int) (w : World) (ho : w.ownsRow base 3 1 (.slice (some ⟨g, 0, none⟩) n cap) n (xs.map (Value.int .i64))) (hs : n ≤ 1000) (hbase : base ≤ w.heap.size) (hI : In30 xs) :
    Calls Try.prog 62 #[.slice (some ⟨g, 0, none⟩) n cap, .int .i64 u, .int .i64 k] w fun e w' => RetQP base g w (decide (u = -1) || decide (0 ≤ plc xs u)) (putF xs u k) e w' := by
  have hl : n = xs.length := by have := ho.1; simpa using this.symm
  have HO := Lib.hid ho
  have hgl := (ho.lt g rfl).2
  have HL := Lib.hid hl
  have HIX := Lib.hid (slices_Index (some ⟨g, 0, none⟩) n cap xs u w w.heap.size (Nat.le_refl _) hl (IS.of_own ho) (by omega))
  have hpn := putP_le xs u
  rw [← hl] at hpn
  have hpe := putP_eq hI u
  have HPF : Hid (putF xs u k = xs.take (putP xs u) ++ [k] ++ xs.drop (putP xs u)) := rfl
  clear ho hl
  generalize putF xs u k = Y at *
  generalize putP xs u = P at *
  generalize plc xs u = q at *
  by_cases hb : u = -1 ∨ 0 ≤ q
  · have hB : (decide (u = -1) || decide (0 ≤ q)) = true := by
      rcases hb with h | h <;> simp [h]
    have hw : IntKind.i64.wrap (q + 1) = ((P : Nat) : Int) := by have := hpe hb; rw [IntKind.wrap_i64] <;> omega
    rw [hB]
    have HIN := Lib.hid (slices_Insert1 base g n cap P w.heap.size xs k (w.alloc (.cells #[.int .i64 k] 3)) (HO.out.alloc _) hpn hs (by simp; omega) (by omega) (heap_alloc_new w _))
    by_cases hq : q < 0
    · have hu : u = -1 := by omega
      have hu1 : (u != -1) = false := by simp [hu]
      clear hb hB hpe hu
      go_enter Try.func62, Try.ntmps62
      go_wp2_with fail
      refine HIX.out.mono ?_
      rintro e w' ⟨rfl, rfl⟩
      go_wp2_with fail
      refine HIN.out.mono ?_
      rintro e w3 ⟨g', c', l, rfl, hl3, ho3, hg3⟩
      have HK : Hid (RetQP base g w true Y (.returned (.tuple #[.slice (some ⟨g', 0, none⟩) l c', .bool true])) w3) := .inl ⟨rfl, g', c', l, rfl, by rw [hl3, HPF.out], by rw [HPF.out]; exact ho3, grown_tr (World.grownBy_alloc _ _ _) hg3⟩
      clear hl3 ho3 hg3
      go_wp2
      go_ret2
      exact HK.out
    · clear hb hB hpe
      go_enter Try.func62, Try.ntmps62
      go_wp2_with fail
      refine HIX.out.mono ?_
      rintro e w' ⟨rfl, rfl⟩
      go_wp2_with fail
      refine HIN.out.mono ?_
      rintro e w3 ⟨g', c', l, rfl, hl3, ho3, hg3⟩
      have HK : Hid (RetQP base g w true Y (.returned (.tuple #[.slice (some ⟨g', 0, none⟩) l c', .bool true])) w3) := .inl ⟨rfl, g', c', l, rfl, by rw [hl3, HPF.out], by rw [HPF.out]; exact ho3, grown_tr (World.grownBy_alloc _ _ _) hg3⟩
      clear hl3 ho3 hg3
      go_wp2
      go_ret2
      exact HK.out
  · have hB : (decide (u = -1) || decide (0 ≤ q)) = false := by
      rw [decide_eq_false (fun h => hb (.inl h)), decide_eq_false (fun h => hb (.inr h))]; rfl
    have hq : q < 0 := by omega
    have hu1 : (u != -1) = true := by have : ¬ u = -1 := fun h => hb (.inl h); simp [this]
    rw [hB]
    clear hb hB hpe
    go_enter Try.func62, Try.ntmps62
    go_wp2_with fail
    refine HIX.out.mono ?_
    rintro e w' ⟨rfl, rfl⟩
    go_wp2
    go_ret2
    exact .inr ⟨rfl, rfl, grown_refl _ _⟩

set_option maxRecDepth 100000 in
set_option maxHeartbeats 3200000 in
theorem impl_takeAway (base g n cap : Nat) (xs : List Int) (x : Int) (w : World) (ho : w.ownsRow base 3 1 (.slice (some ⟨g, 0, none⟩) n cap) n (xs.map (Value.int .i64))) (hs : n ≤ 1000) :
    Calls Try.prog 60 #[.slice (some ⟨g, 0, none⟩) n cap, .int .i64 x] w fun e w' => RetQP base g w (decide (x ∈ xs)) (remF xs x) e w' := by
  have hl : n = xs.length := by have := ho.1; simpa using this.symm
  have HIX := Lib.hid (slices_Index (some ⟨g, 0, none⟩) n cap xs x w w.heap.size (Nat.le_refl _) hl (IS.of_own ho) (by omega))
  by_cases hm : x ∈ xs
  · obtain ⟨p, hp, hpn, _⟩ := plc_index xs x hm
    rw [← hl] at hpn
    have HDE := Lib.hid (slices_Delete1 base g n cap p xs w ho hpn)
    have HRF : Hid (remF xs x = xs.take p ++ xs.drop (p + 1)) := by show remF xs x = _; unfold remF; rw [hp]; rfl
    rw [hp] at HIX
    rw [decide_eq_true hm]
    have hw : IntKind.i64.wrap ((p : Int) + 1) = ((p + 1 : Nat) : Int) := by rw [IntKind.wrap_i64] <;> omega
    have hpp : ¬ (p : Int) < 0 := by omega
    generalize remF xs x = Y at *
    clear ho hl hm hp
    go_enter Try.func60, Try.ntmps60
    go_wp2_with fail
    refine HIX.out.mono ?_
    rintro e w' ⟨rfl, rfl⟩
    go_wp2_with fail
    refine HDE.out.mono ?_
    rintro e w3 ⟨l, rfl, hl3, ho3, hg3⟩
    have HK : Hid (RetQP base g w true Y (.returned (.tuple #[.slice (some ⟨g, 0, none⟩) l cap, .bool true])) w3) := .inl ⟨rfl, g, cap, l, rfl, by rw [hl3, HRF.out], by rw [HRF.out]; exact ho3, hg3⟩
    clear hl3 ho3 hg3
    go_wp2
    go_ret2
    exact HK.out
  · have hp : plc xs x = -1 := by unfold plc; rw [if_neg hm]
    rw [hp] at HIX
    rw [decide_eq_false hm]
    clear ho hl hm hp
    go_enter Try.func60, Try.ntmps60
    go_wp2_with fail
    refine HIX.out.mono ?_
    rintro e w' ⟨rfl, rfl⟩
    go_wp2
    go_ret2
    exact .inr ⟨rfl, rfl, grown_refl _ _⟩

set_option maxRecDepth 100000 in
set_option maxHeartbeats 6400000 in
theorem impl_applyChange (base g n cap : Nat) (xs : List Int) (x : Ac) (w : World) (ho : w.ownsRow base 3 1 (.slice (some ⟨g, 0, none⟩) n cap) n (xs.map (Value.int .i64))) (hs : n ≤ 900) (hbase : base ≤ w.heap.size) (hI : In30 xs) :
    Calls Try.prog 40 #[.slice (some ⟨g, 0, none⟩) n cap, .agg #[.int .i64 x.k, .int .i64 x.a, .int .i64 x.b]] w fun e w' => RetQB base w (oneB xs x) (oneL xs x) e w' := by
  obtain ⟨k, a, u⟩ := x
  have HB : Hid (oneB xs ⟨k, a, u⟩ = if k = 0 then decide (a ∈ xs) && decide (u = -1) else if k = 1 then !decide (a ∈ xs) && putB xs u a else if k = 2 then decide (a ∈ xs) && putB (remF xs a) u a else false) := rfl
  have HY : Hid (oneL xs ⟨k, a, u⟩ = if k = 0 then remF xs a else if k = 1 then putF xs u a else putF (remF xs a) u a) := rfl
  generalize oneB xs ⟨k, a, u⟩ = B at *
  generalize oneL xs ⟨k, a, u⟩ = Y at *
  obtain ⟨W, hW⟩ : ∃ W, W = w.alloc (.cells #[.int .i64 k, .int .i64 a, .int .i64 u] 44) := ⟨_, rfl⟩
  have hb0 : Below base w W := by rw [hW]; exact (below_new w _).mono hbase
  have q0 : W.cell? ⟨w.heap.size, 0, none⟩ = some (.int .i64 k) := by rw [hW]; go_simp
  have q1 : W.cell? ⟨w.heap.size, 1, none⟩ = some (.int .i64 a) := by rw [hW]; go_simp
  have q2 : W.cell? ⟨w.heap.size, 2, none⟩ = some (.int .i64 u) := by rw [hW]; go_simp
  have hbl : w.heap.size < W.heap.size := by rw [hW]; simp
  have HO : Hid (W.ownsRow base 3 1 (.slice (some ⟨g, 0, none⟩) n cap) n (xs.map (Value.int .i64))) := by rw [hW]; exact ho.alloc _
  have hgl := ho.lt g rfl
  have hgb := hgl.1
  have hgn : g ≠ w.heap.size := by omega
  have hbW : base ≤ W.heap.size := by omega
  have HBB := Lib.hid hb0
  have HI := Lib.hid hI
  have hl : n = xs.length := by have := ho.1; simpa using this.symm
  have HL := Lib.hid hl
  clear ho hb0 hI hgl
  by_cases k0 : k = 0
  · have hB : B = (decide (a ∈ xs) && decide (u = -1)) := by rw [HB.out, if_pos k0]
    have hY : Y = remF xs a := by rw [HY.out, if_pos k0]
    subst k0
    by_cases hu : u = -1
    · have e1 : (u == -1) = true := by simp [hu]
      rw [decide_eq_true hu, Bool.and_true] at hB
      have HTA := Lib.hid (impl_takeAway base g n cap xs a W HO.out (by omega))
      rw [← hB, ← hY] at HTA
      clear HB HY hB hY hu hl
      go_enter Try.func40, Try.ntmps40
      go_upto_region 1 with fail
      rw [← hW]
      clear hW
      go_wp2_with fail
      refine HTA.out.mono ?_
      rintro e w3 hr
      have HR := Lib.hid (hr.below HBB.out hbW hgb)
      rcases hr with ⟨rfl, g', c', l, rfl, -, -, -⟩ | ⟨rfl, rfl, -⟩
      · go_wp2
        go_ret2
        exact HR.out
      · go_wp2
        go_ret2
        exact HR.out
    · have e1 : (u == -1) = false := by simp [hu]
      have hB2 : B = false := by rw [hB, decide_eq_false hu]; simp
      clear HB HY hB hY hu hl
      go_enter Try.func40, Try.ntmps40
      go_upto_region 1 with fail
      rw [← hW]
      clear hW
      go_wp2
      go_ret2
      exact .inr ⟨by first | exact hB2 | rfl, rfl, HBB.out⟩
  have e0 : (k == 0) = false := by simp [k0]
  by_cases k1 : k = 1
  · have hB : B = (!decide (a ∈ xs) && putB xs u a) := by rw [HB.out, if_neg k0, if_pos k1]
    have hY : Y = putF xs u a := by rw [HY.out, if_neg k0, if_pos k1]
    rw [putB_eq HI.out] at hB
    subst k1
    have HRN := Lib.hid (impl_inRange a 30 W)
    have HCT := Lib.hid (slices_Contains (some ⟨g, 0, none⟩) n cap xs a W W.heap.size (Nat.le_refl _) hl (IS.of_own HO.out) (by omega))
    have HPB := Lib.hid (impl_putBehind base g n cap xs u a W HO.out (by omega) hbW HI.out)
    rw [← hY] at HPB
    generalize (decide (u = -1) || decide (0 ≤ plc xs u)) = B1 at *
    generalize hd : decide (a ∈ xs) = d at *
    generalize hr : rng a 0 30 = r at *
    clear HB HY hY hd hr hl k0
    cases r
    · have hB2 : B = false := by rw [hB]; simp
      clear hB
      go_enter Try.func40, Try.ntmps40
      go_upto_region 1 with fail
      rw [← hW]
      clear hW
      go_wp2_with fail
      refine HRN.out.mono ?_
      rintro e w' ⟨rfl, rfl⟩
      go_wp2
      go_ret2
      exact .inr ⟨by first | exact hB2 | rfl, rfl, HBB.out⟩
    · cases d
      · have hB2 : B = B1 := by rw [hB]; simp
        rw [← hB2] at HPB
        clear hB hB2
        go_enter Try.func40, Try.ntmps40
        go_upto_region 1 with fail
        rw [← hW]
        clear hW
        go_wp2_with fail
        refine HRN.out.mono ?_
        rintro e w' ⟨rfl, rfl⟩
        go_wp2_with fail
        refine HCT.out.mono ?_
        rintro e w' ⟨rfl, rfl⟩
        go_wp2_with fail
        refine HPB.out.mono ?_
        rintro e w3 hr
        have HR := Lib.hid (hr.below HBB.out hbW hgb)
        rcases hr with ⟨rfl, g', c', l, rfl, -, -, -⟩ | ⟨rfl, rfl, -⟩
        · go_wp2
          go_ret2
          exact HR.out
        · go_wp2
          go_ret2
          exact HR.out
      · have hB2 : B = false := by rw [hB]; simp
        clear hB
        go_enter Try.func40, Try.ntmps40
        go_upto_region 1 with fail
        rw [← hW]
        clear hW
        go_wp2_with fail
        refine HRN.out.mono ?_
        rintro e w' ⟨rfl, rfl⟩
        go_wp2_with fail
        refine HCT.out.mono ?_
        rintro e w' ⟨rfl, rfl⟩
        go_wp2
        go_ret2
        exact .inr ⟨by first | exact hB2 | rfl, rfl, HBB.out⟩
  have e1 : (k == 1) = false := by simp [k1]
  by_cases k2 : k = 2
  · have hB : B = (decide (a ∈ xs) && putB (remF xs a) u a) := by rw [HB.out, if_neg k0, if_neg k1, if_pos k2]
    have hY : Y = putF (remF xs a) u a := by rw [HY.out, if_neg k0, if_neg k1]
    have HTA := Lib.hid (impl_takeAway base g n cap xs a W HO.out (by omega))
    have HI2 := Lib.hid (HI.out.rem a)
    rw [putB_eq HI2.out] at hB
    have HRA : Hid (decide (a ∈ xs) = true → rng a 0 30 = true) := fun h => by
      have h1 := HI.out a (of_decide_eq_true h)
      unfold rng
      exact decide_eq_true h1
    have HRL : Hid (decide (a ∈ xs) = true → (remF xs a).length + 1 = xs.length) := fun h => remF_len xs a (of_decide_eq_true h)
    subst k2
    have HPB := Lib.hid fun (g' l c' : Nat) (w3 : World) (ho : w3.ownsRow base 3 1 (.slice (some ⟨g', 0, none⟩) l c') l ((remF xs a).map (Value.int .i64))) (hs : l ≤ 1000) (hb : base ≤ w3.heap.size) => impl_putBehind base g' l c' (remF xs a) u a w3 ho hs hb HI2.out
    have HBE := Lib.hid hB
    have HYE := Lib.hid hY
    generalize hrm : remF xs a = Z at *
    generalize (decide (u = -1) || decide (0 ≤ plc Z u)) = B1 at *
    generalize putF Z u a = Y1 at *
    generalize decide (a ∈ xs) = d at *
    generalize rng a 0 30 = r at *
    clear HB HY hY hB hrm k0 k1 e0 e1 HI HI2 hl
    go_enter Try.func40, Try.ntmps40
    go_upto_region 1 with fail
    rw [← hW]
    clear hW
    go_wp2_with fail
    refine HTA.out.mono ?_
    rintro e w3 hr
    rcases hr with ⟨rfl, g', c', l, rfl, hl3, ho3, hg3⟩ | ⟨rfl, rfl, hg3⟩
    · have hr1 := HRA.out rfl
      subst hr1
      have hlb : l ≤ 1000 := by have := HRL.out rfl; have := HL.out; omega
      have p1 := hg3.cell q1 (by intro h; cases h; exact hgn rfl)
      have p2 := hg3.cell q2 (by intro h; cases h; exact hgn rfl)
      have hb3 := HBB.out.trans (grown_below' hg3 hbW hgb)
      have hbs : base ≤ w3.heap.size := Nat.le_trans hbW hg3.size
      have HPB2 := Lib.hid (HPB.out g' l c' w3 ho3 hlb hbs)
      have hgb' := (ho3.lt g' rfl).1
      have HB3 := Lib.hid hb3
      have hB2 : B = B1 := by rw [HBE.out]; simp
      have hY2 : Y = Y1 := HYE.out
      subst hB2 hY2
      clear hl3 ho3 hg3 hb3 HPB q0 q1 q2 HTA HRA HRL HBE HYE
      go_wp2_with fail
      refine HPB2.out.mono ?_
      rintro e w4 hr
      have HR := Lib.hid (hr.below HB3.out hbs hgb')
      rcases hr with ⟨rfl, g', c', l, rfl, -, -, -⟩ | ⟨rfl, rfl, -⟩
      · go_wp2
        go_ret2
        exact HR.out
      · go_wp2
        go_ret2
        exact HR.out
    · have hB2 : B = false := by rw [HBE.out]; simp
      have HB3 := Lib.hid (HBB.out.trans (grown_below' hg3 hbW hgb))
      clear hg3 HPB HTA HRA HRL HBE HYE
      go_wp2
      go_ret2
      exact .inr ⟨by first | exact hB2 | rfl, rfl, HB3.out⟩
  · have e2 : (k == 2) = false := by simp [k2]
    have hB2 : B = false := by rw [HB.out, if_neg k0, if_neg k1, if_neg k2]
    clear HB HY k0 k1 k2 hl
    go_enter Try.func40, Try.ntmps40
    go_upto_region 1 with fail
    rw [← hW]
    clear hW
    go_wp2
    go_ret2
    exact .inr ⟨by first | exact hB2 | rfl, rfl, HBB.out⟩

set_option maxRecDepth 100000 in
set_option maxHeartbeats 6400000 in
theorem top_impl_ApplyPatch (xs : List Int) (ac : List Ac) (hL : xs.length ≤ 1048576) (hL2 : ac.length ≤ 1048576) : ∀ (A : Option Addr) (n c : Nat) (A' : Option Addr) (m c' : Nat) (w : World), n = xs.length → n ≤ c → IS w w.heap.size A xs → m = ac.length → m ≤ c' → CS w w.heap.size A' ac →
    Calls Try.prog 13 #[.slice A n c, .slice A' m c'] w fun e w' => RetIB w (applyF xs ac) (applyB xs ac) e w' := by
  intro A n c A' m c' w hn hnc h hm hmc h'
  have HV := Lib.hid (impl_ValidKeys A n c xs w w.heap.size (Nat.le_refl _) hn hnc h (by omega))
  have HN := Lib.hid hn
  have HM := Lib.hid hm
  have H := Lib.hid h
  have HX := Lib.hid h'
  have HVL := Lib.hid (validK_len xs)
  have HVI := Lib.hid (validK_in30 xs)
  have hm1 : m ≤ 2000000 := by omega
  have hn1 : n ≤ 2000000 := by omega
  have HFB : Hid (applyB xs ac = (validK xs && decide (m ≤ 40) && okR (patched xs ac))) := by show _ = _; rw [hm]; rfl
  have HFF : Hid (applyF xs ac = if applyB xs ac then (patched xs ac).getD [] else []) := rfl
  have HST := Lib.hid fun (ys : List Int) (k : Nat) (hk : k < m) => patched_step ys ac k (by omega)
  have HDR : Hid (patched xs ac = patched xs (ac.drop 0)) := rfl
  have HDE : Hid (ac.drop m = []) := List.drop_eq_nil_of_le (by omega)
  generalize applyB xs ac = B at *
  generalize applyF xs ac = Y at *
  generalize patched xs ac = R at *
  have hno : B = false → Y = [] := fun hb => by rw [HFF.out, hb]; rfl
  have HNO := Lib.hid hno
  clear hn h hm h' hno hL hL2
  go_enter Try.func13, Try.ntmps13
  go_wp2_with fail
  refine HV.out.mono ?_
  rintro e w1 ⟨rfl, hb1⟩
  have HB1 := Lib.hid hb1
  generalize hv : validK xs = v at *
  have HVE := Lib.hid hv
  clear hb1 HV hv
  cases v
  · have hB : B = false := by rw [HFB.out]; rfl
    have hY := HNO.out hB
    subst hB hY
    clear HFB HFF HNO
    go_wp2
    go_ret2
    exact RetIB.nil HB1.out
  have hx10 := HVL.out rfl
  have HI := Lib.hid (HVI.out rfl)
  rw [← HN.out] at hx10
  clear HVL HVI
  by_cases hm40 : 40 < m
  · have hB : B = false := by rw [HFB.out, decide_eq_false (by omega)]; rfl
    have hY := HNO.out hB
    have hmi : (40 : Int) < (m : Int) := by omega
    subst hB hY
    clear HFB HFF HNO
    go_wp2
    go_ret2
    exact RetIB.nil HB1.out
  have hmi : ¬ (40 : Int) < (m : Int) := by omega
  have HFC : Hid (B = okR R) := by show _ = _; rw [HFB.out, decide_eq_true (by omega)]; rfl
  clear HFB
  have HCP := Lib.hid (impl_copyOf A n c xs w1 w.heap.size HB1.out.size HN.out (H.out.below HB1.out (Nat.le_refl _)) hn1)
  go_wp2_with fail
  refine HCP.out.mono ?_
  rintro e w2 ⟨rfl, hown2, hb2⟩
  have HO2 : Hid (w2.ownsRow w.heap.size 3 1 (.slice (some ⟨w1.heap.size, 0, none⟩) n n) n (xs.map (Value.int .i64))) := own_mono hown2 HB1.out.size
  have HB2 := Lib.hid (HB1.out.trans (hb2.mono HB1.out.size))
  clear hown2 hb2 HCP
  go_wp2
  go_loopw [6, 23] (fun v i wr => ∃ (k g cap l : Nat) (ys : List Int), k ≤ m ∧ i = .int .i64 k ∧ v = .slice (some ⟨g, 0, none⟩) l cap ∧ l ≤ 10 + k ∧ Hid (l = ys.length) ∧ Hid (In30 ys) ∧ Hid (wr.ownsRow w.heap.size 3 1 (.slice (some ⟨g, 0, none⟩) l cap) l (ys.map (Value.int .i64))) ∧ Hid (R = patched ys (ac.drop k)) ∧ Hid (Below w.heap.size w wr)) (fun _ i _ => m - (intOf i).toNat)
  case atStart => exact ⟨0, w1.heap.size, n, n, xs, Nat.zero_le _, rfl, rfl, by omega, HN.out, HI.out, HO2.out, HDR.out, HB2.out⟩
  case round =>
    obtain ⟨k, g, cap, l, ys, hk, rfl, rfl, hl10, HL, HI3, HO, HR, HB⟩ := hrel
    clear HO2 HB2 HDR HI
    by_cases hlt : k < m
    · have hka : k < ac.length := by have := HM.out; omega
      obtain ⟨b, off, rfl, hbB, hcs⟩ := HX.out (by omega)
      obtain ⟨c0, c1, c2⟩ := hcs k hka
      clear hcs
      have b0 := (HB.out.cell (p := ⟨b, off + k * 3, none⟩) (show b < w.heap.size by omega)).trans c0
      have b1 := (HB.out.cell (p := ⟨b, off + k * 3 + 1, none⟩) (show b < w.heap.size by omega)).trans c1
      have b2 := (HB.out.cell (p := ⟨b, off + k * 3 + 2, none⟩) (show b < w.heap.size by omega)).trans c2
      have hbr : b < wr.heap.size := by have := HB.out.size; omega
      have hst := HST.out ys k hlt
      rw [← HR.out] at hst
      have hol := oneL_len ys (ac.getD k default)
      have hoi := HI3.out.chg (c := ac.getD k default)
      clear c0 c1 c2
      generalize ac.getD k default = x at *
      have HCH := Lib.hid (impl_applyChange w.heap.size g l cap ys x (wr.alloc (.cells #[.int .i64 x.k, .int .i64 x.a, .int .i64 x.b] 44)) (HO.out.alloc _) (by omega) (by have := HB.out.size; simp; omega) HI3.out)
      have HBA := Lib.hid (HB.out.alloc HB.out.size (.cells #[.int .i64 x.k, .int .i64 x.a, .int .i64 x.b] 44))
      have HS := Lib.hid hst
      have HOL := Lib.hid hol
      have HOI := Lib.hid hoi
      clear hst hol hoi
      obtain ⟨pk, pa, pb⟩ := x
      generalize oneB ys ⟨pk, pa, pb⟩ = ob at *
      generalize oneL ys ⟨pk, pa, pb⟩ = zs at *
      go_wp2_with fail
      refine HCH.out.mono ?_
      rintro e w3 hr
      rcases hr with ⟨rfl, g3, c3, l3, rfl, hl3, hown3, hb3⟩ | ⟨rfl, rfl, hb3⟩
      · have HO3 := Lib.hid hown3
        have HB3 := Lib.hid (HBA.out.trans hb3)
        have HL3 := Lib.hid hl3
        have hl3b : l3 ≤ 10 + (k + 1) := by have := HOL.out rfl; have := HL.out; omega
        have HI4 := Lib.hid (HOI.out rfl)
        have HS2 : Hid (R = patched zs (ac.drop (k + 1))) := by show _ = _; rw [HS.out]; rfl
        clear hown3 hb3 hl3 HS HOL HOI HO HB HCH HBA
        go_wp2
        go_roundw
        case rel => exact ⟨k + 1, g3, c3, l3, zs, by omega, by go_num, rfl, by omega, HL3.out, HI4.out, HO3.out, HS2.out, HB3.out⟩
        case measure => simp [intOf]; omega
      · have hB : B = false := by rw [HFC.out, HS.out]; rfl
        have hY := HNO.out hB
        have HB3 := Lib.hid (HBA.out.trans hb3)
        subst hB hY
        clear hb3 HFC HFF HNO HS HOL HOI HO HB HCH HBA
        go_wp2
        go_ret2
        exact RetIB.nil HB3.out
    · obtain rfl : k = m := by omega
      have HVK := Lib.hid (impl_ValidKeys (some ⟨g, 0, none⟩) l cap ys wr wr.heap.size (Nat.le_refl _) HL.out (own_ncap HO.out) (IS.of_own HO.out) (by omega))
      have hRS : R = some ys := by rw [HR.out, HDE.out]; rfl
      have hBv : B = validK ys := by rw [HFC.out, hRS]; rfl
      rw [← hBv] at HVK
      have hYv : B = true → Y = ys := fun hb => by rw [HFF.out, hb, hRS]; rfl
      have HYV := Lib.hid hYv
      clear hRS hBv hYv HFF HFC HR
      go_wp2_with fail
      refine HVK.out.mono ?_
      rintro e w4 ⟨rfl, hb4⟩
      have HB4 := Lib.hid (HB.out.trans (hb4.mono HB.out.size))
      have HO4 := Lib.hid (own_below HO.out hb4)
      clear hb4 HVK
      cases B
      · have hY := HNO.out rfl
        subst hY
        clear HNO
        go_wp2
        go_ret2
        exact RetIB.nil HB4.out
      · have hY := HYV.out rfl
        subst hY
        clear HNO HYV
        go_wp2
        go_ret2
        exact ⟨_, rfl, by unfold OwnI; rw [← HL.out]; exact HO4.out, HB4.out⟩
end Go.Proofs.Ytlbomopjldhmeaa
