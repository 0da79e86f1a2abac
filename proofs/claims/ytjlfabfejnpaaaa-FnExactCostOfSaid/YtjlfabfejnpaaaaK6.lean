/- impl.risingLengths at the places of keys. -/
import Derived.Test.YtjlfabfejnpaaaaS10
import Derived.Test.YtjlfabfejnpaaaaK5
import Derived.Test.YtjlfabfejnpaaaaK4
import Derived.Test.YtjlfabfejnpaaaaM21
import Derived.Test.YtjlfabfejnpaaaaRT
import Derived.RegionIn
import Derived.Sort.CutIn
import Derived.Sort.QuietIn
import Derived.Shelf.RegionOpen

namespace Go.Proofs.Ytjlfabfejnpaaaa
set_option linter.unusedSimpArgs false
set_option linter.unusedVariables false
open Go.RowKit Go.Shelf

attribute [local go_sem] Oper.semAt_some

theorem Rf.kept {base g n : Nat} {f : Nat → Int} {W W' : World} {row : Option Nat} (h : Rf base g n f W) (hg : W.grownBy W' row) (hr : ∀ r, row = some r → ∃ o : Obj, W.heap[r]? = some o ∧ o.isCells = false) : Rf base g n f W' := by
  refine World.ownsRow.kept h hg (.inr fun e => ?_)
  obtain ⟨o, ho, hc⟩ := hr g (by simpa [Value.ownBlock] using e.symm)
  rcases h.2 with ⟨h0, _⟩ | ⟨g', cap, cur, hv, _, hgb, _⟩
  · simp at h0
  · simp only [Value.slice.injEq, Option.some.injEq, Addr.mk.injEq, and_true, true_and] at hv
    obtain ⟨rfl, _⟩ := hv
    rw [hgb] at ho; cases ho; cases hc

/-- What the loop of risingLengths keeps. -/
structure RL (W0 : World) (b b1 g b4 : Nat) (A : Option Addr) (n c : Nat) (gb : Nat) (f : Nat → Int) (W : World) : Prop where
  c0 : W.cell? ⟨b, 0, none⟩ = some (.slice A n c)
  c1 : W.cell? ⟨b1, 0, none⟩ = some (.func (.func 47) #[] #[.pointer (some ⟨gb, 0, none⟩)])
  c4 : W.cell? ⟨b4, 0, none⟩ = some (.slice (some ⟨g, 0, none⟩) n n)
  row : Rf g g n f W
  bel : Below b W0 W

theorem RL.drewN {W0 : World} {b b1 g b4 : Nat} {A : Option Addr} {n c gb : Nat} {f : Nat → Int} {W : World} (h : RL W0 b b1 g b4 A n c gb f W) (k : Nat) : RL W0 b b1 g b4 A n c gb f (W.drewN k) := ⟨h.c0, h.c1, h.c4, h.row, drewN_b h.bel⟩
theorem RL.set {W0 : World} {b b1 g b4 : Nat} {A : Option Addr} {n c gb : Nat} {f : Nat → Int} {W : World} (h : RL W0 b b1 g b4 A n c gb f W) (hb : b < g) (h1 : b1 ≠ g) (h4 : b4 ≠ g) (j : Nat) (hj : j < n) (x : Int) : RL W0 b b1 g b4 A n c gb (upd f j x) (W.setCell ⟨g, j, none⟩ (.int .i64 x)) :=
  ⟨(World.cell?_setCell_other _ _ _ _ (by intro e; cases e; omega)).trans h.c0, (World.cell?_setCell_other _ _ _ _ (by intro e; cases e; exact h1 rfl)).trans h.c1, (World.cell?_setCell_other _ _ _ _ (by intro e; cases e; exact h4 rfl)).trans h.c4, h.row.set j hj x, h.bel.setCell (p := ⟨g, j, none⟩) (Nat.le_of_lt hb) _⟩
theorem RL.congr {W0 : World} {b b1 g b4 : Nat} {A : Option Addr} {n c gb : Nat} {f f' : Nat → Int} {W : World} (h : RL W0 b b1 g b4 A n c gb f W) (e : ∀ j, j < n → f j = f' j) : RL W0 b b1 g b4 A n c gb f' W := ⟨h.c0, h.c1, h.c4, h.row.congr e, h.bel⟩
theorem KB.set {n₀ Bs : Nat} {v : Value} {W : World} {p : Addr} (h1 : n₀ ≤ p.block) (h2 : Bs ≠ p.block) (x : Value) : KB n₀ Bs v W (W.setCell p x) :=
  ⟨(Below.refl _ _).setCell h1 _, fun h => (World.cell?_setCell_other _ _ _ _ (by intro e; exact h2 (by rw [e]))).trans h⟩
theorem KB.drewN (n₀ Bs : Nat) (v : Value) (W : World) (k : Nat) : KB n₀ Bs v W (W.drewN k) := ⟨drewN_b (Below.refl _ _), fun h => h⟩
theorem keepsDrewN (B : Nat) (W : World) (k : Nat) : KeepsFrom B W (W.drewN k) := (⟨Nat.le_refl _, fun _ _ h _ => h⟩ : KeepsOthers W (W.drewN k)).from B

set_option maxRecDepth 100000 in
set_option maxHeartbeats 3200000 in
theorem impl_risingLengths (gb : Nat) (Pl : Int → Int) (A : Option Addr) (n c : Nat) (xs : List Int) (w : World) (hs : n ≤ 2000000) (hn : n = xs.length) (h : IS w w.heap.size A xs)
    (hP : ∀ (q : Int) (W : World), Below w.heap.size w W → Calls Try.prog 47 #[.int .i64 q, .pointer (some ⟨gb, 0, none⟩)] W fun e w' => e = .returned (.int .i64 (Pl q)) ∧ w' = W) :
    Calls Try.prog 71 #[.slice A n c, .func (.func 47) #[] #[.pointer (some ⟨gb, 0, none⟩)]] w fun e w' => ∃ g, w.heap.size ≤ g ∧ e = .returned (.slice (some ⟨g, 0, none⟩) n n) ∧ Rf g g n (lrA (fun j => Pl (xs.getD j 0)) n) w' ∧ Below w.heap.size w w' := by
  obtain ⟨i0, hi, hz0, hz1, hz2⟩ := info_parts info_int
  obtain ⟨w0, hw0⟩ : ∃ w0, w0 = (w.alloc (.cells #[.slice A n c] 22)).alloc (.cells #[.func (.func 47) #[] #[.pointer (some ⟨gb, 0, none⟩)]] 50) := ⟨_, rfl⟩
  obtain ⟨w1, hmk, hown1, hgr1⟩ := run_make_full (P := Try.prog) w0 w0.heap.size 22 3 i0 _ 1 Try.underlying22 hi hz0 hz1 .i64 .i64 n (by rw [hz2]; omega) (by unfold maxLen; omega) (Nat.le_refl _)
  rw [vl_zero] at hown1
  have hz : w0.heap.size = w.heap.size + 2 := by rw [hw0]; simp
  have H := Lib.hid h
  have HN := Lib.hid hn
  have HP := Lib.hid hP
  clear h hn hP
  refine (callsIn_wide (n := 5)).1 ?_
  refine callsIn_of_wp_marks Try.func71 rfl trivial ?_ rfl
  simp only [Try.ntmps71, List.size_toArray, List.length_cons, List.length_nil, Nat.reduceAdd, Nat.reduceSub, Array.replicate_succ, Array.replicate_zero, List.push_toArray, List.append_toArray, List.nil_append, List.cons_append]
  have hb1 : Below w0.heap.size w0 w1 := ⟨hgr1.os, hgr1.tape, hgr1.output, hgr1.size, fun k hk => hgr1.block k hk (by simp)⟩
  have hlt1 : w0.heap.size < w1.heap.size := (World.ownsRow.lt hown1 _ rfl).2
  have q0 : w1.cell? ⟨w.heap.size, 0, none⟩ = some (.slice A n c) := (hb1.cell (p := ⟨w.heap.size, 0, none⟩) (by simp; omega)).trans (by rw [hw0]; go_simp)
  have q1 : w1.cell? ⟨w.heap.size + 1, 0, none⟩ = some (.func (.func 47) #[] #[.pointer (some ⟨gb, 0, none⟩)]) := (hb1.cell (p := ⟨w.heap.size + 1, 0, none⟩) (by simp; omega)).trans (by rw [hw0]; go_simp)
  have HB1 : Hid (Below w.heap.size w w1) := by
    have h1 : Below w.heap.size w w0 := by rw [hw0]; exact ((Below.refl _ _).alloc (Nat.le_refl _) _).alloc (by simp) _
    exact h1.trans (hb1.mono (by omega))
  have HR1 : Hid (Rf (w.heap.size + 1 + 1) (w.heap.size + 1 + 1) n (fun _ => 0) w1) := by rw [show w.heap.size + 1 + 1 = w0.heap.size by omega]; exact hown1
  rw [hw0] at hmk
  have hl1 : w.heap.size + 2 < w1.heap.size := by omega
  have hl01 : w.heap.size + 1 < w1.heap.size := by omega
  have hl00 : w.heap.size < w1.heap.size := by omega
  clear hown1 hgr1 hb1 hlt1 hz hw0
  gi_wp2_with (refine ⟨trivial, ?_⟩; gi_at_call 53; refine (callsIn_wide.2 (backward_at A n c _)).mono ?_; rintro e w' ⟨rfl, rfl⟩)
  obtain ⟨P, hP⟩ : ∃ P : Nat → Int, P = fun j => Pl (xs.getD j 0) := ⟨_, rfl⟩
  have HPP : Hid (∀ j, P j = Pl (xs.getD j 0)) := by rw [hP]; exact fun j => rfl
  clear hP
  have HRL : Hid (RL w w.heap.size (w.heap.size + 1) (w.heap.size + 1 + 1) w1.heap.size A n c gb (fun _ => 0) ((w1.alloc (.cells #[.slice (some ⟨w.heap.size + 1 + 1, 0, none⟩) n n] 22)).alloc (.cells #[.slice A n c] 22))) := by
    refine ⟨?_, ?_, by go_simp, ?_, (HB1.out.alloc (by omega) _).alloc (by simp; omega) _⟩
    · exact (World.cell?_alloc_lt _ _ ⟨w.heap.size, 0, none⟩ (by simp; omega)).trans ((World.cell?_alloc_lt _ _ ⟨w.heap.size, 0, none⟩ (by show w.heap.size < w1.heap.size; omega)).trans q0)
    · exact (World.cell?_alloc_lt _ _ ⟨w.heap.size + 1, 0, none⟩ (by simp; omega)).trans ((World.cell?_alloc_lt _ _ ⟨w.heap.size + 1, 0, none⟩ (by show w.heap.size + 1 < w1.heap.size; omega)).trans q1)
    · exact (HR1.out.below ((Below.refl _ _).alloc (Nat.le_refl _) _)).below ((Below.refl _ _).alloc (Nat.le_refl _) _)
  have hbs : ((w1.alloc (.cells #[.slice (some ⟨w.heap.size + 1 + 1, 0, none⟩) n n] 22)).alloc (.cells #[.slice A n c] 22)).cell? ⟨w1.heap.size + 1, 0, none⟩ = some (.slice A n c) := by go_simp
  have hsz2 : ((w1.alloc (.cells #[.slice (some ⟨w.heap.size + 1 + 1, 0, none⟩) n n] 22)).alloc (.cells #[.slice A n c] 22)).heap.size = w1.heap.size + 2 := by simp
  generalize (w1.alloc (.cells #[.slice (some ⟨w.heap.size + 1 + 1, 0, none⟩) n n] 22)).alloc (.cells #[.slice A n c] 22) = w2 at *
  have hIS2 : IS w2 w.heap.size A xs := H.out.below HRL.out.bel (Nat.le_refl _)
  have hsw : w.heap.size ≤ w2.heap.size := by omega
  have HS2 := Lib.hid hsz2
  clear q0 q1 HR1 HB1 hmk hi hz0 hz1 hz2
  refine wpIn_rangeFunc_ownG rfl (by omega) (gf := 78) (lb := #[.pointer (some ⟨w1.heap.size + 1, 0, none⟩)]) rfl trivial (enters_of Try.func78 (by kernel_rfl) rfl)
    (back_stops Fence.wide _ trivial rfl (by omega) (w1.heap.size + 1) w.heap.size A n c xs HN.out hs w2 (by omega) hsw hbs hIS2) KB.tr (KB.put hsw) (Below.refl _ _) (fun _ => rfl)
    (fun pre W => RL w w.heap.size (w.heap.size + 1) (w.heap.size + 1 + 1) w1.heap.size A n c gb (gal P n (pre.map Subtype.val)) W)
    (fun _ _ _ => False)
    (fun s X Y row hs hg hr => ⟨cell_kept hs.c0 hg fun r e => (hr r e).2, cell_kept hs.c1 hg fun r e => (hr r e).2, cell_kept hs.c4 hg fun r e => (hr r e).2, hs.row.kept hg fun r e => (hr r e).2, hs.bel.grown hg hs.bel.size fun k e => Nat.le_trans hsw (hr k e).1⟩)
    (fun _ _ _ _ _ hs _ _ => hs)
    HRL.out
    (fun x => { tmps := #[.slice A n c, .func (.func 47) #[] #[.pointer (some ⟨gb, 0, none⟩)], .pointer (some ⟨w.heap.size, 0, none⟩), .pointer (some ⟨w.heap.size + 1, 0, none⟩), .slice none 0 0, .pointer (some ⟨w1.heap.size, 0, none⟩), .int .i64 ((n - 1 - x.1 : Nat) : Int), .int .i64 (xs[n - 1 - x.1]?.getD 0), undef, .slice A n c, .int .i64 n, .slice (some ⟨w.heap.size + 1 + 1, 0, none⟩) n n, .slice A n c, .func (.func 78) #[] #[.pointer (some ⟨w1.heap.size + 1, 0, none⟩)], .int .i64 ((n - 1 - x.1 : Nat) : Int), .int .i64 (xs[n - 1 - x.1]?.getD 0), undef, undef, undef, undef, undef, undef, undef, undef, undef, undef, undef, undef, undef, undef, undef, undef, undef, undef, undef, undef, undef, undef, undef, undef, undef, undef, undef, undef, undef, undef, undef, undef, undef, undef, undef, undef, undef], defers := [] }) ?assign ?body ?done ?stop
  case assign =>
    intro l x W K hK
    gi_wp2
    exact hK
  case body =>
    rintro l pre x W hR hlen
    have hfw : Fence.wide.fn 47 := trivial
    have hmx : Try.prog.follows .mixedOrders = true := by kernel_rfl
    obtain ⟨k, hk⟩ := x
    dsimp only
    have hgb := gal_bd P n (pre.map Subtype.val)
    have hgs : gal P n ((pre ++ [(⟨k, hk⟩ : Below' n)]).map Subtype.val) = gst P n (gal P n (pre.map Subtype.val)) k := by rw [List.map_append]; exact gal_snoc _ _ _ _
    have HGS := Lib.hid hgs
    have HRR := Lib.hid hR
    have hpl : (pre.map Subtype.val).length < n := by simpa using hlen
    generalize (pre.map Subtype.val).length = pl at *
    generalize gal P n (pre.map Subtype.val) = f at *
    obtain ⟨i, hi⟩ : ∃ i : Nat, i = n - 1 - k := ⟨_, rfl⟩
    have hgst : gst P n f k = upd f i (bsg P f i (n - 1 - i) + 1) := by unfold gst; rw [← hi, show n - 1 - i = k by omega]
    have HGT := Lib.hid hgst
    have hin : i < n := by omega
    rw [← hi]
    have c0 := hR.c0
    have c1 := hR.c1
    have c4 := hR.c4
    have HGB := Lib.hid hgb
    have hxi : xs[i]?.getD 0 = xs.getD i 0 := rfl
    have hpi : P i = Pl (xs[i]?.getD 0) := HPP.out i
    have HPI := Lib.hid hpi
    generalize xs[i]?.getD 0 = x at *
    clear hgs hgst hgb hi hxi hpi hlen hR
    gi_wp2
    gi_loopw [8] (fun q wr => ∃ d : Nat, i + 1 + d ≤ n ∧ q = .int .i64 ((i + 1 + d : Nat) : Int) ∧ Hid (RL w w.heap.size (w.heap.size + 1) (w.heap.size + 1 + 1) w1.heap.size A n c gb (upd f i (bsg P f i d)) wr) ∧ Hid (KeepsFrom w2.heap.size W wr) ∧ Hid (KB w.heap.size (w1.heap.size + 1) (.slice A n c) W wr)) (fun q _ => n - (intOf q).toNat)
    case atStart =>
      refine ⟨0, by omega, by simp, ?_, KeepsFrom.refl _ _, KB.refl _ _ _ _⟩
      have : upd f i (bsg P f i 0) = f := by funext j; unfold upd bsg; split <;> simp_all
      rw [this]; exact HRR.out
    case round =>
      obtain ⟨d, hd, rfl, HX, HKF, HKB⟩ := hrel
      have d0 := HX.out.c0
      have d1 := HX.out.c1
      have d4 := HX.out.c4
      by_cases hdn : i + 1 + d < n
      · obtain ⟨j, hj⟩ : ∃ j : Nat, j = i + 1 + d := ⟨_, rfl⟩
        have hij : i < j := by omega
        have hjn : j < n := by omega
        have hji : (j : Int) < (n : Int) := by omega
        obtain ⟨b, off, rfl, hbB, hc⟩ := H.out (by have := HN.out; omega)
        have xj := (HX.out.bel.cell (p := ⟨b, off + j, none⟩) hbB).trans (hc j (by have := HN.out; omega))
        have hpj := HPP.out j
        have l1 := HX.out.row.cell i hin
        have l2 := HX.out.row.cell j hjn
        have lf := HX.out.row.free i
        rw [upd_at] at l1
        rw [upd_ne _ _ _ _ (by omega)] at l2
        have hb1 := bsg_bd P f i d pl HGB.out
        have hb3 := HGB.out j
        have HST : Hid (bsg P f i (d + 1) = if P i < P j then max (bsg P f i d) (f j) else bsg P f i d) := by rw [hj]; rfl
        have HPX := Lib.hid fun (q : Int) (m : Nat) => HP.out q (wr.drewN m) (drewN_b HX.out.bel)
        rw [← hj]
        have HJ := Lib.hid hj
        generalize xs.getD j 0 = y at *
        have hpi := HPI.out
        generalize P i = p at *
        generalize P j = r at *
        generalize bsg P f i d = z at *
        generalize f j = u at *
        clear hj hdn hd hc c0 c1 c4
        by_cases hp : p < r
        · have HS2 := Lib.hid (HST.out.trans (if_pos hp))
          have hbel := HX.out.bel
          have HPI2 := Lib.hid hpi
          have HPJ2 := Lib.hid hpj
          rw [hpi, hpj] at hp
          clear hpi hpj HST
          gi_wp2
          refine quiet_round hmx (by kernel_rfl) (by kernel_rfl) ?_
          iterate 10 (gi_big_quiet_step ((gi_at_call 47; refine CallsIn.quiet_of_same (CallsIn.inRound l (callsIn_wide.2 (HPX.out _ _))))))
          refine wpQuietIn_nil ?_
          rintro _ ⟨nq, rfl⟩
          gi_wp2
          refine quiet_tail (l := [_, _, _, _, _, _, _, _, _, _, _, _]) rfl hmx (by kernel_rfl) (by kernel_rfl) ?_
          repeat (gi_big_quiet_step (fail))
          refine wpQuietIn_nil ?_
          rintro _ ⟨nq2, rfl⟩
          go_simp
          gi_wp2
          go_roundw
          case rel =>
            have hmx2 : (if z < u then u else z) = max z u := by split <;> omega
            have hs1 := (HX.out.drewN (nq + nq2)).set (by omega) (by omega) (by omega) i hin (if z < u then u else z)
            refine ⟨d + 1, by have := HJ.out; omega, by have := HJ.out; go_num, ?_, (HKF.out.trans (keepsDrewN _ _ (nq + nq2))).trans ((KeepsOthers.setCell _ _ _).from _), (HKB.out.tr (KB.drewN _ _ _ _ (nq + nq2))).tr (KB.set (p := ⟨w.heap.size + 1 + 1, i, none⟩) (by show w.heap.size ≤ w.heap.size + 1 + 1; omega) (by show w1.heap.size + 1 ≠ w.heap.size + 1 + 1; omega) _)⟩
            rw [upd_upd, hmx2] at hs1
            rw [hmx2]
            exact hs1.congr fun j _ => by rw [HS2.out]
          case measure => simp [intOf]; omega
        · have HS2 := Lib.hid (HST.out.trans (if_neg hp))
          have hbel := HX.out.bel
          rw [hpi, hpj] at hp
          clear hpi hpj HST
          gi_wp2
          refine quiet_round hmx (by kernel_rfl) (by kernel_rfl) ?_
          repeat (gi_big_quiet_step ((gi_at_call 47; refine CallsIn.quiet_of_same (CallsIn.inRound l (callsIn_wide.2 (HPX.out _ _))))))
          refine wpQuietIn_nil ?_
          rintro _ ⟨nq, rfl⟩
          gi_wp2
          go_roundw
          case rel => exact ⟨d + 1, by have := HJ.out; omega, by have := HJ.out; go_num, (HX.out.drewN nq).congr fun j _ => by rw [HS2.out], HKF.out.trans (keepsDrewN _ _ nq), HKB.out.tr (KB.drewN _ _ _ _ nq)⟩
          case measure => simp [intOf]; omega
      · have hdn2 : i + 1 + d = n := by omega
        have l1 := HX.out.row.cell i hin
        have lf := HX.out.row.free i
        rw [upd_at] at l1
        have hb1 := bsg_bd P f i d pl HGB.out
        have hdd : d = n - 1 - i := by omega
        have HZ : Hid (bsg P f i (n - 1 - i) = bsg P f i d) := by rw [← hdd]; exact Lib.hid rfl
        generalize bsg P f i d = z at *
        rw [hdn2]
        clear hdn2 hdd hd hdn c0 c1 c4
        gi_wp2
        refine ⟨HKF.out.trans ((KeepsOthers.setCell _ _ _).from _), HKB.out.tr (KB.set (p := ⟨w.heap.size + 1 + 1, i, none⟩) (by show w.heap.size ≤ w.heap.size + 1 + 1; omega) (by show w1.heap.size + 1 ≠ w.heap.size + 1 + 1; omega) _), ?_⟩
        have hs1 := HX.out.set (by omega) (by omega) (by omega) i hin (z + 1)
        rw [upd_upd] at hs1
        show RL w w.heap.size (w.heap.size + 1) (w.heap.size + 1 + 1) w1.heap.size A n c gb (gal P n ((pre ++ [(⟨k, hk⟩ : Below' n)]).map Subtype.val)) _
        rw [HGS.out, HGT.out, HZ.out]
        exact hs1
  case done =>
    rintro D ys W hD rfl hR hK
    have h4 := hR.c4
    gi_wp2
    refine ⟨by simp, .inl ⟨_, _, rfl, run_takeDeferred hK, ?_⟩⟩
    refine ⟨_, results_tmp rfl _ _ _, w.heap.size + 1 + 1, by omega, rfl, ?_, hR.bel.trans (belowK_b (w := w) (Nat.le_refl _) W D _ _ (by omega) hK rfl rfl)⟩
    have hrow := hR.row.kept (grownBy_putObj' W D (.deferred none)) (fun r e => by cases e; exact ⟨_, hK, rfl⟩)
    rw [sub_val n n (Nat.le_refl _), gal_range P n n (Nat.le_refl _)] at hrow
    have hpe : (fun j => Pl (xs.getD j 0)) = P := funext fun j => (HPP.out j).symm
    rw [hpe]
    exact hrow
  case stop =>
    rintro D c pre W _ _ h _
    exact h.elim
end Go.Proofs.Ytjlfabfejnpaaaa
