/- impl's tree of owners: clear. (DRAFT: checks up to the body of the kids' rounds; left: body (load of t, clear by HIH.out, close), done (the labels' range, the store of nil).) -/
import Derived.Test.YtkfglodjnnlbkaaV31
import Derived.Test.YtkfglodjnnlbkaaM41
import Derived.Test.YtkfglodjnnlbkaaRH
import Derived.Test.YtkfglodjnnlbkaaT15a

namespace Go.Proofs.Ytkfglodjnnlbkaa
set_option linter.unusedSimpArgs false
set_option linter.unusedVariables false
open Go.RowKit Go.Shelf Go.Maps

attribute [local go_sem] Oper.semAt_some

/-- What the rounds so far did. -/
def jF (ds : List On) (f n o kl : Nat) (es : List On) (pre : List (Below' kl)) : List Int × List On := (pre.map fun x => ((kdN ds n o)[kl - 1 - x.1]?).getD 0).foldl (clIS ds f) ([], es)
theorem jF_snoc (ds : List On) (f n o kl : Nat) (es : List On) (pre : List (Below' kl)) (x : Below' kl) : jF ds f n o kl es (pre ++ [x]) = clIS ds f (jF ds f n o kl es pre) (((kdN ds n o)[kl - 1 - x.1]?).getD 0) := by unfold jF; rw [List.map_append, List.foldl_append]; rfl
theorem jF_same (ds : List On) (f n o kl : Nat) (es : List On) (pre : List (Below' kl)) : SameP es (jF ds f n o kl es pre).2 ∧ (jF ds f n o kl es pre).1.length + tot (jF ds f n o kl es pre).2 = tot es := by
  unfold jF
  have h : ∀ (L : List Nat) (s : List Int × List On), SameP s.2 (L.foldl (clIS ds f) s).2 ∧ (L.foldl (clIS ds f) s).1.length + tot (L.foldl (clIS ds f) s).2 = s.1.length + tot s.2 := by
    intro L
    induction L with
    | nil => intro s; exact ⟨SameP.refl _, rfl⟩
    | cons b L ih =>
      intro s
      obtain ⟨h1, h2⟩ := ih (clIS ds f s b)
      refine ⟨((clI_same ds f s.2 b).trans (SameP.shut _ _)).trans h1, ?_⟩
      rw [List.foldl_cons, h2]
      unfold clIS
      dsimp only
      rw [tot_shut, List.length_append]
      have := clI_tot ds f s.2 b
      omega
  have := h (pre.map fun x => ((kdN ds n o)[kl - 1 - x.1]?).getD 0) ([], es)
  simpa using this

set_option maxRecDepth 100000 in
set_option maxHeartbeats 3200000 in
theorem impl_clear (ds : List On) (n : Nat) (hn : n = ds.length) (hn12 : n ≤ 12) (hp : PO ds) (lo B tb mb : Nat) (lb : Nat → Option Nat) (V : List Value) (X : Nat → Value) (hlb : ∀ j, j < n → isO ds j = true → ∃ g, lb j = some g) :
    ∀ (f o g cm : Nat) (C : Nat → Value) (mv : Value) (es : List On) (mt : List Int) (w : World), ds.length - o ≤ f → es.length = ds.length → o < ds.length → lb o = some g → ClW lo B tb mb n lb V X C cm mv ds es mt w → mt.length + tot es ≤ 100 →
    Calls Try.prog 49 #[.pointer (some ⟨tb, 0, none⟩), .pointer (some ⟨g, 0, none⟩)] w fun e w' => e = .returned (.tuple #[]) ∧ ∃ C' mv', ClW lo B tb mb n lb V X C' cm mv' ds (clI ds f es o).2 (mt ++ (clI ds f es o).1) w' ∧ Kt mb w w' ∧ Below B w w' := by
  intro f
  induction f with
  | zero => intro o g cm C mv es mt w h1 _ h2; omega
  | succ f ih =>
    intro o g cm C mv es mt w hf hel ho hg hW ht
    have hon : o < n := by omega
    obtain ⟨A5, c5, hX5, hX5', hr5⟩ := hW.tr.row (j := o) hon
    have hbk := (hW.tr.bx o _ hg).2.1
    rw [hX5'] at hbk
    have k1 := hbk.c 1 _ rfl
    have hgw : g < w.heap.size := hbk.lt
    have hkb : (kdN ds n o).length ≤ 12 := by
      unfold kdN
      have := List.length_filter_le (fun i => kidB ds (o : Int) i) (List.range n)
      rw [List.length_range] at this; omega
    have hlog : lo ≤ g := (hW.tr.bx o _ hg).2.2.2
    have HN := Lib.hid hn
    have HIH := Lib.hid ih
    have HW := Lib.hid hW
    have HEL := Lib.hid hel
    have HG := Lib.hid hg
    have HLB := Lib.hid hlb
    have HR5 := Lib.hid hr5
    generalize hkl : (kdN ds n o).length = kl at *
    have HKL := Lib.hid hkl
    clear ih hW hg hlb hel hX5 hX5' hr5 hbk hkl hn
    refine (callsIn_wide (n := 5)).1 ?_
    refine callsIn_of_wp_marks Try.func49 rfl trivial ?_ rfl
    simp only [Try.ntmps49, List.size_toArray, List.length_cons, List.length_nil, Nat.reduceAdd, Nat.reduceSub, Array.replicate_succ, Array.replicate_zero, List.push_toArray, List.append_toArray, List.nil_append, List.cons_append]
    gi_wp2_with (refine ⟨trivial, ?_⟩; gi_at_call 70; refine (callsIn_wide.2 (backwardh_at A5 kl c5 _)).mono ?_; rintro e w' ⟨rfl, rfl⟩)
    obtain ⟨w2, hw2⟩ : ∃ W, W = (w.alloc (.cells #[.pointer (some ⟨tb, 0, none⟩)] 55)).alloc (.cells #[.slice A5 kl c5] 76) := ⟨_, rfl⟩
    have hb2 : Below w.heap.size w w2 := by rw [hw2]; exact ((Below.refl _ _).alloc (Nat.le_refl _) _).alloc (by simp) _
    have hs2 : w2.heap.size = w.heap.size + 2 := by rw [hw2]; simp
    have hbs : w2.cell? ⟨w.heap.size + 1, 0, none⟩ = some (.slice A5 kl c5) := by rw [hw2]; go_simp
    have hb0 : w2.cell? ⟨w.heap.size, 0, none⟩ = some (.pointer (some ⟨tb, 0, none⟩)) := by rw [hw2]; go_simp
    rw [← hw2]
    have HWE := Lib.hid hw2
    have HW2 := Lib.hid (HW.out.below hb2)
    have hBS := HW.out.bs
    have htb := HW.out.bx.lt
    have hmbw := HW.out.mp.lt
    have HZ2 := Lib.hid hs2
    have HR2 := Lib.hid (own_below HR5.out hb2)
    have HB2 := Lib.hid (hb2.mono (show B ≤ w.heap.size by omega))
    have HWB := Lib.hid hb2
    have HLO : Hid (lo ≤ w.heap.size) := by show lo ≤ w.heap.size; omega
    clear hw2 HR5
    have HT0 : Hid (Tg w.heap.size 55 w2) := by rw [HWE.out]; exact (Tg.new w _ _ _).below (below_new _ _) (by simp)
    have HT1 : Hid (Tg (w.heap.size + 1) 76 w2) := by
      rw [HWE.out]
      have := Tg.new (w.alloc (.cells #[.pointer (some ⟨tb, 0, none⟩)] 55)) #[.slice A5 kl c5] 76 (0, 0)
      simpa [Hid] using this
    have hrow : ∃ b, b < w2.heap.size ∧ (∃ t, Tg b t w2 ∧ t ≠ 80 ∧ t ≠ 60 ∧ t ≠ 3) ∧ b ≠ mb ∧ (0 < kl → ∃ off, A5 = some ⟨b, off, none⟩ ∧ ∀ j, j < kl → w2.cell? ⟨b, off + j, none⟩ = some (ptrV (((kdN ds n o).map lb)[j]?.getD none))) := by
      have hm : ((kdN ds n o).map fun q => ptrV (lb q)) = ((kdN ds n o).map lb).map ptrV := by rw [List.map_map]; rfl
      rcases Nat.eq_zero_or_pos kl with h0 | hpos
      · refine ⟨w.heap.size, by omega, ⟨55, ?_, by decide, by decide, by decide⟩, by omega, fun h => by omega⟩
        rw [HWE.out]
        exact (Tg.new w _ _ _).below (below_new _ _) (by simp)
      · rcases HR2.out.2 with ⟨hv, h9⟩ | ⟨g', cap, cur, hv, _, hgb, _⟩
        · omega
        · simp only [Value.slice.injEq] at hv
          obtain ⟨rfl, -, rfl⟩ := hv
          refine ⟨g', (Array.getElem?_eq_some_iff.1 hgb).1, ⟨57, ⟨_, _, hgb⟩, by decide, by decide, by decide⟩, ?_, fun _ => ⟨0, rfl, fun j hj => ?_⟩⟩
          · have := (HR2.out.lt g' rfl).1
            omega
          · have hc := HR2.out.cellAt j (by omega)
            rw [hm, List.getElem?_map] at hc
            rw [Nat.zero_add, hc]
            have hl : j < ((kdN ds n o).map lb).length := by rw [List.length_map, HKL.out]; exact hj
            rw [List.getElem?_eq_getElem hl]
            rfl
    obtain ⟨b, hbw, ⟨tt, htg, htt⟩, hbm, hcells⟩ := hrow
    obtain ⟨zs, hzs⟩ : ∃ zs, zs = (kdN ds n o).map lb := ⟨_, rfl⟩
    have hzl : kl = zs.length := by rw [hzs, List.length_map]; exact HKL.out.symm
    rw [← hzs] at hcells
    have HZS := Lib.hid hzs
    have HZL := Lib.hid hzl
    clear hzs hzl
    refine wpIn_rangeFunc_ownG rfl (by omega) (gf := 81) (lb := #[.pointer (some ⟨w.heap.size + 1, 0, none⟩)]) rfl trivial (enters_of Try.func81 (by kernel_rfl) rfl)
      (backh_stops Fence.wide _ trivial rfl (by omega) (w.heap.size + 1) b A5 kl c5 zs HZL.out (by omega) w2 (by omega) hbw hbs hcells) KH.tr (KH.put hbw) (Below.refl _ _) (fun _ => rfl)
      (fun pre W => J1 w w2 w.heap.size lo B tb mb n lb V X cm ds (jF ds f n o kl es pre).2 (mt ++ (jF ds f n o kl es pre).1) W ∧ B ≤ W.heap.size)
      (fun _ _ _ => False)
      (fun s X Y row hs hg hr => ⟨hs.1.own hg hr (by omega) (by omega) hs.2, Nat.le_trans hs.2 hg.size⟩)
      (fun _ _ _ _ _ hs _ _ => hs)
      ?h0
      (fun x => { tmps := #[.pointer (some ⟨tb, 0, none⟩), .pointer (some ⟨g, 0, none⟩), .pointer (some ⟨w.heap.size, 0, none⟩), undef, undef, ptrV (zs[kl - 1 - x.1]?.getD none), undef, undef, .pointer (some ⟨g, 0, none⟩), .pointer (some ⟨g, 0, none⟩), .pointer (some ⟨g, 0, none⟩), .pointer (some ⟨g, 1, none⟩), .slice A5 kl c5, .func (.func 81) #[] #[.pointer (some ⟨w.heap.size + 1, 0, none⟩)], .int .i64 ((kl - 1 - x.1 : Nat) : Int), ptrV (zs[kl - 1 - x.1]?.getD none), undef, undef, undef, undef, undef, undef, undef, undef, undef, undef, undef, undef, undef, undef, undef, undef, undef, undef, undef, undef, undef, undef, undef, undef, undef, undef, undef, undef], defers := [] }) ?assign ?body ?done ?stop
    case h0 => exact ⟨⟨hb0, ⟨C, mv, by simpa [jF] using HW2.out⟩, Kt.refl _ _, HB2.out⟩, by omega⟩
    case assign =>
      intro l x W K hK
      gi_wp2
      exact hK
    case stop => intro _ _ _ _ _ _ h; exact h.elim
    case body =>
      rintro l pre x W ⟨hJ, hBW⟩ hlen
      obtain ⟨k, hk⟩ := x
      dsimp only
      obtain ⟨hjs, hjt⟩ := jF_same ds f n o kl es pre
      have hsn := jF_snoc ds f n o kl es pre ⟨k, hk⟩
      obtain ⟨q, hq⟩ : ∃ q, (kdN ds n o)[kl - 1 - k]? = some q := ⟨_, List.getElem?_eq_getElem (by rw [HKL.out]; omega)⟩
      have hqm : q ∈ kdN ds n o := List.mem_of_getElem? hq
      have hqk : q < n ∧ isO ds q = true ∧ (ds.getD q default).p = (o : Int) := by
        unfold kdN at hqm
        rw [List.mem_filter, List.mem_range] at hqm
        obtain ⟨h1, h2⟩ := hqm
        unfold kidB at h2
        rw [Bool.and_eq_true] at h2
        exact ⟨h1, h2.1, by simpa using h2.2⟩
      obtain ⟨gq, hgq⟩ := HLB.out q hqk.1 hqk.2.1
      have hzq : zs[kl - 1 - k]?.getD none = some gq := by rw [HZS.out, List.getElem?_map, hq]; exact hgq
      have hoq : o < q := by
        have h1 := hp q (by have := HN.out; omega)
        rcases Nat.eq_zero_or_pos q with rfl | h0
        · have := h1.1 rfl; omega
        · have := (h1.2 h0).2; omega
      rw [hq, Option.getD_some] at hsn
      have HSN := Lib.hid hsn
      clear hsn
      rw [hzq]
      obtain ⟨c0, ⟨C1, mv1, st1⟩, kt1, bl1⟩ := hJ
      generalize jF ds f n o kl es pre = s1 at *
      have HCL := Lib.hid (HIH.out q gq cm C1 mv1 s1.2 (mt ++ s1.1) W (by omega) (by rw [hjs.len]; exact HEL.out) (by have := HN.out; omega) hgq st1 (by rw [List.length_append]; omega))
      have hbW : w.heap.size < W.heap.size := by have := kt1.1; omega
      have HKT := Lib.hid kt1
      have HBL := Lib.hid bl1
      have HC0 := Lib.hid c0
      clear st1 kt1 bl1 hq hqm hzq hlen HIH
      show Code.wpIn _ _ _ _ _ { tmps := #[.pointer (some ⟨tb, 0, none⟩), .pointer (some ⟨g, 0, none⟩), .pointer (some ⟨w.heap.size, 0, none⟩), undef, undef, .pointer (some ⟨gq, 0, none⟩), undef, undef, .pointer (some ⟨g, 0, none⟩), .pointer (some ⟨g, 0, none⟩), .pointer (some ⟨g, 0, none⟩), .pointer (some ⟨g, 1, none⟩), .slice A5 kl c5, .func (.func 81) #[] #[.pointer (some ⟨w.heap.size + 1, 0, none⟩)], .int .i64 ((kl - 1 - k : Nat) : Int), .pointer (some ⟨gq, 0, none⟩), undef, undef, undef, undef, undef, undef, undef, undef, undef, undef, undef, undef, undef, undef, undef, undef, undef, undef, undef, undef, undef, undef, undef, undef, undef, undef, undef, undef], defers := [] } W
      gi_wp2_with (refine ⟨trivial, ?_⟩; gi_at_call 49; refine (CallsIn.inRound l (callsIn_wide.2 HCL.out)).mono ?_)
      rintro e W3 ⟨rfl, C2, mv2, st2, kt2, bl2⟩
      obtain ⟨ar0, fr0, hob⟩ := HT0.out
      have hqb := (st2.tr.bx q gq hgq).2.1
      have hlq := (st2.tr.bx q gq hgq).2.2.2
      have hkw := HKT.out.trans kt2
      have hc3 : W3.cell? ⟨w.heap.size, 0, none⟩ = some (.pointer (some ⟨tb, 0, none⟩)) := (World.cell?_of_block (w := w2) (a := ⟨w.heap.size, 0, none⟩) (hkw.2 w.heap.size _ hob (show w.heap.size ≠ mb by omega) (fun arr t fr e => by cases e; decide))).trans hb0
      have HCS := Lib.hid (impl_close tb mb gq cm q _ W3 st2.bx.lt (st2.bx.c 0 _ rfl) hqb.lt (hqb.c 0 _ rfl) (by have := hqk.1; omega) st2.mp (by omega) (by omega))
      have HST := Lib.hid st2
      have HK3 := Lib.hid kt2
      have HB3 := Lib.hid bl2
      have hW3 : w.heap.size < W3.heap.size := by have := kt2.1; omega
      clear st2 kt2 bl2 hqb hkw hob HCL
      gi_wp2_with (refine ⟨trivial, ?_⟩; gi_at_call 50; refine (CallsIn.inRound l (callsIn_wide.2 HCS.out)).mono ?_)
      rintro e W4 ⟨rfl, hm4, hg4⟩
      have hdr : Below W3.heap.size W3 W3.drew := (Below.refl _ _).drew
      have hkt : Kt mb W W4 := (HK3.out.trans (Kt.of_below hdr)).trans (Kt.map hg4)
      have hs4 := (HST.out.below hdr).shut (b := q) (by rw [(clI_same ds f s1.2 q).len, hjs.len]; have := HEL.out; have := HN.out; omega) hm4 hg4
      have hbl4 : Below B w W4 := ((HBL.out.trans HB3.out).trans (hdr.mono (by omega))).grown hg4 (by have := hdr.size; omega) (fun r e => by cases e; exact hBS.1)
      have HKA := Lib.hid hkt
      have HSA := Lib.hid hs4
      have HBA := Lib.hid hbl4
      clear hkt hs4 hbl4 hm4 hg4 hdr HCS HST HK3 HB3 HBL
      have HKT0 := HKT
      gi_wp2
      refine ⟨⟨HKA.out.1, fun r ob hr h1 h2 => ?_⟩, ⟨HKA.out.1, ?_, fun h => ?_⟩, ?_⟩
      · exact (HKA.out.2 r ob h1 (by omega) (fun arr t fr e => by rw [e] at h2; cases h2)).trans h1
      · obtain ⟨ar1, fr1, hob1⟩ := htg
        have e1 := HKT0.out.2 b _ hob1 hbm (fun arr t fr e => by cases e; exact htt)
        exact HKA.out.2 b _ (e1.trans hob1) hbm (fun arr t fr e => by cases e; exact htt)
      · obtain ⟨ar1, fr1, hob1⟩ := HT1.out
        have e1 := HKT0.out.2 _ _ hob1 (by omega) (fun arr t fr e => by cases e; decide)
        exact (World.cell?_of_block (w := W) (a := ⟨w.heap.size + 1, 0, none⟩) (HKA.out.2 (w.heap.size + 1) _ (e1.trans hob1) (show w.heap.size + 1 ≠ mb by omega) (fun arr t fr e => by cases e; decide))).trans h
      · have hk4 := HKT0.out.trans HKA.out
        obtain ⟨ar1, fr1, hob1⟩ := HT0.out
        refine ⟨⟨(World.cell?_of_block (w := w2) (a := ⟨w.heap.size, 0, none⟩) (hk4.2 w.heap.size _ hob1 (show w.heap.size ≠ mb by omega) (fun arr t fr e => by cases e; decide))).trans hb0, ⟨C2, mv2, ?_⟩, hk4, HBA.out⟩, by have := HKA.out.1; omega⟩
        rw [HSN.out]
        unfold clIS
        dsimp only
        rw [← List.append_assoc]
        exact HSA.out
    case done =>
      rintro D ys W hD rfl ⟨hJ, hBW⟩ hK
      obtain ⟨hjs, hjt⟩ := jF_same ds f n o kl es (sub kl kl)
      have hjf : jF ds f n o kl es (sub kl kl) = ((kdN ds n o).reverse).foldl (clIS ds f) ([], es) := by
        unfold jF
        have e : ((sub kl kl).map fun x => ((kdN ds n o)[kl - 1 - x.1]?).getD 0) = (kdN ds n o).reverse := by
          have e1 : ((sub kl kl).map fun x => ((kdN ds n o)[kl - 1 - x.1]?).getD 0) = ((sub kl kl).map Subtype.val).map fun x => ((kdN ds n o)[kl - 1 - x]?).getD 0 := by rw [List.map_map]; rfl
          rw [e1, sub_val kl kl (Nat.le_refl _)]
          have hl := HKL.out
          apply List.ext_getElem
          · simp [hl]
          · intro i h1 h2
            simp at h1
            rw [List.getElem_map, List.getElem_range, List.getElem_reverse]
            have h3 : kl - 1 - i < (kdN ds n o).length := by omega
            rw [List.getElem?_eq_getElem h3, Option.getD_some]
            congr 1
            omega
        rw [e]
      have hstep := clI_step ds f es o
      rw [← HN.out, ← hjf] at hstep
      have hJl : (jF ds f n o kl es (sub kl kl)).2.length = n := by rw [hjs.len, HEL.out]; exact HN.out.symm
      generalize jF ds f n o kl es (sub kl kl) = r at *
      obtain ⟨c0, ⟨C1, mv1, st1⟩, kt1, bl1⟩ := hJ
      have hbo := (st1.tr.bx o g HG.out).2.1
      obtain ⟨A6, m6, c6, hC6, hm6, hm65, hI6⟩ := st1.cl o g HG.out
      rw [hC6] at hbo
      have k4 := hbo.c 4 _ rfl
      have hgW := hbo.lt
      have HST := Lib.hid st1
      have HKT := Lib.hid kt1
      have HBL := Lib.hid bl1
      have HSTEP := Lib.hid hstep
      have HJT := Lib.hid hjt
      have HI6 := Lib.hid hI6
      have HM6 := Lib.hid hm6
      have HJL := Lib.hid hJl
      clear st1 kt1 bl1 hstep hjf hjt hI6 hm6 hbo hjs hJl
      gi_wp2_with (refine ⟨trivial, ?_⟩; gi_at_call 71; refine (callsIn_wide.2 (backward_at A6 m6 c6 _)).mono ?_; rintro e w' ⟨rfl, rfl⟩)
      obtain ⟨W1, hW1⟩ : ∃ W1, W1 = W.alloc (.cells #[.slice A6 m6 c6] 26) := ⟨_, rfl⟩
      rw [← hW1]
      have hb1 : Below W.heap.size W W1 := by rw [hW1]; exact (Below.refl _ _).alloc (Nat.le_refl _) _
      have hs1 : W1.heap.size = W.heap.size + 1 := by rw [hW1]; simp
      have hbs1 : W1.cell? ⟨W.heap.size, 0, none⟩ = some (.slice A6 m6 c6) := by rw [hW1]; go_simp
      have HT2 : Hid (Tg W.heap.size 26 W1) := by rw [hW1]; exact Tg.new W _ _ _
      have hc01 : W1.cell? ⟨w.heap.size, 0, none⟩ = some (.pointer (some ⟨tb, 0, none⟩)) := (hb1.cell (p := ⟨w.heap.size, 0, none⟩) (by have := HKT.out.1; have := HZ2.out; show w.heap.size < W.heap.size; omega)).trans c0
      have hIS1 : IS W1 B A6 (clO r.2 o) := HI6.out.below hb1 (by omega)
      have HB1 := Lib.hid hb1
      have HKW : Hid (Kt mb w2 W1) := HKT.out.trans (Kt.of_below hb1)
      have HD1 : Hid (W1.heap[D]? = some (.deferred (some []))) := ((Kt.of_below (mb := mb) hb1).2 D _ hK (by have := HZ2.out; omega) (fun arr t fr e => by cases e)).trans hK
      obtain ⟨L6, hL6⟩ : ∃ L6, L6 = clO r.2 o := ⟨_, rfl⟩
      have HL6 := Lib.hid hL6
      have HSZ1 := Lib.hid hs1
      have hWlt : w2.heap.size ≤ W.heap.size := HKT.out.1
      have hz2 := HZ2.out
      have hwW : w.heap.size < W.heap.size := by omega
      have hm6l : m6 = L6.length := by rw [hL6]; exact HM6.out
      rw [← hL6] at hIS1
      have HTOT : Hid ((mt ++ r.1).length ≤ 100) := by have := HJT.out; show (mt ++ r.1).length ≤ 100; rw [List.length_append]; omega
      have hTO2 : Hid (∀ q : List (Below' m6), q.length ≤ m6 → (mt ++ r.1 ++ q.map fun x => L6[m6 - 1 - x.1]?.getD 0).length ≤ 1000) := fun q hq => by
        have := HTOT.out
        rw [List.length_append, List.length_map]; omega
      have HH0 : Hid (J1 w W1 w.heap.size lo B tb mb n lb V X cm ds r.2 (mt ++ r.1) W1 ∧ B ≤ W1.heap.size) := ⟨⟨hc01, ⟨C1, mv1, HST.out.below hb1⟩, Kt.refl _ _, HBL.out.trans (hb1.mono hBW)⟩, by omega⟩
      have HM6L := Lib.hid hm6l
      have HDW := Lib.hid hK
      clear hb1 hW1 c0 hK hL6 hm6l hs1 hc01 k4 hz2
      refine wpIn_rangeFunc_ownG rfl (by omega) (gf := 82) (lb := #[.pointer (some ⟨W.heap.size, 0, none⟩)]) rfl trivial (enters_of Try.func82 (by kernel_rfl) rfl)
        (back_stops Fence.wide _ trivial rfl (by omega) W.heap.size B A6 m6 c6 L6 HM6L.out (by omega) W1 (by have := HSZ1.out; omega) (by have := HSZ1.out; omega) hbs1 hIS1) KB.tr (KB.put (by have := HSZ1.out; omega)) (Below.refl _ _) (fun _ => rfl)
        (fun pre W' => J1 w W1 w.heap.size lo B tb mb n lb V X cm ds r.2 (mt ++ r.1 ++ pre.map fun x => L6[m6 - 1 - x.1]?.getD 0) W' ∧ B ≤ W'.heap.size)
        (fun _ _ _ => False)
        (fun s X Y row hs hg hr => ⟨hs.1.own hg hr (by have := HSZ1.out; omega) (by have := HSZ1.out; omega) hs.2, Nat.le_trans hs.2 hg.size⟩)
        (fun _ _ _ _ _ hs _ _ => hs)
        ?h0b
        (fun x => { tmps := #[.pointer (some ⟨tb, 0, none⟩), .pointer (some ⟨g, 0, none⟩), .pointer (some ⟨w.heap.size, 0, none⟩), undef, undef, undef, undef, .int .i64 (L6[m6 - 1 - x.1]?.getD 0), .pointer (some ⟨g, 0, none⟩), .pointer (some ⟨g, 0, none⟩), .pointer (some ⟨g, 0, none⟩), .pointer (some ⟨g, 1, none⟩), .slice A5 kl c5, .func (.func 81) #[] #[.pointer (some ⟨w.heap.size + 1, 0, none⟩)], undef, undef, undef, undef, undef, undef, undef, undef, .pointer (some ⟨g, 0, none⟩), .pointer (some ⟨g, 0, none⟩), .pointer (some ⟨g, 2, none⟩), .pointer (some ⟨g, 4, none⟩), .slice A6 m6 c6, .func (.func 82) #[] #[.pointer (some ⟨W.heap.size, 0, none⟩)], .int .i64 ((m6 - 1 - x.1 : Nat) : Int), .int .i64 (L6[m6 - 1 - x.1]?.getD 0), undef, undef, undef, undef, undef, undef, undef, undef, undef, undef, undef, undef, undef, undef], defers := [] }) ?assignb ?bodyb ?doneb ?stopb
      case h0b => simpa using HH0.out
      case assignb =>
        intro l x W' K hK
        gi_wp2
        exact hK
      case stopb => intro _ _ _ _ _ _ h; exact h.elim
      case bodyb =>
        rintro l pre x W' ⟨hJ, hBW'⟩ hlen
        obtain ⟨k, hk⟩ := x
        dsimp only
        have hln := hTO2.out pre (by omega)
        have hsn : (pre ++ [(⟨k, hk⟩ : Below' m6)]).map (fun x => L6[m6 - 1 - x.1]?.getD 0) = (pre.map fun x => L6[m6 - 1 - x.1]?.getD 0) ++ [L6[m6 - 1 - k]?.getD 0] := by rw [List.map_append]; rfl
        have HSN := Lib.hid hsn
        obtain ⟨mq, hmq⟩ : ∃ mq, mq = mt ++ r.1 ++ pre.map fun x => L6[m6 - 1 - x.1]?.getD 0 := ⟨_, rfl⟩
        have HMQ := Lib.hid hmq
        rw [← hmq] at hJ hln
        generalize L6[m6 - 1 - k]?.getD 0 = lq at *
        obtain ⟨c0, ⟨C2, mv2, st2⟩, kt2, bl2⟩ := hJ
        have t1 := st2.bx.c 1 _ rfl
        have hmvl : (mt.length : Nat) ≤ 1000000 := by have := HTOT.out; have h9 : (mt ++ r.1).length ≤ 100 := this; rw [List.length_append] at h9; omega
        have htw := st2.bx.lt
        have hcw : w.heap.size < W'.heap.size := by have := kt2.1; have := HSZ1.out; omega
        have HS2 := Lib.hid st2
        have HKT2 := Lib.hid kt2
        have HBL2 := Lib.hid bl2
        have HLN := Lib.hid hln
        obtain ⟨i0, hi, hz0, hz1, hz2⟩ := info_parts info_int
        clear st2 kt2 bl2 hsn hmq hlen hln
        try gi_wp2_with fail
        have t1d : W'.drew.cell? ⟨tb, 1, none⟩ = some mv2 := t1
        refine wpIn_region_held (S := fun w' => w'.cell? ⟨w.heap.size, 0, none⟩ = some (.pointer (some ⟨tb, 0, none⟩))) (by kernel_rfl) c0 (fun hHeld => ?_)
        refine wpAnyK_take (i := 0) (oi := ⟨some 30, _, _, _, _, _⟩) (v := ?_) (by kernel_rfl) rfl (by kernel_rfl) (by kernel_rfl) (by kernel_rfl) (fun _ _ _ h => h) ⟨Or.inl ⟨by rfl, ?_⟩, fun _ _ => rfl⟩ (by assumption) ?_; rotate_left; (focus (intro w hSw; (try dsimp only at hSw); go_simp; (try with_reducible rfl))); (try simp only [Act.put, List.setIfInBounds_toArray, List.set_cons_zero, List.set_cons_succ])
        refine wpAnyK_take (i := 1) (oi := ⟨some 31, _, _, _, _, _⟩) (v := ?_) (by kernel_rfl) rfl (by kernel_rfl) (by kernel_rfl) (by kernel_rfl) (fun _ _ _ h => h) ⟨Or.inl ⟨by rfl, ?_⟩, fun _ _ => rfl⟩ (by assumption) ?_; rotate_left; (focus (intro w hSw; (try dsimp only at hSw); go_simp; (try with_reducible rfl))); (try simp only [Act.put, List.setIfInBounds_toArray, List.set_cons_zero, List.set_cons_succ])
        refine wpAnyK_take (i := 2) (oi := ⟨some 32, _, _, _, _, _⟩) (v := ?_) (by kernel_rfl) rfl (by kernel_rfl) (by kernel_rfl) (by kernel_rfl) (fun _ _ _ h => h) ⟨Or.inl ⟨by rfl, ?_⟩, fun _ _ => rfl⟩ (by assumption) ?_; rotate_left; (focus (intro w hSw; (try dsimp only at hSw); go_simp; (try with_reducible rfl))); (try simp only [Act.put, List.setIfInBounds_toArray, List.set_cons_zero, List.set_cons_succ])
        refine wpAnyK_take (i := 3) (oi := ⟨some 33, _, _, _, _, _⟩) (v := ?_) (by kernel_rfl) rfl (by kernel_rfl) (by kernel_rfl) (by kernel_rfl) (fun _ _ _ h => h) ⟨Or.inl ⟨by rfl, ?_⟩, fun _ _ => rfl⟩ (by assumption) ?_; rotate_left; (focus (intro w hSw; (try dsimp only at hSw); go_simp; (try with_reducible rfl))); (try simp only [Act.put, List.setIfInBounds_toArray, List.set_cons_zero, List.set_cons_succ])
        refine wpAnyK_take (i := 5) (oi := ⟨some 35, _, _, _, _, _⟩) (v := ?_) (by kernel_rfl) rfl (by kernel_rfl) (by kernel_rfl) (by kernel_rfl) (fun _ _ _ h => h) ⟨Or.inl ⟨by rfl, ?_⟩, fun _ _ => rfl⟩ (by assumption) ?_; rotate_left; (focus (intro w hSw; (try dsimp only at hSw); go_simp; (try with_reducible rfl))); (try simp only [Act.put, List.setIfInBounds_toArray, List.set_cons_zero, List.set_cons_succ])
        have HM1 : Hid (World.ownsRow (W'.drew.alloc (.cells #[.int .i64 lq] 3)) lo 3 1 mv2 mq.length (mq.map (Value.int .i64))) := own_below HS2.out.me ((Below.refl _ _).drew.alloc (Nat.le_refl _) _)
        have HBSL : Hid (B ≤ tb ∧ B ≤ lo ∧ lo ≤ W'.heap.size ∧ tb < lo) := ⟨by omega, by omega, by have := HLO.out; omega, by omega⟩
        have HTA : Hid (Tg w.heap.size 55 (W'.drew.alloc (.cells #[.int .i64 lq] 3))) := by
          obtain ⟨ar, fr, hob⟩ := HT0.out
          have e1 := (HKW.out.trans HKT2.out).2 _ _ hob (by omega) (fun arr t fr e => by cases e; decide)
          exact (Tg.keep HT0.out e1).below ((Below.refl W'.heap.size W').drew.alloc (Nat.le_refl _) _) hcw
        have HTB : Hid (Tg tb 60 (W'.drew.alloc (.cells #[.int .i64 lq] 3))) := HS2.out.tg.below ((Below.refl W'.heap.size W').drew.alloc (Nat.le_refl _) _) htw
        have HBT : Hid (Bx tb [.map (some mb), mv2] (W'.drew.alloc (.cells #[.int .i64 lq] 3))) := HS2.out.bx.step ((Below.refl W'.heap.size W').drew.alloc (Nat.le_refl _) _)
        have cA : (W'.drew.alloc (.cells #[.int .i64 lq] 3)).cell? ⟨w.heap.size, 0, none⟩ = some (.pointer (some ⟨tb, 0, none⟩)) := (World.cell?_alloc_lt _ _ _ (show w.heap.size < W'.drew.heap.size from hcw)).trans c0
        have tA : (W'.drew.alloc (.cells #[.int .i64 lq] 3)).cell? ⟨tb, 1, none⟩ = some mv2 := HBT.out.c 1 _ rfl
        refine wpAnyK_ready (rs := [4, 6]) (by kernel_rfl) (by simp) ?_; refine AllReadyK.cons (o := ⟨some 34, _, _, _, _, _⟩) rfl (fun K hK => ?_) (AllReadyK.cons (o := ⟨some 36, _, _, _, _, _⟩) rfl (fun K hK => ?_) AllReadyK.nil)
        · go_simp
          refine hK.out _ _ c0 (fun hHeld => ?_); clear hK K; (try simp only [Act.put, List.setIfInBounds_toArray, List.set_cons_zero, List.set_cons_succ])
          refine wpAnyK_ready (rs := [6]) (by kernel_rfl) (by simp) ?_; refine AllReadyK.cons (o := ⟨some 36, _, _, _, _, _⟩) rfl (fun K hK => ?_) AllReadyK.nil; go_simp
          refine hK.out _ _ cA (fun hHeld => ?_); clear hK K; (try simp only [Act.put, List.setIfInBounds_toArray, List.set_cons_zero, List.set_cons_succ])
          refine wpAnyK_ready (rs := [7]) (by kernel_rfl) (by simp) ?_; refine AllReadyK.cons (o := ⟨some 37, _, _, _, _, _⟩) rfl (fun K hK => ?_) AllReadyK.nil
          refine stepIn_append_own_at _ (by rfl) _ _ _ (by rfl) lo 3 i0 (.int .i64 0) 1 8 Try.underlying26 hi hz0 hz1 hz2 rfl (by decide) mv2 mq.length (mq.map (Value.int .i64)) (by rfl) HM1.out ⟨W'.heap.size, 0, none⟩ 1 1 [.int .i64 lq] (by rfl) rfl ?_ ?_ ?_ ?_ ?_ ?_
          · exact cell_one_new W'.drew _ _
          · intro u hu
            obtain rfl := List.mem_singleton.1 hu
            rfl
          · have := HLN.out; unfold maxLen; omega
          · have := HLN.out; omega
          · have := HBSL.out; simp; omega
          intro v' W5 hown hgr hbl
          obtain ⟨A', c', hvf⟩ := row_form' hown
          subst hvf
          have hne : mv2.ownBlock ≠ some w.heap.size := own_tag HM1.out HTA.out (by decide)
          have c5w : W5.cell? ⟨w.heap.size, 0, none⟩ = some (.pointer (some ⟨tb, 0, none⟩)) := (World.cell?_of_block (w := W'.drew.alloc (.cells #[.int .i64 lq] 3)) (a := ⟨w.heap.size, 0, none⟩) (hgr.block w.heap.size (by simp; omega) (fun e => hne e.symm))).trans cA
          have hTgB : Tg tb 60 W5 := (HTB.out).keep (hgr.block tb (by simp; omega) (fun e => own_tag HM1.out HTB.out tree_ne_int e.symm))
          have hBxB : W5.cell? ⟨tb, 1, none⟩ = some mv2 ∧ W5.frozen? ⟨tb, 1, none⟩ = false := by
            have hBt : Bx tb [.map (some mb), mv2] W5 := Bx.keepE HBT.out (hgr.block tb (by simp; omega) (fun e => own_tag HM1.out HTB.out tree_ne_int e.symm)) hgr.size
            exact ⟨hBt.c 1 _ rfl, hBt.f 1⟩
          obtain ⟨t5, f5⟩ := hBxB
          have cF : (W5.setCell ⟨tb, 1, none⟩ (.slice A' (mq.length + 1) c')).cell? ⟨w.heap.size, 0, none⟩ = some (.pointer (some ⟨tb, 0, none⟩)) := (World.cell?_setCell_other _ _ _ _ (by intro e; have := congrArg Addr.block e; dsimp only at this; omega)).trans c5w
          have hktF : Kt mb W' (W5.setCell ⟨tb, 1, none⟩ (.slice A' (mq.length + 1) c')) := ((Kt.of_below ((Below.refl _ _).drew.alloc (Nat.le_refl _) _)).trans (Kt.ints HM1.out hgr)).trans (Kt.set hTgB (.inr (.inl rfl)))
          have hblF : Below B W' (W5.setCell ⟨tb, 1, none⟩ (.slice A' (mq.length + 1) c')) := ((((Below.refl B W').drew.alloc hBW' _).grown hgr (by simp; omega) (fun r e => by have := (HM1.out.lt r e).1; have := HBSL.out; omega))).setCell (p := ⟨tb, 1, none⟩) (by show B ≤ tb; have := HBSL.out; omega) _
          have hstF := (HS2.out.below ((Below.refl W'.heap.size W').drew)).meet (o := .cells #[.int .i64 lq] 3) (l := lq) hown hgr
          have HKF := Lib.hid hktF
          have HBF := Lib.hid hblF
          have HSF := Lib.hid hstF
          clear hktF hblF hstF hown hgr hbl
          refine hK.out _ _ c5w (fun hHeld => ?_); clear hK K; (try simp only [Act.put, List.setIfInBounds_toArray, List.set_cons_zero, List.set_cons_succ])
          refine wpAnyK_take (i := 8) (oi := ⟨some 38, _, _, _, _, _⟩) (v := ?_) (by kernel_rfl) rfl (by kernel_rfl) (by kernel_rfl) (by kernel_rfl) (fun _ _ _ h => h) ⟨Or.inl ⟨by rfl, ?_⟩, fun _ _ => rfl⟩ (by assumption) ?_; rotate_left; (focus (intro w hSw; (try dsimp only at hSw); go_simp; (try with_reducible rfl))); (try simp only [Act.put, List.setIfInBounds_toArray, List.set_cons_zero, List.set_cons_succ])
          refine wpAnyK_take (i := 9) (oi := ⟨some 39, _, _, _, _, _⟩) (v := ?_) (by kernel_rfl) rfl (by kernel_rfl) (by kernel_rfl) (by kernel_rfl) (fun _ _ _ h => h) ⟨Or.inl ⟨by rfl, ?_⟩, fun _ _ => rfl⟩ (by assumption) ?_; rotate_left; (focus (intro w hSw; (try dsimp only at hSw); go_simp; (try with_reducible rfl))); (try simp only [Act.put, List.setIfInBounds_toArray, List.set_cons_zero, List.set_cons_succ])
          refine wpAnyK_ready (rs := [10]) (by kernel_rfl) (by simp) ?_; refine AllReadyK.cons (o := ⟨none, _, _, _, _, _⟩) rfl (fun K hK => ?_) AllReadyK.nil; go_simp
          refine hK.out _ _ cF (fun hHeld => ?_); clear hK K; (try simp only [Act.put, List.setIfInBounds_toArray, List.set_cons_zero, List.set_cons_succ])
          refine wpAnyK_done (by kernel_rfl) ?_ _
          try gi_wp2
          have hz1 := HSZ1.out
          refine ⟨⟨HKF.out.1, fun q ob hq h1 h2 => ?_⟩, ⟨HBF.out, fun h => ?_⟩, ⟨cF, ⟨C2, Value.slice A' (mq.length + 1) c', ?_⟩, HKT2.out.trans HKF.out, HBL2.out.trans HBF.out⟩, by have := HKF.out.1; omega⟩
          · exact (HKF.out.2 q ob h1 (by omega) (fun arr t fr e => by rw [e] at h2; cases h2)).trans h1
          · obtain ⟨ar1, fr1, hob1⟩ := HT2.out
            have e1 := HKT2.out.2 _ _ hob1 (by omega) (fun arr t fr e => by cases e; decide)
            exact (World.cell?_of_block (w := W') (a := ⟨W.heap.size, 0, none⟩) (HKF.out.2 W.heap.size _ (e1.trans hob1) (by omega) (fun arr t fr e => by cases e; decide))).trans h
          · rw [HSN.out, ← List.append_assoc, ← HMQ.out]
            exact HSF.out
        · go_simp
          refine hK.out _ _ cA (fun hHeld => ?_); clear hK K; (try simp only [Act.put, List.setIfInBounds_toArray, List.set_cons_zero, List.set_cons_succ])
          refine wpAnyK_ready (rs := [4]) (by kernel_rfl) (by simp) ?_; refine AllReadyK.cons (o := ⟨some 34, _, _, _, _, _⟩) rfl (fun K hK => ?_) AllReadyK.nil; go_simp
          refine hK.out _ _ cA (fun hHeld => ?_); clear hK K; (try simp only [Act.put, List.setIfInBounds_toArray, List.set_cons_zero, List.set_cons_succ])
          refine wpAnyK_ready (rs := [7]) (by kernel_rfl) (by simp) ?_; refine AllReadyK.cons (o := ⟨some 37, _, _, _, _, _⟩) rfl (fun K hK => ?_) AllReadyK.nil
          refine stepIn_append_own_at _ (by rfl) _ _ _ (by rfl) lo 3 i0 (.int .i64 0) 1 8 Try.underlying26 hi hz0 hz1 hz2 rfl (by decide) mv2 mq.length (mq.map (Value.int .i64)) (by rfl) HM1.out ⟨W'.heap.size, 0, none⟩ 1 1 [.int .i64 lq] (by rfl) rfl ?_ ?_ ?_ ?_ ?_ ?_
          · exact cell_one_new W'.drew _ _
          · intro u hu
            obtain rfl := List.mem_singleton.1 hu
            rfl
          · have := HLN.out; unfold maxLen; omega
          · have := HLN.out; omega
          · have := HBSL.out; simp; omega
          intro v' W5 hown hgr hbl
          obtain ⟨A', c', hvf⟩ := row_form' hown
          subst hvf
          have hne : mv2.ownBlock ≠ some w.heap.size := own_tag HM1.out HTA.out (by decide)
          have c5w : W5.cell? ⟨w.heap.size, 0, none⟩ = some (.pointer (some ⟨tb, 0, none⟩)) := (World.cell?_of_block (w := W'.drew.alloc (.cells #[.int .i64 lq] 3)) (a := ⟨w.heap.size, 0, none⟩) (hgr.block w.heap.size (by simp; omega) (fun e => hne e.symm))).trans cA
          have hTgB : Tg tb 60 W5 := (HTB.out).keep (hgr.block tb (by simp; omega) (fun e => own_tag HM1.out HTB.out tree_ne_int e.symm))
          have hBxB : W5.cell? ⟨tb, 1, none⟩ = some mv2 ∧ W5.frozen? ⟨tb, 1, none⟩ = false := by
            have hBt : Bx tb [.map (some mb), mv2] W5 := Bx.keepE HBT.out (hgr.block tb (by simp; omega) (fun e => own_tag HM1.out HTB.out tree_ne_int e.symm)) hgr.size
            exact ⟨hBt.c 1 _ rfl, hBt.f 1⟩
          obtain ⟨t5, f5⟩ := hBxB
          have cF : (W5.setCell ⟨tb, 1, none⟩ (.slice A' (mq.length + 1) c')).cell? ⟨w.heap.size, 0, none⟩ = some (.pointer (some ⟨tb, 0, none⟩)) := (World.cell?_setCell_other _ _ _ _ (by intro e; have := congrArg Addr.block e; dsimp only at this; omega)).trans c5w
          have hktF : Kt mb W' (W5.setCell ⟨tb, 1, none⟩ (.slice A' (mq.length + 1) c')) := ((Kt.of_below ((Below.refl _ _).drew.alloc (Nat.le_refl _) _)).trans (Kt.ints HM1.out hgr)).trans (Kt.set hTgB (.inr (.inl rfl)))
          have hblF : Below B W' (W5.setCell ⟨tb, 1, none⟩ (.slice A' (mq.length + 1) c')) := ((((Below.refl B W').drew.alloc hBW' _).grown hgr (by simp; omega) (fun r e => by have := (HM1.out.lt r e).1; have := HBSL.out; omega))).setCell (p := ⟨tb, 1, none⟩) (by show B ≤ tb; have := HBSL.out; omega) _
          have hstF := (HS2.out.below ((Below.refl W'.heap.size W').drew)).meet (o := .cells #[.int .i64 lq] 3) (l := lq) hown hgr
          have HKF := Lib.hid hktF
          have HBF := Lib.hid hblF
          have HSF := Lib.hid hstF
          clear hktF hblF hstF hown hgr hbl
          refine hK.out _ _ c5w (fun hHeld => ?_); clear hK K; (try simp only [Act.put, List.setIfInBounds_toArray, List.set_cons_zero, List.set_cons_succ])
          refine wpAnyK_take (i := 8) (oi := ⟨some 38, _, _, _, _, _⟩) (v := ?_) (by kernel_rfl) rfl (by kernel_rfl) (by kernel_rfl) (by kernel_rfl) (fun _ _ _ h => h) ⟨Or.inl ⟨by rfl, ?_⟩, fun _ _ => rfl⟩ (by assumption) ?_; rotate_left; (focus (intro w hSw; (try dsimp only at hSw); go_simp; (try with_reducible rfl))); (try simp only [Act.put, List.setIfInBounds_toArray, List.set_cons_zero, List.set_cons_succ])
          refine wpAnyK_take (i := 9) (oi := ⟨some 39, _, _, _, _, _⟩) (v := ?_) (by kernel_rfl) rfl (by kernel_rfl) (by kernel_rfl) (by kernel_rfl) (fun _ _ _ h => h) ⟨Or.inl ⟨by rfl, ?_⟩, fun _ _ => rfl⟩ (by assumption) ?_; rotate_left; (focus (intro w hSw; (try dsimp only at hSw); go_simp; (try with_reducible rfl))); (try simp only [Act.put, List.setIfInBounds_toArray, List.set_cons_zero, List.set_cons_succ])
          refine wpAnyK_ready (rs := [10]) (by kernel_rfl) (by simp) ?_; refine AllReadyK.cons (o := ⟨none, _, _, _, _, _⟩) rfl (fun K hK => ?_) AllReadyK.nil; go_simp
          refine hK.out _ _ cF (fun hHeld => ?_); clear hK K; (try simp only [Act.put, List.setIfInBounds_toArray, List.set_cons_zero, List.set_cons_succ])
          refine wpAnyK_done (by kernel_rfl) ?_ _
          try gi_wp2
          have hz1 := HSZ1.out
          refine ⟨⟨HKF.out.1, fun q ob hq h1 h2 => ?_⟩, ⟨HBF.out, fun h => ?_⟩, ⟨cF, ⟨C2, Value.slice A' (mq.length + 1) c', ?_⟩, HKT2.out.trans HKF.out, HBL2.out.trans HBF.out⟩, by have := HKF.out.1; omega⟩
          · exact (HKF.out.2 q ob h1 (by omega) (fun arr t fr e => by rw [e] at h2; cases h2)).trans h1
          · obtain ⟨ar1, fr1, hob1⟩ := HT2.out
            have e1 := HKT2.out.2 _ _ hob1 (by omega) (fun arr t fr e => by cases e; decide)
            exact (World.cell?_of_block (w := W') (a := ⟨W.heap.size, 0, none⟩) (HKF.out.2 W.heap.size _ (e1.trans hob1) (by omega) (fun arr t fr e => by cases e; decide))).trans h
          · rw [HSN.out, ← List.append_assoc, ← HMQ.out]
            exact HSF.out
      case doneb =>
        rintro D2 ys W7 hD2 rfl ⟨hJ7, hBW7⟩ hK7
        obtain ⟨c07, ⟨C3, mv3, st3⟩, kt3, bl3⟩ := hJ7
        have hL : mt ++ r.1 ++ ((sub m6 m6).map fun x => L6[m6 - 1 - x.1]?.getD 0) = mt ++ (r.1 ++ L6.reverse) := by
          have e1 : ((sub m6 m6).map fun x => L6[m6 - 1 - x.1]?.getD 0) = ((sub m6 m6).map Subtype.val).map fun x => L6[m6 - 1 - x]?.getD 0 := by rw [List.map_map]; rfl
          rw [List.append_assoc, e1, sub_val m6 m6 (Nat.le_refl _)]
          have hl := HM6L.out
          congr 2
          apply List.ext_getElem
          · simp [hl]
          · intro i h1 h2
            simp at h1
            rw [List.getElem_map, List.getElem_range, List.getElem_reverse]
            have h3 : m6 - 1 - i < L6.length := by omega
            rw [List.getElem?_eq_getElem h3, Option.getD_some]
            congr 1
            omega
        rw [hL] at st3
        have hbo := (st3.tr.bx o g HG.out).2.1
        obtain ⟨v7, hv7⟩ : ∃ v, v = C3 o := ⟨_, rfl⟩
        rw [← hv7] at hbo
        have s4 := hbo.c 4 _ rfl
        have f4 := hbo.f 4
        have hg7 := hbo.lt
        have hstF := st3.wipe (o := o) (g := g) (by rw [HJL.out]; exact hon) HG.out
        have hktF : Kt mb w (W7.setCell ⟨g, 4, none⟩ (.slice none 0 0)) := ((((Kt.of_below (HWB.out)).trans HKW.out)).trans kt3).trans (Kt.set (st3.tr.bx o g HG.out).2.2.1 (.inl rfl))
        have hblF : Below B w (W7.setCell ⟨g, 4, none⟩ (.slice none 0 0)) := bl3.setCell (p := ⟨g, 4, none⟩) (by show B ≤ g; omega) _
        have hD7 : W7.heap[D]? = some (.deferred (some [])) := (kt3.2 D _ HD1.out (by have := HZ2.out; omega) (fun arr t fr e => by cases e)).trans HD1.out
        have HKF := Lib.hid hktF
        have HBF := Lib.hid hblF
        have HSF := Lib.hid hstF
        have HDD := Lib.hid hD7
        have HK7 := Lib.hid hK7
        clear st3 kt3 bl3 hbo hv7 hstF hktF hblF hD7 hL hK7
        gi_wp2
        obtain ⟨W8, hW8⟩ : ∃ W8, W8 = W7.setCell ⟨g, 4, none⟩ (.slice none 0 0) := ⟨_, rfl⟩
        have hDl : D < W.heap.size := by
          have := HDW.out
          exact (Array.getElem?_eq_some_iff.1 this).1
        have hd2 : W8.heap[D2]? = some (.deferred (some [])) := by rw [hW8]; exact (Below.heap_setCell _ _ _ _ (by show D2 ≠ g; have := HSZ1.out; omega)).trans HK7.out
        have hd1 : W8.heap[D]? = some (.deferred (some [])) := by rw [hW8]; exact (Below.heap_setCell _ _ _ _ (by show D ≠ g; have := HZ2.out; omega)).trans HDD.out
        rw [← hW8] at HSF HKF HBF
        have hdd : D ≠ D2 := by have := HSZ1.out; omega
        have hD8 : D2 < W8.heap.size := (Array.getElem?_eq_some_iff.1 hd2).1
        have g2 := grownBy_putObj' W8 D2 (.deferred none)
        have hd1' : (W8.putObj D2 (.deferred none)).heap[D]? = some (.deferred (some [])) := (g2.block D (Array.getElem?_eq_some_iff.1 hd1).1 (by intro e; cases e; exact hdd rfl)).trans hd1
        have g1 := grownBy_putObj' (W8.putObj D2 (.deferred none)) D (.deferred none)
        have hz2 := HZ2.out
        have hz1 := HSZ1.out
        rw [← hW8]
        refine ⟨by simp, .inl ⟨_, _, rfl, run_takeDeferred hd2, ⟨by simp, .inl ⟨_, _, rfl, run_takeDeferred hd1', ?_⟩⟩⟩⟩
        have hst9 := (HSF.out.kept g2 (fun r e => by cases e; exact ⟨by omega, _, hd2, rfl⟩)).kept g1 (fun r e => by cases e; exact ⟨by omega, _, hd1', rfl⟩)
        have e2 : clI ds (f + 1) es o = (r.1 ++ L6.reverse, wipe r.2 o) := by rw [HSTEP.out, HL6.out]; rfl
        refine ⟨_, results_none rfl _ _ _, rfl, _, mv3, by rw [e2]; exact hst9, ⟨by have := HKF.out.1; have := g2.size; have := g1.size; omega, fun q ob h1 h2 h3 => ?_⟩, (HBF.out.grown g2 (by have := HKF.out.1; omega) (fun r e => by cases e; omega)).grown g1 (by have := HKF.out.1; have := g2.size; omega) (fun r e => by cases e; omega)⟩
        have hq : q < w.heap.size := (Array.getElem?_eq_some_iff.1 h1).1
        have hq8 : q < W8.heap.size := by have := HKF.out.1; omega
        exact (g1.block q (by have := g2.size; omega) (by intro e; cases e; omega)).trans ((g2.block q hq8 (by intro e; cases e; omega)).trans (HKF.out.2 q ob h1 h2 h3))

end Go.Proofs.Ytkfglodjnnlbkaa
