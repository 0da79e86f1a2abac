/- impl.PatchOf. (Made by k12.py.) -/
import Derived.Test.YtjlfabfejnpaaaaS19
import Derived.Test.YtjlfabfejnpaaaaK10
import Derived.Test.YtjlfabfejnpaaaaK11
import Derived.Test.YtjlfabfejnpaaaaK6

namespace Go.Proofs.Ytjlfabfejnpaaaa
set_option linter.unusedSimpArgs false
set_option linter.unusedVariables false
open Go.RowKit Go.Shelf

attribute [local go_sem] Oper.semAt_some

theorem OwK.keptC {lo hi n b k : Nat} {v u : Value} {xs F : List Value} {w w' : World} (h : OwK lo hi v n xs w) (hu : w.ownsRow b 55 3 u k F) (hg : w.grownBy w' u.ownBlock) : OwK lo hi v n xs w' := by
  refine ⟨h.1, ?_⟩
  rcases h.2 with hn | ⟨g, c, m, c', ys, rfl, hc, ho, hgh, hm, ht⟩
  · exact .inl hn
  · exact .inr ⟨g, c, m, c', ys, rfl, hc, World.ownsRow.kept ho hg (blocks_ne ho hu (by decide)), hgh, hm, ht⟩
theorem OwK.keptB {lo hi n B : Nat} {v x y : Value} {xs : List Value} {w : World} (h : OwK lo hi v n xs w) (hb : Boxed w B 29 x) : OwK lo hi v n xs (w.setCell ⟨B, 0, none⟩ y) := by
  refine ⟨h.1, ?_⟩
  rcases h.2 with hn | ⟨g, c, m, c', ys, rfl, hc, ho, hgh, hm, ht⟩
  · exact .inl hn
  · exact .inr ⟨g, c, m, c', ys, rfl, hc, World.ownsRow.kept ho (grownBy_setCell' w B y) (.inr (hb.not_row (by decide) ho).symm), hgh, hm, ht⟩
theorem OwK.alloc {lo hi n : Nat} {v : Value} {xs : List Value} {w : World} (h : OwK lo hi v n xs w) (hh : hi ≤ w.heap.size) (o : Obj) : OwK lo hi v n xs (w.alloc o) :=
  h.keep fun k _ hk => Below.heap_alloc w o k (Nat.lt_of_lt_of_le hk hh)

/-- What turned from W to the world behind an append to the boxed list at bx whose row lies at or beyond lo: the box, the row, new blocks. -/
structure AppT (bx lo : Nat) (W W' : World) : Prop where
  os : W'.os = W.os
  tape : W'.tape = W.tape
  output : W'.output = W.output
  size : W.heap.size ≤ W'.heap.size
  block : ∀ k, k < W.heap.size → k ≠ bx → k < lo → W'.heap[k]? = W.heap[k]?
  other : ∀ (k : Nat) (o : Obj), W.heap[k]? = some o → o.isCells = false → W'.heap[k]? = some o

theorem box_append {W w1 : World} {bx lo : Nat} {v v' : Value} {k : Nat} {m : Nat} {xs ys : List Value} {tmp : Obj} (hv : Boxed W bx 29 v) (hrow : W.ownsRow lo 55 3 v k xs) (hown' : w1.ownsRow lo 55 3 v' m ys) (hgrow : (W.alloc tmp).grownBy w1 v.ownBlock) :
    Boxed w1 bx 29 v ∧ Boxed (w1.setCell ⟨bx, 0, none⟩ v') bx 29 v' ∧ (w1.setCell ⟨bx, 0, none⟩ v').ownsRow lo 55 3 v' m ys ∧ AppT bx lo W (w1.setCell ⟨bx, 0, none⟩ v') := by
  have hv1 : Boxed w1 bx 29 v := (hv.alloc tmp).kept hgrow (hv.not_row (by decide) hrow)
  have hs := grownBy_setCell' w1 bx v'
  have hne : ∀ k, some k = v.ownBlock → lo ≤ k := fun k e => (World.ownsRow.lt hrow k e.symm).1
  refine ⟨hv1, hv1.set v', hown'.kept hs (.inr (hv1.not_row (by decide) hown').symm), ⟨hs.os.trans hgrow.os, hs.tape.trans hgrow.tape, hs.output.trans hgrow.output, ?_, ?_, ?_⟩⟩
  · have h1 := hgrow.size
    have h2 := hs.size
    simp at h1
    omega
  · intro q hq hb hl
    have h1 : w1.heap[q]? = (W.alloc tmp).heap[q]? := hgrow.block q (by simp; omega) fun e => by have := hne q e; omega
    have h0 := Below.heap_alloc W tmp q hq
    have hw1 : q < w1.heap.size := by have := hgrow.size; simp at this; omega
    exact (hs.block q hw1 fun e => hb (by cases e; rfl)).trans (h1.trans h0)
  · intro q o ho hc
    have hq : q < W.heap.size := (Array.getElem?_eq_some_iff.1 ho).1
    have h0 := Below.heap_alloc W tmp q hq
    have h1 : w1.heap[q]? = (W.alloc tmp).heap[q]? := hgrow.block q (by simp; omega) fun e => by
      rcases hrow.2 with ⟨rfl, _⟩ | ⟨g, cap, cur, rfl, _, hg, _⟩
      · simp [Value.ownBlock] at e
      · simp [Value.ownBlock] at e
        subst e
        rw [hg] at ho; cases ho; cases hc
    have hw1 : q < w1.heap.size := by have := hgrow.size; simp at this; omega
    refine (hs.block q hw1 fun e => ?_).trans (h1.trans (h0.trans ho))
    cases e
    have := hv
    unfold Boxed at this
    rw [this] at ho; cases ho; cases hc

theorem AppT.below {bx lo B : Nat} {W W' w : World} (h : AppT bx lo W W') (hb : Below B w W) (h1 : B ≤ bx) (h2 : B ≤ lo) (h3 : B ≤ W.heap.size) : Below B w W' :=
  hb.trans ⟨h.os, h.tape, h.output, h.size, fun k hk => h.block k (by omega) (by omega) (by omega)⟩
theorem AppT.keeps {bx lo : Nat} {W W' : World} (h : AppT bx lo W W') : KeepsOthers W W' := ⟨h.size, h.other⟩
theorem AppT.kc {bx lo : Nat} {W W' : World} (h : AppT bx lo W W') : KC (fun k => bx < k ∧ k < lo) W W' := fun p x hs hx => by
  have hl := World.block_lt_of_cell? W _ hx
  exact (World.cell?_of_block (h.block p.block hl (by omega) (by omega))).trans hx

theorem own_snocC {w : World} {lo : Nat} {v : Value} {F : List Ac} {p : Ac} (h : w.ownsRow lo 55 3 v (F.length + 1) (F.flatMap Ac.cells ++ p.cells)) : w.ownsRow lo 55 3 v (F ++ [p]).length ((F ++ [p]).flatMap Ac.cells) := by
  rw [List.length_append, List.flatMap_append]
  simpa using h
theorem own_castC {w : World} {lo : Nat} {v : Value} {F F' : List Ac} (h : w.ownsRow lo 55 3 v F.length (F.flatMap Ac.cells)) (e : F = F') : w.ownsRow lo 55 3 v F'.length (F'.flatMap Ac.cells) := by subst e; exact h

/-- The changes of the rounds. -/
def rmv (G : List Int) (l : Nat) (pre : List (Below' l)) : List Ac := pre.map fun x => ⟨0, G[l - 1 - x.1]?.getD 0, -1⟩
theorem rmv_all (G : List Int) (l : Nat) (hl : l = G.length) : rmv G l (sub l l) = pt1 G l := by
  unfold rmv pt1
  rw [← sub_val l l (Nat.le_refl _), List.map_map, ← hl]
  rfl
theorem rmv_len (G : List Int) (l : Nat) (pre : List (Below' l)) : (rmv G l pre).length = pre.length := by simp [rmv]

set_option maxRecDepth 100000 in
set_option maxHeartbeats 6400000 in
theorem impl_PatchOf (A A' : Option Addr) (n c m c' : Nat) (xs ys : List Int) (w : World) (hn : n = xs.length) (hnc : n ≤ c) (hm : m = ys.length) (hmc : m ≤ c') (h : IS w w.heap.size A xs) (h' : IS w w.heap.size A' ys) (hs : n ≤ 1048576) (hs' : m ≤ 1048576) :
    Calls Try.prog 24 #[.slice A n c, .slice A' m c'] w fun e w' => RetC w (patchF xs ys) e w' := by
  obtain ⟨i1, hi1, hy0, hy1, hy2⟩ := info_parts info_chg
  have HC := Lib.hid (impl_areBothKeys A A' n c m c' xs ys w w.heap.size (Nat.le_refl _) hn hnc hm hmc h h' (by omega) (by omega))
  have HKN := Lib.hid fun (w' : World) (hb : Below w.heap.size w w') => impl_keysNotIn A A' n c m c' xs ys w' w.heap.size hb.size hn hm (h.below hb (Nat.le_refl _)) (h'.below hb (Nat.le_refl _)) (by omega) (by omega)
  have HST := Lib.hid fun (w' : World) (hb : Below w.heap.size w w') => impl_StaysOf A A' n c m c' xs ys w' hn hnc hm hmc ((h.below hb (Nat.le_refl _)).more hb.size) ((h'.below hb (Nat.le_refl _)).more hb.size) (by omega) (by omega)
  have hpf : patchF xs ys = if bothK xs ys then pt1 (notK xs ys) (notK xs ys).length ++ pt2 xs (staysF xs ys) ys ys.length else [] := by
    unfold patchF patchK staysF
    cases bothK xs ys <;> rfl
  have hgl := notK_len xs ys
  have hsl := staysF_len xs ys
  rw [hpf]
  generalize notK xs ys = G at *
  generalize staysF xs ys = S at *
  generalize bothK xs ys = r at *
  obtain ⟨l, hl⟩ : ∃ l : Nat, l = G.length := ⟨_, rfl⟩
  obtain ⟨ls, hls⟩ : ∃ ls : Nat, ls = S.length := ⟨_, rfl⟩
  have hl1 : l ≤ 1048576 := by omega
  have hls1 : ls ≤ 10 := by omega
  rw [← hl, ← hm]
  have HL := Lib.hid hl
  have HLS := Lib.hid hls
  have H := Lib.hid h
  have HN := Lib.hid hn
  have H' := Lib.hid h'
  have HM := Lib.hid hm
  clear hn h hm h' hl hls hgl hsl hpf hnc hmc
  cases r
  · simp only [Bool.false_eq_true, if_false]
    go_enter Try.func24, Try.ntmps24
    go_wp2_with fail
    refine HC.out.mono ?_
    rintro e w1 ⟨rfl, hb⟩
    go_wp2
    go_ret
    exact ⟨_, rfl, World.ownsRow_nil _ _ _ _, hb⟩
  simp only [if_true]
  refine (callsIn_wide (n := 5)).1 ?_
  refine callsIn_of_wp_marks Try.func24 rfl trivial ?_ rfl
  simp only [Try.ntmps24, List.size_toArray, List.length_cons, List.length_nil, Nat.reduceAdd, Nat.reduceSub, Array.replicate_succ, Array.replicate_zero, List.push_toArray, List.append_toArray, List.nil_append, List.cons_append]
  gi_wp2_with fail
  refine ⟨trivial, ?_⟩
  gi_at_call 44
  refine (callsIn_wide.2 HC.out).mono ?_
  rintro e w1 ⟨rfl, hb1⟩
  gi_wp2_with fail
  refine ⟨trivial, ?_⟩
  gi_at_call 51
  refine (callsIn_wide.2 (HKN.out _ (hb1.alloc hb1.size _))).mono ?_
  rintro e w2 ⟨gv, rfl, ho2, hb2⟩
  obtain ⟨A2, c2, rfl, hi2, _, hlt2⟩ := ho2.form' l HL.out
  have hl2 : w1.heap.size < w2.heap.size := by have := hb2.size; simp at this; omega
  have hbx2 : Boxed w2 w1.heap.size 29 (.slice none 0 0) := (hb2.block w1.heap.size (by simp)).trans (Boxed.new w1 29 (.slice none 0 0))
  have hB2 : Below w.heap.size w w2 := (hb1.alloc hb1.size _).trans (hb2.mono (by have := hb1.size; simp; omega))
  have hA2 : ∀ b off, A2 = some ⟨b, off, none⟩ → w1.heap.size < b ∧ b < w2.heap.size := by
    rintro b off rfl
    have := hlt2 b rfl
    simp at this
    omega
  have HI2 := Lib.hid hi2
  have HBX2 := Lib.hid hbx2
  have HB2 := Lib.hid hB2
  have HA2 := Lib.hid hA2
  have hw1 := hb1.size
  clear ho2 hb2 hi2 hbx2 hB2 hA2 hlt2 HKN HC
  gi_wp2_with fail
  refine ⟨trivial, ?_⟩
  gi_at_call 53
  refine (callsIn_wide.2 (backward_at A2 l c2 _)).mono ?_
  rintro e w' ⟨rfl, rfl⟩
  have hbs : (w2.alloc (.cells #[.slice A2 l c2] 22)).cell? ⟨w2.heap.size, 0, none⟩ = some (.slice A2 l c2) := by go_simp
  have hsz3 : (w2.alloc (.cells #[.slice A2 l c2] 22)).heap.size = w2.heap.size + 1 := by simp
  have hI3 : IS (w2.alloc (.cells #[.slice A2 l c2] 22)) (w2.alloc (.cells #[.slice A2 l c2] 22)).heap.size A2 G := (HI2.out.alloc (Nat.le_refl _) _).more (by simp)
  have hbx3 : Boxed (w2.alloc (.cells #[.slice A2 l c2] 22)) w1.heap.size 29 (.slice none 0 0) := HBX2.out.alloc _
  have hB3 : Below w.heap.size w (w2.alloc (.cells #[.slice A2 l c2] 22)) := HB2.out.alloc HB2.out.size _
  generalize w2.alloc (.cells #[.slice A2 l c2] 22) = w3 at *
  have HB3 := Lib.hid hB3
  have HSZ3 := Lib.hid hsz3
  have hle3 : w1.heap.size < w3.heap.size := by omega
  have hlw3 : w.heap.size ≤ w3.heap.size := by omega
  have hlt3 : w2.heap.size < w3.heap.size := by omega
  clear hB3 hsz3
  gi_wp2
  refine wpIn_rangeFunc_ownG rfl (by omega) (gf := 78) (lb := #[.pointer (some ⟨w2.heap.size, 0, none⟩)]) rfl trivial (enters_of Try.func78 (by kernel_rfl) rfl)
    (backC_stops Fence.wide _ trivial rfl (by omega) w2.heap.size (fun k => w1.heap.size < k ∧ k < w3.heap.size) (by omega) A2 l c2 G HL.out (by omega) w3 (by omega) hbs hI3 (fun b off e => by have := HA2.out b off e; omega)) KC.tr KC.put' (Below.refl _ _) (fun _ => rfl)
    (fun pre W => (∃ v, Boxed W w1.heap.size 29 v ∧ W.ownsRow w3.heap.size 55 3 v (rmv G l pre).length ((rmv G l pre).flatMap Ac.cells) ∧ w3.heap.size ≤ W.heap.size) ∧ Below w.heap.size w W)
    (fun _ _ _ => False)
    (fun s X Y row hs hg hr => ⟨by
      obtain ⟨v, hv, ho, hsz⟩ := hs.1
      obtain ⟨v', hv', ho', _⟩ := holdsRow_own w3.heap.size w1.heap.size 29 55 3 (fun pre => (rmv G l pre).length) (fun pre => (rmv G l pre).flatMap Ac.cells) (fun _ _ => True) s X Y row ⟨v, hv, ho, trivial⟩ hg fun r e => (hr r e).2
      exact ⟨v', hv', ho', Nat.le_trans hsz hg.size⟩, hs.2.grown hg hs.2.size fun k e => Nat.le_trans hlw3 (hr k e).1⟩)
    (fun _ _ _ _ _ hs _ _ => hs)
    ⟨⟨_, hbx3, World.ownsRow_nil _ _ _ _, Nat.le_refl _⟩, HB3.out⟩
    (fun x => { tmps := #[.slice A n c, .slice A' m c', undef, undef, .slice none 0 0, .pointer (some ⟨w1.heap.size, 0, none⟩), undef, .int .i64 (G[l - 1 - x.1]?.getD 0), undef, undef, undef, undef, .slice A n c, .slice A' m c', .bool true, .bool false, .slice A n c, .slice A' m c', .slice A2 l c2, .func (.func 78) #[] #[.pointer (some ⟨w2.heap.size, 0, none⟩)], .int .i64 ((l - 1 - x.1 : Nat) : Int), .int .i64 (G[l - 1 - x.1]?.getD 0), undef, undef, undef, undef, undef, undef, undef, undef, undef, undef, undef, undef, undef, undef, undef, undef, undef, undef, undef, undef, undef, undef, undef, undef, undef, undef, undef, undef, undef, undef, undef, undef, undef, undef, undef, undef, undef], defers := [] }) ?assign ?body ?done ?stop
  case assign =>
    intro l0 x W K hK
    gi_wp2
    exact hK
  case body =>
    rintro l0 pre ⟨q, hq⟩ W ⟨⟨v, hv, hr, hwl⟩, hB⟩ hlen
    dsimp only
    have hrl : (rmv G l pre).length ≤ 1048576 := by rw [rmv_len]; omega
    have hsn : rmv G l (pre ++ [(⟨q, hq⟩ : Below' l)]) = rmv G l pre ++ [⟨0, G[l - 1 - q]?.getD 0, -1⟩] := by simp [rmv]
    have HSN := Lib.hid hsn
    generalize rmv G l pre = F at *
    generalize G[l - 1 - q]?.getD 0 = x at *
    have HFL := Lib.hid hrl
    have HV := Lib.hid hv
    have HR := Lib.hid hr
    have HB := Lib.hid hB
    have hc0 := hv.cell
    have hf0 := hv.frozen
    clear hsn hrl hv hr hB
    gi_wp2_with (gi_at_builtin; refine wpListIn_append_own _ rfl _ _ 29 rfl w3.heap.size 55 i1 _ 3 24 Try.underlying29 hi1 hy0 hy1 hy2 rfl (by decide) _ _ _ rfl (HR.out.alloc _) ⟨_, 0, none⟩ 1 1 (Ac.cells ⟨0, x, -1⟩) rfl rfl (acells_new _ _ _ _ rfl) ?d2 ?d3 ?d4 ?d5 ?_)
    case d2 => intro u hu; simp [Ac.cells] at hu; rcases hu with rfl | rfl | rfl <;> rfl
    case d3 => have := HFL.out; unfold maxLen; omega
    case d4 => have := HFL.out; omega
    case d5 => first | omega | (simp; omega)
    intro v' w7 hown' hgrow _
    obtain ⟨g', cap', rfl⟩ := ownsRow_succ hown'
    obtain ⟨hv1, hv2, hr2, hst⟩ := box_append (tmp := .cells #[.int .i64 (0), .int .i64 (x), .int .i64 (-1)] 55) HV.out HR.out hown' hgrow
    have hc1 := hv1.cell
    have hf1 := hv1.frozen
    have HV2 := Lib.hid hv2
    have HR2 := Lib.hid hr2
    have HT2 := Lib.hid hst
    clear hown' hgrow hv1 hv2 hr2 hst
    gi_wp2
    refine ⟨HT2.out.keeps.from _, HT2.out.kc, ⟨⟨_, HV2.out, ?_, Nat.le_trans hwl HT2.out.size⟩, HT2.out.below HB.out (by omega) hlw3 HB.out.size⟩⟩
    show World.ownsRow _ w3.heap.size 55 3 _ (rmv G l (pre ++ [(⟨q, hq⟩ : Below' l)])).length ((rmv G l (pre ++ [(⟨q, hq⟩ : Below' l)])).flatMap Ac.cells)
    rw [HSN.out, List.length_append, List.flatMap_append]
    simpa using HR2.out
  case done =>
    rintro D zs W hD rfl ⟨⟨v, hv, hr, hwl⟩, hB⟩ hK
    rw [rmv_all G l HL.out] at hr
    obtain ⟨bx, hbxe⟩ : ∃ bx, bx = w1.heap.size := ⟨_, rfl⟩
    have hDl : D < W.heap.size := (Array.getElem?_eq_some_iff.1 hK).1
    have HV0 := Lib.hid hv
    have HR0 := Lib.hid hr
    have HB0 := Lib.hid hB
    have HD0 := Lib.hid hK
    have hbxl : w1.heap.size < W.heap.size := hv.lt
    clear hv hr hB hK hbxe
    gi_wp2_with fail
    refine ⟨trivial, ?_⟩
    gi_at_call 16
    refine (callsIn_wide.2 (HST.out _ HB0.out)).mono ?_
    rintro e w5 ⟨v5, rfl, ho5, hb5⟩
    rw [← HLS.out] at ho5
    obtain ⟨A5, c5, rfl⟩ := ho5.form
    have HV5 : Hid (Boxed w5 w1.heap.size 29 v) := (hb5.block _ hbxl).trans HV0.out
    have HR5 : Hid (w5.ownsRow w3.heap.size 55 3 v (pt1 G l).length ((pt1 G l).flatMap Ac.cells)) := own_below HR0.out hb5
    have HB5 := Lib.hid (HB0.out.trans (hb5.mono HB0.out.size))
    have HD5 : Hid (w5.heap[D]? = some (.deferred (some []))) := (hb5.block _ hDl).trans HD0.out
    have HKK := Lib.hid ho5
    have HP0 : Hid (prevK ys 0 = -1) := rfl
    have hw5 : W.heap.size ≤ w5.heap.size := hb5.size
    clear ho5 hb5 HV0 HR0 HB0 HD0 HST
    gi_wp2
    gi_loopw [9, 32] (fun a i wr => ∃ r : Nat, r ≤ m ∧ i = .int .i64 r ∧ a = .int .i64 (prevK ys r) ∧ Hid (∃ v, Boxed wr w1.heap.size 29 v ∧ wr.ownsRow w3.heap.size 55 3 v (pt1 G l ++ pt2 xs S ys r).length ((pt1 G l ++ pt2 xs S ys r).flatMap Ac.cells)) ∧ Hid (OwK W.heap.size w5.heap.size (.slice A5 ls c5) ls (S.map (Value.int .i64)) wr) ∧ Hid (Below w.heap.size w wr) ∧ Hid (wr.heap[D]? = some (.deferred (some []))) ∧ w5.heap.size ≤ wr.heap.size) (fun _ i _ => m - (intOf i).toNat)
    case atStart => exact ⟨0, Nat.zero_le _, rfl, by rw [HP0.out], ⟨v, HV5.out, by simpa [pt2] using HR5.out⟩, HKK.out, HB5.out, HD5.out, Nat.le_refl _⟩
    case round =>
      obtain ⟨r, hr, rfl, rfl, HH, HK5, HB, HD, hw5r⟩ := hrel
      obtain ⟨v, hv, hrow⟩ := HH.out
      have HV := Lib.hid hv
      have HR := Lib.hid hrow
      have hc0 := hv.cell
      have hf0 := hv.frozen
      clear HH hv hrow
      by_cases hrm : r < m
      · have hrx : r < ys.length := by have := HM.out; omega
        obtain ⟨b, off, rfl, hbB, hc⟩ := (H'.out.below HB.out (Nat.le_refl _)) (by omega)
        have k0 := hc r hrx
        have HPX := Lib.hid (slices_Contains A n c xs (ys.getD r 0) wr w.heap.size HB.out.size HN.out (H.out.below HB.out (Nat.le_refl _)) (by omega))
        have HPS := Lib.hid (slices_Contains A5 ls c5 S (ys.getD r 0) wr w5.heap.size hw5r HLS.out HK5.out.ints (by omega))
        have HNW := Lib.hid (pt2_new xs S ys r)
        have HMV := Lib.hid (pt2_move xs S ys r)
        have HSY := Lib.hid (pt2_stay xs S ys r)
        have HPV : Hid (prevK ys (r + 1) = ys.getD r 0) := rfl
        have hfl : (pt1 G l ++ pt2 xs S ys r).length ≤ 2097152 := by
          have := pt2_len xs S ys r
          have := pt1_len G l
          rw [List.length_append]; omega
        have HFL := Lib.hid hfl
        generalize prevK ys r = at_ at *
        generalize ys.getD r 0 = x at *
        clear hc hfl
        by_cases hx : x ∈ xs
        · rw [decide_eq_true hx] at HPX
          by_cases hx2 : x ∈ S
          · rw [decide_eq_true hx2] at HPS
            have HS2 := Lib.hid (HSY.out hx hx2)
            clear hx hx2 HNW HMV HSY
            gi_wp2_with fail
            refine ⟨trivial, ?_⟩
            gi_at_call 54
            refine (callsIn_wide.2 HPX.out).mono ?_
            rintro e w6 ⟨rfl, rfl⟩
            gi_wp2_with fail
            refine ⟨trivial, ?_⟩
            gi_at_call 54
            refine (callsIn_wide.2 HPS.out).mono ?_
            rintro e w6 ⟨rfl, rfl⟩
            gi_wp2
            go_roundw
            case rel => exact ⟨r + 1, by omega, by go_num, by rw [HPV.out], ⟨v, HV.out, by rw [HS2.out]; exact HR.out⟩, HK5.out, HB.out, HD.out, hw5r⟩
            case measure => simp [intOf]; omega
          · rw [decide_eq_false hx2] at HPS
            have HS2 := Lib.hid (HMV.out hx hx2)
            have HS3 : Hid (pt1 G l ++ pt2 xs S ys (r + 1) = (pt1 G l ++ pt2 xs S ys r) ++ [⟨2, x, at_⟩]) := by rw [HS2.out, List.append_assoc]; exact Lib.hid rfl
            clear HS2
            generalize pt1 G l ++ pt2 xs S ys r = F at *
            clear hx hx2 HNW HMV HSY
            gi_wp2_with fail
            refine ⟨trivial, ?_⟩
            gi_at_call 54
            refine (callsIn_wide.2 HPX.out).mono ?_
            rintro e w6 ⟨rfl, rfl⟩
            gi_wp2_with fail
            refine ⟨trivial, ?_⟩
            gi_at_call 54
            refine (callsIn_wide.2 HPS.out).mono ?_
            rintro e w6 ⟨rfl, rfl⟩
            gi_wp2_with (gi_at_builtin; refine wpListIn_append_own _ rfl _ _ 29 rfl w3.heap.size 55 i1 _ 3 24 Try.underlying29 hi1 hy0 hy1 hy2 rfl (by decide) _ _ _ rfl (HR.out.alloc _) ⟨_, 0, none⟩ 1 1 (Ac.cells ⟨2, x, at_⟩) rfl rfl (acells_new _ _ _ _ rfl) ?e2 ?e3 ?e4 ?e5 ?_)
            case e2 => intro u hu; simp [Ac.cells] at hu; rcases hu with rfl | rfl | rfl <;> rfl
            case e3 => have := HFL.out; unfold maxLen; omega
            case e4 => have := HFL.out; omega
            case e5 => first | omega | (simp; omega)
            intro v' w7 hown' hgrow _
            obtain ⟨g', cap', rfl⟩ := ownsRow_succ hown'
            obtain ⟨hv1, hv2, hr2, hst⟩ := box_append (tmp := .cells #[.int .i64 (2), .int .i64 (x), .int .i64 (at_)] 55) HV.out HR.out hown' hgrow
            have hc1 := hv1.cell
            have hf1 := hv1.frozen
            have HV2 := Lib.hid hv2
            have HR2 := Lib.hid (own_castC (own_snocC hr2) HS3.out.symm)
            have HT2 := Lib.hid hst
            have HK2 := Lib.hid (((HK5.out.alloc hw5r _).keptC (World.ownsRow.alloc HR.out _) hgrow).keptB (y := (.slice (some ⟨g', 0, none⟩) (F.length + 1) cap')) hv1)
            clear hown' hgrow hv1 hv2 hr2 hst
            gi_wp2
            go_roundw
            case rel => exact ⟨r + 1, by omega, by go_num, by rw [HPV.out], ⟨_, HV2.out, HR2.out⟩, HK2.out, HT2.out.below HB.out (by omega) hlw3 HB.out.size, HT2.out.other D _ HD.out rfl, Nat.le_trans hw5r HT2.out.size⟩
            case measure => simp [intOf]; omega
        · rw [decide_eq_false hx] at HPX
          have HS2 := Lib.hid (HNW.out hx)
          have HS3 : Hid (pt1 G l ++ pt2 xs S ys (r + 1) = (pt1 G l ++ pt2 xs S ys r) ++ [⟨1, x, at_⟩]) := by rw [HS2.out, List.append_assoc]; exact Lib.hid rfl
          clear HS2
          generalize pt1 G l ++ pt2 xs S ys r = F at *
          clear hx HNW HMV HSY HPS
          gi_wp2_with fail
          refine ⟨trivial, ?_⟩
          gi_at_call 54
          refine (callsIn_wide.2 HPX.out).mono ?_
          rintro e w6 ⟨rfl, rfl⟩
          gi_wp2_with (gi_at_builtin; refine wpListIn_append_own _ rfl _ _ 29 rfl w3.heap.size 55 i1 _ 3 24 Try.underlying29 hi1 hy0 hy1 hy2 rfl (by decide) _ _ _ rfl (HR.out.alloc _) ⟨_, 0, none⟩ 1 1 (Ac.cells ⟨1, x, at_⟩) rfl rfl (acells_new _ _ _ _ rfl) ?f2 ?f3 ?f4 ?f5 ?_)
          case f2 => intro u hu; simp [Ac.cells] at hu; rcases hu with rfl | rfl | rfl <;> rfl
          case f3 => have := HFL.out; unfold maxLen; omega
          case f4 => have := HFL.out; omega
          case f5 => first | omega | (simp; omega)
          intro v' w7 hown' hgrow _
          obtain ⟨g', cap', rfl⟩ := ownsRow_succ hown'
          obtain ⟨hv1, hv2, hr2, hst⟩ := box_append (tmp := .cells #[.int .i64 (1), .int .i64 (x), .int .i64 (at_)] 55) HV.out HR.out hown' hgrow
          have hc1 := hv1.cell
          have hf1 := hv1.frozen
          have HV2 := Lib.hid hv2
          have HR2 := Lib.hid (own_castC (own_snocC hr2) HS3.out.symm)
          have HT2 := Lib.hid hst
          have HK2 := Lib.hid (((HK5.out.alloc hw5r _).keptC (World.ownsRow.alloc HR.out _) hgrow).keptB (y := (.slice (some ⟨g', 0, none⟩) (F.length + 1) cap')) hv1)
          clear hown' hgrow hv1 hv2 hr2 hst
          gi_wp2
          go_roundw
          case rel => exact ⟨r + 1, by omega, by go_num, by rw [HPV.out], ⟨_, HV2.out, HR2.out⟩, HK2.out, HT2.out.below HB.out (by omega) hlw3 HB.out.size, HT2.out.other D _ HD.out rfl, Nat.le_trans hw5r HT2.out.size⟩
          case measure => simp [intOf]; omega
      · obtain rfl : r = m := by omega
        gi_wp2
        refine ⟨by simp, .inl ⟨_, _, rfl, run_takeDeferred HD.out, ?_⟩⟩
        refine ⟨_, results_tmp rfl _ _ _, _, rfl, ?_, HB.out.trans (belowK_b (w := w) (Nat.le_refl _) wr D _ _ (by omega) HD.out rfl rfl)⟩
        exact own_mono (ownsRow_putObj HR.out _ HD.out rfl) hlw3
  case stop =>
    rintro D c pre W _ _ h _
    exact h.elim
end Go.Proofs.Ytjlfabfejnpaaaa
