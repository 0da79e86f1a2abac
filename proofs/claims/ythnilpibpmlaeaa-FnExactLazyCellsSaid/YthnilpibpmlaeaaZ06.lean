/- Texts put together: T9 E1 M6 E2 E3 M8. -/
import Derived.Test.YthnilpibpmlaeaaZ05
/- The standing contracts of DepsOf. -/
namespace Go.Proofs.Ythnilpibpmlaeaa
set_option linter.unusedSimpArgs false
set_option linter.unusedVariables false
open Go.RowKit

/-- What a node reads with some values. -/
def depF (gs : List Nd) (vs : List Int) (i : Nat) : List Int := if (gs.getD i default).k == 0 then [] else firsts ((whole (gs.getD i default).ps).rds vs)
def depTo (gs : List Nd) (vs : List Int) (k : Nat) : List (List Int) := (List.range k).map (depF gs vs)
def depsF (gs : List Nd) (xs : List Int) : List (List Int) := if okC gs xs then depTo gs (mean gs xs) gs.length else []

theorem depTo_len (gs : List Nd) (vs : List Int) (k : Nat) : (depTo gs vs k).length = k := by simp [depTo]
theorem depTo_succ (gs : List Nd) (vs : List Int) (k : Nat) : depTo gs vs (k + 1) = depTo gs vs k ++ [depF gs vs k] := by simp [depTo, List.range_succ]
theorem depTo_at (gs : List Nd) (vs : List Int) (k j : Nat) (h : j < k) : (depTo gs vs k).getD j [] = depF gs vs j := by simp [depTo, List.getD, h]

theorem depF_bd (gs : List Nd) (xs : List Int) (h : okC gs xs = true) (i : Nat) (hi : i < gs.length) : (depF gs (mean gs xs) i).length ≤ 10 := by
  obtain ⟨hg, hc⟩ := okC_parts gs xs h
  unfold depF
  cases hk : ((gs.getD i default).k == 0)
  · simp only [Bool.false_eq_true, if_false]
    have hv := (nodeOK_formula gs i ((validG_parts gs hg).2 i hi) hk).1
    have hok := whole_ok _ (mean gs xs).length hv (by rw [mean_len]; exact each_ahead gs i gs.length hg hi hk (by omega))
    have h10 := (validG_parts gs hg).1
    refine Nat.le_trans (firsts_bd _ (mean gs xs).length ?_) (by rw [mean_len]; exact h10)
    intro x hx
    exact rds_lt _ _ _ hok x hx
  · simp

theorem depsF_len (gs : List Nd) (xs : List Int) : SB (depsF gs xs) ∧ ((depsF gs xs).map List.length).sum ≤ 1048576 := by
  unfold depsF
  cases h : okC gs xs
  · exact ⟨⟨by simp, fun j => by simp [List.getD]⟩, by simp⟩
  · simp only [if_true]
    have h10 := (validG_parts gs (okC_parts gs xs h).1).1
    have hb : ∀ j, j < gs.length → (depF gs (mean gs xs) j).length ≤ 10 := fun j hj => depF_bd gs xs h j hj
    refine ⟨⟨by rw [depTo_len]; omega, fun j => ?_⟩, ?_⟩
    · by_cases hj : j < gs.length
      · rw [depTo_at _ _ _ _ hj]; have := hb j hj; omega
      · rw [show (depTo gs (mean gs xs) gs.length).getD j [] = [] by
          have : (depTo gs (mean gs xs) gs.length).length ≤ j := by rw [depTo_len]; omega
          simp [List.getD, List.getElem?_eq_none this]]
        simp
    · have : ∀ k, k ≤ gs.length → ((depTo gs (mean gs xs) k).map List.length).sum ≤ k * 10 := by
        intro k
        induction k with
        | zero => intro _; simp [depTo]
        | succ k ih =>
          intro hk
          rw [depTo_succ, List.map_append, List.sum_append]
          have h1 := ih (by omega)
          have h2 := hb k (by omega)
          simp
          omega
      have := this gs.length (Nat.le_refl _)
      omega

theorem OwSS.snoc {base k : Nat} {v v' : Value} {xss : List (List Int)} {D : List Int} {A : Option Addr} {m c : Nat} {wr w5 w6 : World} {vs : List Value} {o : Obj} (hrow : wr.ownsRow base 25 1 v k vs) (hss : SSk base wr.heap.size vs (lenOf xss) (rowOf xss) wr) (hk : k = xss.length) (hb : Below wr.heap.size wr w5)
    (hd : w5.ownsRow wr.heap.size 3 1 (.slice A m c) m (D.map (Value.int .i64))) (hm : m = D.length) (happ : w6.ownsRow base 25 1 v' (k + 1) (vs ++ [.slice A m c])) (hgrow : (w5.alloc o).grownBy w6 v.ownBlock) (hbs : base ≤ wr.heap.size) : OwSS base w6.heap.size v' (k + 1) (xss ++ [D]) w6 := by
  have hvl : vs.length = k := by have := hrow.1; omega
  have hrow5 := (own_below hrow hb).alloc o
  have hss5 : SSk base wr.heap.size vs (lenOf xss) (rowOf xss) (w5.alloc o) := (hss.keep fun q _ hq => hb.block q hq).keep fun q _ hq => Below.heap_alloc _ _ _ (Nat.lt_of_lt_of_le hq hb.size)
  have hss6 : SSk base wr.heap.size vs (lenOf xss) (rowOf xss) w6 := hss5.grown hgrow (hss5.ne hrow5 ints_ne_int)
  have hd6 : w6.ownsRow wr.heap.size 3 1 (.slice A m c) m (D.map (Value.int .i64)) := (hd.alloc o).kept hgrow (blocks_ne (hd.alloc o) hrow5 ints_ne_int)
  refine ⟨by rw [List.length_append, hk]; rfl, vs ++ [.slice A m c], OwR.start happ, ?_⟩
  refine hss6.put (hi' := w6.heap.size) (lens' := lenOf (xss ++ [D])) (cont' := rowOf (xss ++ [D])) (A := A) (m := m) (c := c) k ?_ ?_ ?_ ?_ ?_ ?_ hbs ?_
  · rw [List.getElem?_append_right (by omega), hvl, Nat.sub_self]; rfl
  · intro j hj
    rcases Nat.lt_or_ge j vs.length with h1 | h1
    · rw [List.getElem?_append_left h1]
    · rw [List.getElem?_eq_none h1, List.getElem?_eq_none (by simp; omega)]
  · intro j hj hjk; simp at hj; omega
  · rw [hm]; unfold lenOf; simp [List.getD, hk]
  · intro j hj
    have : (xss ++ [D]).getD j [] = xss.getD j [] := by
      rcases Nat.lt_or_ge j xss.length with h1 | h1
      · simp [List.getD, List.getElem?_append_left h1]
      · rw [List.getD, List.getElem?_eq_none (by simp; omega), List.getD, List.getElem?_eq_none h1]
    unfold lenOf rowOf
    rw [this]
    exact ⟨rfl, rfl⟩
  · refine ⟨?_, fun q hq => (hd6.lt q hq).2⟩
    have : rowOf (xss ++ [D]) k = D.map (Value.int .i64) := by unfold rowOf; simp [List.getD, hk]
    rw [this]; exact hd6
  · have h1 := hgrow.size; simp at h1; have := hb.size; omega

theorem info_ints1 : (Try.prog.info? 25).map (fun i => (i.zero, i.size, i.bytes)) = some (some (.slice none 0 0), 1, 24) := by kernel_rfl

/-- What the first nodes read, and nothing for the others. -/
def dmix (gs : List Nd) (vs : List Int) (n k : Nat) : List (List Int) := depTo gs vs k ++ List.replicate (n - k) []
theorem dmix_len (gs : List Nd) (vs : List Int) (n k : Nat) (h : k ≤ n) : (dmix gs vs n k).length = n := by unfold dmix; rw [List.length_append, depTo_len, List.length_replicate]; omega
theorem dmix_all (gs : List Nd) (vs : List Int) (n : Nat) : dmix gs vs n n = depTo gs vs n := by unfold dmix; simp
theorem dmix_at (gs : List Nd) (vs : List Int) (n k : Nat) (h : k < n) : (dmix gs vs n (k + 1)).getD k [] = depF gs vs k := by
  have := depTo_len gs vs k
  unfold dmix
  rw [depTo_succ]
  simp [List.getD, List.getElem?_append, this]
theorem dmix_other (gs : List Nd) (vs : List Int) (n k j : Nat) (h : k < n) (hj : j ≠ k) : (dmix gs vs n (k + 1)).getD j [] = (dmix gs vs n k).getD j [] := by
  have h1 := depTo_len gs vs k
  unfold dmix
  rw [depTo_succ]
  rcases Nat.lt_or_ge j k with h2 | h2
  · simp [List.getD, List.getElem?_append, h1, h2, show j < k + 1 by omega]
  · have e1 : ¬ j < k := by omega
    have e2 : ¬ j < k + 1 := by omega
    simp only [List.getD, List.getElem?_append, List.length_append, h1, List.length_cons, List.length_nil, if_neg e1, if_neg e2, List.getElem?_replicate]
    split <;> split <;> rfl
theorem dmix_cell (gs : List Nd) (vs : List Int) (n k : Nat) (h : k < n) (hd : depF gs vs k = []) : dmix gs vs n (k + 1) = dmix gs vs n k := by
  unfold dmix
  rw [depTo_succ, hd, List.append_assoc, show n - k = (n - (k + 1)) + 1 by omega, List.replicate_succ]
  rfl

end Go.Proofs.Ythnilpibpmlaeaa

/- States of the eager machine (a list, and lists): words for memory; the laws' own copies, sizes, comparisons and marks. -/
namespace Go.Proofs.Ythnilpibpmlaeaa
set_option linter.unusedSimpArgs false
set_option linter.unusedVariables false
open Go.RowKit

structure Eg where
  vs : List Int
  rs : List (List Int)
deriving DecidableEq, Inhabited

def rowsE (e : Eg) : List (List Int) := e.vs :: e.rs
def esz (e : Eg) : Nat := e.vs.length + (e.rs.length + (e.rs.map List.length).sum)
/-- Some more lists than a million, none longer. -/
def SB2 (xss : List (List Int)) : Prop := xss.length ≤ 2000000 ∧ ∀ j, (xss.getD j []).length ≤ 1048576
/-- No more numbers than a million. -/
def EB (e : Eg) : Prop := e.vs.length ≤ 1048576 ∧ SB e.rs ∧ SB2 (rowsE e) ∧ (e.rs.map List.length).sum ≤ 1048576 ∧ ((rowsE e).map List.length).sum ≤ 1048576

theorem len_le_sum (xss : List (List Int)) (j : Nat) : (xss.getD j []).length ≤ (xss.map List.length).sum := by
  induction xss generalizing j with
  | nil => simp
  | cons x xs ih =>
    cases j with
    | zero => simp [List.getD]
    | succ j => have := ih j; simp [List.getD] at *; omega

theorem SB.of_sum {xss : List (List Int)} (h : xss.length ≤ 1048576) (h' : (xss.map List.length).sum ≤ 1048576) : SB xss :=
  ⟨h, fun j => Nat.le_trans (len_le_sum xss j) h'⟩

theorem SB2.of_sum {xss : List (List Int)} (h : xss.length ≤ 2000000) (h' : (xss.map List.length).sum ≤ 1048576) : SB2 xss :=
  ⟨h, fun j => Nat.le_trans (len_le_sum xss j) h'⟩

theorem EB.of_esz {e : Eg} (h : esz e ≤ 1048576) : EB e := by
  unfold esz at h
  have h1 : ((rowsE e).map List.length).sum ≤ 1048576 := by unfold rowsE; simp; omega
  exact ⟨by omega, SB.of_sum (by omega) (by omega), SB2.of_sum (by unfold rowsE; simp; omega) h1, by omega, h1⟩

/-- The slices at A and E read as the state e; all of it lies below block B. -/
def ES (w : World) (B : Nat) (A E : Option Addr) (e : Eg) : Prop := IS w B A e.vs ∧ SS w B E e.rs

section
variable {w w' : World} {B B' C : Nat} {A E : Option Addr} {e : Eg}
theorem ES.more (h : ES w B A E e) (hB : B ≤ B') : ES w B' A E e := ⟨h.1.more hB, h.2.more hB⟩
theorem ES.below (h : ES w B A E e) (hb : Below C w w') (hC : B ≤ C) : ES w' B A E e := ⟨h.1.below hb hC, h.2.below hb hC⟩
theorem ES.alloc (h : ES w B A E e) (hB : B ≤ w.heap.size) (o : Obj) : ES (w.alloc o) B A E e := ⟨h.1.alloc hB o, h.2.alloc hB o⟩
theorem ES.loc (B : Nat) (A E : Option Addr) (e : Eg) : Loc 0 B fun w => ES w B A E e := (IS.loc B A e.vs).and (SS.loc B E e.rs)
end

/-- The first lists, and nothing for the others. -/
def cpTo (xss : List (List Int)) (n k : Nat) : List (List Int) := xss.take k ++ List.replicate (n - k) []
theorem cpTo_all (xss : List (List Int)) (n : Nat) (h : n = xss.length) : cpTo xss n n = xss := by unfold cpTo; simp [h]
theorem cpTo_at (xss : List (List Int)) (n k : Nat) (h : k < n) (hn : n = xss.length) : (cpTo xss n (k + 1)).getD k [] = xss.getD k [] := by
  unfold cpTo
  have h1 : k < min (k + 1) xss.length := by omega
  have h2 : k < k + 1 := by omega
  simp only [List.getD, List.getElem?_append, List.length_take, if_pos h1, List.getElem?_take, if_pos h2]
theorem cpTo_other (xss : List (List Int)) (n k j : Nat) (h : k < n) (hn : n = xss.length) (hj : j ≠ k) : (cpTo xss n (k + 1)).getD j [] = (cpTo xss n k).getD j [] := by
  unfold cpTo
  rcases Nat.lt_or_ge j k with h2 | h2
  · have h3 : j < min (k + 1) xss.length := by omega
    have h4 : j < min k xss.length := by omega
    have h5 : j < k + 1 := by omega
    simp only [List.getD, List.getElem?_append, List.length_take, if_pos h3, if_pos h4, List.getElem?_take, if_pos h5, if_pos h2]
  · have e1 : ¬ j < min k xss.length := by omega
    have e2 : ¬ j < min (k + 1) xss.length := by omega
    simp only [List.getD, List.getElem?_append, List.length_take, if_neg e1, if_neg e2, List.getElem?_replicate]
    split <;> split <;> rfl

theorem SS.at_ {w : World} {B : Nat} {A : Option Addr} {xss : List (List Int)} (h : SS w B A xss) (j : Nat) (hj : j < xss.length) : ∃ b off, A = some ⟨b, off, none⟩ ∧ b < B ∧ ∃ A' n c, w.cell? ⟨b, off + j, none⟩ = some (.slice A' n c) ∧ n = (xss.getD j []).length ∧ IS w B A' (xss.getD j []) := by
  obtain ⟨b, off, e, hb, hc⟩ := h (by omega)
  exact ⟨b, off, e, hb, hc j hj⟩

set_option maxRecDepth 100000 in
set_option maxHeartbeats 1600000 in
theorem laws_toIntSS (A : Option Addr) (n c : Nat) (xss : List (List Int)) (w : World) (B : Nat) (hB : B ≤ w.heap.size) (hn : n = xss.length) (h : SS w B A xss) (hs : SB xss) :
    Calls Try.prog 33 #[.slice A n c] w fun e w' => RetSS w xss e w' := by
  have hn1 : n ≤ 1048576 := by rw [hn]; exact hs.1
  obtain ⟨i1, hi, hz0, hz1, hz2⟩ := info_parts info_ints1
  obtain ⟨w3, hmk, hown3, hgr3⟩ := run_make_full (P := Try.prog) w w.heap.size 26 25 i1 _ 1 Try.underlying26 hi hz0 hz1 .i64 .i64 n (by rw [hz2]; omega) (by unfold maxLen; omega) (Nat.le_refl _)
  have hgl : w.heap.size < w3.heap.size := (hown3.lt _ rfl).2
  have hb3 : Below w.heap.size w w3 := ⟨hgr3.os, hgr3.tape, hgr3.output, hgr3.size, fun k hk => hgr3.block k hk (by simp)⟩
  have HO3 : Hid (∃ vs, OwR w.heap.size w3.heap.size 25 1 (.slice (some ⟨w.heap.size, 0, none⟩) n n) n vs w3 ∧ SSk w.heap.size w3.heap.size vs (lenOf (cpTo xss n 0)) (rowOf (cpTo xss n 0)) w3) := by
    have e : (madeCells (Value.slice none 0 0).cells (n * 1)).toList = List.replicate n (.slice none 0 0) := by simp [Value.cells, toList_madeCells_one]
    rw [e] at hown3
    refine ⟨_, OwR.start hown3, ⟨fun j hj => ?_, fun i j v u k _ h1 h2 hv => ?_⟩⟩
    · have hj' : j < n := by simpa using hj
      refine ⟨none, 0, 0, by simp [hj'], by simp [lenOf, cpTo, List.getD, hj'], ?_⟩
      have : rowOf (cpTo xss n 0) j = [] := by simp [rowOf, cpTo, List.getD, hj']
      rw [this]
      exact OwR.nil _ _ _ _ _
    · have : v = .slice none 0 0 := by
        rw [List.getElem?_replicate] at h1
        split at h1
        · cases h1; rfl
        · cases h1
      subst this
      simp [Value.ownBlock] at hv
  have H := Lib.hid h
  have HN := Lib.hid hn
  have HS := Lib.hid hs
  have HB3 := Lib.hid hb3
  clear hn h hs hown3 hgr3 hb3
  go_enter Try.func33, Try.ntmps33
  go_wp2
  clear hmk
  go_loopw [4] (fun i wr => ∃ k : Nat, k ≤ n ∧ i = .int .i64 k ∧ Hid (∃ vs, OwR w.heap.size wr.heap.size 25 1 (.slice (some ⟨w.heap.size, 0, none⟩) n n) n vs wr ∧ SSk w.heap.size wr.heap.size vs (lenOf (cpTo xss n k)) (rowOf (cpTo xss n k)) wr) ∧ Hid (Below w.heap.size w3 wr) ∧ w3.heap.size ≤ wr.heap.size) (fun i _ => n - (intOf i).toNat)
  case atStart => exact ⟨0, Nat.zero_le _, rfl, HO3.out, Below.refl _ _, Nat.le_refl _⟩
  case round =>
    obtain ⟨k, hk, rfl, HO, HB, hwr⟩ := hrel
    by_cases hlt : k < n
    · obtain ⟨vs, hrow, hss⟩ := HO.out
      have hvl : vs.length = n := by have := hrow.1.1; omega
      have hkg : k < xss.length := by have := HN.out; omega
      obtain ⟨b, off, rfl, hbB, A1, n1, c1, c0, hn1', hps⟩ := H.out.at_ k hkg
      have hbw := HB3.out.trans HB.out
      have e0 := (hbw.cell (p := ⟨b, off + k, none⟩) (by simp; omega)).trans c0
      have HPS := Lib.hid (hps.below hbw hB)
      have HAT := Lib.hid (cpTo_at xss n k hlt HN.out)
      have HOT := Lib.hid fun (j : Nat) (hj : j ≠ k) => cpTo_other xss n k j hlt HN.out hj
      have hnb := HS.out.2 k
      have HROW := Lib.hid hrow.1
      have HSS := Lib.hid hss
      have HVL := Lib.hid hvl
      generalize xss.getD k [] = D at *
      have HN1 := Lib.hid hn1'
      have hn2 : n1 ≤ 2000000 := by omega
      clear c0 hps hrow hss hvl hbw hn1' hnb
      go_wp2_with fail
      refine (laws_toIntS A1 n1 c1 D _ B (by omega) HN1.out HPS.out hn2).mono ?_
      rintro e w5 ⟨rfl, ho5, hb5⟩
      have hR5 := own_below HROW.out hb5
      have u5 := hR5.cellAt k (by omega)
      rw [List.getElem?_eq_getElem (by have := HVL.out; omega)] at u5
      have f5 := hR5.frozenAt k
      have hst := hR5.stored k (.slice (some ⟨wr.heap.size, 0, none⟩) n1 n1)
      have hw5 : wr.heap.size ≤ w5.heap.size := hb5.size
      have HNEW : Hid (∃ vs, OwR w.heap.size w5.heap.size 25 1 (.slice (some ⟨w.heap.size, 0, none⟩) n n) n vs (w5.setCell ⟨w.heap.size, k, none⟩ (.slice (some ⟨wr.heap.size, 0, none⟩) n1 n1)) ∧ SSk w.heap.size w5.heap.size vs (lenOf (cpTo xss n (k + 1))) (rowOf (cpTo xss n (k + 1))) (w5.setCell ⟨w.heap.size, k, none⟩ (.slice (some ⟨wr.heap.size, 0, none⟩) n1 n1))) := by
        have hss5 := HSS.out.keep (w' := w5) fun q _ hq => hb5.block q hq
        have hss6 := hss5.grown hst.2 (hss5.ne hR5 ints_ne_int)
        have hd6 := ho5.kept hst.2 (blocks_ne ho5 hR5 ints_ne_int)
        have hrk : rowOf (cpTo xss n (k + 1)) k = D.map (Value.int .i64) := by unfold rowOf; rw [HAT.out]
        rw [← hrk] at hd6
        refine ⟨_, ⟨hst.1, fun q hq => by cases hq; exact Nat.lt_of_lt_of_le hgl (by omega)⟩, hss6.put (hi' := w5.heap.size) (A := some ⟨wr.heap.size, 0, none⟩) (m := n1) (c := n1) k ?_ ?_ ?_ ?_ ?_ ⟨own_mono hd6 (by omega), fun q hq => by have := (ho5.lt q hq).2; omega⟩ (by omega) (by omega)⟩
        · rw [List.getElem?_set, if_pos rfl, if_pos (by have := HVL.out; omega)]
        · intro j hj; rw [List.getElem?_set, if_neg (by omega)]
        · intro j hj _; simpa using hj
        · unfold lenOf; rw [HAT.out]; exact HN1.out
        · intro j hj; unfold lenOf rowOf; rw [HOT.out j hj]; exact ⟨rfl, rfl⟩
      have HB6 : Hid (Below w.heap.size w3 (w5.setCell ⟨w.heap.size, k, none⟩ (.slice (some ⟨wr.heap.size, 0, none⟩) n1 n1))) := (HB.out.trans (hb5.mono (by omega))).setCell (Nat.le_refl _) _
      have HSZ : Hid ((w5.setCell ⟨w.heap.size, k, none⟩ (.slice (some ⟨wr.heap.size, 0, none⟩) n1 n1)).heap.size = w5.heap.size) := by simp [World.setCell, Hid]
      generalize vs[k]'_ = vv at u5
      clear hst hR5 ho5 hb5
      go_wp2
      go_roundw
      case rel => exact ⟨k + 1, by omega, by go_num, by rw [HSZ.out]; exact HNEW.out, HB6.out, by simp [World.setCell]; omega⟩
      case measure => simp [intOf]; omega
    · obtain rfl : k = n := by omega
      go_wp2
      go_ret
      refine ⟨_, rfl, ?_, HB3.out.trans HB.out⟩
      obtain ⟨vs, hrow, hss⟩ := HO.out
      rw [cpTo_all xss k HN.out] at hss
      rw [← HN.out]
      exact ⟨HN.out, vs, hrow, hss⟩

set_option maxHeartbeats 400000 in
theorem laws_szIntS (A : Option Addr) (n c : Nat) (l : Int) (w : World) (hl0 : 0 ≤ l) (hl : l ≤ 2000000) (hn : n ≤ 9223372036854775807) :
    Calls Try.prog 29 #[.slice A n c, .int .i64 l] w fun e w' => e = .returned (.int .i64 (leftOf l n)) ∧ Below w.heap.size w w' := by
  unfold leftOf
  by_cases h : (n : Int) ≤ l
  · rw [if_pos h]
    have h' : ¬ l - n < 0 := by omega
    go_enter Try.func29, Try.ntmps29
    go_wp2
    go_ret
    exact ⟨rfl, Below.refl _ _⟩
  · rw [if_neg h]
    have h' : l - n < 0 := by omega
    go_enter Try.func29, Try.ntmps29
    go_wp2
    go_ret
    exact ⟨rfl, Below.refl _ _⟩

set_option maxRecDepth 100000 in
set_option maxHeartbeats 800000 in
theorem laws_szIntSS (A : Option Addr) (n c : Nat) (xss : List (List Int)) (l : Int) (w : World) (B : Nat) (hB : B ≤ w.heap.size) (hn : n = xss.length) (h : SS w B A xss) (hl0 : 0 ≤ l) (hl : l ≤ 2000000) (hm : n ≤ 9223372036854775807) (hm' : ∀ j, (xss.getD j []).length ≤ 9223372036854775807) :
    Calls Try.prog 30 #[.slice A n c, .int .i64 l] w fun e w' => e = .returned (.int .i64 (leftOf l (xss.length + (xss.map List.length).sum))) ∧ Below w.heap.size w w' := by
  by_cases hln : l - n < 0
  · have e : leftOf l (xss.length + (xss.map List.length).sum) = -1 := by unfold leftOf; rw [if_neg (by omega)]
    rw [e]
    clear e h hn hm'
    go_enter Try.func30, Try.ntmps30
    go_wp2
    go_ret
    exact ⟨rfl, Below.refl _ _⟩
  have H := Lib.hid h
  have HN := Lib.hid hn
  have HM := Lib.hid hm'
  clear hn h hm'
  go_enter Try.func30, Try.ntmps30
  go_wp2
  go_loopw [5, 1] (fun i u wr => ∃ (k : Nat) (q : Int), k ≤ n ∧ i = .int .i64 k ∧ u = .int .i64 q ∧ 0 ≤ q ∧ q ≤ 2000000 ∧ Hid (q = l - n - (offOf xss k : Nat)) ∧ Below w.heap.size w wr) (fun i _ _ => n - (intOf i).toNat)
  case atStart => exact ⟨0, l - n, Nat.zero_le _, rfl, rfl, by omega, by omega, by simp [Hid, offOf], Below.refl _ _⟩
  case round =>
    obtain ⟨k, q, hk, rfl, rfl, hq0, hq, HQ, hb⟩ := hrel
    by_cases hlt : k < n
    · have hkg : k < xss.length := by have := HN.out; omega
      obtain ⟨b, off, rfl, hbB, A1, n1, c1, c0, hn1', _⟩ := H.out.at_ k hkg
      have hnb := HM.out k
      have b0 := (hb.cell (p := ⟨b, off + k, none⟩) (by simp; omega)).trans c0
      clear H c0
      have hst := offOf_succ xss k hkg
      have htl := offOf_le xss (k + 1)
      have hn1b : n1 ≤ 9223372036854775807 := by omega
      have hln1 : lenOf xss k = n1 := hn1'.symm
      rw [hln1] at hst
      have HST := Lib.hid hst
      have HTL := Lib.hid htl
      clear hst htl hn1' hnb hln1
      by_cases h1 : (n1 : Int) ≤ q
      · have HC := Lib.hid fun (w : World) => laws_szIntS A1 n1 c1 q w hq0 hq hn1b
        rw [leftOf_ok h1] at HC
        go_wp2_with fail
        refine (HC.out _).mono ?_
        rintro e w' ⟨rfl, hb1⟩
        have hq1 : ¬ q - n1 < 0 := by omega
        go_wp2
        go_roundw
        case rel => exact ⟨k + 1, q - n1, by omega, by go_num, rfl, by omega, by omega, by have a1 := HST.out; have a4 := HQ.out; show q - n1 = _; omega, hb.trans (hb1.mono hb.size)⟩
        case measure => simp [intOf]; omega
      · have HC := Lib.hid fun (w : World) => laws_szIntS A1 n1 c1 q w hq0 hq hn1b
        rw [leftOf_no h1] at HC
        go_wp2_with fail
        refine (HC.out _).mono ?_
        rintro e w' ⟨rfl, hb1⟩
        go_wp2
        go_ret
        refine ⟨ret_i ?_, hb.trans (hb1.mono hb.size)⟩
        unfold leftOf
        rw [if_neg]
        have a1 := HST.out; have a2 := HTL.out; have a4 := HQ.out; have a5 := HN.out
        omega
    · obtain rfl : k = n := by omega
      go_wp2
      go_ret
      refine ⟨ret_i ?_, hb⟩
      have a4 := HQ.out
      have a5 := HN.out
      rw [a5, offOf_all] at a4
      unfold leftOf
      rw [if_pos (by omega), a4]
      omega

end Go.Proofs.Ythnilpibpmlaeaa

/- Plain facts on states of the eager machine. -/
namespace Go.Proofs.Ythnilpibpmlaeaa
set_option linter.unusedSimpArgs false
set_option linter.unusedVariables false

/-- The value of a node that runs with some values. -/
def valE (gs : List Nd) (vs : List Int) (i : Nat) : Int := if (gs.getD i default).k == 0 then vs.getD i 0 else (whole (gs.getD i default).ps).ev vs
def okE (gs : List Nd) (st : Eg) (i : Nat) : Bool := (valE gs st.vs i == st.vs.getD i 0) && decide (depF gs st.vs i = st.rs.getD i [])
def allE (gs : List Nd) (st : Eg) : Bool := decide (∀ i, i < gs.length → okE gs st i = true)
def validE (gs : List Nd) (st : Eg) : Bool := validG gs && (decide (st.vs.length = gs.length) && (decide (st.rs.length = gs.length) && (allR st.vs 0 999 && allE gs st)))

theorem validE_parts (gs : List Nd) (st : Eg) (h : validE gs st = true) : validG gs = true ∧ st.vs.length = gs.length ∧ st.rs.length = gs.length ∧ allR st.vs 0 999 = true ∧ ∀ i, i < gs.length → okE gs st i = true := by
  unfold validE allE at h
  simp only [Bool.and_eq_true, decide_eq_true_eq] at h
  exact ⟨h.1, h.2.1, h.2.2.1, h.2.2.2.1, h.2.2.2.2⟩

theorem allE_bad (gs : List Nd) (st : Eg) (i : Nat) (hi : i < gs.length) (h : okE gs st i = false) : allE gs st = false := by
  unfold allE
  rw [decide_eq_false_iff_not]
  intro hh
  rw [hh i hi] at h
  cases h
theorem allE_fin (gs : List Nd) (st : Eg) (h : ∀ i, i < gs.length → okE gs st i = true) : allE gs st = true := by
  unfold allE
  exact decide_eq_true h

theorem eager_canEv (gs : List Nd) (vs : List Int) (i : Nat) (hg : validG gs = true) (hl : vs.length = gs.length) (hr : allR vs 0 999 = true) (hi : i < gs.length) (hk : ((gs.getD i default).k == 0) = false) : canEv (gs.getD i default).ps vs = true := by
  obtain ⟨h10, hn⟩ := validG_parts gs hg
  have hv := (nodeOK_formula gs i (hn i hi) hk).1
  have he := each_ahead gs i vs.length hg hi hk (by omega)
  unfold canEv
  rw [hv, he, hr]
  simp
  omega

theorem eager_depF_bd (gs : List Nd) (vs : List Int) (hg : validG gs = true) (hl : vs.length = gs.length) (i : Nat) (hi : i < gs.length) : (depF gs vs i).length ≤ 10 := by
  unfold depF
  cases hk : ((gs.getD i default).k == 0)
  · simp only [Bool.false_eq_true, if_false]
    have hv := (nodeOK_formula gs i ((validG_parts gs hg).2 i hi) hk).1
    have hok := whole_ok _ vs.length hv (by rw [hl]; exact each_ahead gs i gs.length hg hi hk (by omega))
    have h10 := (validG_parts gs hg).1
    refine Nat.le_trans (firsts_bd _ vs.length ?_) (by rw [hl]; exact h10)
    intro x hx
    exact rds_lt _ _ _ hok x hx
  · simp

theorem diffTo_same (a b : List Int) (n : Nat) (hn : n = a.length) (hm : n = b.length) : ((diffTo a b n).length == 0) = decide (a = b) := by
  by_cases h : a = b
  · subst h
    have : diffTo a a n = [] := by unfold diffTo; simp
    rw [this]; simp
  · have : ∃ k, k < n ∧ a.getD k 0 ≠ b.getD k 0 := by
      apply Classical.byContradiction
      intro hc
      apply h
      apply List.ext_getElem (by omega)
      intro k h1 h2
      apply Classical.byContradiction
      intro hne
      exact hc ⟨k, by omega, by simpa [List.getD, h1, h2] using hne⟩
    obtain ⟨k, hk, hne⟩ := this
    have hmem : (k : Int) ∈ diffTo a b n := by
      unfold diffTo
      exact List.mem_map.2 ⟨k, List.mem_filter.2 ⟨List.mem_range.2 hk, by simpa using hne⟩, rfl⟩
    have : (diffTo a b n).length ≠ 0 := by
      intro h0
      rw [List.eq_nil_of_length_eq_zero h0] at hmem
      simp at hmem
    simp [h, this]
end Go.Proofs.Ythnilpibpmlaeaa

/- States of the eager machine: of the call's own, copied, marked, held. -/
namespace Go.Proofs.Ythnilpibpmlaeaa
set_option linter.unusedSimpArgs false
set_option linter.unusedVariables false
open Go.RowKit

/-- The content of rows of which the first J are marked. -/
def mkTo (yss : List (List Int)) (k : Int) (J : Nat) (j : Nat) : List Value := if j < J then mks (k + offOf yss j) (lenOf yss j) else rowOf yss j

theorem mkTo_zero (yss : List (List Int)) (k : Int) : mkTo yss k 0 = rowOf yss := by funext j; unfold mkTo; simp

theorem SSk.congr {lo hi : Nat} {vs : List Value} {lens : Nat → Nat} {cont cont' : Nat → List Value} {w : World} (h : SSk lo hi vs lens cont w) (hc : ∀ j, j < vs.length → cont j = cont' j) : SSk lo hi vs lens cont' w :=
  ⟨fun j hj => by obtain ⟨A, m, c, e1, e2, e3⟩ := h.row j hj; exact ⟨A, m, c, e1, e2, by rw [← hc j hj]; exact e3⟩, h.apart⟩

/-- What marks of some of the rows leave. -/
def MkRows (lo hi n : Nat) (v : Value) (us vs : List Value) (yss : List (List Int)) (k : Int) (J : Nat) (w : World) (e : Ending) (w' : World) : Prop :=
  e = .returned (.int .i64 (k + offOf yss J)) ∧ OwR lo hi 25 1 v n us w' ∧ SSk lo hi vs (lenOf yss) (mkTo yss k J) w' ∧ Tch lo hi w w'

set_option maxRecDepth 100000 in
set_option maxHeartbeats 1600000 in
theorem laws_markRows (lo hi n s : Nat) (v : Value) (us vs : List Value) (yss : List (List Int)) (k st : Int) (w : World) (hst : st = k + offOf yss s) (hrow : OwR lo hi 25 1 v n us w) (hus : ∀ j, j < n → vs[s + j]? = us[j]?) (hvl : vs.length = yss.length) (hsn : s + n ≤ yss.length) (hin : SSk lo hi vs (lenOf yss) (mkTo yss k s) w) (hsb : SB2 yss) (htot : (yss.map List.length).sum ≤ 1048576) (hk : 0 ≤ k) (hk' : k ≤ 562949953421312) :
    Calls Try.prog 45 #[v, .int .i64 st] w fun e w' => MkRows lo hi n v us vs yss k (s + n) w e w' := by
  have hnb : n ≤ 2000000 := by have := hsb.1; omega
  have hul : us.length = n := by have := hrow.1.1; omega
  have HUS := Lib.hid hus
  have HVL := Lib.hid hvl
  have HIN := Lib.hid hin
  have HSB := Lib.hid hsb
  have HST := Lib.hid hst
  have HSN := Lib.hid hsn
  have hs0 : 0 ≤ st := by omega
  rcases hrow.1.2 with ⟨hv, hz⟩ | ⟨g, cap, cur, hv, hbg, hgh, hrest⟩
  · subst hv
    subst hz
    have HROW := Lib.hid hrow
    clear hrow hin hus hvl hst hsb hul hsn
    go_enter Try.func45, Try.ntmps45
    go_wp2
    go_loopw [5, 1] (fun i u wr => i = .int .i64 0 ∧ u = .int .i64 st ∧ wr = w) (fun i _ _ => 0)
    case atStart => exact ⟨rfl, rfl, rfl⟩
    case round =>
      obtain ⟨rfl, rfl, rfl⟩ := hrel
      go_wp2
      go_ret
      exact ⟨by simp [HST.out], HROW.out, by simpa using HIN.out, Tch.refl _ _ _⟩
  · subst hv
    have hglo : lo ≤ g := hbg
    have hghi : g < hi := hrow.2 g rfl
    have HROW := Lib.hid hrow
    clear hrow hin hus hvl hst hsb hgh hrest hbg hul hsn
    go_enter Try.func45, Try.ntmps45
    go_wp2
    go_loopw [5, 1] (fun i u wr => ∃ j : Nat, j ≤ n ∧ i = .int .i64 j ∧ u = .int .i64 (k + offOf yss (s + j)) ∧ Hid (OwR lo hi 25 1 (.slice (some ⟨g, 0, none⟩) n cap) n us wr) ∧ Hid (SSk lo hi vs (lenOf yss) (mkTo yss k (s + j)) wr) ∧ Hid (Tch lo hi w wr)) (fun i _ _ => n - (intOf i).toNat)
    case atStart => exact ⟨0, by omega, rfl, by simp [HST.out], HROW.out, by simpa using HIN, Tch.refl _ _ _⟩
    case round =>
      obtain ⟨j, hj, rfl, rfl, HR, HS, HT⟩ := hrel
      by_cases hlt : j < n
      · obtain ⟨A, m, c, e1, e2, e3⟩ := HS.out.row (s + j) (by have := HVL.out; have := HSN.out; omega)
        have u0 := (HR.out.1.cellAt j (by omega)).trans ((HUS.out j hlt).symm.trans e1)
        have hmb : m ≤ 1048576 := by rw [e2]; exact HSB.out.2 (s + j)
        have hoff := offOf_succ yss (s + j) (by have := HSN.out; omega)
        have hol := offOf_le yss (s + j)
        rw [← e2] at hoff
        have E1 := Lib.hid e1
        have E2 := Lib.hid e2
        have E3 := Lib.hid e3.1
        have HO := Lib.hid hoff
        obtain ⟨o, ho⟩ : ∃ o : Nat, o = offOf yss (s + j) := ⟨_, rfl⟩
        rw [← ho] at hol
        have hob : (o : Int) ≤ 1048576 := by omega
        have HOO := Lib.hid ho
        rw [← ho]
        clear e1 e2 e3 hoff ho hol
        go_wp2_with fail
        refine (laws_markIntS lo m _ _ (k + o) _ E3.out (by omega) (by omega) (by omega)).mono ?_
        rintro e w1 hm
        rw [HOO.out] at hm
        have he := hm.1
        have HS2 := Lib.hid (HS.out.mark E1.out E2.out hm)
        have HR2 : Hid (OwR lo hi 25 1 (.slice (some ⟨g, 0, none⟩) n cap) n us w1) := ⟨HR.out.1.kept hm.2.2 (blocks_ne HR.out.1 E3.out ints_ne_int.symm), HR.out.2⟩
        have hr3 := (HS.out.lt (s + j) _ · E1.out)
        have HT2 : Hid (Tch lo hi w w1) := HT.out.trans (Tch.of_grown hm.2.2 fun q hq => hr3 q hq)
        have hen : k + (offOf yss (s + j) : Int) + ((m * 1 : Nat) : Int) = k + (offOf yss (s + (j + 1)) : Nat) := by rw [← Nat.add_assoc, HO.out]; omega
        rw [hen] at he
        subst he
        clear hm hr3 hen
        obtain ⟨o2, ho2⟩ : ∃ o2 : Nat, o2 = offOf yss (s + (j + 1)) := ⟨_, rfl⟩
        have HO2 := Lib.hid ho2
        rw [← ho2]
        clear ho2
        go_wp2
        go_roundw
        case rel => exact ⟨j + 1, by omega, by go_num, by rw [HO2.out], HR2.out, HS2.out, HT2.out⟩
        case measure => simp [intOf]; omega
      · obtain rfl : j = n := by omega
        obtain ⟨o, ho⟩ : ∃ o : Nat, o = offOf yss (s + j) := ⟨_, rfl⟩
        have HOO := Lib.hid ho
        rw [← ho]
        clear ho
        go_wp2
        go_ret
        exact ⟨ret_i (by rw [HOO.out]), HR.out, HS.out, HT.out⟩

set_option maxRecDepth 100000 in
set_option maxHeartbeats 1600000 in
theorem laws_heldRows (lo hi n s : Nat) (v : Value) (us vs : List Value) (yss : List (List Int)) (k st : Int) (w : World) (hst : st = k + offOf yss s) (hrow : OwR lo hi 25 1 v n us w) (hus : ∀ j, j < n → vs[s + j]? = us[j]?) (hvl : vs.length = yss.length) (hsn : s + n ≤ yss.length) (hin : SSk lo hi vs (lenOf yss) (fun j => mks (k + offOf yss j) (lenOf yss j)) w) (hsb : SB2 yss) (htot : (yss.map List.length).sum ≤ 1048576) (hk : 0 ≤ k) (hk' : k ≤ 562949953421312) :
    Calls Try.prog 46 #[v, .int .i64 st] w fun e w' => e = .returned (.int .i64 (k + offOf yss (s + n))) ∧ Below w.heap.size w w' := by
  have hnb : n ≤ 2000000 := by have := hsb.1; omega
  have hul : us.length = n := by have := hrow.1.1; omega
  have HUS := Lib.hid hus
  have HVL := Lib.hid hvl
  have HIN := Lib.hid hin
  have HSB := Lib.hid hsb
  have HST := Lib.hid hst
  have HSN := Lib.hid hsn
  have hs0 : 0 ≤ st := by omega
  rcases hrow.1.2 with ⟨hv, hz⟩ | ⟨g, cap, cur, hv, hbg, hgh, hrest⟩
  · subst hv
    subst hz
    clear hrow hin hus hvl hst hsb hul hsn
    go_enter Try.func46, Try.ntmps46
    go_wp2
    go_loopw [5, 1] (fun i u wr => i = .int .i64 0 ∧ u = .int .i64 st ∧ wr = w) (fun i _ _ => 0)
    case atStart => exact ⟨rfl, rfl, rfl⟩
    case round =>
      obtain ⟨rfl, rfl, rfl⟩ := hrel
      go_wp2
      go_ret
      exact ⟨by simp [HST.out], Below.refl _ _⟩
  · subst hv
    have HROW := Lib.hid hrow
    clear hrow hin hus hvl hst hsb hgh hrest hbg hul hsn
    go_enter Try.func46, Try.ntmps46
    go_wp2
    go_loopw [5, 1] (fun i u wr => ∃ j : Nat, j ≤ n ∧ i = .int .i64 j ∧ u = .int .i64 (k + offOf yss (s + j)) ∧ Below w.heap.size w wr) (fun i _ _ => n - (intOf i).toNat)
    case atStart => exact ⟨0, by omega, rfl, by simp [HST.out], Below.refl _ _⟩
    case round =>
      obtain ⟨j, hj, rfl, rfl, hb⟩ := hrel
      by_cases hlt : j < n
      · obtain ⟨A, m, c, e1, e2, e3⟩ := HIN.out.row (s + j) (by have := HVL.out; have := HSN.out; omega)
        have u0 := ((own_below HROW.out.1 hb).cellAt j (by omega)).trans ((HUS.out j hlt).symm.trans e1)
        have hmb : m ≤ 1048576 := by rw [e2]; exact HSB.out.2 (s + j)
        have hoff := offOf_succ yss (s + j) (by have := HSN.out; omega)
        have hol := offOf_le yss (s + j)
        rw [← e2] at hoff e3
        have E3 := Lib.hid (own_below e3.1 hb)
        have HO := Lib.hid hoff
        obtain ⟨o, ho⟩ : ∃ o : Nat, o = offOf yss (s + j) := ⟨_, rfl⟩
        rw [← ho] at hol E3 HO
        have hob : (o : Int) ≤ 1048576 := by omega
        rw [← ho]
        clear e1 e2 e3 hoff ho hol
        go_wp2_with fail
        refine (laws_heldIntS lo m _ (k + o) _ E3.out (by omega) (by omega) (by omega)).mono ?_
        rintro e w1 ⟨rfl, hb1⟩
        have hen : k + (o : Int) + (m : Int) = k + (offOf yss (s + (j + 1)) : Nat) := by rw [← Nat.add_assoc, HO.out]; omega
        rw [hen]
        obtain ⟨o2, ho2⟩ : ∃ o2 : Nat, o2 = offOf yss (s + (j + 1)) := ⟨_, rfl⟩
        have HO2 := Lib.hid ho2
        rw [← ho2]
        clear ho2 hen
        have hpos : 0 ≤ k + (o2 : Int) := by omega
        go_wp2
        go_roundw
        case rel => exact ⟨j + 1, by omega, by go_num, by rw [HO2.out], hb.trans (hb1.mono hb.size)⟩
        case measure => simp [intOf]; omega
      · obtain rfl : j = n := by omega
        obtain ⟨o, ho⟩ : ∃ o : Nat, o = offOf yss (s + j) := ⟨_, rfl⟩
        have HOO := Lib.hid ho
        rw [← ho]
        clear ho
        go_wp2
        go_ret
        exact ⟨ret_i (by rw [HOO.out]), hb⟩

/-- A state of the call's own, in blocks lo to hi - 1. -/
def OwE (lo hi : Nat) (A : Option Addr) (n c : Nat) (E : Option Addr) (en ec : Nat) (st : Eg) (w : World) : Prop :=
  n = st.vs.length ∧ en = st.rs.length ∧ ∃ us, OwR lo hi 25 1 (.slice E en ec) en us w ∧ SSk lo hi (.slice A n c :: us) (lenOf (rowsE st)) (rowOf (rowsE st)) w
/-- The same, marked from k on. -/
def MkE (lo hi : Nat) (A : Option Addr) (n c : Nat) (E : Option Addr) (en ec : Nat) (st : Eg) (k : Int) (w : World) : Prop :=
  n = st.vs.length ∧ en = st.rs.length ∧ ∃ us, OwR lo hi 25 1 (.slice E en ec) en us w ∧ SSk lo hi (.slice A n c :: us) (lenOf (rowsE st)) (fun j => mks (k + offOf (rowsE st) j) (lenOf (rowsE st) j)) w

section
variable {lo hi lo' hi' n c en ec : Nat} {A E : Option Addr} {st : Eg} {k : Int} {w w' : World}
theorem OwE.loc (lo hi : Nat) (A : Option Addr) (n c : Nat) (E : Option Addr) (en ec : Nat) (st : Eg) : Loc lo hi (OwE lo hi A n c E en ec st) := by
  rintro w w' ⟨h0, h0', vs, h1, h2⟩ hk
  exact ⟨h0, h0', vs, h1.keep hk, h2.keep hk⟩
theorem MkE.loc (lo hi : Nat) (A : Option Addr) (n c : Nat) (E : Option Addr) (en ec : Nat) (st : Eg) (k : Int) : Loc lo hi (MkE lo hi A n c E en ec st k) := by
  rintro w w' ⟨h0, h0', vs, h1, h2⟩ hk
  exact ⟨h0, h0', vs, h1.keep hk, h2.keep hk⟩
theorem OwE.mono (h : OwE lo hi A n c E en ec st w) (h1 : lo' ≤ lo) (h2 : hi ≤ hi') : OwE lo' hi' A n c E en ec st w := by
  obtain ⟨h0, h0', vs, e1, e2⟩ := h
  exact ⟨h0, h0', vs, e1.mono h1 h2, e2.mono h1 h2⟩
theorem SSk.tail {v : Value} {us : List Value} {x : List Int} {xs : List (List Int)} (h : SSk lo hi (v :: us) (lenOf (x :: xs)) (rowOf (x :: xs)) w) : SSk lo hi us (lenOf xs) (rowOf xs) w :=
  ⟨fun j hj => by obtain ⟨A, m, c, e1, e2, e3⟩ := h.row (j + 1) (by simpa using hj); exact ⟨A, m, c, e1, e2, e3⟩, fun i j v u k hij h1 h2 => h.apart (i + 1) (j + 1) v u k (by omega) h1 h2⟩
theorem OwE.row0 (h : OwE lo hi A n c E en ec st w) : OwR lo hi 3 1 (.slice A n c) n (st.vs.map (Value.int .i64)) w := by
  obtain ⟨h0, h0', us, e1, e2⟩ := h
  obtain ⟨A', m, c', r1, r2, r3⟩ := e2.row 0 (by simp)
  simp only [List.getElem?_cons_zero, Option.some.injEq, Value.slice.injEq] at r1
  obtain ⟨rfl, rfl, rfl⟩ := r1
  exact r3
theorem OwE.lists (h : OwE lo hi A n c E en ec st w) : OwSS lo hi (.slice E en ec) en st.rs w := by
  obtain ⟨h0, h0', us, e1, e2⟩ := h
  exact ⟨h0', us, e1, e2.tail⟩
theorem OwE.reads (h : OwE lo hi A n c E en ec st w) : ES w hi A E st := ⟨h.row0.ints, h.lists.lists⟩
theorem eager_start (h : OwE lo w.heap.size A n c E en ec st w) : As lo w.heap.size (OwE lo w.heap.size A n c E en ec st) w := ⟨h, Nat.le_refl _, OwE.loc _ _ _ _ _ _ _ _ _⟩
theorem As.eager (h : As lo hi (OwE lo hi A n c E en ec st) w) : ES w w.heap.size A E st := h.it.reads.more h.le
/-- A row and lists in blocks that lie apart make a state. -/
theorem OwE.join {mid : Nat} (h : OwR lo mid 3 1 (.slice A n c) n (st.vs.map (Value.int .i64)) w) (hn : n = st.vs.length) (h' : OwSS mid hi (.slice E en ec) en st.rs w) (h1 : lo ≤ mid) (h2 : mid ≤ hi) : OwE lo hi A n c E en ec st w := by
  obtain ⟨h0, us, e1, e2⟩ := h'
  refine ⟨hn, h0, us, e1.mono h1 (Nat.le_refl _), ⟨fun j hj => ?_, fun i j v u k hij h3 h4 hv hu => ?_⟩⟩
  · cases j with
    | zero => exact ⟨A, n, c, rfl, hn, h.mono (Nat.le_refl _) h2⟩
    | succ j =>
      obtain ⟨A', m, c', r1, r2, r3⟩ := e2.row j (by simpa using hj)
      exact ⟨A', m, c', r1, r2, r3.mono h1 (Nat.le_refl _)⟩
  · cases i with
    | zero =>
      cases j with
      | zero => exact hij rfl
      | succ j =>
        simp only [List.getElem?_cons_zero, Option.some.injEq] at h3
        subst h3
        have a1 := h.2 k hv
        have a2 := (e2.lt j u k h4 hu).1
        omega
    | succ i =>
      cases j with
      | zero =>
        simp only [List.getElem?_cons_zero, Option.some.injEq] at h4
        subst h4
        have a1 := h.2 k hu
        have a2 := (e2.lt i v k h3 hv).1
        omega
      | succ j => exact e2.apart i j v u k (by omega) h3 h4 hv hu
end

/-- Returns a state in fresh blocks. -/
def RetE (w : World) (st : Eg) (e : Ending) (w' : World) : Prop := ∃ A n c E en ec, e = .returned (.agg #[.slice A n c, .slice E en ec]) ∧ OwE w.heap.size w'.heap.size A n c E en ec st w' ∧ Below w.heap.size w w'

theorem OwE.nil (lo hi : Nat) (w : World) (h : lo ≤ hi) : OwE lo hi none 0 0 none 0 0 ⟨[], []⟩ w := OwE.join (mid := hi) (OwR.nil _ _ _ _ _) rfl (OwSS.nil _ _ _) h (Nat.le_refl _)
theorem RetE.nil {w w' : World} (hb : Below w.heap.size w w') : RetE w ⟨[], []⟩ (.returned (.agg #[.slice none 0 0, .slice none 0 0])) w' := ⟨_, _, _, _, _, _, rfl, OwE.nil _ _ _ hb.size, hb⟩

theorem OwE.setCell {lo hi n c en ec : Nat} {A E : Option Addr} {st : Eg} {w : World} (h : OwE lo hi A n c E en ec st w) {a : Addr} (ha : a.block < lo) (u : Value) : OwE lo hi A n c E en ec st (w.setCell a u) :=
  OwE.loc _ _ _ _ _ _ _ _ _ _ _ h fun k hk _ => Below.heap_setCell _ _ _ _ (by omega)

end Go.Proofs.Ythnilpibpmlaeaa

/- States of the lazy machine (two lists, one of lists): words for memory; the laws' own copies, sizes, comparisons and marks. And: rows that lie apart, in any order. -/
namespace Go.Proofs.Ythnilpibpmlaeaa
set_option linter.unusedSimpArgs false
set_option linter.unusedVariables false
open Go.RowKit

section
variable {lo hi : Nat} {w : World}
/-- One row more ahead. -/
theorem SSk.cons {us : List Value} {x : List Int} {xs : List (List Int)} {A : Option Addr} {n c : Nat} (h : SSk lo hi us (lenOf xs) (rowOf xs) w) (hr : OwR lo hi 3 1 (.slice A n c) n (x.map (Value.int .i64)) w) (hn : n = x.length) (hap : ∀ (j : Nat) (u : Value) (k : Nat), us[j]? = some u → (Value.slice A n c).ownBlock = some k → u.ownBlock ≠ some k) : SSk lo hi (.slice A n c :: us) (lenOf (x :: xs)) (rowOf (x :: xs)) w := by
  refine ⟨fun j hj => ?_, fun i j v u k hij h3 h4 hv hu => ?_⟩
  · cases j with
    | zero => exact ⟨A, n, c, rfl, hn, hr⟩
    | succ j => exact h.row j (by simpa using hj)
  · cases i with
    | zero =>
      cases j with
      | zero => exact hij rfl
      | succ j =>
        simp only [List.getElem?_cons_zero, Option.some.injEq] at h3
        subst h3
        exact hap j u k h4 hv hu
    | succ i =>
      cases j with
      | zero =>
        simp only [List.getElem?_cons_zero, Option.some.injEq] at h4
        subst h4
        exact hap i v k h3 hu hv
      | succ j => exact h.apart i j v u k (by omega) h3 h4 hv hu

/-- One row more behind. -/
theorem SSk.snoc {us : List Value} {x : List Int} {xs : List (List Int)} {A : Option Addr} {n c : Nat} (h : SSk lo hi us (lenOf xs) (rowOf xs) w) (hl : us.length = xs.length) (hr : OwR lo hi 3 1 (.slice A n c) n (x.map (Value.int .i64)) w) (hn : n = x.length) (hap : ∀ (j : Nat) (u : Value) (k : Nat), us[j]? = some u → (Value.slice A n c).ownBlock = some k → u.ownBlock ≠ some k) : SSk lo hi (us ++ [.slice A n c]) (lenOf (xs ++ [x])) (rowOf (xs ++ [x])) w := by
  have hin : ∀ j, j < us.length → (us ++ [Value.slice A n c])[j]? = us[j]? ∧ (xs ++ [x]).getD j [] = xs.getD j [] := fun j hj => ⟨List.getElem?_append_left hj, by simp only [List.getD, List.getElem?_append_left (show j < xs.length by omega)]⟩
  have hlast : (us ++ [Value.slice A n c])[us.length]? = some (.slice A n c) ∧ (xs ++ [x]).getD us.length [] = x := ⟨by simp, by rw [hl]; simp [List.getD]⟩
  have hout : ∀ j v, (us ++ [Value.slice A n c])[j]? = some v → j < us.length ∨ (j = us.length ∧ v = .slice A n c) := by
    intro j v hv
    rcases Nat.lt_trichotomy j us.length with h1 | h1 | h1
    · exact .inl h1
    · subst h1; rw [hlast.1] at hv; cases hv; exact .inr ⟨rfl, rfl⟩
    · rw [List.getElem?_eq_none (by simp; omega)] at hv; cases hv
  refine ⟨fun j hj => ?_, fun i j v u k hij h3 h4 hv hu => ?_⟩
  · by_cases h1 : j < us.length
    · obtain ⟨A', m, c', r1, r2, r3⟩ := h.row j h1
      refine ⟨A', m, c', (hin j h1).1.trans r1, ?_, ?_⟩
      · rw [r2]; unfold lenOf; rw [(hin j h1).2]
      · have : rowOf (xs ++ [x]) j = rowOf xs j := by unfold rowOf; rw [(hin j h1).2]
        rw [this]; exact r3
    · obtain rfl : j = us.length := by simp at hj; omega
      refine ⟨A, n, c, hlast.1, ?_, ?_⟩
      · unfold lenOf; rw [hlast.2]; exact hn
      · have : rowOf (xs ++ [x]) us.length = x.map (Value.int .i64) := by unfold rowOf; rw [hlast.2]
        rw [this]; exact hr
  · rcases hout i v h3 with h1 | ⟨h1, rfl⟩
    · rcases hout j u h4 with h2 | ⟨h2, rfl⟩
      · exact h.apart i j v u k hij ((hin i h1).1.symm.trans h3) ((hin j h2).1.symm.trans h4) hv hu
      · exact hap i v k ((hin i h1).1.symm.trans h3) hu hv
    · rcases hout j u h4 with h2 | ⟨h2, rfl⟩
      · exact hap j u k ((hin j h2).1.symm.trans h4) hv hu
      · omega

/-- A state out of a row and lists that lie apart. -/
theorem OwE.of_apart {A E : Option Addr} {n c en ec : Nat} {st : Eg} {us : List Value} (hr : OwR lo hi 3 1 (.slice A n c) n (st.vs.map (Value.int .i64)) w) (hn : n = st.vs.length) (hen : en = st.rs.length) (h1 : OwR lo hi 25 1 (.slice E en ec) en us w) (h2 : SSk lo hi us (lenOf st.rs) (rowOf st.rs) w) (hap : ∀ (j : Nat) (u : Value) (k : Nat), us[j]? = some u → (Value.slice A n c).ownBlock = some k → u.ownBlock ≠ some k) : OwE lo hi A n c E en ec st w :=
  ⟨hn, hen, us, h1, h2.cons hr hn hap⟩
/-- .. the lists made first. -/
theorem OwE.join_rev {A E : Option Addr} {n c en ec mid : Nat} {st : Eg} (h' : OwSS lo mid (.slice E en ec) en st.rs w) (h : OwR mid hi 3 1 (.slice A n c) n (st.vs.map (Value.int .i64)) w) (hn : n = st.vs.length) (h1 : lo ≤ mid) (h2 : mid ≤ hi) : OwE lo hi A n c E en ec st w := by
  obtain ⟨h0, us, e1, e2⟩ := h'
  refine OwE.of_apart (h.mono h1 (Nat.le_refl _)) hn h0 (e1.mono (Nat.le_refl _) h2) (e2.mono (Nat.le_refl _) h2) fun j u k hu hk hk' => ?_
  have a1 := (e2.lt j u k hu hk').2
  have a2 := (h.1.lt k hk).1
  omega
end

structure Lz where
  vs : List Int
  rs : List (List Int)
  cs : List Int
deriving DecidableEq, Inhabited

def rowsL (e : Lz) : List (List Int) := e.vs :: (e.rs ++ [e.cs])
def lsz (e : Lz) : Nat := e.vs.length + (e.rs.length + (e.rs.map List.length).sum) + e.cs.length
/-- No more numbers than a million. -/
def LB (e : Lz) : Prop := e.vs.length ≤ 1048576 ∧ SB e.rs ∧ SB2 (rowsL e) ∧ (e.rs.map List.length).sum ≤ 1048576 ∧ ((rowsL e).map List.length).sum ≤ 1048576 ∧ e.cs.length ≤ 1048576

theorem LB.of_lsz {e : Lz} (h : lsz e ≤ 1048576) : LB e := by
  unfold lsz at h
  have h1 : ((rowsL e).map List.length).sum ≤ 1048576 := by unfold rowsL; simp; omega
  exact ⟨by omega, SB.of_sum (by omega) (by omega), SB2.of_sum (by unfold rowsL; simp; omega) h1, by omega, h1, by omega⟩
theorem LB.of_small (e : Lz) (h1 : e.vs.length ≤ 1000) (h2 : SB e.rs) (h3 : (e.rs.map List.length).sum ≤ 1000) (h4 : e.cs.length ≤ 1000) : LB e := by
  have h5 : ((rowsL e).map List.length).sum ≤ 1048576 := by unfold rowsL; simp; omega
  exact ⟨by omega, h2, SB2.of_sum (by unfold rowsL; simp; have := h2.1; omega) h5, by omega, h5, by omega⟩

/-- The slices at A, E and C read as the state e; all of it lies below block B. -/
def LS3 (w : World) (B : Nat) (A E C : Option Addr) (e : Lz) : Prop := IS w B A e.vs ∧ (SS w B E e.rs ∧ IS w B C e.cs)

section
variable {w w' : World} {B B' D : Nat} {A E C : Option Addr} {e : Lz}
theorem LS3.more (h : LS3 w B A E C e) (hB : B ≤ B') : LS3 w B' A E C e := ⟨h.1.more hB, h.2.1.more hB, h.2.2.more hB⟩
theorem LS3.below (h : LS3 w B A E C e) (hb : Below D w w') (hC : B ≤ D) : LS3 w' B A E C e := ⟨h.1.below hb hC, h.2.1.below hb hC, h.2.2.below hb hC⟩
theorem LS3.alloc (h : LS3 w B A E C e) (hB : B ≤ w.heap.size) (o : Obj) : LS3 (w.alloc o) B A E C e := ⟨h.1.alloc hB o, h.2.1.alloc hB o, h.2.2.alloc hB o⟩
theorem LS3.keep (h : LS3 w B A E C e) (hk : ∀ p : Addr, p.block < B → w'.cell? p = w.cell? p) : LS3 w' B A E C e := ⟨h.1.keep hk, h.2.1.keep hk, h.2.2.keep hk⟩
theorem LS3.setCell (h : LS3 w B A E C e) {b j : Nat} (hb : B ≤ b) (u : Value) : LS3 (w.setCell ⟨b, j, none⟩ u) B A E C e := h.keep fun p hp => World.cell?_setCell_other _ _ _ _ (by intro e; rw [← e] at hp; exact absurd hp (by show ¬ b < B; omega))
theorem LS3.loc (B : Nat) (A E C : Option Addr) (e : Lz) : Loc 0 B fun w => LS3 w B A E C e := (IS.loc B A e.vs).and ((SS.loc B E e.rs).and (IS.loc B C e.cs))
end

/-- A state of the call's own, in blocks lo to hi - 1. -/
def OwL (lo hi : Nat) (A : Option Addr) (n c : Nat) (E : Option Addr) (en ec : Nat) (C : Option Addr) (m d : Nat) (st : Lz) (w : World) : Prop :=
  n = st.vs.length ∧ en = st.rs.length ∧ m = st.cs.length ∧ ∃ us, OwR lo hi 25 1 (.slice E en ec) en us w ∧ SSk lo hi (.slice A n c :: (us ++ [.slice C m d])) (lenOf (rowsL st)) (rowOf (rowsL st)) w
/-- The same, marked from k on. -/
def MkL (lo hi : Nat) (A : Option Addr) (n c : Nat) (E : Option Addr) (en ec : Nat) (C : Option Addr) (m d : Nat) (st : Lz) (k : Int) (w : World) : Prop :=
  n = st.vs.length ∧ en = st.rs.length ∧ m = st.cs.length ∧ ∃ us, OwR lo hi 25 1 (.slice E en ec) en us w ∧ SSk lo hi (.slice A n c :: (us ++ [.slice C m d])) (lenOf (rowsL st)) (fun j => mks (k + offOf (rowsL st) j) (lenOf (rowsL st) j)) w

section
variable {lo hi lo' hi' n c en ec m d : Nat} {A E C : Option Addr} {st : Lz} {k : Int} {w w' : World}
theorem OwL.loc (lo hi : Nat) (A : Option Addr) (n c : Nat) (E : Option Addr) (en ec : Nat) (C : Option Addr) (m d : Nat) (st : Lz) : Loc lo hi (OwL lo hi A n c E en ec C m d st) := by
  rintro w w' ⟨h0, h0', h0'', vs, h1, h2⟩ hk
  exact ⟨h0, h0', h0'', vs, h1.keep hk, h2.keep hk⟩
theorem MkL.loc (lo hi : Nat) (A : Option Addr) (n c : Nat) (E : Option Addr) (en ec : Nat) (C : Option Addr) (m d : Nat) (st : Lz) (k : Int) : Loc lo hi (MkL lo hi A n c E en ec C m d st k) := by
  rintro w w' ⟨h0, h0', h0'', vs, h1, h2⟩ hk
  exact ⟨h0, h0', h0'', vs, h1.keep hk, h2.keep hk⟩
theorem OwL.mono (h : OwL lo hi A n c E en ec C m d st w) (h1 : lo' ≤ lo) (h2 : hi ≤ hi') : OwL lo' hi' A n c E en ec C m d st w := by
  obtain ⟨h0, h0', h0'', vs, e1, e2⟩ := h
  exact ⟨h0, h0', h0'', vs, e1.mono h1 h2, e2.mono h1 h2⟩
theorem OwL.row0 (h : OwL lo hi A n c E en ec C m d st w) : OwR lo hi 3 1 (.slice A n c) n (st.vs.map (Value.int .i64)) w := by
  obtain ⟨h0, h0', h0'', us, e1, e2⟩ := h
  obtain ⟨A', m', c', r1, r2, r3⟩ := e2.row 0 (by simp)
  simp only [List.getElem?_cons_zero, Option.some.injEq, Value.slice.injEq] at r1
  obtain ⟨rfl, rfl, rfl⟩ := r1
  exact r3
theorem rowsL_mid (st : Lz) (j : Nat) (h : j < st.rs.length) : (rowsL st).getD (j + 1) [] = st.rs.getD j [] := by
  unfold rowsL
  simp [List.getD, List.getElem?_append_left h]
theorem rowsL_last (st : Lz) : (rowsL st).getD (st.rs.length + 1) [] = st.cs := by
  unfold rowsL
  simp [List.getD]
theorem OwL.rowC (h : OwL lo hi A n c E en ec C m d st w) : OwR lo hi 3 1 (.slice C m d) m (st.cs.map (Value.int .i64)) w := by
  obtain ⟨h0, h0', h0'', us, e1, e2⟩ := h
  have hul : us.length = en := by have := e1.1.1; omega
  obtain ⟨A', m', c', r1, r2, r3⟩ := e2.row (st.rs.length + 1) (by simp; omega)
  rw [List.getElem?_cons_succ, ← h0', ← hul] at r1
  simp only [List.getElem?_concat_length, Option.some.injEq, Value.slice.injEq] at r1
  obtain ⟨rfl, rfl, rfl⟩ := r1
  have : rowOf (rowsL st) (st.rs.length + 1) = st.cs.map (Value.int .i64) := by unfold rowOf; rw [rowsL_last]
  rw [this] at r3
  exact r3
theorem OwL.lists (h : OwL lo hi A n c E en ec C m d st w) : OwSS lo hi (.slice E en ec) en st.rs w := by
  obtain ⟨h0, h0', h0'', us, e1, e2⟩ := h
  have hul : us.length = en := by have := e1.1.1; omega
  refine ⟨h0', us, e1, ⟨fun j hj => ?_, fun i j v u k hij h1 h2 => ?_⟩⟩
  · obtain ⟨A', m', c', r1, r2, r3⟩ := e2.row (j + 1) (by simp; omega)
    rw [List.getElem?_cons_succ, List.getElem?_append_left hj] at r1
    have hm := rowsL_mid st j (by omega)
    refine ⟨A', m', c', r1, by rw [r2]; unfold lenOf; rw [hm], ?_⟩
    have : rowOf (rowsL st) (j + 1) = rowOf st.rs j := by unfold rowOf; rw [hm]
    rw [← this]; exact r3
  · have l1 : i < us.length := by
      rcases Nat.lt_or_ge i us.length with h3 | h3
      · exact h3
      · rw [List.getElem?_eq_none h3] at h1; cases h1
    have l2 : j < us.length := by
      rcases Nat.lt_or_ge j us.length with h3 | h3
      · exact h3
      · rw [List.getElem?_eq_none h3] at h2; cases h2
    exact e2.apart (i + 1) (j + 1) v u k (by omega) (by rw [List.getElem?_cons_succ, List.getElem?_append_left l1]; exact h1) (by rw [List.getElem?_cons_succ, List.getElem?_append_left l2]; exact h2)
theorem OwL.reads (h : OwL lo hi A n c E en ec C m d st w) : LS3 w hi A E C st := ⟨h.row0.ints, h.lists.lists, h.rowC.ints⟩
theorem lazy_start (h : OwL lo w.heap.size A n c E en ec C m d st w) : As lo w.heap.size (OwL lo w.heap.size A n c E en ec C m d st) w := ⟨h, Nat.le_refl _, OwL.loc _ _ _ _ _ _ _ _ _ _ _ _⟩
theorem As.lazy (h : As lo hi (OwL lo hi A n c E en ec C m d st) w) : LS3 w w.heap.size A E C st := h.it.reads.more h.le
/-- Three parts that lie apart make a state. -/
theorem OwL.of_apart {us : List Value} (h1 : OwR lo hi 3 1 (.slice A n c) n (st.vs.map (Value.int .i64)) w) (hn : n = st.vs.length) (hen : en = st.rs.length) (h2 : OwR lo hi 25 1 (.slice E en ec) en us w) (h3 : SSk lo hi us (lenOf st.rs) (rowOf st.rs) w) (h4 : OwR lo hi 3 1 (.slice C m d) m (st.cs.map (Value.int .i64)) w) (hm : m = st.cs.length)
    (a1 : ∀ (j : Nat) (u : Value) (k : Nat), us[j]? = some u → (Value.slice A n c).ownBlock = some k → u.ownBlock ≠ some k) (a2 : ∀ (j : Nat) (u : Value) (k : Nat), us[j]? = some u → (Value.slice C m d).ownBlock = some k → u.ownBlock ≠ some k) (a3 : ∀ k, (Value.slice A n c).ownBlock = some k → (Value.slice C m d).ownBlock ≠ some k) : OwL lo hi A n c E en ec C m d st w := by
  have hul : us.length = st.rs.length := by have := h2.1.1; omega
  refine ⟨hn, hen, hm, us, h2, (h3.snoc hul h4 hm a2).cons h1 hn fun j u k hu hk => ?_⟩
  rcases Nat.lt_trichotomy j us.length with h5 | h5 | h5
  · rw [List.getElem?_append_left h5] at hu
    exact a1 j u k hu hk
  · subst h5
    simp only [List.getElem?_concat_length, Option.some.injEq] at hu
    subst hu
    exact a3 k hk
  · rw [List.getElem?_eq_none (by simp; omega)] at hu; cases hu
/-- .. made one after the other. -/
theorem OwL.join {mid mid2 : Nat} (h : OwR lo mid 3 1 (.slice A n c) n (st.vs.map (Value.int .i64)) w) (hn : n = st.vs.length) (h' : OwSS mid mid2 (.slice E en ec) en st.rs w) (h'' : OwR mid2 hi 3 1 (.slice C m d) m (st.cs.map (Value.int .i64)) w) (hm : m = st.cs.length) (h1 : lo ≤ mid) (h2 : mid ≤ mid2) (h3 : mid2 ≤ hi) : OwL lo hi A n c E en ec C m d st w := by
  obtain ⟨h0, us, e1, e2⟩ := h'
  refine OwL.of_apart (h.mono (Nat.le_refl _) (by omega)) hn h0 (e1.mono h1 h3) (e2.mono h1 h3) (h''.mono (by omega) (Nat.le_refl _)) hm (fun j u k hu hk hk' => ?_) (fun j u k hu hk hk' => ?_) (fun k hk hk' => ?_)
  · have b1 := (e2.lt j u k hu hk').1
    have b2 := h.2 k hk
    omega
  · have b1 := (e2.lt j u k hu hk').2
    have b2 := (h''.1.lt k hk).1
    omega
  · have b1 := (h''.1.lt k hk').1
    have b2 := h.2 k hk
    omega
theorem OwL.setCell (h : OwL lo hi A n c E en ec C m d st w) {a : Addr} (ha : a.block < lo) (u : Value) : OwL lo hi A n c E en ec C m d st (w.setCell a u) :=
  OwL.loc _ _ _ _ _ _ _ _ _ _ _ _ _ _ h fun k hk _ => Below.heap_setCell _ _ _ _ (by omega)
end

/-- Returns a state in fresh blocks. -/
def RetL (w : World) (st : Lz) (e : Ending) (w' : World) : Prop := ∃ A n c E en ec C m d, e = .returned (.agg #[.slice A n c, .slice E en ec, .slice C m d]) ∧ OwL w.heap.size w'.heap.size A n c E en ec C m d st w' ∧ Below w.heap.size w w'
theorem OwL.nil (lo hi : Nat) (w : World) (h : lo ≤ hi) : OwL lo hi none 0 0 none 0 0 none 0 0 ⟨[], [], []⟩ w := OwL.join (mid := hi) (mid2 := hi) (OwR.nil _ _ _ _ _) rfl (OwSS.nil _ _ _) (OwR.nil _ _ _ _ _) rfl h (Nat.le_refl _) (Nat.le_refl _)
theorem RetL.nil {w w' : World} (hb : Below w.heap.size w w') : RetL w ⟨[], [], []⟩ (.returned (.agg #[.slice none 0 0, .slice none 0 0, .slice none 0 0])) w' := ⟨_, _, _, _, _, _, _, _, _, rfl, OwL.nil _ _ _ hb.size, hb⟩
end Go.Proofs.Ythnilpibpmlaeaa

/- Plain facts on states of the lazy machine. -/
namespace Go.Proofs.Ythnilpibpmlaeaa
set_option linter.unusedSimpArgs false
set_option linter.unusedVariables false

/-- The numbers of a list that are not in another one. -/
def missTo (a b : List Int) (k : Nat) : List Int := (a.take k).filter fun x => !decide (x ∈ b)
def missL (a b : List Int) : List Int := a.filter fun x => !decide (x ∈ b)
theorem missTo_step (a b : List Int) (k : Nat) (h : k < a.length) : missTo a b (k + 1) = missTo a b k ++ (if decide (a.getD k 0 ∈ b) then [] else [a.getD k 0]) := by
  unfold missTo
  rw [take_succ_int a k _ h rfl, List.filter_append]
  congr 1
  cases h1 : decide (a.getD k 0 ∈ b) <;> simp [List.filter_cons, h1, -List.getD_eq_getElem?_getD]
theorem missTo_len (a b : List Int) (k : Nat) : (missTo a b k).length ≤ k := by
  unfold missTo
  refine Nat.le_trans (List.length_filter_le _ _) (by rw [List.length_take]; omega)
theorem missTo_all (a b : List Int) : missTo a b a.length = missL a b := by unfold missTo missL; rw [List.take_length]
theorem missTo_zero (a b : List Int) : missTo a b 0 = [] := rfl

/-- No number comes twice. -/
def apartL (l : List Int) : Bool := decide (∀ i, i < l.length → ¬ l.getD i 0 ∈ l.take i)
/-- All numbers are in a list. -/
def inL (l b : List Int) : Bool := l.all fun x => decide (x ∈ b)
/-- All nodes of a list are clean. -/
def cleanR (cs l : List Int) : Bool := l.all fun x => cs.getD x.toNat 0 == 0

theorem firsts_take_len (l : List Int) (k : Nat) (hk : k ≤ l.length) : (firsts (l.take k)).length = k ↔ ∀ i, i < k → ¬ l.getD i 0 ∈ l.take i := by
  induction k with
  | zero => simp [firsts]
  | succ k ih =>
    have ih := ih (by omega)
    have hle : (firsts (l.take k)).length ≤ k := Nat.le_trans (firsts_len _) (by rw [List.length_take]; omega)
    rw [firsts_step l k _ (by omega) rfl]
    by_cases hm : l.getD k 0 ∈ firsts (l.take k)
    · rw [if_pos hm]
      have hm' := (firsts_mem _ _).1 hm
      constructor
      · intro h; omega
      · intro h; exact absurd hm' (h k (by omega))
    · rw [if_neg hm, List.length_append]
      have hm' : ¬ l.getD k 0 ∈ l.take k := fun e => hm ((firsts_mem _ _).2 e)
      constructor
      · intro h i hi
        rcases Nat.lt_or_ge i k with h1 | h1
        · exact ih.1 (by simpa using h) i h1
        · obtain rfl : i = k := by omega
          exact hm'
      · intro h
        have := ih.2 fun i hi => h i (by omega)
        simp [this]

theorem apartL_firsts (l : List Int) : ((l.length : Int) == ((firsts l).length : Int)) = apartL l := by
  have h := firsts_take_len l l.length (Nat.le_refl _)
  rw [List.take_length] at h
  unfold apartL
  rw [Bool.eq_iff_iff, beq_iff_eq, decide_eq_true_iff]
  constructor
  · intro e; exact h.1 (by omega)
  · intro e; have := h.2 e; omega
theorem inL_miss (l b : List Int) : (((missL l b).length : Int) == 0) = inL l b := by
  unfold missL inL
  rw [Bool.eq_iff_iff, beq_iff_eq, List.all_eq_true]
  constructor
  · intro e x hx
    have h0 : l.filter (fun x => !decide (x ∈ b)) = [] := List.eq_nil_of_length_eq_zero (by omega)
    rw [List.filter_eq_nil_iff] at h0
    have := h0 x hx
    simpa using this
  · intro h
    have h0 : l.filter (fun x => !decide (x ∈ b)) = [] := by
      rw [List.filter_eq_nil_iff]
      intro x hx
      have := h x hx
      simp only [decide_eq_true_eq] at this
      simp [this]
    rw [h0]; rfl

/-- The number at i is in b, and not ahead of i. -/
def difB (l b : List Int) (i : Nat) : Bool := decide (l.getD i 0 ∈ b) && !decide (l.getD i 0 ∈ l.take i)
theorem dif_bad (l b : List Int) (i : Nat) (hi : i < l.length) (h : difB l b i = false) : (apartL l && inL l b) = false := by
  rw [Bool.eq_false_iff]
  intro hh
  rw [Bool.and_eq_true] at hh
  have h1 := of_decide_eq_true hh.1 i hi
  have h2 := (List.all_eq_true.1 hh.2) (l.getD i 0) (by simp [List.getD, hi])
  unfold difB at h
  rw [h2, decide_eq_false h1] at h
  cases h
theorem dif_fin (l b : List Int) (h : ∀ i, i < l.length → difB l b i = true) : (apartL l && inL l b) = true := by
  rw [Bool.and_eq_true]
  refine ⟨decide_eq_true fun i hi => ?_, List.all_eq_true.2 fun x hx => ?_⟩
  · have := h i hi
    unfold difB at this
    rw [Bool.and_eq_true] at this
    simpa using this.2
  · obtain ⟨i, hi, rfl⟩ := List.mem_iff_getElem.1 hx
    have := h i hi
    unfold difB at this
    rw [Bool.and_eq_true] at this
    simpa [List.getD, hi] using this.1
theorem cleanR_bad (cs l : List Int) (k : Nat) (hk : k < l.length) (h : (cs.getD (l.getD k 0).toNat 0 == 0) = false) : cleanR cs l = false := all_bad l _ k hk h
theorem cleanR_fin (cs l : List Int) (h : ∀ k, k < l.length → (cs.getD (l.getD k 0).toNat 0 == 0) = true) : cleanR cs l = true := all_good l _ h

/-- A node is as if it had run. -/
def asRun (gs : List Nd) (st : Lz) (i : Nat) : Bool := (valE gs st.vs i == st.vs.getD i 0) && decide (depF gs st.vs i = st.rs.getD i [])
def colOK (gs : List Nd) (st : Lz) (i : Nat) : Bool :=
  if (gs.getD i default).k == 0 then (st.cs.getD i 0 == 0) && decide ((st.rs.getD i []).length = 0)
  else if st.cs.getD i 0 == 2 then apartL (st.rs.getD i []) && inL (st.rs.getD i []) (mayR (gs.getD i default).ps)
  else if st.cs.getD i 0 == 0 then asRun gs st i && cleanR st.cs (st.rs.getD i [])
  else asRun gs st i
def allL (gs : List Nd) (st : Lz) : Bool := decide (∀ i, i < gs.length → colOK gs st i = true)
def validL (gs : List Nd) (st : Lz) : Bool := validG gs && (decide (st.vs.length = gs.length) && (decide (st.rs.length = gs.length) && (decide (st.cs.length = gs.length) && (allR st.vs 0 999 && (allR st.cs 0 2 && allL gs st)))))
theorem allL_bad (gs : List Nd) (st : Lz) (i : Nat) (hi : i < gs.length) (h : colOK gs st i = false) : allL gs st = false := by
  unfold allL
  rw [decide_eq_false_iff_not]
  intro hh
  rw [hh i hi] at h
  cases h
theorem allL_fin (gs : List Nd) (st : Lz) (h : ∀ i, i < gs.length → colOK gs st i = true) : allL gs st = true := by
  unfold allL
  exact decide_eq_true h
theorem validL_parts (gs : List Nd) (st : Lz) (h : validL gs st = true) : validG gs = true ∧ st.vs.length = gs.length ∧ st.rs.length = gs.length ∧ st.cs.length = gs.length ∧ allR st.vs 0 999 = true ∧ allR st.cs 0 2 = true ∧ ∀ i, i < gs.length → colOK gs st i = true := by
  unfold validL allL at h
  simp only [Bool.and_eq_true, decide_eq_true_eq] at h
  exact ⟨h.1, h.2.1, h.2.2.1, h.2.2.2.1, h.2.2.2.2.1, h.2.2.2.2.2.1, h.2.2.2.2.2.2⟩
/-- What a run reads are nodes ahead. -/
theorem depF_range (gs : List Nd) (vs : List Int) (hg : validG gs = true) (hl : vs.length = gs.length) (i : Nat) (hi : i < gs.length) (j : Nat) (hj : j < (depF gs vs i).length) : ∃ q : Nat, q < gs.length ∧ (depF gs vs i).getD j 0 = (q : Int) := by
  have hmem : (depF gs vs i).getD j 0 ∈ depF gs vs i := by simp [List.getD, hj]
  unfold depF at hmem ⊢
  cases hk : ((gs.getD i default).k == 0)
  · rw [hk] at hmem
    simp only [Bool.false_eq_true, if_false] at hmem ⊢
    have hv := (nodeOK_formula gs i ((validG_parts gs hg).2 i hi) hk).1
    have hok := whole_ok _ vs.length hv (by rw [hl]; exact each_ahead gs i gs.length hg hi hk (by omega))
    obtain ⟨q, hq, e⟩ := rds_lt _ _ _ hok _ ((firsts_mem _ _).1 hmem)
    exact ⟨q, by omega, e⟩
  · rw [hk] at hmem
    simp at hmem
end Go.Proofs.Ythnilpibpmlaeaa
