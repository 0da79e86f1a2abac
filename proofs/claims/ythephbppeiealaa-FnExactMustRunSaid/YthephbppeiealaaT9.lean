/- The standing contracts of DepsOf. -/
import Derived.Test.YthephbppeiealaaT2
import Derived.Test.YthephbppeiealaaH1
import Derived.Test.YthephbppeiealaaM5
namespace Go.Proofs.Ythephbppeiealaa
set_option linter.unusedSimpArgs false
set_option linter.unusedVariables false
open Go.RowKit

/-- What a node reads with some values. -/
def depF (gs : List Nd) (vs : List Int) (i : Nat) : List Int := if (gs.getD i default).k == 0 then [] else firsts ((whole (gs.getD i default).ps).rds vs)
def depTo (gs : List Nd) (vs : List Int) (k : Nat) : List (List Int) := (List.range k).map (depF gs vs)
def depsF (gs : List Nd) (xs : List Int) : List (List Int) := if okC gs xs then depTo gs (mean gs xs) gs.length else []

theorem depTo_len (gs : List Nd) (vs : List Int) (k : Nat) : (depTo gs vs k).length = k := by simp [depTo]
theorem depTo_succ (gs : List Nd) (vs : List Int) (k : Nat) : depTo gs vs (k + 1) = depTo gs vs k ++ [depF gs vs k] := by simp [depTo, List.range_succ]
theorem depTo_at (gs : List Nd) (vs : List Int) (k j : Nat) (h : j < k) : (depTo gs vs k).getD j [] = depF gs vs j := by simp [depTo, List.getD, h]

theorem depF_bd (gs : List Nd) (xs : List Int) (h : okC gs xs = true) (i : Nat) (hi : i < gs.length) : (depF gs (mean gs xs) i).length ≤ 10 := by
  obtain ⟨hg, hc⟩ := okC_parts gs xs h
  unfold depF
  cases hk : ((gs.getD i default).k == 0)
  · simp only [Bool.false_eq_true, if_false]
    have hv := (nodeOK_formula gs i ((validG_parts gs hg).2 i hi) hk).1
    have hok := whole_ok _ (mean gs xs).length hv (by rw [mean_len]; exact each_ahead gs i gs.length hg hi hk (by omega))
    have h10 := (validG_parts gs hg).1
    refine Nat.le_trans (firsts_bd _ (mean gs xs).length ?_) (by rw [mean_len]; exact h10)
    intro x hx
    exact rds_lt _ _ _ hok x hx
  · simp

theorem depsF_len (gs : List Nd) (xs : List Int) : SB (depsF gs xs) ∧ ((depsF gs xs).map List.length).sum ≤ 1048576 := by
  unfold depsF
  cases h : okC gs xs
  · exact ⟨⟨by simp, fun j => by simp [List.getD]⟩, by simp⟩
  · simp only [if_true]
    have h10 := (validG_parts gs (okC_parts gs xs h).1).1
    have hb : ∀ j, j < gs.length → (depF gs (mean gs xs) j).length ≤ 10 := fun j hj => depF_bd gs xs h j hj
    refine ⟨⟨by rw [depTo_len]; omega, fun j => ?_⟩, ?_⟩
    · by_cases hj : j < gs.length
      · rw [depTo_at _ _ _ _ hj]; have := hb j hj; omega
      · rw [show (depTo gs (mean gs xs) gs.length).getD j [] = [] by
          have : (depTo gs (mean gs xs) gs.length).length ≤ j := by rw [depTo_len]; omega
          simp [List.getD, List.getElem?_eq_none this]]
        simp
    · have : ∀ k, k ≤ gs.length → ((depTo gs (mean gs xs) k).map List.length).sum ≤ k * 10 := by
        intro k
        induction k with
        | zero => intro _; simp [depTo]
        | succ k ih =>
          intro hk
          rw [depTo_succ, List.map_append, List.sum_append]
          have h1 := ih (by omega)
          have h2 := hb k (by omega)
          simp
          omega
      have := this gs.length (Nat.le_refl _)
      omega

theorem OwSS.snoc {base k : Nat} {v v' : Value} {xss : List (List Int)} {D : List Int} {A : Option Addr} {m c : Nat} {wr w5 w6 : World} {vs : List Value} {o : Obj} (hrow : wr.ownsRow base 25 1 v k vs) (hss : SSk base wr.heap.size vs (lenOf xss) (rowOf xss) wr) (hk : k = xss.length) (hb : Below wr.heap.size wr w5)
    (hd : w5.ownsRow wr.heap.size 3 1 (.slice A m c) m (D.map (Value.int .i64))) (hm : m = D.length) (happ : w6.ownsRow base 25 1 v' (k + 1) (vs ++ [.slice A m c])) (hgrow : (w5.alloc o).grownBy w6 v.ownBlock) (hbs : base ≤ wr.heap.size) : OwSS base w6.heap.size v' (k + 1) (xss ++ [D]) w6 := by
  have hvl : vs.length = k := by have := hrow.1; omega
  have hrow5 := (own_below hrow hb).alloc o
  have hss5 : SSk base wr.heap.size vs (lenOf xss) (rowOf xss) (w5.alloc o) := (hss.keep fun q _ hq => hb.block q hq).keep fun q _ hq => Below.heap_alloc _ _ _ (Nat.lt_of_lt_of_le hq hb.size)
  have hss6 : SSk base wr.heap.size vs (lenOf xss) (rowOf xss) w6 := hss5.grown hgrow (hss5.ne hrow5 ints_ne_int)
  have hd6 : w6.ownsRow wr.heap.size 3 1 (.slice A m c) m (D.map (Value.int .i64)) := (hd.alloc o).kept hgrow (blocks_ne (hd.alloc o) hrow5 ints_ne_int)
  refine ⟨by rw [List.length_append, hk]; rfl, vs ++ [.slice A m c], OwR.start happ, ?_⟩
  refine hss6.put (hi' := w6.heap.size) (lens' := lenOf (xss ++ [D])) (cont' := rowOf (xss ++ [D])) (A := A) (m := m) (c := c) k ?_ ?_ ?_ ?_ ?_ ?_ hbs ?_
  · rw [List.getElem?_append_right (by omega), hvl, Nat.sub_self]; rfl
  · intro j hj
    rcases Nat.lt_or_ge j vs.length with h1 | h1
    · rw [List.getElem?_append_left h1]
    · rw [List.getElem?_eq_none h1, List.getElem?_eq_none (by simp; omega)]
  · intro j hj hjk; simp at hj; omega
  · rw [hm]; unfold lenOf; simp [List.getD, hk]
  · intro j hj
    have : (xss ++ [D]).getD j [] = xss.getD j [] := by
      rcases Nat.lt_or_ge j xss.length with h1 | h1
      · simp [List.getD, List.getElem?_append_left h1]
      · rw [List.getD, List.getElem?_eq_none (by simp; omega), List.getD, List.getElem?_eq_none h1]
    unfold lenOf rowOf
    rw [this]
    exact ⟨rfl, rfl⟩
  · refine ⟨?_, fun q hq => (hd6.lt q hq).2⟩
    have : rowOf (xss ++ [D]) k = D.map (Value.int .i64) := by unfold rowOf; simp [List.getD, hk]
    rw [this]; exact hd6
  · have h1 := hgrow.size; simp at h1; have := hb.size; omega

set_option maxRecDepth 100000 in
set_option maxHeartbeats 1600000 in
theorem spec_deps (A A' : Option Addr) (n c m c' : Nat) (gs : List Nd) (vs : List Int) (i : Nat) (w : World) (B : Nat) (hB : B ≤ w.heap.size) (hn : n = gs.length) (hm : m = vs.length) (hmn : m = n) (h : GS w B A gs) (h' : IS w B A' vs) (hv : validG gs = true) (hvo : VOK vs) (hi : i < n) :
    Calls Try.prog 89 #[.agg #[.slice A n c], .slice A' m c', .int .i64 i] w fun e w' => RetI w (depF gs vs i) e w' := by
  have h10 := (validG_parts gs hv).1
  have hn10 : n ≤ 10 := by omega
  obtain ⟨b, off, rfl, hbB, c0, A1, n1, c1, c2, hn1', hps⟩ := h.at_ i (by omega)
  have hde : depF gs vs i = if (gs.getD i default).k == 0 then [] else firsts ((whole (gs.getD i default).ps).rds vs) := rfl
  have hnd := (validG_parts gs hv).2 i (by omega)
  have hfm := nodeOK_formula gs i hnd
  have hea := each_ahead gs i m hv (by omega)
  rw [hde]
  clear hde hnd h
  generalize gs.getD i default = d at *
  have hbw : b < w.heap.size := by omega
  cases hd : (d.k == 0)
  · obtain ⟨hvf, _⟩ := hfm hd
    obtain ⟨hg, h1, h12⟩ := validF_good d.ps hvf
    have he := hea hd (by omega)
    have HRUN := Lib.hid fun (w' : World) (hB : B ≤ w'.heap.size) (h : PS w' B A1 d.ps) (h' : IS w' B A' vs) => spec_run A1 A' n1 c1 m c' d.ps vs B hn1' hm hg he hvo (by omega) (by omega) (by omega) w' hB h h'
    generalize firsts ((whole d.ps).rds vs) = R at *
    generalize (whole d.ps).ev vs = E at *
    have HPS := Lib.hid hps
    have HI := Lib.hid h'
    have hlt : i < n := hi
    clear hfm hea hvf hg h1 h12 he hn1' hps h' hn hm hmn h10 hv hvo
    show Calls _ _ _ _ fun e w' => RetI w R e w'
    go_enter Try.func89, Try.ntmps89
    go_wp2_with fail
    refine (HRUN.out _ (by simp; omega) (HPS.out.alloc hB _) (HI.out.alloc hB _)).mono ?_
    rintro e w1 ⟨v, rfl, ho, hb⟩
    go_wp2
    go_ret
    exact ⟨v, by simp, own_mono ho.1 (by simp), ((Below.refl _ _).alloc (Nat.le_refl _) _).trans (hb.mono (by simp))⟩
  · clear hfm hea hn1' hps h' hn hm hmn h10 hv hvo
    show Calls _ _ _ _ fun e w' => RetI w [] e w'
    have hml : 0 ≤ maxLen := Nat.zero_le _
    go_enter Try.func89, Try.ntmps89
    go_wp2
    go_ret
    exact retI_lit ((Below.refl _ _).alloc (Nat.le_refl _) _) _ _ 0 rfl hml rfl _ (by simp)

theorem info_ints1 : (Try.prog.info? 25).map (fun i => (i.zero, i.size, i.bytes)) = some (some (.slice none 0 0), 1, 24) := by kernel_rfl

/-- What the first nodes read, and nothing for the others. -/
def dmix (gs : List Nd) (vs : List Int) (n k : Nat) : List (List Int) := depTo gs vs k ++ List.replicate (n - k) []
theorem dmix_len (gs : List Nd) (vs : List Int) (n k : Nat) (h : k ≤ n) : (dmix gs vs n k).length = n := by unfold dmix; rw [List.length_append, depTo_len, List.length_replicate]; omega
theorem dmix_all (gs : List Nd) (vs : List Int) (n : Nat) : dmix gs vs n n = depTo gs vs n := by unfold dmix; simp
theorem dmix_at (gs : List Nd) (vs : List Int) (n k : Nat) (h : k < n) : (dmix gs vs n (k + 1)).getD k [] = depF gs vs k := by
  have := depTo_len gs vs k
  unfold dmix
  rw [depTo_succ]
  simp [List.getD, List.getElem?_append, this]
theorem dmix_other (gs : List Nd) (vs : List Int) (n k j : Nat) (h : k < n) (hj : j ≠ k) : (dmix gs vs n (k + 1)).getD j [] = (dmix gs vs n k).getD j [] := by
  have h1 := depTo_len gs vs k
  unfold dmix
  rw [depTo_succ]
  rcases Nat.lt_or_ge j k with h2 | h2
  · simp [List.getD, List.getElem?_append, h1, h2, show j < k + 1 by omega]
  · have e1 : ¬ j < k := by omega
    have e2 : ¬ j < k + 1 := by omega
    simp only [List.getD, List.getElem?_append, List.length_append, h1, List.length_cons, List.length_nil, if_neg e1, if_neg e2, List.getElem?_replicate]
    split <;> split <;> rfl
theorem dmix_cell (gs : List Nd) (vs : List Int) (n k : Nat) (h : k < n) (hd : depF gs vs k = []) : dmix gs vs n (k + 1) = dmix gs vs n k := by
  unfold dmix
  rw [depTo_succ, hd, List.append_assoc, show n - k = (n - (k + 1)) + 1 by omega, List.replicate_succ]
  rfl

set_option maxRecDepth 100000 in
set_option maxHeartbeats 3200000 in
theorem top_impl_DepsOf (gs : List Nd) (xs : List Int) (hG : GB gs) (hL : xs.length ≤ 1048576) : ∀ (A : Option Addr) (n c : Nat) (A' : Option Addr) (m c' : Nat) (w : World), n = gs.length → n ≤ c → GS w w.heap.size A gs → m = xs.length → IS w w.heap.size A' xs →
    Calls Try.prog 75 #[.agg #[.slice A n c], .slice A' m c'] w fun e w' => RetSS w (depsF gs xs) e w' := by
  intro A n c A' m c' w hn hnc h hm h'
  obtain ⟨i1, hi, hz0, hz1, hz2⟩ := info_parts info_ints1
  have hm1 : m ≤ 2000000 := by omega
  have H := Lib.hid h
  have HX := Lib.hid h'
  have HN := Lib.hid hn
  have HC := Lib.hid fun (w' : World) (hB : w.heap.size ≤ w'.heap.size) (h : GS w' w.heap.size A gs) (h' : IS w' w.heap.size A' xs) => impl_ValidCells A A' n c m c' gs xs w' w.heap.size hB hn hnc hm h h' hG hm1
  have HM := Lib.hid fun (w' : World) (hB : w.heap.size ≤ w'.heap.size) (h : GS w' w.heap.size A gs) (h' : IS w' w.heap.size A' xs) => impl_MeaningOf A A' n c m c' gs xs w' w.heap.size hB hn hnc hm h h' hG hm1
  cases hok : okC gs xs
  · have hf : depsF gs xs = [] := by unfold depsF; rw [hok]; rfl
    rw [hf]
    rw [hok] at HC
    clear hf hok h h' hn hm hG
    go_enter Try.func75, Try.ntmps75
    go_wp2_with fail
    refine (HC.out _ (by simp) (H.out.alloc (Nat.le_refl _) _) (HX.out.alloc (Nat.le_refl _) _)).mono ?_
    rintro e w1 ⟨rfl, hb⟩
    have q1 : w1.cell? ⟨w.heap.size, 0, none⟩ = some (.slice A n c) := (hb.cell (p := ⟨w.heap.size, 0, none⟩) (by simp)).trans (by go_simp)
    have HG1 := Lib.hid ((H.out.alloc (Nat.le_refl _) (.cells #[.slice A n c] 34)).below hb (by simp))
    have HX1 := Lib.hid ((HX.out.alloc (Nat.le_refl _) (.cells #[.slice A n c] 34)).below hb (by simp))
    have hB1 : Below w.heap.size w w1 := ((Below.refl _ _).alloc (Nat.le_refl _) _).trans (hb.mono (by simp))
    have hl1 : w.heap.size < w1.heap.size := by have := hb.size; simp at this; omega
    clear hb
    go_wp2
    go_ret
    exact RetSS.nil (hB1)
  have hvg := (okC_parts gs xs hok).1
  have hf : depsF gs xs = depTo gs (mean gs xs) gs.length := by unfold depsF; rw [hok]; rfl
  have hmf : meanF gs xs = mean gs xs := by unfold meanF; rw [hok]; rfl
  have hn10 : n ≤ 10 := by have := (validG_parts gs hvg).1; omega
  have hml := mean_len gs xs
  rw [← hn] at hml
  have hvo : VOK (mean gs xs) := meanTo_VOK gs xs hok gs.length (Nat.le_refl _)
  have HCE := Lib.hid fun (k : Nat) (hk : k < gs.length) (h0 : ((gs.getD k default).k == 0) = false) => canEv_of (gs.getD k default).ps (mean gs xs) (nodeOK_formula gs k ((validG_parts gs hvg).2 k hk) h0).1 (by omega) hvo (by rw [hml]; exact each_ahead gs k n hvg hk h0 (by omega))
  rw [hf]
  rw [hok] at HC
  rw [hmf] at HM
  have HML := Lib.hid hml
  have HDL := Lib.hid (depTo_len gs (mean gs xs))
  rw [← hn]
  clear hf hvg hok hml hvo h h' hn hm hG hmf
  generalize mean gs xs = M at *
  have HMK := Lib.hid fun (w1 : World) => run_make_full (P := Try.prog) w1 w1.heap.size 26 25 i1 _ 1 Try.underlying26 hi hz0 hz1 .i64 .i64 n (by rw [hz2]; omega) (by unfold maxLen; omega) (Nat.le_refl _)
  go_enter Try.func75, Try.ntmps75
  go_wp2_with fail
  refine (HC.out _ (by simp) (H.out.alloc (Nat.le_refl _) _) (HX.out.alloc (Nat.le_refl _) _)).mono ?_
  rintro e w1 ⟨rfl, hb⟩
  have q1 : w1.cell? ⟨w.heap.size, 0, none⟩ = some (.slice A n c) := (hb.cell (p := ⟨w.heap.size, 0, none⟩) (by simp)).trans (by go_simp)
  have HG1 := Lib.hid ((H.out.alloc (Nat.le_refl _) (.cells #[.slice A n c] 34)).below hb (by simp))
  have HX1 := Lib.hid ((HX.out.alloc (Nat.le_refl _) (.cells #[.slice A n c] 34)).below hb (by simp))
  have hB1 : Below w.heap.size w w1 := ((Below.refl _ _).alloc (Nat.le_refl _) _).trans (hb.mono (by simp))
  have hl1 : w.heap.size < w1.heap.size := by have := hb.size; simp at this; omega
  clear hb
  go_wp2_with fail
  refine (HM.out _ hB1.size HG1.out HX1.out).mono ?_
  rintro e w2 ⟨v2, rfl, ho, hb⟩
  obtain ⟨A3, c3, rfl, hI3⟩ := OwnI.at_ ho HML.out
  have q2 := (hb.cell (p := ⟨w.heap.size, 0, none⟩) hl1).trans q1
  have hB2 := Lib.hid (hB1.trans (hb.mono hB1.size))
  have hl2 : w.heap.size < w2.heap.size := Nat.lt_of_lt_of_le hl1 hb.size
  obtain ⟨w3, hmk, hown3, hgr3⟩ := HMK.out w2
  have hb3 : Below w2.heap.size w2 w3 := ⟨hgr3.os, hgr3.tape, hgr3.output, hgr3.size, fun k hk => hgr3.block k hk (by simp)⟩
  have q3 := (hb3.cell (p := ⟨w.heap.size, 0, none⟩) hl2).trans q2
  have HG3 := Lib.hid (((HG1.out.below hb hB1.size).more (B' := w2.heap.size) (Nat.le_trans hB1.size hb.size)).below hb3 (Nat.le_refl _))
  have HI3 := Lib.hid (hI3.below hb3 (Nat.le_refl _))
  have hgl : w2.heap.size < w3.heap.size := (hown3.lt _ rfl).2
  have HO3 : Hid (∃ vs, OwR w2.heap.size w3.heap.size 25 1 (.slice (some ⟨w2.heap.size, 0, none⟩) n n) n vs w3 ∧ SSk w2.heap.size w3.heap.size vs (lenOf (dmix gs M n 0)) (rowOf (dmix gs M n 0)) w3) := by
    have e : (madeCells (Value.slice none 0 0).cells (n * 1)).toList = List.replicate n (.slice none 0 0) := by simp [Value.cells, toList_madeCells_one]
    rw [e] at hown3
    refine ⟨_, OwR.start hown3, ⟨fun j hj => ?_, fun i j v u k _ h1 h2 hv => ?_⟩⟩
    · have hj' : j < n := by simpa using hj
      refine ⟨none, 0, 0, by simp [hj'], by simp [lenOf, dmix, depTo, List.getD, hj'], ?_⟩
      have : rowOf (dmix gs M n 0) j = [] := by simp [rowOf, dmix, depTo, List.getD, hj']
      rw [this]
      exact OwR.nil _ _ _ _ _
    · have : v = .slice none 0 0 := by
        rw [List.getElem?_replicate] at h1
        split at h1
        · cases h1; rfl
        · cases h1
      subst this
      simp [Value.ownBlock] at hv
  have HB3 := Lib.hid hb3
  clear hb hb3 hown3 hgr3 q1 HG1 HX1 hB1 ho hI3 HC HM HX H hl1 HMK
  go_wp2
  clear hmk
  go_loopw [23] (fun i wr => ∃ k : Nat, k ≤ n ∧ i = .int .i64 k ∧ Hid (∃ vs, OwR w2.heap.size wr.heap.size 25 1 (.slice (some ⟨w2.heap.size, 0, none⟩) n n) n vs wr ∧ SSk w2.heap.size wr.heap.size vs (lenOf (dmix gs M n k)) (rowOf (dmix gs M n k)) wr) ∧ Hid (Below w2.heap.size w3 wr) ∧ w3.heap.size ≤ wr.heap.size) (fun i _ => n - (intOf i).toNat)
  case atStart => exact ⟨0, Nat.zero_le _, rfl, HO3.out, Below.refl _ _, Nat.le_refl _⟩
  case round =>
    obtain ⟨k, hk, rfl, HO, HB, hwr⟩ := hrel
    by_cases hlt : k < n
    · obtain ⟨vs, hrow, hss⟩ := HO.out
      have hvl : vs.length = n := by have := hrow.1.1; omega
      have hkg : k < gs.length := by have := HN.out; omega
      obtain ⟨b, off, rfl, hbB, c0, A1, n1, c1, c2, hn1', hps⟩ := HG3.out.at_ k hkg
      have e0 := (HB.out.cell (p := ⟨b, off + k * 2, none⟩) hbB).trans c0
      have e1 := (HB.out.cell (p := ⟨b, off + k * 2 + 1, none⟩) hbB).trans c2
      have HPS := Lib.hid (((hps.below HB.out (Nat.le_refl _)).alloc (by omega) (.cells #[.int .i64 (gs.getD k default).k, .slice A1 n1 c1] 76)).more (B' := wr.heap.size + 1) (by omega))
      have HIR := Lib.hid (((HI3.out.below HB.out (Nat.le_refl _)).alloc (by omega) (.cells #[.int .i64 (gs.getD k default).k, .slice A1 n1 c1] 76)).more (B' := wr.heap.size + 1) (by omega))
      have hce := HCE.out k hkg
      have hde : depF gs M k = if (gs.getD k default).k == 0 then [] else firsts ((whole (gs.getD k default).ps).rds M) := rfl
      have HAT := Lib.hid (dmix_at gs M n k hlt)
      have HOT := Lib.hid fun (j : Nat) (hj : j ≠ k) => dmix_other gs M n k j hlt hj
      have HCELL := Lib.hid (dmix_cell gs M n k hlt)
      have HROW := Lib.hid (hrow.1.alloc (.cells #[.int .i64 (gs.getD k default).k, .slice A1 n1 c1] 76))
      have HSS := Lib.hid (hss.keep (w' := wr.alloc (.cells #[.int .i64 (gs.getD k default).k, .slice A1 n1 c1] 76)) fun q _ hq => Below.heap_alloc _ _ _ hq)
      have HVL := Lib.hid hvl
      generalize gs.getD k default = d at *
      clear c0 c2 hps hrow hss hvl
      cases hd : (d.k == 0)
      · have hd' : (d.k != 0) = true := by simp [bne, hd]
        have hrf : readF d.ps M = firsts ((whole d.ps).rds M) := by unfold readF; rw [hce hd]; rfl
        have hvf := (canEv_parts d.ps M (hce hd)).1
        have h12 := (validF_good d.ps hvf).2.2
        rw [hd] at hde
        have hde2 : depF gs M k = readF d.ps M := by rw [hrf]; exact hde
        have HRD := Lib.hid fun (w' : World) (B : Nat) (hB : B ≤ w'.heap.size) (h : PS w' B A1 d.ps) (h' : IS w' B A3 M) => impl_ReadsOf A1 A3 n1 c1 n c3 d.ps M B hn1' HML.out.symm (by omega) (by omega) w' hB h h'
        rw [← hde2] at HRD
        clear hce hrf hvf h12 hde hde2 hn1' hd
        generalize depF gs M k = D at *
        go_wp2_with fail
        refine (HRD.out _ (wr.heap.size + 1) (by simp) HPS.out HIR.out).mono ?_
        rintro e w5 ⟨v5, rfl, ho5, hb5⟩
        obtain ⟨A5, c5, rfl, hI5⟩ := OwnI.form ho5
        unfold OwnI at ho5
        simp only [World.size_alloc] at ho5
        have hR5 := own_below HROW.out hb5
        have u5 := hR5.cellAt k (by omega)
        rw [List.getElem?_eq_getElem (by have := HVL.out; omega)] at u5
        have f5 := hR5.frozenAt k
        have hst := hR5.stored k (.slice A5 D.length c5)
        have hw5 : wr.heap.size + 1 ≤ w5.heap.size := by have := hb5.size; simpa using this
        have HNEW : Hid (∃ vs, OwR w2.heap.size w5.heap.size 25 1 (.slice (some ⟨w2.heap.size, 0, none⟩) n n) n vs (w5.setCell ⟨w2.heap.size, k, none⟩ (.slice A5 D.length c5)) ∧ SSk w2.heap.size w5.heap.size vs (lenOf (dmix gs M n (k + 1))) (rowOf (dmix gs M n (k + 1))) (w5.setCell ⟨w2.heap.size, k, none⟩ (.slice A5 D.length c5))) := by
          have hss5 := HSS.out.keep (w' := w5) fun q _ hq => hb5.block q (by simp only [World.size_alloc]; exact Nat.lt_succ_of_lt hq)
          have hss6 := hss5.grown hst.2 (hss5.ne hR5 ints_ne_int)
          have hd6 := ho5.kept hst.2 (blocks_ne ho5 hR5 ints_ne_int)
          have hrk : rowOf (dmix gs M n (k + 1)) k = D.map (Value.int .i64) := by unfold rowOf; rw [HAT.out]
          rw [← hrk] at hd6
          refine ⟨_, ⟨hst.1, fun q hq => by cases hq; exact Nat.lt_of_lt_of_le hgl (by omega)⟩, hss6.put (hi' := w5.heap.size) (A := A5) (m := D.length) (c := c5) k ?_ ?_ ?_ ?_ ?_ ⟨own_mono hd6 (by omega), fun q hq => by have := (ho5.lt q hq).2; omega⟩ (by omega) (by omega)⟩
          · rw [List.getElem?_set, if_pos rfl, if_pos (by have := HVL.out; omega)]
          · intro j hj; rw [List.getElem?_set, if_neg (by omega)]
          · intro j hj _; simpa using hj
          · unfold lenOf; rw [HAT.out]
          · intro j hj; unfold lenOf rowOf; rw [HOT.out j hj]; exact ⟨rfl, rfl⟩
        have HB6 : Hid (Below w2.heap.size w3 (w5.setCell ⟨w2.heap.size, k, none⟩ (.slice A5 D.length c5))) := ((HB.out.alloc (by omega) _).trans (hb5.mono (by simp; omega))).setCell (Nat.le_refl _) _
        have HSZ : Hid ((w5.setCell ⟨w2.heap.size, k, none⟩ (.slice A5 D.length c5)).heap.size = w5.heap.size) := by simp [World.setCell, Hid]
        generalize vs[k]'_ = vv at u5
        clear hst hR5 ho5 hI5 hb5
        go_wp2
        go_roundw
        case rel => exact ⟨k + 1, by omega, by go_num, by rw [HSZ.out]; exact HNEW.out, HB6.out, by simp [World.setCell]; omega⟩
        case measure => simp [intOf]; omega
      · have hd' : (d.k != 0) = false := by simp [bne, hd]
        rw [hd] at hde
        have HCE2 := Lib.hid (HCELL.out hde)
        clear hce hde hd hn1'
        go_wp2
        go_roundw
        case rel => exact ⟨k + 1, by omega, by go_num, by rw [HCE2.out]; exact ⟨vs, ⟨HROW.out, fun q hq => by cases hq; simp; omega⟩, HSS.out.mono (Nat.le_refl _) (by simp)⟩, HB.out.alloc (by omega) _, by simp; omega⟩
        case measure => simp [intOf]; omega
    · obtain rfl : k = n := by omega
      go_wp2
      go_ret
      refine ⟨_, rfl, ?_, hB2.out.trans ((HB3.out.trans HB.out).mono (by omega))⟩
      rw [HDL.out]
      obtain ⟨vs, hrow, hss⟩ := HO.out
      rw [dmix_all] at hss
      exact ⟨(HDL.out k).symm, vs, hrow.mono (by omega) (Nat.le_refl _), hss.mono (by omega) (Nat.le_refl _)⟩
end Go.Proofs.Ythephbppeiealaa
