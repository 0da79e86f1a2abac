/- The standing contracts of SetCell. -/
import Derived.Test.YtnbpngafboijnaaT2
namespace Go.Proofs.Ytnbpngafboijnaa
set_option linter.unusedSimpArgs false
set_option linter.unusedVariables false
open Go.RowKit

/-- Whether there is such a node. -/
def hasN (gs : List Nd) (x : Int) : Bool := rng x 0 ((gs.length : Int) - 1)
/-- Whether a node is a cell. -/
def isC (gs : List Nd) (x : Int) : Bool := hasN gs x && ((gs.getD x.toNat default).k == 0)
def setB (gs : List Nd) (xs : List Int) (x y : Int) : Bool := okC gs xs && isC gs x && rng y 0 999
def setF (gs : List Nd) (xs : List Int) (x y : Int) : List Int := if setB gs xs x y then xs.set x.toNat y else []

theorem setF_len (gs : List Nd) (xs : List Int) (x y : Int) : (setF gs xs x y).length ≤ 10 := by
  unfold setF
  cases h : setB gs xs x y
  · simp
  · simp only [if_true, List.length_set]
    unfold setB at h
    simp only [Bool.and_eq_true] at h
    obtain ⟨hg, hc⟩ := okC_parts gs xs h.1.1
    rw [(validC_parts gs xs hc).1]
    exact (validG_parts gs hg).1

theorem hasN_nat (gs : List Nd) (x : Int) (h : hasN gs x = true) : ∃ t : Nat, x = (t : Int) ∧ t < gs.length := by
  unfold hasN rng at h
  simp only [decide_eq_true_eq] at h
  exact ⟨x.toNat, by omega, by omega⟩

set_option maxHeartbeats 800000 in
theorem spec_isCell (A : Option Addr) (n c : Nat) (gs : List Nd) (x : Int) (w : World) (B : Nat) (hB : B ≤ w.heap.size) (hn : n = gs.length) (h : GS w B A gs) (hs : n ≤ 2000000) :
    Calls Try.prog 98 #[.agg #[.slice A n c], .int .i64 x] w fun e w' => e = .returned (.bool (isC gs x)) ∧ Below w.heap.size w w' := by
  have hr : hasN gs x = rng x 0 ((n : Int) - 1) := by rw [hn]; rfl
  have hi : isC gs x = (hasN gs x && ((gs.getD x.toNat default).k == 0)) := rfl
  cases hh : hasN gs x
  · have hf : isC gs x = false := by rw [hi, hh]; rfl
    rw [hf]
    have hr' : rng x 0 ((n : Int) - 1) = false := by rw [← hr, hh]
    clear h hn hr hi hf hh
    go_enter Try.func98, Try.ntmps98
    go_wp2_with (go_at_call 86; refine (spec_inRange _ _ _ _).mono ?_; rintro e w' ⟨rfl, rfl⟩)
    go_ret
    exact ⟨rfl, (Below.refl _ _).alloc (Nat.le_refl _) _⟩
  · obtain ⟨t, rfl, ht⟩ := hasN_nat gs x hh
    have hr' : rng (t : Int) 0 ((n : Int) - 1) = true := by rw [← hr, hh]
    have hf : isC gs t = ((gs.getD t default).k == 0) := by rw [hi, hh]; simp
    rw [hf]
    obtain ⟨b, off, rfl, hbB, c0, _⟩ := h.at_ t ht
    have htn : t < n := by omega
    have hbw : b < w.heap.size := by omega
    clear h hn hr hi hf hh ht
    generalize gs.getD t default = d at *
    cases hd : (d.k == 0)
    all_goals
      go_enter Try.func98, Try.ntmps98
      go_wp2_with (go_at_call 86; refine (spec_inRange _ _ _ _).mono ?_; rintro e w' ⟨rfl, rfl⟩)
      go_ret
      exact ⟨rfl, (Below.refl _ _).alloc (Nat.le_refl _) _⟩

set_option maxHeartbeats 800000 in
theorem impl_hasNode (A : Option Addr) (n c : Nat) (gs : List Nd) (x : Int) (w : World) (B : Nat) (hB : B ≤ w.heap.size) (hn : n = gs.length) (hnc : n ≤ c) (h : GS w B A gs) (hs : GB gs) :
    Calls Try.prog 88 #[.agg #[.slice A n c], .int .i64 x] w fun e w' => e = .returned (.bool (validG gs && hasN gs x)) ∧ Below w.heap.size w w' := by
  have hr : hasN gs x = rng x 0 ((n : Int) - 1) := by rw [hn]; rfl
  have hn1 : n ≤ 1048576 := by rw [hn]; exact hs.1
  rw [hr]
  have H := Lib.hid h
  have HVG := Lib.hid fun (w' : World) (hB : B ≤ w'.heap.size) (h : GS w' B A gs) => impl_ValidGraph A n c gs w' B hB hn h hs hnc
  clear h hn hs hr
  cases hv : validG gs
  all_goals
    rw [hv] at HVG
    clear hv
    go_enter Try.func88, Try.ntmps88
    go_wp2_with fail
    refine (HVG.out _ (by simp; omega) (H.out.alloc hB _)).mono ?_
    rintro e w1 ⟨rfl, hb⟩
    have q : w1.cell? ⟨w.heap.size, 0, none⟩ = some (.slice A n c) := (hb.cell (p := ⟨w.heap.size, 0, none⟩) (by simp)).trans (by go_simp)
    go_wp2_with (go_at_call 100; refine (impl_inRange _ _ _).mono ?_; rintro e w' ⟨rfl, rfl⟩)
    go_ret
    exact ⟨ret_b (by simp), ((Below.refl _ _).alloc (Nat.le_refl _) _).trans (hb.mono (by simp))⟩

theorem news_of_ints {w : World} {b off n : Nat} {xs : List Int} (hc : ∀ j, j < xs.length → w.cell? ⟨b, off + j, none⟩ = some (.int .i64 (xs.getD j 0))) : ∀ j u, (xs.map (Value.int .i64))[j]? = some u → w.cell? ((⟨b, off, none⟩ : Addr).add j) = some u := by
  intro j u hu
  have hj : j < xs.length := by
    rcases Nat.lt_or_ge j xs.length with h1 | h1
    · exact h1
    · rw [List.getElem?_eq_none (by simpa using h1)] at hu; cases hu
  have hadd : (⟨b, off, none⟩ : Addr).add j = ⟨b, off + j, none⟩ := by unfold Addr.add; split <;> simp_all
  rw [hadd, hc j hj, ← hu]
  simp [List.getD, hj]
theorem ints_one (xs : List Int) : ∀ u ∈ xs.map (Value.int .i64), u.oneCell' = true := by
  intro u hu
  obtain ⟨x, _, rfl⟩ := List.mem_map.1 hu
  rfl

set_option maxHeartbeats 800000 in
theorem spec_copyInts (A : Option Addr) (n c : Nat) (xs : List Int) (w : World) (B : Nat) (hB : B ≤ w.heap.size) (hn : n = xs.length) (h : IS w B A xs) (hs : n ≤ 2000000) (hp : 0 < n) :
    Calls Try.prog 99 #[.slice A n c] w fun e w' => ∃ g cap, e = .returned (.slice (some ⟨g, 0, none⟩) n cap) ∧ w'.ownsRow w.heap.size 3 1 (.slice (some ⟨g, 0, none⟩) n cap) n (xs.map (Value.int .i64)) ∧ Below w.heap.size w w' := by
  obtain ⟨i0, hi, hz0, hz1, hz2⟩ := info_parts info_int
  obtain ⟨b, off, rfl, hbB, hc⟩ := h (by omega)
  have hnew := World.ownsRow_lit (e := 3) (size := 1) (base := w.heap.size) w #[] 0 (Nat.le_refl _) (by unfold maxLen; omega) (by simp)
  have hnews := news_of_ints (n := n) (fun j hj => (World.cell?_alloc_lt w (.cells #[] 3) ⟨b, off + j, none⟩ (show b < w.heap.size by omega)).trans (hc j hj))
  have HNEW := Lib.hid hnew
  have HNS := Lib.hid hnews
  have HN := Lib.hid hn
  clear hnew hnews hc hn h
  go_enter Try.func99, Try.ntmps99
  go_wp2_with (at_builtin; refine wpList_append_own_at _ rfl _ _ 45 rfl w.heap.size 3 i0 (.int .i64 0) 1 8 Try.underlying45 hi hz0 hz1 hz2 rfl (by decide) _ _ _ rfl HNEW.out ⟨b, off, none⟩ n c (xs.map (Value.int .i64)) rfl ?d1 HNS.out (ints_one xs) ?d3 ?d4 ?d5 ?_)
  case d1 => have := HN.out; first | omega | (simp; omega)
  case d3 => unfold maxLen; omega
  case d4 => omega
  intro v' w3 hown' hgrow _ _
  have hown'' : w3.ownsRow w.heap.size 3 1 v' n (xs.map (Value.int .i64)) := by simpa using hown'
  obtain ⟨g, cap, rfl⟩ : ∃ g cap, v' = .slice (some ⟨g, 0, none⟩) n cap := by
    rcases hown''.2 with ⟨_, h0⟩ | ⟨g, cap, cur, hv, _⟩
    · omega
    · exact ⟨g, cap, hv⟩
  have HO := Lib.hid hown''
  have hb3 : Below w.heap.size w w3 := ((Below.refl _ _).alloc (Nat.le_refl _) (.cells #[] 3)).grown hgrow (by simp) (fun k hk => by simp [Value.ownBlock] at hk; omega)
  clear hown' hown'' hgrow
  go_wp2
  go_ret
  exact ⟨g, cap, rfl, HO.out, hb3⟩

/-- Returns a fresh slice of numbers and a bool, or nothing. -/
theorem RetIB.nil {w w' : World} (hb : Below w.heap.size w w') : RetIB w [] false (.returned (.tuple #[.slice none 0 0, .bool false])) w' := ⟨_, rfl, World.ownsRow_nil _ _ _ _, hb⟩

theorem retIB_own {w w1 w' : World} {n cap g : Nat} {xs : List Int} (hn : n = xs.length) (h : w'.ownsRow w1.heap.size 3 1 (.slice (some ⟨g, 0, none⟩) n cap) n (xs.map (Value.int .i64))) (h1 : w.heap.size ≤ w1.heap.size) (hb : Below w.heap.size w w') : RetIB w xs true (.returned (.tuple #[.slice (some ⟨g, 0, none⟩) n cap, .bool true])) w' := by
  subst hn
  exact ⟨_, rfl, own_mono h h1, hb⟩

set_option maxRecDepth 100000 in
set_option maxHeartbeats 3200000 in
theorem top_spec_SetCell (gs : List Nd) (xs : List Int) (x y : Int) (hG : GB gs) (hL : xs.length ≤ 1048576) : ∀ (A : Option Addr) (n c : Nat) (A' : Option Addr) (m c' : Nat) (w : World), n = gs.length → n ≤ c → GS w w.heap.size A gs → m = xs.length → IS w w.heap.size A' xs →
    Calls Try.prog 51 #[.agg #[.slice A n c], .slice A' m c', .int .i64 x, .int .i64 y] w fun e w' => RetIB w (setF gs xs x y) (setB gs xs x y) e w' := by
  intro A n c A' m c' w hn _ h hm h'
  have hm1 : m ≤ 2000000 := by omega
  have H := Lib.hid h
  have HI := Lib.hid h'
  have HN := Lib.hid hn
  have HM := Lib.hid hm
  have HC := Lib.hid fun (w' : World) (hB : w.heap.size ≤ w'.heap.size) (h : GS w' w.heap.size A gs) => spec_validGraph A n c gs w' w.heap.size hB hn h hG
  have HD := Lib.hid fun (w' : World) (hB : w.heap.size ≤ w'.heap.size) (h : GS w' w.heap.size A gs) (h' : IS w' w.heap.size A' xs) => spec_validCells A A' n c m c' gs xs w' w.heap.size hB hn hm h h' (by have := hG.1; omega) (by omega)
  have HE := Lib.hid fun (w' : World) (hB : w.heap.size ≤ w'.heap.size) (h : GS w' w.heap.size A gs) => spec_isCell A n c gs x w' w.heap.size hB hn h (by have := hG.1; omega)
  have hse : setF gs xs x y = if setB gs xs x y then xs.set x.toNat y else [] := rfl
  have hsb : setB gs xs x y = (validG gs && validC gs xs && isC gs x && rng y 0 999) := rfl
  have hcl : validC gs xs = true → xs.length = gs.length := fun h => (validC_parts gs xs h).1
  have hhx : isC gs x = true → ∃ t : Nat, x = (t : Int) ∧ t < gs.length := fun h => by
    unfold isC at h
    simp only [Bool.and_eq_true] at h
    exact hasN_nat gs x h.1
  have HCL := Lib.hid hcl
  have HHX := Lib.hid hhx
  generalize setF gs xs x y = R at *
  generalize setB gs xs x y = b at *
  generalize validG gs = b1 at *
  generalize validC gs xs = b2 at *
  generalize isC gs x = b3 at *
  generalize hb4 : rng y 0 999 = b4 at *
  clear h h' hn hm hG hcl hhx
  cases b1
  · have e1 : b = false := by rw [hsb]; rfl
    subst e1
    have e2 : R = [] := by rw [hse]; rfl
    subst e2
    clear hse hsb
    go_enter Try.func51, Try.ntmps51
    go_wp2_with fail
    refine (HC.out _ (by simp) (H.out.alloc (Nat.le_refl _) _)).mono ?_
    rintro e w1 ⟨rfl, hb⟩
    go_wp2
    go_ret2
    exact RetIB.nil (((Below.refl _ _).alloc (Nat.le_refl _) _).trans (hb.mono (by simp)))
  · cases b2
    · have e1 : b = false := by rw [hsb]; rfl
      subst e1
      have e2 : R = [] := by rw [hse]; rfl
      subst e2
      clear hse hsb
      go_enter Try.func51, Try.ntmps51
      go_wp2_with fail
      refine (HC.out _ (by simp) (H.out.alloc (Nat.le_refl _) _)).mono ?_
      rintro e w1 ⟨rfl, hb⟩
      have q : w1.cell? ⟨w.heap.size, 0, none⟩ = some (.slice A n c) := (hb.cell (p := ⟨w.heap.size, 0, none⟩) (by simp)).trans (by go_simp)
      have HG1 := Lib.hid ((H.out.alloc (Nat.le_refl _) (.cells #[.slice A n c] 41)).below hb (by simp))
      have HI1 := Lib.hid ((HI.out.alloc (Nat.le_refl _) (.cells #[.slice A n c] 41)).below hb (by simp))
      have hB1 : Below w.heap.size w w1 := ((Below.refl _ _).alloc (Nat.le_refl _) _).trans (hb.mono (by simp))
      go_wp2_with fail
      refine (HD.out _ hB1.size HG1.out HI1.out).mono ?_
      rintro e w2 ⟨rfl, hb2⟩
      go_wp2
      go_ret2
      exact RetIB.nil (hB1.trans (hb2.mono hB1.size))
    · cases b3
      · have e1 : b = false := by rw [hsb]; rfl
        subst e1
        have e2 : R = [] := by rw [hse]; rfl
        subst e2
        clear hse hsb
        go_enter Try.func51, Try.ntmps51
        go_wp2_with fail
        refine (HC.out _ (by simp) (H.out.alloc (Nat.le_refl _) _)).mono ?_
        rintro e w1 ⟨rfl, hb⟩
        have q : w1.cell? ⟨w.heap.size, 0, none⟩ = some (.slice A n c) := (hb.cell (p := ⟨w.heap.size, 0, none⟩) (by simp)).trans (by go_simp)
        have HG1 := Lib.hid ((H.out.alloc (Nat.le_refl _) (.cells #[.slice A n c] 41)).below hb (by simp))
        have HI1 := Lib.hid ((HI.out.alloc (Nat.le_refl _) (.cells #[.slice A n c] 41)).below hb (by simp))
        have hB1 : Below w.heap.size w w1 := ((Below.refl _ _).alloc (Nat.le_refl _) _).trans (hb.mono (by simp))
        have hlt : w.heap.size < w1.heap.size := by have := hb.size; simp at this; omega
        go_wp2_with fail
        refine (HD.out _ hB1.size HG1.out HI1.out).mono ?_
        rintro e w2 ⟨rfl, hb2⟩
        have q2 := (hb2.cell (p := ⟨w.heap.size, 0, none⟩) hlt).trans q
        have HG2 := Lib.hid (HG1.out.below hb2 hB1.size)
        have hB2 := hB1.trans (hb2.mono hB1.size)
        go_wp2_with fail
        refine (HE.out _ hB2.size HG2.out).mono ?_
        rintro e w3 ⟨rfl, hb3⟩
        go_wp2
        go_ret2
        exact RetIB.nil (hB2.trans (hb3.mono hB2.size))
      · obtain ⟨t, rfl, ht⟩ := HHX.out rfl
        have htm : t < m := by rw [HM.out, HCL.out rfl]; exact ht
        cases b4
        · have e1 : b = false := by rw [hsb]; rfl
          subst e1
          have e2 : R = [] := by rw [hse]; rfl
          subst e2
          clear hse hsb
          go_enter Try.func51, Try.ntmps51
          go_wp2_with fail
          refine (HC.out _ (by simp) (H.out.alloc (Nat.le_refl _) _)).mono ?_
          rintro e w1 ⟨rfl, hb⟩
          have q : w1.cell? ⟨w.heap.size, 0, none⟩ = some (.slice A n c) := (hb.cell (p := ⟨w.heap.size, 0, none⟩) (by simp)).trans (by go_simp)
          have HG1 := Lib.hid ((H.out.alloc (Nat.le_refl _) (.cells #[.slice A n c] 41)).below hb (by simp))
          have HI1 := Lib.hid ((HI.out.alloc (Nat.le_refl _) (.cells #[.slice A n c] 41)).below hb (by simp))
          have hB1 : Below w.heap.size w w1 := ((Below.refl _ _).alloc (Nat.le_refl _) _).trans (hb.mono (by simp))
          have hlt : w.heap.size < w1.heap.size := by have := hb.size; simp at this; omega
          go_wp2_with fail
          refine (HD.out _ hB1.size HG1.out HI1.out).mono ?_
          rintro e w2 ⟨rfl, hb2⟩
          have q2 := (hb2.cell (p := ⟨w.heap.size, 0, none⟩) hlt).trans q
          have HG2 := Lib.hid (HG1.out.below hb2 hB1.size)
          have hB2 := hB1.trans (hb2.mono hB1.size)
          go_wp2_with fail
          refine (HE.out _ hB2.size HG2.out).mono ?_
          rintro e w3 ⟨rfl, hb3⟩
          go_wp2_with (go_at_call 86; refine (spec_inRange _ _ _ _).mono ?_; rintro e w' ⟨rfl, rfl⟩)
          go_ret2
          exact RetIB.nil (hB2.trans (hb3.mono hB2.size))
        · have e1 : b = true := by rw [hsb]; rfl
          subst e1
          have e2 : R = xs.set t y := by rw [hse]; rfl
          subst e2
          clear hse hsb
          go_enter Try.func51, Try.ntmps51
          go_wp2_with fail
          refine (HC.out _ (by simp) (H.out.alloc (Nat.le_refl _) _)).mono ?_
          rintro e w1 ⟨rfl, hb⟩
          have q : w1.cell? ⟨w.heap.size, 0, none⟩ = some (.slice A n c) := (hb.cell (p := ⟨w.heap.size, 0, none⟩) (by simp)).trans (by go_simp)
          have HG1 := Lib.hid ((H.out.alloc (Nat.le_refl _) (.cells #[.slice A n c] 41)).below hb (by simp))
          have HI1 := Lib.hid ((HI.out.alloc (Nat.le_refl _) (.cells #[.slice A n c] 41)).below hb (by simp))
          have hB1 : Below w.heap.size w w1 := ((Below.refl _ _).alloc (Nat.le_refl _) _).trans (hb.mono (by simp))
          have hlt : w.heap.size < w1.heap.size := by have := hb.size; simp at this; omega
          go_wp2_with fail
          refine (HD.out _ hB1.size HG1.out HI1.out).mono ?_
          rintro e w2 ⟨rfl, hb2⟩
          have q2 := (hb2.cell (p := ⟨w.heap.size, 0, none⟩) hlt).trans q
          have HG2 := Lib.hid (HG1.out.below hb2 hB1.size)
          have HI2 := Lib.hid (HI1.out.below hb2 hB1.size)
          have hB2 := hB1.trans (hb2.mono hB1.size)
          go_wp2_with fail
          refine (HE.out _ hB2.size HG2.out).mono ?_
          rintro e w3 ⟨rfl, hb3⟩
          have HI3 := Lib.hid (HI2.out.below hb3 hB2.size)
          have hB3 := hB2.trans (hb3.mono hB2.size)
          clear hb hb2 hb3 HG1 HG2 HI1 HI2 hB1 hB2 q q2
          go_wp2_with (go_at_call 86; refine (spec_inRange _ _ _ _).mono ?_; rintro e w' ⟨rfl, rfl⟩)
          refine (spec_copyInts A' m c' xs _ w.heap.size hB3.size HM.out HI3.out (by omega) (by omega)).mono ?_
          rintro e w4 ⟨g, cap, rfl, hown, hb4⟩
          have HO := Lib.hid hown
          have u := (HO.out.cellAt t (by omega))
          rw [List.getElem?_eq_getElem (by have := HO.out.1; omega)] at u
          have f := HO.out.frozenAt t
          have HB4 := Lib.hid (hB3.trans (hb4.mono hB3.size))
          have hgl := (HO.out.lt g rfl)
          clear hown hb4
          generalize (xs.map (Value.int .i64))[t]'_ = vv at u
          go_wp2
          go_ret2
          have ho := (HO.out.stored t (.int .i64 y)).1
          rw [← List.map_set] at ho
          exact retIB_own (by rw [List.length_set]; exact HM.out) ho hB3.size (HB4.out.setCell (p := ⟨g, t, none⟩) (by have := hB3.size; show w.heap.size ≤ g; omega) _)

set_option maxRecDepth 100000 in
set_option maxHeartbeats 3200000 in
theorem top_impl_SetCell (gs : List Nd) (xs : List Int) (x y : Int) (hG : GB gs) (hL : xs.length ≤ 1048576) : ∀ (A : Option Addr) (n c : Nat) (A' : Option Addr) (m c' : Nat) (w : World), n = gs.length → n ≤ c → GS w w.heap.size A gs → m = xs.length → IS w w.heap.size A' xs →
    Calls Try.prog 52 #[.agg #[.slice A n c], .slice A' m c', .int .i64 x, .int .i64 y] w fun e w' => RetIB w (setF gs xs x y) (setB gs xs x y) e w' := by
  intro A n c A' m c' w hn hnc h hm h'
  have hm1 : m ≤ 2000000 := by omega
  have hn1 : n ≤ 1048576 := by rw [hn]; exact hG.1
  have H := Lib.hid h
  have HI := Lib.hid h'
  have HN := Lib.hid hn
  have HM := Lib.hid hm
  have HVC := Lib.hid fun (w' : World) (hB : w.heap.size ≤ w'.heap.size) (h : GS w' w.heap.size A gs) (h' : IS w' w.heap.size A' xs) => impl_ValidCells A A' n c m c' gs xs w' w.heap.size hB hn hnc hm h h' hG hm1
  have HHN := Lib.hid fun (w' : World) (hB : w.heap.size ≤ w'.heap.size) (h : GS w' w.heap.size A gs) => impl_hasNode A n c gs x w' w.heap.size hB hn hnc h hG
  have hse : setF gs xs x y = if setB gs xs x y then xs.set x.toNat y else [] := rfl
  have hsb : setB gs xs x y = (okC gs xs && isC gs x && rng y 0 999) := rfl
  have hic : isC gs x = (hasN gs x && ((gs.getD x.toNat default).k == 0)) := rfl
  clear h h' hn hm hG
  cases hok : okC gs xs
  · have e1 : setB gs xs x y = false := by rw [hsb]; rw [hok]; rfl
    have e2 : setF gs xs x y = [] := by rw [hse, e1]; rfl
    rw [e1, e2]
    clear hse hsb e1 e2
    rw [hok] at HVC
    clear hok
    go_enter Try.func52, Try.ntmps52
    go_wp2_with fail
    refine (HVC.out _ (by simp) (H.out.alloc (Nat.le_refl _) _) (HI.out.alloc (Nat.le_refl _) _)).mono ?_
    rintro e w1 ⟨rfl, hb⟩
    go_wp2
    go_ret2
    exact RetIB.nil (((Below.refl _ _).alloc (Nat.le_refl _) _).trans (hb.mono (by simp)))
  obtain ⟨hvg, hvc⟩ := okC_parts gs xs hok
  have hxl := (validC_parts gs xs hvc).1
  rw [hok] at HVC
  rw [hvg, Bool.true_and] at HHN
  cases hh : hasN gs x
  · have e1 : setB gs xs x y = false := by rw [hsb]; rw [hok, hic, hh]; rfl
    have e2 : setF gs xs x y = [] := by rw [hse, e1]; rfl
    rw [e1, e2]
    clear hse hsb e1 e2
    rw [hh] at HHN
    clear hok hh hvg hvc hxl
    go_enter Try.func52, Try.ntmps52
    go_wp2_with fail
    refine (HVC.out _ (by simp) (H.out.alloc (Nat.le_refl _) _) (HI.out.alloc (Nat.le_refl _) _)).mono ?_
    rintro e w1 ⟨rfl, hb⟩
    have q : w1.cell? ⟨w.heap.size, 0, none⟩ = some (.slice A n c) := (hb.cell (p := ⟨w.heap.size, 0, none⟩) (by simp)).trans (by go_simp)
    have HG1 := Lib.hid ((H.out.alloc (Nat.le_refl _) (.cells #[.slice A n c] 41)).below hb (by simp))
    have HI1 := Lib.hid ((HI.out.alloc (Nat.le_refl _) (.cells #[.slice A n c] 41)).below hb (by simp))
    have hB1 : Below w.heap.size w w1 := ((Below.refl _ _).alloc (Nat.le_refl _) _).trans (hb.mono (by simp))
    have hlt : w.heap.size < w1.heap.size := by have := hb.size; simp at this; omega
    go_wp2_with fail
    refine (HHN.out _ hB1.size HG1.out).mono ?_
    rintro e w2 ⟨rfl, hb2⟩
    have q2 := (hb2.cell (p := ⟨w.heap.size, 0, none⟩) hlt).trans q
    have HI2 := Lib.hid (HI1.out.below hb2 hB1.size)
    have hB2 := hB1.trans (hb2.mono hB1.size)
    go_wp2
    go_ret2
    exact RetIB.nil (hB2)
  obtain ⟨t, rfl, ht⟩ := hasN_nat gs x hh
  have htn : t < n := by rw [HN.out]; exact ht
  have htm : t < m := by rw [HM.out, hxl]; exact ht
  obtain ⟨b, off, hA, hbB, c0, _⟩ := H.out.at_ t ht
  subst hA
  have hic2 : isC gs t = ((gs.getD t default).k == 0) := by rw [hic, hh]; simp
  rw [hh] at HHN
  generalize gs.getD t default = d at *
  have hn' : (t : Int).toNat = t := by simp
  cases hd : (d.k == 0)
  · have hd' : (d.k != 0) = true := by simp [bne, hd]
    have e1 : setB gs xs t y = false := by rw [hsb]; rw [hok, hic2, hd]; rfl
    have e2 : setF gs xs t y = [] := by rw [hse, e1]; rfl
    rw [e1, e2]
    clear hse hsb e1 e2
    clear hok hh hvg hvc hxl hic hic2 hn' ht
    go_enter Try.func52, Try.ntmps52
    go_wp2_with fail
    refine (HVC.out _ (by simp) (H.out.alloc (Nat.le_refl _) _) (HI.out.alloc (Nat.le_refl _) _)).mono ?_
    rintro e w1 ⟨rfl, hb⟩
    have q : w1.cell? ⟨w.heap.size, 0, none⟩ = some (.slice (some ⟨b, off, none⟩) n c) := (hb.cell (p := ⟨w.heap.size, 0, none⟩) (by simp)).trans (by go_simp)
    have HG1 := Lib.hid ((H.out.alloc (Nat.le_refl _) (.cells #[.slice (some ⟨b, off, none⟩) n c] 41)).below hb (by simp))
    have HI1 := Lib.hid ((HI.out.alloc (Nat.le_refl _) (.cells #[.slice (some ⟨b, off, none⟩) n c] 41)).below hb (by simp))
    have hB1 : Below w.heap.size w w1 := ((Below.refl _ _).alloc (Nat.le_refl _) _).trans (hb.mono (by simp))
    have hlt : w.heap.size < w1.heap.size := by have := hb.size; simp at this; omega
    go_wp2_with fail
    refine (HHN.out _ hB1.size HG1.out).mono ?_
    rintro e w2 ⟨rfl, hb2⟩
    have q2 := (hb2.cell (p := ⟨w.heap.size, 0, none⟩) hlt).trans q
    have HI2 := Lib.hid (HI1.out.below hb2 hB1.size)
    have hB2 := hB1.trans (hb2.mono hB1.size)
    have c2 := ((hb2.cell (p := ⟨b, off + t * 2, none⟩) (by show b < w1.heap.size; omega)).trans (hB1.cell (p := ⟨b, off + t * 2, none⟩) hbB)).trans c0
    go_wp2
    go_ret2
    exact RetIB.nil (hB2)
  have hd' : (d.k != 0) = false := by simp [bne, hd]
  cases hr : rng y 0 999
  · have e1 : setB gs xs t y = false := by rw [hsb]; rw [hr]; simp
    have e2 : setF gs xs t y = [] := by rw [hse, e1]; rfl
    rw [e1, e2]
    clear hse hsb e1 e2
    clear hok hh hvg hvc hxl hic hic2 hn' ht
    go_enter Try.func52, Try.ntmps52
    go_wp2_with fail
    refine (HVC.out _ (by simp) (H.out.alloc (Nat.le_refl _) _) (HI.out.alloc (Nat.le_refl _) _)).mono ?_
    rintro e w1 ⟨rfl, hb⟩
    have q : w1.cell? ⟨w.heap.size, 0, none⟩ = some (.slice (some ⟨b, off, none⟩) n c) := (hb.cell (p := ⟨w.heap.size, 0, none⟩) (by simp)).trans (by go_simp)
    have HG1 := Lib.hid ((H.out.alloc (Nat.le_refl _) (.cells #[.slice (some ⟨b, off, none⟩) n c] 41)).below hb (by simp))
    have HI1 := Lib.hid ((HI.out.alloc (Nat.le_refl _) (.cells #[.slice (some ⟨b, off, none⟩) n c] 41)).below hb (by simp))
    have hB1 : Below w.heap.size w w1 := ((Below.refl _ _).alloc (Nat.le_refl _) _).trans (hb.mono (by simp))
    have hlt : w.heap.size < w1.heap.size := by have := hb.size; simp at this; omega
    go_wp2_with fail
    refine (HHN.out _ hB1.size HG1.out).mono ?_
    rintro e w2 ⟨rfl, hb2⟩
    have q2 := (hb2.cell (p := ⟨w.heap.size, 0, none⟩) hlt).trans q
    have HI2 := Lib.hid (HI1.out.below hb2 hB1.size)
    have hB2 := hB1.trans (hb2.mono hB1.size)
    have c2 := ((hb2.cell (p := ⟨b, off + t * 2, none⟩) (by show b < w1.heap.size; omega)).trans (hB1.cell (p := ⟨b, off + t * 2, none⟩) hbB)).trans c0
    go_wp2_with (go_at_call 100; refine (impl_inRange _ _ _).mono ?_; rintro e w' ⟨rfl, rfl⟩)
    go_ret2
    exact RetIB.nil (hB2)
  · have e1 : setB gs xs t y = true := by rw [hsb, hok, hic2, hd, hr]; rfl
    have e2 : setF gs xs t y = xs.set t y := by rw [hse, e1]; rfl
    rw [e1, e2]
    clear hok hh hvg hvc hxl hic hic2 hn' ht hse hsb e1 e2
    go_enter Try.func52, Try.ntmps52
    go_wp2_with fail
    refine (HVC.out _ (by simp) (H.out.alloc (Nat.le_refl _) _) (HI.out.alloc (Nat.le_refl _) _)).mono ?_
    rintro e w1 ⟨rfl, hb⟩
    have q : w1.cell? ⟨w.heap.size, 0, none⟩ = some (.slice (some ⟨b, off, none⟩) n c) := (hb.cell (p := ⟨w.heap.size, 0, none⟩) (by simp)).trans (by go_simp)
    have HG1 := Lib.hid ((H.out.alloc (Nat.le_refl _) (.cells #[.slice (some ⟨b, off, none⟩) n c] 41)).below hb (by simp))
    have HI1 := Lib.hid ((HI.out.alloc (Nat.le_refl _) (.cells #[.slice (some ⟨b, off, none⟩) n c] 41)).below hb (by simp))
    have hB1 : Below w.heap.size w w1 := ((Below.refl _ _).alloc (Nat.le_refl _) _).trans (hb.mono (by simp))
    have hlt : w.heap.size < w1.heap.size := by have := hb.size; simp at this; omega
    go_wp2_with fail
    refine (HHN.out _ hB1.size HG1.out).mono ?_
    rintro e w2 ⟨rfl, hb2⟩
    have q2 := (hb2.cell (p := ⟨w.heap.size, 0, none⟩) hlt).trans q
    have HI2 := Lib.hid (HI1.out.below hb2 hB1.size)
    have hB2 := hB1.trans (hb2.mono hB1.size)
    have c2 := ((hb2.cell (p := ⟨b, off + t * 2, none⟩) (by show b < w1.heap.size; omega)).trans (hB1.cell (p := ⟨b, off + t * 2, none⟩) hbB)).trans c0
    clear hb hb2 HG1 HI1 hB1 q
    go_wp2_with (go_at_call 100; refine (impl_inRange _ _ _).mono ?_; rintro e w' ⟨rfl, rfl⟩)
    refine (impl_copyOf A' m c' xs _ w.heap.size hB2.size HM.out HI2.out hm1).mono ?_
    rintro e w4 ⟨rfl, hown, hb4⟩
    have HO := Lib.hid hown
    have u := (HO.out.cellAt t (by omega))
    rw [List.getElem?_eq_getElem (by have := HO.out.1; omega)] at u
    have f := HO.out.frozenAt t
    have HB4 := Lib.hid (hB2.trans (hb4.mono hB2.size))
    have hgl := (HO.out.lt _ rfl)
    clear hown hb4
    generalize (xs.map (Value.int .i64))[t]'_ = vv at u
    go_wp2
    go_ret2
    have ho := (HO.out.stored t (.int .i64 y)).1
    rw [← List.map_set] at ho
    exact retIB_own (by rw [List.length_set]; exact HM.out) ho hB2.size (HB4.out.setCell (p := ⟨w2.heap.size, t, none⟩) hB2.size _)
end Go.Proofs.Ytnbpngafboijnaa
