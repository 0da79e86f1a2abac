/- Owners: the standing contracts of KidsOf and AboveOf. -/
import Derived.Test.YtdcfmoaomlfijaaV8

namespace Go.Proofs.Ytdcfmoaomlfijaa
set_option linter.unusedSimpArgs false
set_option linter.unusedVariables false
open Go.RowKit

theorem okO_par {ds : List On} (h : validO ds = true) (i : Nat) (hi : i < ds.length) : (i = 0 → (ds.getD i default).p = -1) ∧ (0 < i → 0 ≤ (ds.getD i default).p ∧ (ds.getD i default).p < i) := by
  have h1 := (validO_ok h).2.2 i hi
  unfold okO okD parOK at h1
  rw [Bool.and_eq_true] at h1
  by_cases h0 : i = 0
  · rw [if_pos h0] at h1
    exact ⟨fun _ => by simpa using h1.1, fun h => by omega⟩
  · rw [if_neg h0, rng_iff] at h1
    exact ⟨fun h => absurd h h0, fun _ => by omega⟩

def kidB (ds : List On) (o : Int) (i : Nat) : Bool := (ds.getD i default).o && (ds.getD i default).p == o
def kidsF (ds : List On) (o : Int) : List Int := if hasO ds o then nwTo (kidB ds o) ds.length else []
theorem kidsF_len (ds : List On) (o : Int) : (kidsF ds o).length ≤ 12 := by
  unfold kidsF
  cases h : hasO ds o
  · simp
  · simp only [if_true]
    have := nwTo_len (kidB ds o) ds.length
    obtain ⟨_, _, _, hv⟩ := hasO_at h
    have := (validO_ok hv).2.1
    omega
theorem kidB_low {ds : List On} (h : validO ds = true) (o i : Nat) (hi : i ≤ o) (ho : o < ds.length) : kidB ds o i = false := by
  have := okO_par h i (by omega)
  have e : ((ds.getD i default).p == (o : Int)) = false := by
    simp only [beq_eq_false_iff_ne, ne_eq]
    by_cases h0 : i = 0
    · have := this.1 h0; omega
    · have := this.2 (by omega); omega
  unfold kidB
  rw [e, Bool.and_false]
theorem nwTo_none (P : Nat → Bool) (k : Nat) (h : ∀ i, i < k → P i = false) : nwTo P k = [] := by
  induction k with
  | zero => rfl
  | succ k ih => rw [nwTo_step, ih fun i hi => h i (by omega), h k (by omega)]; rfl

set_option maxRecDepth 100000 in
set_option maxHeartbeats 1600000 in
theorem spec_kids (A : Option Addr) (n c : Nat) (ds : List On) (o : Nat) (w : World) (B : Nat) (hB : B ≤ w.heap.size) (hn : n = ds.length) (h : OS w B A ds) (hs : n ≤ 2000000) (ho : o < n) (hk : ∀ i, i ≤ o → kidB ds o i = false) :
    Calls Try.prog 57 #[.slice A n c, .int .i64 o] w fun e w' => RetI w (nwTo (kidB ds o) n) e w' := by
  obtain ⟨i0, hi, hz0, hz1, hz2⟩ := info_parts info_int
  have HS1 := Lib.hid h
  have HN := Lib.hid hn
  have HZ := Lib.hid (nwTo_none (kidB ds o) (o + 1) fun i hi => hk i (by omega))
  have ho2 : o + 1 ≤ n := ho
  clear hn h hk
  go_enter Try.func57, Try.ntmps57
  go_wp2
  go_loopw [5, 6] (fun v u wr => ∃ k : Nat, k ≤ n ∧ u = .int .i64 k ∧ Hid (OwnI wr w.heap.size v (nwTo (kidB ds o) k)) ∧ Hid (Below w.heap.size w wr) ∧ w.heap.size ≤ wr.heap.size) (fun _ u _ => n - (intOf u).toNat)
  case atStart =>
    refine ⟨o + 1, ho2, by go_num, ?_, (Below.refl _ _).alloc (Nat.le_refl _) _, by simp⟩
    have := World.ownsRow_lit (e := 3) (size := 1) (base := w.heap.size) w #[] 0 (Nat.le_refl _) (by unfold maxLen; omega) rfl
    rw [HZ.out]
    simpa [OwnI, Hid, nwTo] using this
  case round =>
    obtain ⟨k, hk, rfl, HO, HB, hwr⟩ := hrel
    by_cases hlt : k < n
    · obtain ⟨b, off, rfl, hbB, c0, c1, -, -⟩ := HS1.out.at_ k (by have := HN.out; omega)
      have b0 := (HB.out.cell (p := ⟨b, off + k * 4, none⟩) (by simp; omega)).trans c0
      have b1 := (HB.out.cell (p := ⟨b, off + k * 4 + 1, none⟩) (by simp; omega)).trans c1
      have HST := Lib.hid (nwTo_step (kidB ds o) k)
      have hsb : kidB ds o k = ((ds.getD k default).o && (ds.getD k default).p == (o : Int)) := rfl
      have hdl := nwTo_len (kidB ds o) k
      rw [hsb] at HST
      generalize nwTo (kidB ds o) k = D at *
      generalize (ds.getD k default).o = x at *
      generalize (ds.getD k default).p = p at *
      clear c0 c1 hsb HS1
      cases x
      · go_wp2
        go_roundw
        case rel => exact ⟨k + 1, by omega, by go_num, by show OwnI _ _ _ _; rw [HST.out]; simpa using HO.out, HB.out, hwr⟩
        case measure => simp [intOf]; omega
      · cases hp : (p == (o : Int))
        · rw [hp] at HST
          go_wp2
          go_roundw
          case rel => exact ⟨k + 1, by omega, by go_num, by show OwnI _ _ _ _; rw [HST.out]; simpa using HO.out, HB.out, hwr⟩
          case measure => simp [intOf]; omega
        · rw [hp] at HST
          go_wp2_with (at_builtin; refine wpList_append_own _ rfl _ _ 29 rfl w.heap.size 3 i0 (.int .i64 0) 1 8 Try.underlying29 hi hz0 hz1 hz2 rfl (by decide) _ _ _ rfl (HO.out.alloc _) ⟨_, 0, none⟩ 1 1 [.int .i64 k] rfl rfl (cell_one_new _ _ _) ?c2 ?c3 ?c4 ?c5 ?_)
          case c2 => first | rfl | (intro u hu; simp at hu; subst hu; rfl)
          case c3 => unfold maxLen; omega
          case c4 => omega
          case c5 => first | omega | (simp; omega)
          intro v' w3 hown' hgrow _
          have hpos := (HO.out.alloc (.cells #[.int .i64 k] 3)).lt
          have HO' : Hid (OwnI w3 w.heap.size v' (nwTo (kidB ds o) (k + 1))) := by
            rw [HST.out]
            simpa [OwnI, Hid] using hown'
          have HB' := Lib.hid ((HB.out.alloc hwr (.cells #[.int .i64 k] 3)).grown hgrow (by first | (simp; omega) | omega) (fun q hq => (hpos q hq).1))
          clear hown' hgrow hpos
          go_wp2
          go_roundw
          case rel => exact ⟨k + 1, by omega, by go_num, HO'.out, HB'.out, HB'.out.size⟩
          case measure => simp [intOf]; omega
    · obtain rfl : k = n := by omega
      go_wp2
      go_ret
      exact ⟨_, rfl, HO.out, HB.out⟩

set_option maxRecDepth 100000 in
set_option maxHeartbeats 1600000 in
theorem top_spec_KidsOf (ds : List On) (o : Int) (hO : OB ds) : ∀ (A : Option Addr) (n c : Nat) (w : World), n = ds.length → n ≤ c → OS w w.heap.size A ds →
    Calls Try.prog 32 #[.slice A n c, .int .i64 o] w fun e w' => RetI w (kidsF ds o) e w' := by
  intro A n c w hn hnc h
  have hnb : n ≤ 1048576 := by rw [hn]; exact hO.1
  have HC := Lib.hid (spec_validOwners A n c ds w w.heap.size (Nat.le_refl _) hn h hO)
  have HS := Lib.hid h
  unfold kidsF
  cases hv : validO ds
  · rw [hv] at HC
    have hf : hasO ds o = false := by unfold hasO; rw [hv]; rfl
    rw [hf]
    clear hv hf hn h hO
    simp only [Bool.false_eq_true, if_false]
    go_enter Try.func32, Try.ntmps32
    go_wp2_with fail
    refine HC.out.mono ?_
    rintro e w1 ⟨rfl, hb⟩
    go_wp2
    go_ret
    exact RetI.nil hb
  rw [hv] at HC
  cases hr : rng o 0 ((n : Int) - 1)
  · have hf : hasO ds o = false := by unfold hasO; rw [← hn, hr, Bool.and_false]
    rw [hf]
    clear hv hf hn h hO
    simp only [Bool.false_eq_true, if_false]
    go_enter Try.func32, Try.ntmps32
    go_wp2_with fail
    refine HC.out.mono ?_
    rintro e w1 ⟨rfl, hb⟩
    go_wp2_with fail
    refine (spec_inRange _ _ _ _).mono ?_
    rintro e w' ⟨rfl, rfl⟩
    go_wp2
    go_ret
    exact RetI.nil hb
  have hf : hasO ds o = true := by unfold hasO; rw [hv, ← hn, hr]; rfl
  obtain ⟨ho0, ho1⟩ := (rng_iff _ _ _).1 hr
  obtain ⟨on, rfl⟩ : ∃ on : Nat, o = on := ⟨o.toNat, by omega⟩
  have hon : on < n := by omega
  rw [hf]
  simp only [if_true]
  have HK := Lib.hid fun (w1 : World) (h1 : OS w1 w1.heap.size A ds) => spec_kids A n c ds on w1 w1.heap.size (Nat.le_refl _) hn h1 (by omega) hon fun i hi => kidB_low hv on i hi (by omega)
  rw [← hn]
  clear hv hf hn h hO ho0 ho1
  go_enter Try.func32, Try.ntmps32
  go_wp2_with fail
  refine HC.out.mono ?_
  rintro e w1 ⟨rfl, hb⟩
  have HS1 := Lib.hid (HS.out.step hb)
  go_wp2_with fail
  refine (spec_inRange _ _ _ _).mono ?_
  rintro e w' ⟨rfl, rfl⟩
  go_wp2_with fail
  refine (HK.out _ HS1.out).mono ?_
  rintro e w2 ⟨v, rfl, ho, hb2⟩
  go_wp2
  go_ret
  exact ⟨v, by simp, own_mono ho hb.size, hb.trans (hb2.mono hb.size)⟩

set_option maxHeartbeats 400000 in
theorem kid_at (d : On) (o : Int) (g : Nat) (A1 A2 : Option Addr) (n1 d1 n2 d2 : Nat) (w : World) (hg : g < w.heap.size) (h1 : w.cell? ⟨g, 0, none⟩ = some (.int .i64 o)) :
    Calls Try.prog 60 #[.agg #[.int .i64 d.p, .bool d.o, .slice A1 n1 d1, .slice A2 n2 d2], .pointer (some ⟨g, 0, none⟩)] w fun e w' => e = .returned (.bool (d.o && d.p == o)) ∧ Below w.heap.size w w' := by
  obtain ⟨p, b, cl, cx⟩ := d
  dsimp only
  cases b
  all_goals
    go_enter Try.func60, Try.ntmps60
    go_wp2
    go_ret
    exact ⟨ret_b (by simp), (Below.refl _ _).alloc (Nat.le_refl _) _⟩

set_option maxRecDepth 100000 in
set_option maxHeartbeats 1600000 in
theorem top_impl_KidsOf (ds : List On) (o : Int) (hO : OB ds) : ∀ (A : Option Addr) (n c : Nat) (w : World), n = ds.length → n ≤ c → OS w w.heap.size A ds →
    Calls Try.prog 33 #[.slice A n c, .int .i64 o] w fun e w' => RetI w (kidsF ds o) e w' := by
  intro A n c w hn hnc h
  have hnb : n ≤ 1048576 := by rw [hn]; exact hO.1
  have HC := Lib.hid (impl_hasOwner A n c ds o (w.alloc (.cells #[.int .i64 o] 3)) w.heap.size (by simp) hn hnc (h.alloc (Nat.le_refl _) _) hO)
  have HS := Lib.hid (h.alloc (Nat.le_refl _) (.cells #[.int .i64 o] 3))
  have HW := Lib.hid fun (w1 : World) (h1 : OS w1 w1.heap.size A ds) (hg : w.heap.size < w1.heap.size) (hc : w1.cell? ⟨w.heap.size, 0, none⟩ = some (.int .i64 o)) =>
    ownersWhere1 60 (.pointer (some ⟨w.heap.size, 0, none⟩)) (kidB ds o) (fun w' => w.heap.size < w'.heap.size ∧ w'.cell? ⟨w.heap.size, 0, none⟩ = some (.int .i64 o)) A n c ds hn (by omega)
      (fun wa wb h hb => ⟨Nat.lt_of_lt_of_le h.1 hb.size, (hb.cell (p := ⟨w.heap.size, 0, none⟩) h.1).trans h.2⟩) (fun v w => by kernel_rfl)
      (fun q A1 A2 n1 d1 n2 d2 w' _ hw => kid_at (ds.getD q default) o w.heap.size A1 A2 n1 d1 n2 d2 w' hw.1 hw.2) w1 h1 ⟨hg, hc⟩
  have hce : kidsF ds o = if hasO ds o then nwTo (kidB ds o) ds.length else [] := rfl
  rw [← hn] at hce
  rw [hce]
  clear hce hn h hO
  cases hv : hasO ds o
  · rw [hv] at HC
    clear hv
    simp only [Bool.false_eq_true, if_false]
    go_enter Try.func33, Try.ntmps33
    go_wp2_with fail
    refine HC.out.mono ?_
    rintro e w1 ⟨rfl, hb⟩
    go_wp2
    go_ret
    exact RetI.nil (((Below.refl _ _).alloc (Nat.le_refl _) _).trans (hb.mono (by simp)))
  · rw [hv] at HC
    clear hv
    simp only [if_true]
    go_enter Try.func33, Try.ntmps33
    go_wp2_with fail
    refine HC.out.mono ?_
    rintro e w1 ⟨rfl, hb⟩
    have hw1 : w.heap.size < w1.heap.size := by have := hb.size; simp at this; omega
    have q1 : w1.cell? ⟨w.heap.size, 0, none⟩ = some (.int .i64 o) := (hb.cell (p := ⟨w.heap.size, 0, none⟩) (by simp)).trans (by go_simp)
    have HS1 := Lib.hid ((HS.out.below hb (by simp)).more (B' := w1.heap.size) (by omega))
    have HB1 := Lib.hid (((Below.refl w.heap.size w).alloc (Nat.le_refl _) (.cells #[.int .i64 o] 3)).trans (hb.mono (by simp)))
    clear hb
    go_wp2_with fail
    refine (HW.out w1 HS1.out hw1 q1).mono ?_
    rintro e w2 ⟨v, rfl, ho, hb2⟩
    go_wp2
    go_ret
    exact ⟨v, by simp, own_mono ho HB1.out.size, HB1.out.trans (hb2.mono HB1.out.size)⟩

/-- An owner and all above it. -/
def upF (ds : List On) : Nat → Int → List Int
  | 0, _ => []
  | f + 1, o => if o < 0 then [] else o :: upF ds f (ds.getD o.toNat default).p
theorem upF_neg (ds : List On) (f : Nat) (o : Int) (h : o < 0) : upF ds f o = [] := by
  cases f with
  | zero => rfl
  | succ f => unfold upF; rw [if_pos h]
theorem upF_step (ds : List On) (f k : Nat) : upF ds (f + 1) (k : Int) = (k : Int) :: upF ds f (ds.getD k default).p := by
  rw [upF, if_neg (by omega)]; simp
theorem upF_len (ds : List On) (f : Nat) (o : Int) : (upF ds f o).length ≤ f := by
  induction f generalizing o with
  | zero => simp [upF]
  | succ f ih =>
    rw [upF]
    split
    · simp
    · have := ih (ds.getD o.toNat default).p; simp only [List.length_cons]; omega
def aboveF (ds : List On) (o : Int) : List Int := if hasO ds o then upF ds ds.length o else []
theorem aboveF_len (ds : List On) (o : Int) : (aboveF ds o).length ≤ 12 := by
  unfold aboveF
  cases h : hasO ds o
  · simp
  · simp only [if_true]
    have := upF_len ds ds.length o
    obtain ⟨_, _, _, hv⟩ := hasO_at h
    have := (validO_ok hv).2.1
    omega

set_option maxRecDepth 100000 in
set_option maxHeartbeats 1600000 in
theorem top_spec_AboveOf (ds : List On) (o : Int) (hO : OB ds) : ∀ (A : Option Addr) (n c : Nat) (w : World), n = ds.length → n ≤ c → OS w w.heap.size A ds →
    Calls Try.prog 35 #[.slice A n c, .int .i64 o] w fun e w' => RetI w (aboveF ds o) e w' := by
  intro A n c w hn hnc h
  obtain ⟨i0, hi, hz0, hz1, hz2⟩ := info_parts info_int
  have hnb : n ≤ 1048576 := by rw [hn]; exact hO.1
  have HS := Lib.hid h
  unfold aboveF
  have HC := Lib.hid (spec_validOwners A n c ds w w.heap.size (Nat.le_refl _) hn h hO)
  cases hv : validO ds
  · rw [hv] at HC
    have hf : hasO ds o = false := by unfold hasO; rw [hv]; rfl
    rw [hf]
    clear hv hf hn h hO
    simp only [Bool.false_eq_true, if_false]
    go_enter Try.func35, Try.ntmps35
    go_wp2_with fail
    refine HC.out.mono ?_
    rintro e w1 ⟨rfl, hb⟩
    go_wp2
    go_ret
    exact RetI.nil hb
  rw [hv] at HC
  cases hr : rng o 0 ((n : Int) - 1)
  · have hf : hasO ds o = false := by unfold hasO; rw [← hn, hr, Bool.and_false]
    rw [hf]
    clear hv hf hn h hO
    simp only [Bool.false_eq_true, if_false]
    go_enter Try.func35, Try.ntmps35
    go_wp2_with fail
    refine HC.out.mono ?_
    rintro e w1 ⟨rfl, hb⟩
    go_wp2_with fail
    refine (spec_inRange _ _ _ _).mono ?_
    rintro e w' ⟨rfl, rfl⟩
    go_wp2
    go_ret
    exact RetI.nil hb
  have hf : hasO ds o = true := by unfold hasO; rw [hv, ← hn, hr]; rfl
  simp only [hf, if_true]
  obtain ⟨on, rfl, hon, hv⟩ := hasO_at hf
  have HPAR := Lib.hid fun i hi => okO_par hv i hi
  have hon2 : on < n := by omega
  have HN := Lib.hid hn
  obtain ⟨T, hT⟩ : ∃ T, T = upF ds ds.length on := ⟨_, rfl⟩
  rw [← hT]
  have HT := Lib.hid hT
  clear hf hn h hO hT hv hon
  go_enter Try.func35, Try.ntmps35
  go_wp2_with fail
  refine HC.out.mono ?_
  rintro e w1 ⟨rfl, hb⟩
  have HB1 := Lib.hid hb
  have HS1 := Lib.hid (HS.out.step hb)
  clear hb HC
  go_wp2_with fail
  refine (spec_inRange _ _ _ _).mono ?_
  rintro e w' ⟨rfl, rfl⟩
  go_wp2
  go_loopw [5, 1] (fun v u wr => ∃ (p : Int) (f : Nat) (D : List Int), u = .int .i64 p ∧ -1 ≤ p ∧ p < f ∧ f ≤ n ∧ D.length + f ≤ 1048576 ∧ Hid (D ++ upF ds f p = T) ∧ Hid (OwnI wr w1.heap.size v D) ∧ Hid (Below w1.heap.size w1 wr) ∧ w1.heap.size ≤ wr.heap.size) (fun _ u _ => (intOf u + 1).toNat)
  case atStart =>
    refine ⟨on, n, [], rfl, by omega, by omega, Nat.le_refl _, by simpa using hnb, by rw [HN.out]; exact HT.out.symm, ?_, (Below.refl _ _).alloc (Nat.le_refl _) _, by simp⟩
    have := World.ownsRow_lit (e := 3) (size := 1) (base := w1.heap.size) w1 #[] 0 (Nat.le_refl _) (by unfold maxLen; omega) rfl
    simpa [OwnI, Hid] using this
  case round =>
    obtain ⟨p, f, D, rfl, hp0, hp1, hf, hdl, HU, HO, HB, hwr⟩ := hrel
    by_cases hlt : 0 ≤ p
    · obtain ⟨k, rfl⟩ : ∃ k : Nat, p = k := ⟨p.toNat, by omega⟩
      obtain ⟨f, rfl⟩ : ∃ f' : Nat, f = f' + 1 := ⟨f - 1, by omega⟩
      have hkn : k < n := by omega
      obtain ⟨b, off, rfl, hbB, c0, -⟩ := HS1.out.at_ k (by have := HN.out; omega)
      have b0 := (HB.out.cell (p := ⟨b, off + k * 4, none⟩) hbB).trans c0
      have hpar := HPAR.out k (by have := HN.out; omega)
      have HU2 := Lib.hid (HU.out.symm.trans (by rw [upF_step]))
      generalize (ds.getD k default).p = q at *
      have hq1 : -1 ≤ q := by by_cases h0 : k = 0; (have := hpar.1 h0; omega); (have := hpar.2 (by omega); omega)
      have hq2 : q < k := by by_cases h0 : k = 0; (have := hpar.1 h0; omega); (have := hpar.2 (by omega); omega)
      clear c0 HS1 hpar HPAR hp0
      go_wp2_with (at_builtin; refine wpList_append_own _ rfl _ _ 29 rfl w1.heap.size 3 i0 (.int .i64 0) 1 8 Try.underlying29 hi hz0 hz1 hz2 rfl (by decide) _ _ _ rfl (HO.out.alloc _) ⟨_, 0, none⟩ 1 1 [.int .i64 k] rfl rfl (cell_one_new _ _ _) ?c2 ?c3 ?c4 ?c5 ?_)
      case c2 => first | rfl | (intro u hu; simp at hu; subst hu; rfl)
      case c3 => unfold maxLen; omega
      case c4 => omega
      case c5 => first | omega | (simp; omega)
      intro v' w3 hown' hgrow _
      have hpos := (HO.out.alloc (.cells #[.int .i64 k] 3)).lt
      have HO' : Hid (OwnI w3 w1.heap.size v' (D ++ [(k : Int)])) := by simpa [OwnI, Hid] using hown'
      have HB' := Lib.hid ((HB.out.alloc hwr (.cells #[.int .i64 k] 3)).grown hgrow (by first | (simp; omega) | omega) (fun q hq => (hpos q hq).1))
      have hb2 : Below w1.heap.size wr w3 := ((Below.refl w1.heap.size wr).alloc hwr (.cells #[.int .i64 k] 3)).grown hgrow (by first | (simp; omega) | omega) (fun q hq => (hpos q hq).1)
      have b1 := (hb2.cell (p := ⟨b, off + k * 4, none⟩) hbB).trans b0
      clear hown' hgrow hpos b0 hb2
      go_wp2
      go_roundw
      case rel => exact ⟨q, f, D ++ [(k : Int)], rfl, hq1, by omega, by omega, by simp; omega, by rw [HU2.out]; simp [Hid], HO'.out, HB'.out, HB'.out.size⟩
      case measure => simp [intOf]; omega
    · obtain rfl : p = -1 := by omega
      have HD : Hid (D = T) := by rw [← HU.out, upF_neg _ _ _ (by omega)]; simp [Hid]
      go_wp2
      go_ret
      exact ⟨_, rfl, by rw [← HD.out]; exact own_mono HO.out HB1.out.size, HB1.out.trans (HB.out.mono HB1.out.size)⟩

set_option maxRecDepth 100000 in
set_option maxHeartbeats 1600000 in
theorem top_impl_AboveOf (ds : List On) (o : Int) (hO : OB ds) : ∀ (A : Option Addr) (n c : Nat) (w : World), n = ds.length → n ≤ c → OS w w.heap.size A ds →
    Calls Try.prog 36 #[.slice A n c, .int .i64 o] w fun e w' => RetI w (aboveF ds o) e w' := by
  intro A n c w hn hnc h
  obtain ⟨i0, hi, hz0, hz1, hz2⟩ := info_parts info_int
  have hnb : n ≤ 1048576 := by rw [hn]; exact hO.1
  have HS := Lib.hid h
  unfold aboveF
  have HC := Lib.hid (impl_hasOwner A n c ds o w w.heap.size (Nat.le_refl _) hn hnc h hO)
  cases hf : hasO ds o
  · rw [hf] at HC
    clear hf hn h hO
    simp only [Bool.false_eq_true, if_false]
    go_enter Try.func36, Try.ntmps36
    go_wp2_with fail
    refine HC.out.mono ?_
    rintro e w1 ⟨rfl, hb⟩
    go_wp2
    go_ret
    exact RetI.nil hb
  rw [hf] at HC
  simp only [hf, if_true]
  obtain ⟨on, rfl, hon, hv⟩ := hasO_at hf
  have HPAR := Lib.hid fun i hi => okO_par hv i hi
  have hon2 : on < n := by omega
  have HN := Lib.hid hn
  obtain ⟨T, hT⟩ : ∃ T, T = upF ds ds.length on := ⟨_, rfl⟩
  rw [← hT]
  have HT := Lib.hid hT
  clear hf hn h hO hT hv hon
  go_enter Try.func36, Try.ntmps36
  go_wp2_with fail
  refine HC.out.mono ?_
  rintro e w1 ⟨rfl, hb⟩
  have HB1 := Lib.hid hb
  have HS1 := Lib.hid (HS.out.step hb)
  clear hb HC
  go_wp2
  go_loopw [5, 1] (fun v u wr => ∃ (p : Int) (f : Nat) (D : List Int), u = .int .i64 p ∧ -1 ≤ p ∧ p < f ∧ f ≤ n ∧ D.length + f ≤ 1048576 ∧ Hid (D ++ upF ds f p = T) ∧ Hid (OwnI wr w1.heap.size v D) ∧ Hid (Below w1.heap.size w1 wr) ∧ w1.heap.size ≤ wr.heap.size) (fun _ u _ => (intOf u + 1).toNat)
  case atStart =>
    exact ⟨on, n, [], rfl, by omega, by omega, Nat.le_refl _, by simpa using hnb, by rw [HN.out]; exact HT.out.symm, World.ownsRow_nil _ _ _ _, Below.refl _ _, Nat.le_refl _⟩
  case round =>
    obtain ⟨p, f, D, rfl, hp0, hp1, hf, hdl, HU, HO, HB, hwr⟩ := hrel
    by_cases hlt : 0 ≤ p
    · obtain ⟨k, rfl⟩ : ∃ k : Nat, p = k := ⟨p.toNat, by omega⟩
      obtain ⟨f, rfl⟩ : ∃ f' : Nat, f = f' + 1 := ⟨f - 1, by omega⟩
      have hkn : k < n := by omega
      obtain ⟨b, off, rfl, hbB, c0, -⟩ := HS1.out.at_ k (by have := HN.out; omega)
      have b0 := (HB.out.cell (p := ⟨b, off + k * 4, none⟩) hbB).trans c0
      have hpar := HPAR.out k (by have := HN.out; omega)
      have HU2 := Lib.hid (HU.out.symm.trans (by rw [upF_step]))
      generalize (ds.getD k default).p = q at *
      have hq1 : -1 ≤ q := by by_cases h0 : k = 0; (have := hpar.1 h0; omega); (have := hpar.2 (by omega); omega)
      have hq2 : q < k := by by_cases h0 : k = 0; (have := hpar.1 h0; omega); (have := hpar.2 (by omega); omega)
      have hne : ((k : Int) != -1) = true := by simp [bne]; try omega
      clear c0 HS1 hpar HPAR hp0
      go_wp2_with (at_builtin; refine wpList_append_own _ rfl _ _ 29 rfl w1.heap.size 3 i0 (.int .i64 0) 1 8 Try.underlying29 hi hz0 hz1 hz2 rfl (by decide) _ _ _ rfl (HO.out.alloc _) ⟨_, 0, none⟩ 1 1 [.int .i64 k] rfl rfl (cell_one_new _ _ _) ?c2 ?c3 ?c4 ?c5 ?_)
      case c2 => first | rfl | (intro u hu; simp at hu; subst hu; rfl)
      case c3 => unfold maxLen; omega
      case c4 => omega
      case c5 => first | omega | (simp; omega)
      intro v' w3 hown' hgrow _
      have hpos := (HO.out.alloc (.cells #[.int .i64 k] 3)).lt
      have HO' : Hid (OwnI w3 w1.heap.size v' (D ++ [(k : Int)])) := by simpa [OwnI, Hid] using hown'
      have HB' := Lib.hid ((HB.out.alloc hwr (.cells #[.int .i64 k] 3)).grown hgrow (by first | (simp; omega) | omega) (fun q hq => (hpos q hq).1))
      have hb2 : Below w1.heap.size wr w3 := ((Below.refl w1.heap.size wr).alloc hwr (.cells #[.int .i64 k] 3)).grown hgrow (by first | (simp; omega) | omega) (fun q hq => (hpos q hq).1)
      have b1 := (hb2.cell (p := ⟨b, off + k * 4, none⟩) hbB).trans b0
      clear hown' hgrow hpos b0 hb2
      go_wp2
      go_roundw
      case rel => exact ⟨q, f, D ++ [(k : Int)], rfl, hq1, by omega, by omega, by simp; omega, by rw [HU2.out]; simp [Hid], HO'.out, HB'.out, HB'.out.size⟩
      case measure => simp [intOf]; omega
    · obtain rfl : p = -1 := by omega
      have HD : Hid (D = T) := by rw [← HU.out, upF_neg _ _ _ (by omega)]; simp [Hid]
      go_wp2
      go_ret
      exact ⟨_, rfl, by rw [← HD.out]; exact own_mono HO.out HB1.out.size, HB1.out.trans (HB.out.mono HB1.out.size)⟩
end Go.Proofs.Ytdcfmoaomlfijaa
