/- Owners: the standing contracts of KidsOf and AboveOf. -/
import Derived.Test.YtgjodcddkmjboaaV8

namespace Go.Proofs.Ytgjodcddkmjboaa
set_option linter.unusedSimpArgs false
set_option linter.unusedVariables false
open Go.RowKit

theorem okO_par {ds : List On} (h : validO ds = true) (i : Nat) (hi : i < ds.length) : (i = 0 → (ds.getD i default).p = -1) ∧ (0 < i → 0 ≤ (ds.getD i default).p ∧ (ds.getD i default).p < i) := by
  have h1 := (validO_ok h).2.2 i hi
  unfold okO okD parOK at h1
  rw [Bool.and_eq_true] at h1
  by_cases h0 : i = 0
  · rw [if_pos h0] at h1
    exact ⟨fun _ => by simpa using h1.1, fun h => by omega⟩
  · rw [if_neg h0, rng_iff] at h1
    exact ⟨fun h => absurd h h0, fun _ => by omega⟩

def kidB (ds : List On) (o : Int) (i : Nat) : Bool := (ds.getD i default).o && (ds.getD i default).p == o
def kidsF (ds : List On) (o : Int) : List Int := if hasO ds o then nwTo (kidB ds o) ds.length else []
theorem kidsF_len (ds : List On) (o : Int) : (kidsF ds o).length ≤ 12 := by
  unfold kidsF
  cases h : hasO ds o
  · simp
  · simp only [if_true]
    have := nwTo_len (kidB ds o) ds.length
    obtain ⟨_, _, _, hv⟩ := hasO_at h
    have := (validO_ok hv).2.1
    omega
theorem kidB_low {ds : List On} (h : validO ds = true) (o i : Nat) (hi : i ≤ o) (ho : o < ds.length) : kidB ds o i = false := by
  have := okO_par h i (by omega)
  have e : ((ds.getD i default).p == (o : Int)) = false := by
    simp only [beq_eq_false_iff_ne, ne_eq]
    by_cases h0 : i = 0
    · have := this.1 h0; omega
    · have := this.2 (by omega); omega
  unfold kidB
  rw [e, Bool.and_false]
theorem nwTo_none (P : Nat → Bool) (k : Nat) (h : ∀ i, i < k → P i = false) : nwTo P k = [] := by
  induction k with
  | zero => rfl
  | succ k ih => rw [nwTo_step, ih fun i hi => h i (by omega), h k (by omega)]; rfl

/-- An owner and all above it. -/
def upF (ds : List On) : Nat → Int → List Int
  | 0, _ => []
  | f + 1, o => if o < 0 then [] else o :: upF ds f (ds.getD o.toNat default).p
theorem upF_neg (ds : List On) (f : Nat) (o : Int) (h : o < 0) : upF ds f o = [] := by
  cases f with
  | zero => rfl
  | succ f => unfold upF; rw [if_pos h]
theorem upF_step (ds : List On) (f k : Nat) : upF ds (f + 1) (k : Int) = (k : Int) :: upF ds f (ds.getD k default).p := by
  rw [upF, if_neg (by omega)]; simp
theorem upF_len (ds : List On) (f : Nat) (o : Int) : (upF ds f o).length ≤ f := by
  induction f generalizing o with
  | zero => simp [upF]
  | succ f ih =>
    rw [upF]
    split
    · simp
    · have := ih (ds.getD o.toNat default).p; simp only [List.length_cons]; omega
def aboveF (ds : List On) (o : Int) : List Int := if hasO ds o then upF ds ds.length o else []
theorem aboveF_len (ds : List On) (o : Int) : (aboveF ds o).length ≤ 12 := by
  unfold aboveF
  cases h : hasO ds o
  · simp
  · simp only [if_true]
    have := upF_len ds ds.length o
    obtain ⟨_, _, _, hv⟩ := hasO_at h
    have := (validO_ok hv).2.1
    omega

set_option maxRecDepth 100000 in
set_option maxHeartbeats 1600000 in
theorem top_impl_AboveOf (ds : List On) (o : Int) (hO : OB ds) : ∀ (A : Option Addr) (n c : Nat) (w : World), n = ds.length → n ≤ c → OS w w.heap.size A ds →
    Calls Try.prog 20 #[.slice A n c, .int .i64 o] w fun e w' => RetI w (aboveF ds o) e w' := by
  intro A n c w hn hnc h
  obtain ⟨i0, hi, hz0, hz1, hz2⟩ := info_parts info_int
  have hnb : n ≤ 1048576 := by rw [hn]; exact hO.1
  have HS := Lib.hid h
  unfold aboveF
  have HC := Lib.hid (impl_hasOwner A n c ds o w w.heap.size (Nat.le_refl _) hn hnc h hO)
  cases hf : hasO ds o
  · rw [hf] at HC
    clear hf hn h hO
    simp only [Bool.false_eq_true, if_false]
    go_enter Try.func20, Try.ntmps20
    go_wp2_with fail
    refine HC.out.mono ?_
    rintro e w1 ⟨rfl, hb⟩
    go_wp2
    go_ret
    exact RetI.nil hb
  rw [hf] at HC
  simp only [hf, if_true]
  obtain ⟨on, rfl, hon, hv⟩ := hasO_at hf
  have HPAR := Lib.hid fun i hi => okO_par hv i hi
  have hon2 : on < n := by omega
  have HN := Lib.hid hn
  obtain ⟨T, hT⟩ : ∃ T, T = upF ds ds.length on := ⟨_, rfl⟩
  rw [← hT]
  have HT := Lib.hid hT
  clear hf hn h hO hT hv hon
  go_enter Try.func20, Try.ntmps20
  go_wp2_with fail
  refine HC.out.mono ?_
  rintro e w1 ⟨rfl, hb⟩
  have HB1 := Lib.hid hb
  have HS1 := Lib.hid (HS.out.step hb)
  clear hb HC
  go_wp2
  go_loopw [5, 1] (fun v u wr => ∃ (p : Int) (f : Nat) (D : List Int), u = .int .i64 p ∧ -1 ≤ p ∧ p < f ∧ f ≤ n ∧ D.length + f ≤ 1048576 ∧ Hid (D ++ upF ds f p = T) ∧ Hid (OwnI wr w1.heap.size v D) ∧ Hid (Below w1.heap.size w1 wr) ∧ w1.heap.size ≤ wr.heap.size) (fun _ u _ => (intOf u + 1).toNat)
  case atStart =>
    exact ⟨on, n, [], rfl, by omega, by omega, Nat.le_refl _, by simpa using hnb, by rw [HN.out]; exact HT.out.symm, World.ownsRow_nil _ _ _ _, Below.refl _ _, Nat.le_refl _⟩
  case round =>
    obtain ⟨p, f, D, rfl, hp0, hp1, hf, hdl, HU, HO, HB, hwr⟩ := hrel
    by_cases hlt : 0 ≤ p
    · obtain ⟨k, rfl⟩ : ∃ k : Nat, p = k := ⟨p.toNat, by omega⟩
      obtain ⟨f, rfl⟩ : ∃ f' : Nat, f = f' + 1 := ⟨f - 1, by omega⟩
      have hkn : k < n := by omega
      obtain ⟨b, off, rfl, hbB, c0, -⟩ := HS1.out.at_ k (by have := HN.out; omega)
      have b0 := (HB.out.cell (p := ⟨b, off + k * 4, none⟩) hbB).trans c0
      have hpar := HPAR.out k (by have := HN.out; omega)
      have HU2 := Lib.hid (HU.out.symm.trans (by rw [upF_step]))
      generalize (ds.getD k default).p = q at *
      have hq1 : -1 ≤ q := by by_cases h0 : k = 0; (have := hpar.1 h0; omega); (have := hpar.2 (by omega); omega)
      have hq2 : q < k := by by_cases h0 : k = 0; (have := hpar.1 h0; omega); (have := hpar.2 (by omega); omega)
      have hne : ((k : Int) != -1) = true := by simp [bne]; try omega
      clear c0 HS1 hpar HPAR hp0
      go_wp2_with (at_builtin; refine wpList_append_own _ rfl _ _ 23 rfl w1.heap.size 3 i0 (.int .i64 0) 1 8 Try.underlying23 hi hz0 hz1 hz2 rfl (by decide) _ _ _ rfl (HO.out.alloc _) ⟨_, 0, none⟩ 1 1 [.int .i64 k] rfl rfl (cell_one_new _ _ _) ?c2 ?c3 ?c4 ?c5 ?_)
      case c2 => first | rfl | (intro u hu; simp at hu; subst hu; rfl)
      case c3 => unfold maxLen; omega
      case c4 => omega
      case c5 => first | omega | (simp; omega)
      intro v' w3 hown' hgrow _
      have hpos := (HO.out.alloc (.cells #[.int .i64 k] 3)).lt
      have HO' : Hid (OwnI w3 w1.heap.size v' (D ++ [(k : Int)])) := by simpa [OwnI, Hid] using hown'
      have HB' := Lib.hid ((HB.out.alloc hwr (.cells #[.int .i64 k] 3)).grown hgrow (by first | (simp; omega) | omega) (fun q hq => (hpos q hq).1))
      have hb2 : Below w1.heap.size wr w3 := ((Below.refl w1.heap.size wr).alloc hwr (.cells #[.int .i64 k] 3)).grown hgrow (by first | (simp; omega) | omega) (fun q hq => (hpos q hq).1)
      have b1 := (hb2.cell (p := ⟨b, off + k * 4, none⟩) hbB).trans b0
      clear hown' hgrow hpos b0 hb2
      go_wp2
      go_roundw
      case rel => exact ⟨q, f, D ++ [(k : Int)], rfl, hq1, by omega, by omega, by simp; omega, by rw [HU2.out]; simp [Hid], HO'.out, HB'.out, HB'.out.size⟩
      case measure => simp [intOf]; omega
    · obtain rfl : p = -1 := by omega
      have HD : Hid (D = T) := by rw [← HU.out, upF_neg _ _ _ (by omega)]; simp [Hid]
      go_wp2
      go_ret
      exact ⟨_, rfl, by rw [← HD.out]; exact own_mono HO.out HB1.out.size, HB1.out.trans (HB.out.mono HB1.out.size)⟩
end Go.Proofs.Ytgjodcddkmjboaa
