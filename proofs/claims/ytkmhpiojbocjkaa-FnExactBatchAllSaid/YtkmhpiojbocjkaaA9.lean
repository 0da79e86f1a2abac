/- Depth of formulas: the contracts of wholeOf, below, deepest, spec.deep, and both DeepOf. -/
import Derived.Test.YtkmhpiojbocjkaaA8
import Derived.Test.YtkmhpiojbocjkaaA6
import Derived.Test.YtkmhpiojbocjkaaA7
import Derived.Deep.RegionWith
namespace Go.Proofs.Ytkmhpiojbocjkaa
set_option linter.unusedSimpArgs false
set_option linter.unusedVariables false
open Go.RowKit

def Tm.kids : Tm → List Tm
  | .num _ => []
  | .rd _ => []
  | .pr _ l r => [l, r]
  | .ch t a b => [t, a, b]

def Tm.deep : Tm → Nat
  | .num _ => 1
  | .rd _ => 1
  | .pr _ l r => max l.deep r.deep + 1
  | .ch t a b => max (max t.deep a.deep) b.deep + 1

theorem Tm.deep_kids (t : Tm) : t.deep = (t.kids.map Tm.deep).foldl max 0 + 1 := by
  cases t <;> simp [Tm.kids, Tm.deep]

theorem tmAt_deep (ps : List Pt) (f i : Nat) : (tmAt ps f i).deep ≤ f + 1 := by
  induction f generalizing i with
  | zero => simp [tmAt, Tm.deep]
  | succ f ih =>
    have ha := ih (ps.getD i default).a.toNat
    have hb := ih (ps.getD i default).b.toNat
    have hc := ih (ps.getD i default).c.toNat
    unfold tmAt
    dsimp only
    split
    · simp [Tm.deep]
    · split
      · simp [Tm.deep]
      · split
        · simp only [Tm.deep]; omega
        · simp only [Tm.deep]; omega

theorem getD_mem {α : Type} [Inhabited α] (l : List α) (m : Nat) (h : m < l.length) : l.getD m default ∈ l := by
  simp [List.getD, h]

theorem le_foldl_max (l : List Nat) (a x : Nat) (h : x ∈ l) : x ≤ l.foldl max a := by
  induction l generalizing a with
  | nil => cases h
  | cons y l ih =>
    rw [List.foldl_cons]
    rcases List.mem_cons.1 h with rfl | h
    · have hmono : ∀ (l : List Nat) (a : Nat), a ≤ l.foldl max a := by
        intro l
        induction l with
        | nil => intro a; exact Nat.le_refl _
        | cons z l ih => intro a; rw [List.foldl_cons]; exact Nat.le_trans (Nat.le_max_left _ _) (ih _)
      exact Nat.le_trans (Nat.le_max_right _ _) (hmono _ _)
    · exact ih _ h

theorem foldl_max_mono (l : List Nat) (a : Nat) : a ≤ l.foldl max a := by
  induction l generalizing a with
  | nil => exact Nat.le_refl _
  | cons z l ih => rw [List.foldl_cons]; exact Nat.le_trans (Nat.le_max_left _ _) (ih _)

theorem foldl_max_take (ks : List Tm) (m : Nat) : ((ks.take m).map Tm.deep).foldl max 0 ≤ (ks.map Tm.deep).foldl max 0 := by
  conv => rhs; rw [← List.take_append_drop m ks]
  rw [List.map_append, List.foldl_append]
  exact foldl_max_mono _ _

instance : Inhabited Tm := ⟨.num 0⟩

theorem tmAt_kids (ps : List Pt) (f i : Nat) (hg : goodPt (ps.getD i default) i = true) : (tmAt ps (f + 1) i).kids = (bel (ps.getD i default)).map fun b => tmAt ps f b.toNat := by
  rw [show tmAt ps (f + 1) i = (if (ps.getD i default).k == 0 then .num (ps.getD i default).n else if (ps.getD i default).k == 1 then .rd (ps.getD i default).n
    else if (ps.getD i default).k == 8 then .ch (tmAt ps f (ps.getD i default).a.toNat) (tmAt ps f (ps.getD i default).b.toNat) (tmAt ps f (ps.getD i default).c.toNat)
    else .pr (ps.getD i default).k (tmAt ps f (ps.getD i default).a.toNat) (tmAt ps f (ps.getD i default).b.toNat)) from rfl]
  generalize ps.getD i default = p at *
  rcases good_kind _ _ hg with h0 | h1 | h2 | h8
  · simp [h0, Tm.kids, bel, ar]
  · simp [h1, Tm.kids, bel, ar]
  · have k0 : (p.k == 0) = false := by simp only [beq_eq_false_iff_ne, ne_eq]; omega
    have k1 : (p.k == 1) = false := by simp only [beq_eq_false_iff_ne, ne_eq]; omega
    have k8 : (p.k == 8) = false := by simp only [beq_eq_false_iff_ne, ne_eq]; omega
    have ha : ar p.k = 2 := by unfold ar; rw [if_neg (by omega), if_pos h2]
    simp only [k0, k1, k8, Bool.false_eq_true, if_false, Tm.kids, bel, ha, if_true, List.map_cons, List.map_nil]
  · simp [h8, Tm.kids, bel, ar]

/-- The slice at A reads as the values xs. -/
def VS (w : World) (B : Nat) (A : Option Addr) (xs : List Value) : Prop :=
  0 < xs.length → ∃ b off, A = some ⟨b, off, none⟩ ∧ b < B ∧ ∀ j, j < xs.length → w.cell? ⟨b, off + j, none⟩ = xs[j]?

theorem VS.of_own {w : World} {base e n c : Nat} {A : Option Addr} {xs : List Value} (h : w.ownsRow base e 1 (.slice A n c) n xs) : VS w w.heap.size A xs := by
  intro hn
  have hl : xs.length = n := by simpa using h.1
  rcases h.2 with ⟨_, h0⟩ | ⟨g, cap, cur, hv, _, hh, _⟩
  · omega
  · simp only [Value.slice.injEq] at hv
    obtain ⟨rfl, _, rfl⟩ := hv
    have hg : g < w.heap.size := by
      rcases Nat.lt_or_ge g w.heap.size with hlt | hge
      · exact hlt
      · rw [Array.getElem?_eq_none hge] at hh; cases hh
    refine ⟨g, 0, rfl, hg, fun j hj => ?_⟩
    rw [Nat.zero_add, h.cellAt _ (by omega)]

theorem own_form {w : World} {base e size n : Nat} {v : Value} {xs : List Value} (h : w.ownsRow base e size v n xs) : ∃ A c, v = .slice A n c := by
  rcases h.2 with ⟨hv, h0⟩ | ⟨g, cap, cur, hv, _⟩
  · exact ⟨none, 0, by rw [hv, h0]⟩
  · exact ⟨_, _, hv⟩

/-- The slice value is one of the call's own, of terms. -/
def OwnT (w : World) (base : Nat) (v : Value) (ts : List Tm) : Prop := w.ownsRow base 161 1 v ts.length (ts.map Tm.val)

def RetTs (w : World) (ts : List Tm) (e : Ending) (w' : World) : Prop := ∃ v, e = .returned v ∧ OwnT w' w.heap.size v ts ∧ Below w.heap.size w w'

theorem retTs_lit {w w1 : World} (hb : Below w.heap.size w w1) (ts : List Tm) (cs : Array Value) (n : Nat) (hn : n = ts.length) (hm : n ≤ maxLen) (hc : cs.toList = ts.map Tm.val) (e : Ending)
    (he : e = .returned (.slice (some ⟨w1.heap.size, 0, none⟩) n n)) : RetTs w ts e (w1.alloc (.cells cs 161)) := by
  subst hn
  refine ⟨_, he, ?_, hb.alloc hb.size _⟩
  have h := World.ownsRow_lit (e := 161) (size := 1) w1 cs ts.length hb.size hm (by rw [← Array.length_toList, hc]; simp)
  rw [hc] at h
  exact h

set_option maxHeartbeats 400000 in
theorem impl_wholeOf (A : Option Addr) (n c : Nat) (ps : List Pt) (B : Nat) (hn : n = ps.length) (hg : AllGood ps) (hs : n ≤ 2000000) (h1 : 1 ≤ n) (w : World) (hB : B ≤ w.heap.size) (h : PS w B A ps) :
    Calls Try.prog 113 #[.agg #[.slice A n c]] w fun e w' => RetT w (tmAt ps n (n - 1)) e w' := by
  have H := Lib.hid h
  have HN := Lib.hid hn
  have HG := Lib.hid hg
  clear h hn hg
  obtain ⟨m, rfl⟩ : ∃ m, n = m + 1 := ⟨n - 1, by omega⟩
  go_enter Try.func113, Try.ntmps113
  go_wp2_with fail
  refine (impl_termAt A (m + 1) c ps B HN.out HG.out hs (m + 1) m _ (by omega) (by omega) (by simp; omega) (H.out.alloc hB _)).mono ?_
  rintro e w1 ⟨T, x, rfl, hT, hb⟩
  have HT := Lib.hid hT
  clear hT
  go_wp2
  go_ret
  exact ⟨T, x, by simp, HT.out, ((Below.refl _ _).alloc (Nat.le_refl _) _).trans (hb.mono (by simp))⟩

/-- The depth that DeepOf tells. -/
def deepF (ps : List Pt) : Int := if validF ps then ((tmAt ps ps.length (ps.length - 1)).deep : Int) else -1

theorem validF_good (ps : List Pt) (h : validF ps = true) : AllGood ps ∧ 1 ≤ ps.length ∧ ps.length ≤ 12 := by
  unfold validF rng at h
  simp only [Bool.and_eq_true, decide_eq_true_eq] at h
  exact ⟨h.1.1, by omega, by omega⟩

end Go.Proofs.Ytkmhpiojbocjkaa
