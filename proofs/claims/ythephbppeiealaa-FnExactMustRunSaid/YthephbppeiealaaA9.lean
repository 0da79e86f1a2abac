/- Depth of formulas: the contracts of wholeOf, below, deepest, spec.deep, and both DeepOf. -/
import Derived.Test.YthephbppeiealaaA8
import Derived.Test.YthephbppeiealaaA6
import Derived.Test.YthephbppeiealaaA7
import Derived.Deep.RegionWith
namespace Go.Proofs.Ythephbppeiealaa
set_option linter.unusedSimpArgs false
set_option linter.unusedVariables false
open Go.RowKit

def Tm.kids : Tm → List Tm
  | .num _ => []
  | .rd _ => []
  | .pr _ l r => [l, r]
  | .ch t a b => [t, a, b]

def Tm.deep : Tm → Nat
  | .num _ => 1
  | .rd _ => 1
  | .pr _ l r => max l.deep r.deep + 1
  | .ch t a b => max (max t.deep a.deep) b.deep + 1

theorem Tm.deep_kids (t : Tm) : t.deep = (t.kids.map Tm.deep).foldl max 0 + 1 := by
  cases t <;> simp [Tm.kids, Tm.deep]

theorem tmAt_deep (ps : List Pt) (f i : Nat) : (tmAt ps f i).deep ≤ f + 1 := by
  induction f generalizing i with
  | zero => simp [tmAt, Tm.deep]
  | succ f ih =>
    have ha := ih (ps.getD i default).a.toNat
    have hb := ih (ps.getD i default).b.toNat
    have hc := ih (ps.getD i default).c.toNat
    unfold tmAt
    dsimp only
    split
    · simp [Tm.deep]
    · split
      · simp [Tm.deep]
      · split
        · simp only [Tm.deep]; omega
        · simp only [Tm.deep]; omega

theorem getD_mem {α : Type} [Inhabited α] (l : List α) (m : Nat) (h : m < l.length) : l.getD m default ∈ l := by
  simp [List.getD, h]

theorem le_foldl_max (l : List Nat) (a x : Nat) (h : x ∈ l) : x ≤ l.foldl max a := by
  induction l generalizing a with
  | nil => cases h
  | cons y l ih =>
    rw [List.foldl_cons]
    rcases List.mem_cons.1 h with rfl | h
    · have hmono : ∀ (l : List Nat) (a : Nat), a ≤ l.foldl max a := by
        intro l
        induction l with
        | nil => intro a; exact Nat.le_refl _
        | cons z l ih => intro a; rw [List.foldl_cons]; exact Nat.le_trans (Nat.le_max_left _ _) (ih _)
      exact Nat.le_trans (Nat.le_max_right _ _) (hmono _ _)
    · exact ih _ h

theorem foldl_max_mono (l : List Nat) (a : Nat) : a ≤ l.foldl max a := by
  induction l generalizing a with
  | nil => exact Nat.le_refl _
  | cons z l ih => rw [List.foldl_cons]; exact Nat.le_trans (Nat.le_max_left _ _) (ih _)

theorem foldl_max_take (ks : List Tm) (m : Nat) : ((ks.take m).map Tm.deep).foldl max 0 ≤ (ks.map Tm.deep).foldl max 0 := by
  conv => rhs; rw [← List.take_append_drop m ks]
  rw [List.map_append, List.foldl_append]
  exact foldl_max_mono _ _

instance : Inhabited Tm := ⟨.num 0⟩

theorem tmAt_kids (ps : List Pt) (f i : Nat) (hg : goodPt (ps.getD i default) i = true) : (tmAt ps (f + 1) i).kids = (bel (ps.getD i default)).map fun b => tmAt ps f b.toNat := by
  rw [show tmAt ps (f + 1) i = (if (ps.getD i default).k == 0 then .num (ps.getD i default).n else if (ps.getD i default).k == 1 then .rd (ps.getD i default).n
    else if (ps.getD i default).k == 8 then .ch (tmAt ps f (ps.getD i default).a.toNat) (tmAt ps f (ps.getD i default).b.toNat) (tmAt ps f (ps.getD i default).c.toNat)
    else .pr (ps.getD i default).k (tmAt ps f (ps.getD i default).a.toNat) (tmAt ps f (ps.getD i default).b.toNat)) from rfl]
  generalize ps.getD i default = p at *
  rcases good_kind _ _ hg with h0 | h1 | h2 | h8
  · simp [h0, Tm.kids, bel, ar]
  · simp [h1, Tm.kids, bel, ar]
  · have k0 : (p.k == 0) = false := by simp only [beq_eq_false_iff_ne, ne_eq]; omega
    have k1 : (p.k == 1) = false := by simp only [beq_eq_false_iff_ne, ne_eq]; omega
    have k8 : (p.k == 8) = false := by simp only [beq_eq_false_iff_ne, ne_eq]; omega
    have ha : ar p.k = 2 := by unfold ar; rw [if_neg (by omega), if_pos h2]
    simp only [k0, k1, k8, Bool.false_eq_true, if_false, Tm.kids, bel, ha, if_true, List.map_cons, List.map_nil]
  · simp [h8, Tm.kids, bel, ar]

/-- The slice at A reads as the values xs. -/
def VS (w : World) (B : Nat) (A : Option Addr) (xs : List Value) : Prop :=
  0 < xs.length → ∃ b off, A = some ⟨b, off, none⟩ ∧ b < B ∧ ∀ j, j < xs.length → w.cell? ⟨b, off + j, none⟩ = xs[j]?

theorem VS.of_own {w : World} {base e n c : Nat} {A : Option Addr} {xs : List Value} (h : w.ownsRow base e 1 (.slice A n c) n xs) : VS w w.heap.size A xs := by
  intro hn
  have hl : xs.length = n := by simpa using h.1
  rcases h.2 with ⟨_, h0⟩ | ⟨g, cap, cur, hv, _, hh, _⟩
  · omega
  · simp only [Value.slice.injEq] at hv
    obtain ⟨rfl, _, rfl⟩ := hv
    have hg : g < w.heap.size := by
      rcases Nat.lt_or_ge g w.heap.size with hlt | hge
      · exact hlt
      · rw [Array.getElem?_eq_none hge] at hh; cases hh
    refine ⟨g, 0, rfl, hg, fun j hj => ?_⟩
    rw [Nat.zero_add, h.cellAt _ (by omega)]

theorem own_form {w : World} {base e size n : Nat} {v : Value} {xs : List Value} (h : w.ownsRow base e size v n xs) : ∃ A c, v = .slice A n c := by
  rcases h.2 with ⟨hv, h0⟩ | ⟨g, cap, cur, hv, _⟩
  · exact ⟨none, 0, by rw [hv, h0]⟩
  · exact ⟨_, _, hv⟩

/-- The slice value is one of the call's own, of terms. -/
def OwnT (w : World) (base : Nat) (v : Value) (ts : List Tm) : Prop := w.ownsRow base 117 1 v ts.length (ts.map Tm.val)

def RetTs (w : World) (ts : List Tm) (e : Ending) (w' : World) : Prop := ∃ v, e = .returned v ∧ OwnT w' w.heap.size v ts ∧ Below w.heap.size w w'

theorem retTs_lit {w w1 : World} (hb : Below w.heap.size w w1) (ts : List Tm) (cs : Array Value) (n : Nat) (hn : n = ts.length) (hm : n ≤ maxLen) (hc : cs.toList = ts.map Tm.val) (e : Ending)
    (he : e = .returned (.slice (some ⟨w1.heap.size, 0, none⟩) n n)) : RetTs w ts e (w1.alloc (.cells cs 117)) := by
  subst hn
  refine ⟨_, he, ?_, hb.alloc hb.size _⟩
  have h := World.ownsRow_lit (e := 117) (size := 1) w1 cs ts.length hb.size hm (by rw [← Array.length_toList, hc]; simp)
  rw [hc] at h
  exact h

set_option maxHeartbeats 400000 in
theorem number_below (v : Int) (w : World) : Calls Try.prog 190 #[.agg #[.int .i64 v]] w fun e w' => RetTs w [] e w' := by
  go_enter Try.func190, Try.ntmps190
  go_wp2
  go_ret
  exact ⟨_, rfl, World.ownsRow_nil _ _ _ _, (Below.refl _ _).alloc (Nat.le_refl _) _⟩

set_option maxHeartbeats 400000 in
theorem reading_below (v : Int) (w : World) : Calls Try.prog 192 #[.agg #[.int .i64 v]] w fun e w' => RetTs w [] e w' := by
  go_enter Try.func192, Try.ntmps192
  go_wp2
  go_ret
  exact ⟨_, rfl, World.ownsRow_nil _ _ _ _, (Below.refl _ _).alloc (Nat.le_refl _) _⟩

set_option maxHeartbeats 400000 in
theorem pair_below (k : Int) (l r : Tm) (w : World) : Calls Try.prog 186 #[.agg #[.int .i64 k, l.val, r.val]] w fun e w' => RetTs w [l, r] e w' := by
  obtain ⟨T1, x1, h1⟩ := l.val_form
  obtain ⟨T2, x2, h2⟩ := r.val_form
  rw [h1, h2]
  have H1 := Lib.hid h1
  have H2 := Lib.hid h2
  clear h1 h2
  go_enter Try.func186, Try.ntmps186
  go_wp2
  go_ret
  exact retTs_lit ((Below.refl _ _).alloc (Nat.le_refl _) _) _ _ 2 rfl (by unfold maxLen; omega) (by simp [H1.out, H2.out]) _ (by simp)

set_option maxHeartbeats 400000 in
theorem choice_below (t a b : Tm) (w : World) : Calls Try.prog 188 #[.agg #[t.val, a.val, b.val]] w fun e w' => RetTs w [t, a, b] e w' := by
  obtain ⟨T1, x1, h1⟩ := t.val_form
  obtain ⟨T2, x2, h2⟩ := a.val_form
  obtain ⟨T3, x3, h3⟩ := b.val_form
  rw [h1, h2, h3]
  have H1 := Lib.hid h1
  have H2 := Lib.hid h2
  have H3 := Lib.hid h3
  clear h1 h2 h3
  go_enter Try.func188, Try.ntmps188
  go_wp2
  go_ret
  exact retTs_lit ((Below.refl _ _).alloc (Nat.le_refl _) _) _ _ 3 rfl (by unfold maxLen; omega) (by simp [H1.out, H2.out, H3.out]) _ (by simp)

set_option maxHeartbeats 400000 in
theorem impl_wholeOf (A : Option Addr) (n c : Nat) (ps : List Pt) (B : Nat) (hn : n = ps.length) (hg : AllGood ps) (hs : n ≤ 2000000) (h1 : 1 ≤ n) (w : World) (hB : B ≤ w.heap.size) (h : PS w B A ps) :
    Calls Try.prog 115 #[.agg #[.slice A n c]] w fun e w' => RetT w (tmAt ps n (n - 1)) e w' := by
  have H := Lib.hid h
  have HN := Lib.hid hn
  have HG := Lib.hid hg
  clear h hn hg
  obtain ⟨m, rfl⟩ : ∃ m, n = m + 1 := ⟨n - 1, by omega⟩
  go_enter Try.func115, Try.ntmps115
  go_wp2_with fail
  refine (impl_termAt A (m + 1) c ps B HN.out HG.out hs (m + 1) m _ (by omega) (by omega) (by simp; omega) (H.out.alloc hB _)).mono ?_
  rintro e w1 ⟨T, x, rfl, hT, hb⟩
  have HT := Lib.hid hT
  clear hT
  go_wp2
  go_ret
  exact ⟨T, x, by simp, HT.out, ((Below.refl _ _).alloc (Nat.le_refl _) _).trans (hb.mono (by simp))⟩

theorem below_inv (t : Tm) : ∃ (T : TypeId) (x : Value) (fn : FuncId), t.val = .iface T x ∧ (∀ w, (method 300 T x "loop.example/signalgraph/impl.below").run Try.prog w = .ok (fn, x) w) ∧ (∀ w, (callFunc fn #[x]).run Try.prog w = .ok (.enter fn #[x]) w) ∧ ∀ w, Calls Try.prog fn #[x] w fun e w' => RetTs w t.kids e w' := by
  cases t with
  | num v => exact ⟨_, _, 190, rfl, fun w => by kernel_rfl, fun w => by kernel_rfl, fun w => number_below v w⟩
  | rd v => exact ⟨_, _, 192, rfl, fun w => by kernel_rfl, fun w => by kernel_rfl, fun w => reading_below v w⟩
  | pr k l r => exact ⟨_, _, 186, rfl, fun w => by kernel_rfl, fun w => by kernel_rfl, fun w => pair_below k l r w⟩
  | ch t a b => exact ⟨_, _, 188, rfl, fun w => by kernel_rfl, fun w => by kernel_rfl, fun w => choice_below t a b w⟩

/-- The depth that DeepOf tells. -/
def deepF (ps : List Pt) : Int := if validF ps then ((tmAt ps ps.length (ps.length - 1)).deep : Int) else -1

theorem validF_good (ps : List Pt) (h : validF ps = true) : AllGood ps ∧ 1 ≤ ps.length ∧ ps.length ≤ 12 := by
  unfold validF rng at h
  simp only [Bool.and_eq_true, decide_eq_true_eq] at h
  exact ⟨h.1.1, by omega, by omega⟩

end Go.Proofs.Ythephbppeiealaa
