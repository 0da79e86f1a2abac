/- Depth of formulas: the contracts of wholeOf, below, deepest, spec.deep, and both DeepOf. -/
import Derived.Test.YteeljfblncffpaaA8
import Derived.Test.YteeljfblncffpaaA6
import Derived.Test.YteeljfblncffpaaA7
import Derived.Deep.RegionWith
namespace Go.Proofs.Yteeljfblncffpaa
set_option linter.unusedSimpArgs false
set_option linter.unusedVariables false
open Go.RowKit

def Tm.kids : Tm → List Tm
  | .num _ => []
  | .rd _ => []
  | .pr _ l r => [l, r]
  | .ch t a b => [t, a, b]

def Tm.deep : Tm → Nat
  | .num _ => 1
  | .rd _ => 1
  | .pr _ l r => max l.deep r.deep + 1
  | .ch t a b => max (max t.deep a.deep) b.deep + 1

theorem Tm.deep_kids (t : Tm) : t.deep = (t.kids.map Tm.deep).foldl max 0 + 1 := by
  cases t <;> simp [Tm.kids, Tm.deep]

theorem tmAt_deep (ps : List Pt) (f i : Nat) : (tmAt ps f i).deep ≤ f + 1 := by
  induction f generalizing i with
  | zero => simp [tmAt, Tm.deep]
  | succ f ih =>
    have ha := ih (ps.getD i default).a.toNat
    have hb := ih (ps.getD i default).b.toNat
    have hc := ih (ps.getD i default).c.toNat
    unfold tmAt
    dsimp only
    split
    · simp [Tm.deep]
    · split
      · simp [Tm.deep]
      · split
        · simp only [Tm.deep]; omega
        · simp only [Tm.deep]; omega

theorem getD_mem {α : Type} [Inhabited α] (l : List α) (m : Nat) (h : m < l.length) : l.getD m default ∈ l := by
  simp [List.getD, h]

theorem le_foldl_max (l : List Nat) (a x : Nat) (h : x ∈ l) : x ≤ l.foldl max a := by
  induction l generalizing a with
  | nil => cases h
  | cons y l ih =>
    rw [List.foldl_cons]
    rcases List.mem_cons.1 h with rfl | h
    · have hmono : ∀ (l : List Nat) (a : Nat), a ≤ l.foldl max a := by
        intro l
        induction l with
        | nil => intro a; exact Nat.le_refl _
        | cons z l ih => intro a; rw [List.foldl_cons]; exact Nat.le_trans (Nat.le_max_left _ _) (ih _)
      exact Nat.le_trans (Nat.le_max_right _ _) (hmono _ _)
    · exact ih _ h

theorem foldl_max_mono (l : List Nat) (a : Nat) : a ≤ l.foldl max a := by
  induction l generalizing a with
  | nil => exact Nat.le_refl _
  | cons z l ih => rw [List.foldl_cons]; exact Nat.le_trans (Nat.le_max_left _ _) (ih _)

theorem foldl_max_take (ks : List Tm) (m : Nat) : ((ks.take m).map Tm.deep).foldl max 0 ≤ (ks.map Tm.deep).foldl max 0 := by
  conv => rhs; rw [← List.take_append_drop m ks]
  rw [List.map_append, List.foldl_append]
  exact foldl_max_mono _ _

instance : Inhabited Tm := ⟨.num 0⟩

theorem tmAt_kids (ps : List Pt) (f i : Nat) (hg : goodPt (ps.getD i default) i = true) : (tmAt ps (f + 1) i).kids = (bel (ps.getD i default)).map fun b => tmAt ps f b.toNat := by
  rw [show tmAt ps (f + 1) i = (if (ps.getD i default).k == 0 then .num (ps.getD i default).n else if (ps.getD i default).k == 1 then .rd (ps.getD i default).n
    else if (ps.getD i default).k == 8 then .ch (tmAt ps f (ps.getD i default).a.toNat) (tmAt ps f (ps.getD i default).b.toNat) (tmAt ps f (ps.getD i default).c.toNat)
    else .pr (ps.getD i default).k (tmAt ps f (ps.getD i default).a.toNat) (tmAt ps f (ps.getD i default).b.toNat)) from rfl]
  generalize ps.getD i default = p at *
  rcases good_kind _ _ hg with h0 | h1 | h2 | h8
  · simp [h0, Tm.kids, bel, ar]
  · simp [h1, Tm.kids, bel, ar]
  · have k0 : (p.k == 0) = false := by simp only [beq_eq_false_iff_ne, ne_eq]; omega
    have k1 : (p.k == 1) = false := by simp only [beq_eq_false_iff_ne, ne_eq]; omega
    have k8 : (p.k == 8) = false := by simp only [beq_eq_false_iff_ne, ne_eq]; omega
    have ha : ar p.k = 2 := by unfold ar; rw [if_neg (by omega), if_pos h2]
    simp only [k0, k1, k8, Bool.false_eq_true, if_false, Tm.kids, bel, ha, if_true, List.map_cons, List.map_nil]
  · simp [h8, Tm.kids, bel, ar]

/-- The slice at A reads as the values xs. -/
def VS (w : World) (B : Nat) (A : Option Addr) (xs : List Value) : Prop :=
  0 < xs.length → ∃ b off, A = some ⟨b, off, none⟩ ∧ b < B ∧ ∀ j, j < xs.length → w.cell? ⟨b, off + j, none⟩ = xs[j]?

theorem VS.of_own {w : World} {base e n c : Nat} {A : Option Addr} {xs : List Value} (h : w.ownsRow base e 1 (.slice A n c) n xs) : VS w w.heap.size A xs := by
  intro hn
  have hl : xs.length = n := by simpa using h.1
  rcases h.2 with ⟨_, h0⟩ | ⟨g, cap, cur, hv, _, hh, _⟩
  · omega
  · simp only [Value.slice.injEq] at hv
    obtain ⟨rfl, _, rfl⟩ := hv
    have hg : g < w.heap.size := by
      rcases Nat.lt_or_ge g w.heap.size with hlt | hge
      · exact hlt
      · rw [Array.getElem?_eq_none hge] at hh; cases hh
    refine ⟨g, 0, rfl, hg, fun j hj => ?_⟩
    rw [Nat.zero_add, h.cellAt _ (by omega)]

theorem own_form {w : World} {base e size n : Nat} {v : Value} {xs : List Value} (h : w.ownsRow base e size v n xs) : ∃ A c, v = .slice A n c := by
  rcases h.2 with ⟨hv, h0⟩ | ⟨g, cap, cur, hv, _⟩
  · exact ⟨none, 0, by rw [hv, h0]⟩
  · exact ⟨_, _, hv⟩

/-- The slice value is one of the call's own, of terms. -/
def OwnT (w : World) (base : Nat) (v : Value) (ts : List Tm) : Prop := w.ownsRow base 61 1 v ts.length (ts.map Tm.val)

def RetTs (w : World) (ts : List Tm) (e : Ending) (w' : World) : Prop := ∃ v, e = .returned v ∧ OwnT w' w.heap.size v ts ∧ Below w.heap.size w w'

theorem retTs_lit {w w1 : World} (hb : Below w.heap.size w w1) (ts : List Tm) (cs : Array Value) (n : Nat) (hn : n = ts.length) (hm : n ≤ maxLen) (hc : cs.toList = ts.map Tm.val) (e : Ending)
    (he : e = .returned (.slice (some ⟨w1.heap.size, 0, none⟩) n n)) : RetTs w ts e (w1.alloc (.cells cs 61)) := by
  subst hn
  refine ⟨_, he, ?_, hb.alloc hb.size _⟩
  have h := World.ownsRow_lit (e := 61) (size := 1) w1 cs ts.length hb.size hm (by rw [← Array.length_toList, hc]; simp)
  rw [hc] at h
  exact h

set_option maxHeartbeats 400000 in
theorem number_below (v : Int) (w : World) : Calls Try.prog 101 #[.agg #[.int .i64 v]] w fun e w' => RetTs w [] e w' := by
  go_enter Try.func101, Try.ntmps101
  go_wp2
  go_ret
  exact ⟨_, rfl, World.ownsRow_nil _ _ _ _, (Below.refl _ _).alloc (Nat.le_refl _) _⟩

set_option maxHeartbeats 400000 in
theorem reading_below (v : Int) (w : World) : Calls Try.prog 103 #[.agg #[.int .i64 v]] w fun e w' => RetTs w [] e w' := by
  go_enter Try.func103, Try.ntmps103
  go_wp2
  go_ret
  exact ⟨_, rfl, World.ownsRow_nil _ _ _ _, (Below.refl _ _).alloc (Nat.le_refl _) _⟩

set_option maxHeartbeats 400000 in
theorem pair_below (k : Int) (l r : Tm) (w : World) : Calls Try.prog 105 #[.agg #[.int .i64 k, l.val, r.val]] w fun e w' => RetTs w [l, r] e w' := by
  obtain ⟨T1, x1, h1⟩ := l.val_form
  obtain ⟨T2, x2, h2⟩ := r.val_form
  rw [h1, h2]
  have H1 := Lib.hid h1
  have H2 := Lib.hid h2
  clear h1 h2
  go_enter Try.func105, Try.ntmps105
  go_wp2
  go_ret
  exact retTs_lit ((Below.refl _ _).alloc (Nat.le_refl _) _) _ _ 2 rfl (by unfold maxLen; omega) (by simp [H1.out, H2.out]) _ (by simp)

set_option maxHeartbeats 400000 in
theorem choice_below (t a b : Tm) (w : World) : Calls Try.prog 107 #[.agg #[t.val, a.val, b.val]] w fun e w' => RetTs w [t, a, b] e w' := by
  obtain ⟨T1, x1, h1⟩ := t.val_form
  obtain ⟨T2, x2, h2⟩ := a.val_form
  obtain ⟨T3, x3, h3⟩ := b.val_form
  rw [h1, h2, h3]
  have H1 := Lib.hid h1
  have H2 := Lib.hid h2
  have H3 := Lib.hid h3
  clear h1 h2 h3
  go_enter Try.func107, Try.ntmps107
  go_wp2
  go_ret
  exact retTs_lit ((Below.refl _ _).alloc (Nat.le_refl _) _) _ _ 3 rfl (by unfold maxLen; omega) (by simp [H1.out, H2.out, H3.out]) _ (by simp)

set_option maxHeartbeats 400000 in
theorem impl_wholeOf (A : Option Addr) (n c : Nat) (ps : List Pt) (B : Nat) (hn : n = ps.length) (hg : AllGood ps) (hs : n ≤ 2000000) (h1 : 1 ≤ n) (w : World) (hB : B ≤ w.heap.size) (h : PS w B A ps) :
    Calls Try.prog 50 #[.agg #[.slice A n c]] w fun e w' => RetT w (tmAt ps n (n - 1)) e w' := by
  have H := Lib.hid h
  have HN := Lib.hid hn
  have HG := Lib.hid hg
  clear h hn hg
  obtain ⟨m, rfl⟩ : ∃ m, n = m + 1 := ⟨n - 1, by omega⟩
  go_enter Try.func50, Try.ntmps50
  go_wp2_with fail
  refine (impl_termAt A (m + 1) c ps B HN.out HG.out hs (m + 1) m _ (by omega) (by omega) (by simp; omega) (H.out.alloc hB _)).mono ?_
  rintro e w1 ⟨T, x, rfl, hT, hb⟩
  have HT := Lib.hid hT
  clear hT
  go_wp2
  go_ret
  exact ⟨T, x, by simp, HT.out, ((Below.refl _ _).alloc (Nat.le_refl _) _).trans (hb.mono (by simp))⟩

theorem below_inv (t : Tm) : ∃ (T : TypeId) (x : Value) (fn : FuncId), t.val = .iface T x ∧ (∀ w, (method 218 T x "loop.example/signalgraph/impl.below").run Try.prog w = .ok (fn, x) w) ∧ (∀ w, (callFunc fn #[x]).run Try.prog w = .ok (.enter fn #[x]) w) ∧ ∀ w, Calls Try.prog fn #[x] w fun e w' => RetTs w t.kids e w' := by
  cases t with
  | num v => exact ⟨_, _, 101, rfl, fun w => by kernel_rfl, fun w => by kernel_rfl, fun w => number_below v w⟩
  | rd v => exact ⟨_, _, 103, rfl, fun w => by kernel_rfl, fun w => by kernel_rfl, fun w => reading_below v w⟩
  | pr k l r => exact ⟨_, _, 105, rfl, fun w => by kernel_rfl, fun w => by kernel_rfl, fun w => pair_below k l r w⟩
  | ch t a b => exact ⟨_, _, 107, rfl, fun w => by kernel_rfl, fun w => by kernel_rfl, fun w => choice_below t a b w⟩

set_option maxRecDepth 100000 in
set_option maxHeartbeats 1600000 in
theorem impl_deepest (D : Nat) : ∀ (t : Tm) (w : World), t.deep ≤ D → D ≤ 2000001 →
    Calls Try.prog 56 #[t.val] w fun e w' => e = .returned (.int .i64 (t.deep : Nat)) ∧ Below w.heap.size w w' := by
  induction D with
  | zero => intro t w ht; have := t.deep_kids; omega
  | succ D ih =>
    intro t w ht hD
    obtain ⟨T, x, fn, hv, hme, hcf, hbe⟩ := below_inv t
    rw [hv]
    have IH := Lib.hid ih
    have HBE := Lib.hid hbe
    have HDK := Lib.hid t.deep_kids
    have HTD := Lib.hid ht
    clear ih hbe hv ht
    have hk3 : t.kids.length ≤ 3 := by cases t <;> simp [Tm.kids]
    generalize hK : t.kids = ks at *
    generalize hd : t.deep = d at *
    clear hK hd
    go_enter Try.func56, Try.ntmps56
    go_wp2_with fail
    refine (HBE.out _).mono ?_
    rintro e w1 ⟨v, rfl, hown, hb1⟩
    obtain ⟨A2, c2, rfl⟩ := own_form hown
    clear hme hcf HBE
    have HO := Lib.hid hown
    have hks : ks.length ≤ 3 := hk3
    have hdk : ∀ t ∈ ks, t.deep ≤ D := by
      intro t ht
      have := le_foldl_max (ks.map Tm.deep) 0 t.deep (List.mem_map_of_mem ht)
      have := HDK.out
      have := HTD.out
      omega
    have HDD := Lib.hid hdk
    generalize hL : ks.length = L at *
    have HL := Lib.hid hL
    clear hown hL hk3 hdk
    go_wp2
    go_loopw [3, 9] (fun u i wr => ∃ m : Nat, m ≤ L ∧ i = .int .i64 m ∧ u = .int .i64 ((((ks.take m).map Tm.deep).foldl max 0 : Nat)) ∧ Hid (wr.ownsRow w.heap.size 61 1 (.slice A2 L c2) L (ks.map Tm.val)) ∧ Below w.heap.size w wr) (fun _ i _ => L - (intOf i).toNat)
    case atStart => exact ⟨0, Nat.zero_le _, rfl, rfl, by have := HO.out; rw [OwnT, HL.out] at this; exact this, hb1⟩
    case round =>
      clear HO
      obtain ⟨m, hm, rfl, rfl, HO, hb⟩ := hrel
      by_cases hml : m < L
      · obtain ⟨b, off, rfl, hbl, hc⟩ := (VS.of_own HO.out) (by have := HL.out; simp; omega)
        have hcm := hc m (by have := HL.out; simp; omega)
        have hcm' : wr.cell? ⟨b, off + m, none⟩ = some (ks.getD m default).val := by
          have hlm : m < ks.length := by have := HL.out; omega
          rw [hcm]; simp [List.getD, hlm]
        clear hc hcm
        have hdm : (ks.getD m default).deep ≤ D := HDD.out _ (getD_mem ks m (by have := HL.out; omega))
        have HTS := Lib.hid (show ks.take (m + 1) = ks.take m ++ [ks.getD m default] by
          have hlm : m < ks.length := by have := HL.out; omega
          rw [List.take_succ_eq_append_getElem hlm]; simp [List.getD, hlm])
        generalize hx : ks.getD m default = tm at *
        clear hx
        generalize hq : ((ks.take m).map Tm.deep).foldl max 0 = q at *
        have hqD : q ≤ 2000000 := by
          have := foldl_max_take ks m
          have := HDK.out
          have := HTD.out
          omega
        have HQ := Lib.hid hq
        clear hq
        go_wp2_with (go_at_call 56; refine (IH.out tm _ hdm (by omega)).mono ?_; rintro e w2 ⟨rfl, hb2⟩)
        go_roundw
        case rel =>
          have hmx : ((ks.take (m + 1)).map Tm.deep).foldl max 0 = max q tm.deep := by
            rw [HTS.out, List.map_append, List.foldl_append, HQ.out]; rfl
          refine ⟨m + 1, by omega, by go_num, ?_, own_below HO.out hb2, hb.trans (hb2.mono hb.size)⟩
          rw [hmx]
          split
          · rw [Nat.max_eq_right (by omega)]
          · rw [Nat.max_eq_left (by omega)]
        case measure => simp [intOf]; omega
      · have hmL : m = L := by omega
        have htk : ks.take m = ks := List.take_of_length_le (by have := HL.out; omega)
        rw [htk]
        have hdd : ((ks.map Tm.deep).foldl max 0) + 1 = d := HDK.out.symm
        generalize (ks.map Tm.deep).foldl max 0 = q at *
        have hq : q ≤ 2000000 := by have := HTD.out; omega
        have HD := Lib.hid hdd
        clear hdd htk
        go_wp2
        go_ret
        exact ⟨ret_i (by have := HD.out; (try simp); omega), hb⟩

set_option maxRecDepth 100000 in
set_option maxHeartbeats 1600000 in
theorem spec_deep (A : Option Addr) (n c : Nat) (ps : List Pt) (B : Nat) (hn : n = ps.length) (hg : AllGood ps) (hs : n ≤ 1999999) (f : Nat) (hfn : f ≤ n) :
    ∀ (i : Nat) (w : World), i < f → i < n → B ≤ w.heap.size → PS w B A ps →
    Calls Try.prog 55 #[.agg #[.slice A n c], .int .i64 i] w fun e w' => e = .returned (.int .i64 ((tmAt ps f i).deep : Nat)) ∧ Below w.heap.size w w' := by
  induction f with
  | zero => intro i w hi; omega
  | succ f ih =>
    intro i w hif hin hB h
    obtain ⟨b, off, rfl, hbB, hc⟩ := h (by omega)
    obtain ⟨c0, c1, c2, c3, c4⟩ := hc i (by omega)
    clear hc
    have hgi := hg i (by omega)
    have hkids := tmAt_kids ps f i hgi
    have hdeep := (tmAt ps (f + 1) i).deep_kids
    have hdle := tmAt_deep ps (f + 1) i
    rw [hkids, List.map_map] at hdeep
    replace hdeep : (tmAt ps (f + 1) i).deep = ((bel (ps.getD i default)).map fun b => (tmAt ps f b.toNat).deep).foldl max 0 + 1 := hdeep
    generalize (tmAt ps (f + 1) i).deep = d at *
    have H := Lib.hid h
    have IH := Lib.hid (ih (by omega))
    have HG := Lib.hid hg
    have HN := Lib.hid hn
    have HD := Lib.hid hdeep
    have hbw : b < w.heap.size := by omega
    clear h ih hg hn hdeep hkids
    generalize hp : ps.getD i default = p at *
    have HP := Lib.hid hp
    have HGI := Lib.hid hgi
    clear hp hgi
    go_enter Try.func55, Try.ntmps55
    go_wp2_with fail
    refine (spec_below p _).mono ?_
    rintro e w1 ⟨v, rfl, hown, hb1⟩
    obtain ⟨A2, cc, rfl, hI⟩ := hown.form
    have hbox : w1.cell? ⟨w.heap.size, 0, none⟩ = some (.slice (some ⟨b, off, none⟩) n c) := (hb1.cell (p := ⟨w.heap.size, 0, none⟩) (by simp)).trans (by go_simp)
    have HO := Lib.hid hown
    have HW1 := Lib.hid ((H.out.alloc hB _).below hb1 (by simp; omega))
    have hB1 : Below (w.heap.size) w w1 := ((Below.refl _ _).alloc (Nat.le_refl _) _).trans (hb1.mono (by simp))
    have hz1 : w.heap.size < w1.heap.size := by have := hb1.size; simp at this; omega
    clear c0 c1 c2 c3 c4 H hI hb1 hown
    generalize hL : (bel p).length = L at *
    have HL := Lib.hid hL
    have hL3 : L ≤ 3 := by rw [← hL]; exact bel_len p
    clear hL
    go_wp2
    go_loopw [5, 7] (fun u k wr => ∃ m : Nat, m ≤ L ∧ k = .int .i64 m ∧ u = .int .i64 (((((bel p).take m).map fun b => (tmAt ps f b.toNat).deep).foldl max 0 : Nat)) ∧ Hid (wr.ownsRow (w.heap.size + 1) 3 1 (.slice A2 L cc) L ((bel p).map (Value.int .i64))) ∧ Hid (Below w1.heap.size w1 wr)) (fun _ i _ => L - (intOf i).toNat)
    case atStart => exact ⟨0, Nat.zero_le _, rfl, rfl, by have := HO.out; simp only [OwnI, World.size_alloc] at this; rw [HL.out] at this; exact this, Below.refl _ _⟩
    case round =>
      clear HO
      obtain ⟨m, hm, rfl, rfl, HO, HB⟩ := hrel
      have hboxr : wr.cell? ⟨w.heap.size, 0, none⟩ = some (.slice (some ⟨b, off, none⟩) n c) := (HB.out.cell (p := ⟨w.heap.size, 0, none⟩) hz1).trans hbox
      by_cases hml : m < L
      · obtain ⟨b2, off2, rfl, hb2, hc2⟩ := (IS.of_own HO.out) (by have := HL.out; omega)
        have hx := hc2 m (by have := HL.out; omega)
        clear hc2
        obtain ⟨t, ht1, ht2⟩ : ∃ t : Nat, (bel p).getD m 0 = (t : Int) ∧ t < i := by
          have hmem : (bel p).getD m 0 ∈ bel p := by
            have hl : m < (bel p).length := by have := HL.out; omega
            simp [List.getD, hl]
          have := good_bel p i HGI.out _ hmem
          exact ⟨((bel p).getD m 0).toNat, by omega, by omega⟩
        rw [ht1] at hx
        have HTS := Lib.hid (take_succ_int (bel p) m t (by have := HL.out; omega) ht1)
        have hqle : (((bel p).take m).map fun b => (tmAt ps f b.toNat).deep).foldl max 0 ≤ 2000000 := by
          have h1 : (((bel p).take m).map fun b => (tmAt ps f b.toNat).deep).foldl max 0 ≤ ((bel p).map fun b => (tmAt ps f b.toNat).deep).foldl max 0 := by
            conv => rhs; rw [← List.take_append_drop m (bel p)]
            rw [List.map_append, List.foldl_append]
            exact foldl_max_mono _ _
          have := HD.out
          omega
        have hdt := tmAt_deep ps f t
        generalize hq : (((bel p).take m).map fun b => (tmAt ps f b.toNat).deep).foldl max 0 = q at *
        have HQ := Lib.hid hq
        have HT1 := Lib.hid ht1
        have HW2 := Lib.hid (HW1.out.below HB.out (by omega))
        have hzr : w1.heap.size ≤ wr.heap.size := HB.out.size
        have hIHt := IH.out t
        have hIH := Lib.hid hIHt
        clear hq ht1 hbox HW1 hIHt IH
        go_wp2
        go_region_held3 (fun w' => w'.cell? ⟨w.heap.size, 0, none⟩ = some (.slice (some ⟨b, off, none⟩) n c) ∧ w'.cell? ⟨b2, off2 + m, none⟩ = some (.int .i64 t)) (first | exact ⟨hboxr, hx⟩ | exact ⟨hboxr', hx'⟩)
          (first
            | (go_at_call 55; refine (hIH.out wr.drew (by omega) (by omega) (by show B ≤ wr.heap.size; omega) (show PS wr.drew B _ ps from HW2.out)).mono ?_; rintro e w2 ⟨rfl, hb2'⟩; have hb3 : Below wr.heap.size wr w2 := below_of_drew hb2'; clear hb2'; have hboxr' := (hb3.cell (p := ⟨w.heap.size, 0, none⟩) (by show w.heap.size < wr.heap.size; omega)).trans hboxr; have hx' := (hb3.cell (p := ⟨b2, off2 + m, none⟩) hb2).trans hx))
        go_wp2
        go_roundw
        case rel =>
          have hmx : (((bel p).take (m + 1)).map fun b => (tmAt ps f b.toNat).deep).foldl max 0 = max q (tmAt ps f t).deep := by
            rw [HTS.out, List.map_append, List.foldl_append, HQ.out]; rfl
          refine ⟨m + 1, by omega, by go_num, ?_, own_below HO.out hb3, HB.out.trans (hb3.mono hzr)⟩
          rw [hmx]
          split
          · rw [Nat.max_eq_right (by omega)]
          · rw [Nat.max_eq_left (by omega)]
        case measure => simp [intOf]; omega
      · have hmL : m = L := by omega
        have htk : (bel p).take m = bel p := List.take_of_length_le (by have := HL.out; omega)
        rw [htk]
        have hdd := HD.out
        generalize ((bel p).map fun b => (tmAt ps f b.toNat).deep).foldl max 0 = q at *
        have hq : q ≤ 2000000 := by omega
        have HDD := Lib.hid hdd
        clear hdd htk
        go_wp2
        go_ret
        exact ⟨ret_i (by have := HDD.out; (try simp); omega), hB1.trans (HB.out.mono (by omega))⟩

/-- The depth that DeepOf tells. -/
def deepF (ps : List Pt) : Int := if validF ps then ((tmAt ps ps.length (ps.length - 1)).deep : Int) else -1

theorem validF_good (ps : List Pt) (h : validF ps = true) : AllGood ps ∧ 1 ≤ ps.length ∧ ps.length ≤ 12 := by
  unfold validF rng at h
  simp only [Bool.and_eq_true, decide_eq_true_eq] at h
  exact ⟨h.1.1, by omega, by omega⟩

set_option maxHeartbeats 400000 in
theorem spec_DeepOf (A : Option Addr) (n c : Nat) (ps : List Pt) (w : World) (B : Nat) (hB : B ≤ w.heap.size) (hn : n = ps.length) (h : PS w B A ps) (hs : n ≤ 1999999) :
    Calls Try.prog 28 #[.agg #[.slice A n c]] w fun e w' => e = .returned (.int .i64 (deepF ps)) ∧ Below w.heap.size w w' := by
  have H := Lib.hid h
  have HN := Lib.hid hn
  clear h hn
  cases hv : validF ps
  · have hd : deepF ps = -1 := by simp [deepF, hv]
    rw [hd]
    have HV := Lib.hid hv
    clear hd hv
    go_enter Try.func28, Try.ntmps28
    go_wp2_with fail
    refine (spec_validFormula _ _ _ ps _ B (by simp; omega) HN.out (H.out.alloc hB _) (by omega)).mono ?_
    rintro e w1 ⟨rfl, hb⟩
    rw [HV.out]
    go_wp2
    go_ret
    exact ⟨rfl, ((Below.refl _ _).alloc (Nat.le_refl _) _).trans (hb.mono (by simp))⟩
  · obtain ⟨hg, h1, h12⟩ := validF_good ps hv
    have hd : deepF ps = ((tmAt ps n (n - 1)).deep : Int) := by rw [deepF, if_pos hv, HN.out]
    rw [hd]
    have h1' : 1 ≤ n := by have := HN.out; omega
    obtain ⟨m, rfl⟩ : ∃ m, n = m + 1 := ⟨n - 1, by omega⟩
    have HV := Lib.hid hv
    have HG := Lib.hid hg
    clear hd hv hg h1 h12 h1'
    go_enter Try.func28, Try.ntmps28
    go_wp2_with fail
    refine (spec_validFormula _ _ _ ps _ B (by simp; omega) HN.out (H.out.alloc hB _) (by omega)).mono ?_
    rintro e w1 ⟨rfl, hb⟩
    rw [HV.out]
    have hbox : w1.cell? ⟨w.heap.size, 0, none⟩ = some (.slice A (m + 1) c) := (hb.cell (p := ⟨w.heap.size, 0, none⟩) (by simp)).trans (by go_simp)
    have HW := Lib.hid ((H.out.alloc hB _).below hb (by simp; omega))
    go_wp2_with fail
    refine (spec_deep A (m + 1) c ps B HN.out HG.out hs (m + 1) (Nat.le_refl _) m _ (by omega) (by omega) (by have := hb.size; simp at this; omega) HW.out).mono ?_
    rintro e w2 ⟨rfl, hb2⟩
    go_wp2
    go_ret
    exact ⟨by simp, ((Below.refl _ _).alloc (Nat.le_refl _) _).trans ((hb.trans (hb2.mono hb.size)).mono (by simp))⟩

set_option maxHeartbeats 400000 in
theorem impl_DeepOf (A : Option Addr) (n c : Nat) (ps : List Pt) (w : World) (B : Nat) (hB : B ≤ w.heap.size) (hn : n = ps.length) (h : PS w B A ps) (hs : n ≤ 1999999) :
    Calls Try.prog 29 #[.agg #[.slice A n c]] w fun e w' => e = .returned (.int .i64 (deepF ps)) ∧ Below w.heap.size w w' := by
  have H := Lib.hid h
  have HN := Lib.hid hn
  clear h hn
  cases hv : validF ps
  · have hd : deepF ps = -1 := by simp [deepF, hv]
    rw [hd]
    have HV := Lib.hid hv
    clear hd hv
    go_enter Try.func29, Try.ntmps29
    go_wp2_with fail
    refine (impl_ValidFormula _ _ _ ps _ B (by simp; omega) HN.out (H.out.alloc hB _) (by omega)).mono ?_
    rintro e w1 ⟨rfl, hb⟩
    rw [HV.out]
    go_wp2
    go_ret
    exact ⟨rfl, ((Below.refl _ _).alloc (Nat.le_refl _) _).trans (hb.mono (by simp))⟩
  · obtain ⟨hg, h1, h12⟩ := validF_good ps hv
    have hd : deepF ps = ((tmAt ps n (n - 1)).deep : Int) := by rw [deepF, if_pos hv, HN.out]
    rw [hd]
    have h1' : 1 ≤ n := by have := HN.out; omega
    have HV := Lib.hid hv
    have HG := Lib.hid hg
    clear hd hv hg h1 h12
    go_enter Try.func29, Try.ntmps29
    go_wp2_with fail
    refine (impl_ValidFormula _ _ _ ps _ B (by simp; omega) HN.out (H.out.alloc hB _) (by omega)).mono ?_
    rintro e w1 ⟨rfl, hb⟩
    rw [HV.out]
    have hbox : w1.cell? ⟨w.heap.size, 0, none⟩ = some (.slice A n c) := (hb.cell (p := ⟨w.heap.size, 0, none⟩) (by simp)).trans (by go_simp)
    have HW := Lib.hid ((H.out.alloc hB _).below hb (by simp; omega))
    go_wp2_with fail
    refine (impl_wholeOf A n c ps B HN.out HG.out (by omega) h1' _ (by have := hb.size; simp at this; omega) HW.out).mono ?_
    rintro e w2 ⟨T, x, rfl, hT, hb2⟩
    have HT := Lib.hid hT
    clear hT
    go_wp2_with fail
    rw [← HT.out]
    have hle := tmAt_deep ps n (n - 1)
    refine (impl_deepest (n + 1) _ _ hle (by omega)).mono ?_
    rintro e w3 ⟨rfl, hb3⟩
    go_wp2
    go_ret
    exact ⟨by simp, ((Below.refl _ _).alloc (Nat.le_refl _) _).trans (((hb.trans (hb2.mono hb.size)).trans (hb3.mono (Nat.le_trans hb.size hb2.size))).mono (by simp))⟩
end Go.Proofs.Yteeljfblncffpaa
