/- Words and contracts for memory that the texts behind use. -/
import Derived.Test.YtjhpknnhgbdkiaaP0a
import Derived.Test.YtjhpknnhgbdkiaaP1a
import Derived.Test.YtjhpknnhgbdkiaaP2a
import Derived.Test.YtjhpknnhgbdkiaaP3a
import Derived.Test.YtjhpknnhgbdkiaaP4a
import Derived.WalkKit
import Derived.Laws.OwnMore
import Derived.Deep.Draws
import Derived.Test.YtjhpknnhgbdkiaaProg
import Derived.WalkSpells
import Derived.WalkLawsBesides
import Derived.Outline
import Derived.Lib.Hide
import Derived.BigQuiet
import Derived.Deep.QuietTactic
import Derived.StillTailTactics
import Derived.Deep.LoopGhost
import Derived.Laws.MakeOwn
import Derived.WalkSmall
import Derived.RegionTactic
import Derived.BigRegion
import Derived.Deep.RegionWith
import Derived.Deep.RegionHeld3
import Derived.Maps.AppendAt
import Derived.Laws.CopyOwn
import Derived.Deep.Cut
import Derived.Laws.Entries
import Derived.Laws.Bits64
import Derived.IntWalk
import Derived.Deep.RegionLaw
import Derived.Deep.AppendLies
import Derived.Deep.DeepCutAuto
import Derived.ArgAppend

namespace Go.Proofs.Ytjhpknnhgbdkiaa
set_option linter.unusedSimpArgs false
set_option linter.unusedVariables false
open Go.RowKit
theorem ret_i {a b : Int} (h : a = b) : Ending.returned (.int .i64 a) = .returned (.int .i64 b) := by rw [h]
end Go.Proofs.Ytjhpknnhgbdkiaa

namespace Go.Proofs.Ytjhpknnhgbdkiaa
set_option linter.unusedSimpArgs false
set_option linter.unusedVariables false
open Go.RowKit
theorem grown_setCell0 (w : World) (g j : Nat) (x : Value) : w.grownBy (w.setCell ⟨g, j, none⟩ x) (some g) :=
  ⟨rfl, rfl, rfl, by simp [World.setCell], fun k hk hr => Below.heap_setCell _ _ _ _ (by intro e; exact hr (by rw [e]))⟩
theorem Tch.of_grown {a b : Nat} {w w' : World} {row : Option Nat} (h : w.grownBy w' row) (hr : ∀ k, row = some k → a ≤ k ∧ k < b) : Tch a b w w' :=
  ⟨h.os, h.tape, h.output, h.size, fun k hk ho => h.block k hk fun e => by have := hr k e.symm; omega⟩
end Go.Proofs.Ytjhpknnhgbdkiaa

namespace Go.Proofs.Ytjhpknnhgbdkiaa
set_option linter.unusedSimpArgs false
set_option linter.unusedVariables false
open Go.RowKit
theorem rowO_one (d : On) (i : Nat) : rowO [d] i = if i = 0 then d.cl else if i = 1 then d.cx else [] := by
  unfold rowO
  match i with
  | 0 => rfl
  | 1 => rfl
  | i + 2 =>
    have h2 : (i + 2) / 2 = i / 2 + 1 := by omega
    have e : ([d] : List On).getD (i / 2 + 1) default = default := by simp [List.getD]
    rw [h2, e]
    simp only [if_neg (show ¬ i + 2 = 0 by omega), if_neg (show ¬ i + 2 = 1 by omega)]
    split <;> rfl
/-- A list of one owner that was just made. -/
theorem OwO.single {lo mid : Nat} {w : World} {d : On} {A A' : Option Addr} {m c m' c' : Nat} (h1 : OwR lo mid 3 1 (.slice A m c) m (d.cl.map (Value.int .i64)) w) (hm : m = d.cl.length) (h2 : OwR mid w.heap.size 3 1 (.slice A' m' c') m' (d.cx.map (Value.int .i64)) w) (hm' : m' = d.cx.length) (hlo : lo ≤ mid) (hmid : mid ≤ w.heap.size) :
    OwO lo (w.alloc (.cells #[.int .i64 d.p, .bool d.o, .slice A m c, .slice A' m' c'] 32)).heap.size (.slice (some ⟨w.heap.size, 0, none⟩) 1 1) 1 [d] (w.alloc (.cells #[.int .i64 d.p, .bool d.o, .slice A m c, .slice A' m' c'] 32)) := by
  have hl := World.ownsRow_lit (e := 32) (size := 4) (base := lo) w #[.int .i64 d.p, .bool d.o, .slice A m c, .slice A' m' c'] 1 (by omega) (by unfold maxLen; omega) rfl
  refine ⟨rfl, _, [.slice A m c, .slice A' m' c'], OwR.start hl, rfl, ?_, ?_⟩
  · intro j hj
    obtain rfl : j = 0 := by simpa using hj
    exact ⟨rfl, rfl, rfl, rfl⟩
  · have k1 := h1.keep (w' := w.alloc (.cells #[.int .i64 d.p, .bool d.o, .slice A m c, .slice A' m' c'] 32)) fun k _ hk => ((Below.refl w.heap.size w).alloc (Nat.le_refl _) _).block k (by omega)
    have k2 := h2.keep (w' := w.alloc (.cells #[.int .i64 d.p, .bool d.o, .slice A m c, .slice A' m' c'] 32)) fun k _ hk => ((Below.refl w.heap.size w).alloc (Nat.le_refl _) _).block k hk
    refine SSk.two (mid := mid) ?_ ?_ ?_ ?_ hlo (by simp; omega)
    · rw [rowOfO, rowO_one, if_pos rfl]; exact k1
    · rw [rowOfO, rowO_one, if_neg (by omega), if_pos rfl]; exact k2.mono (Nat.le_refl _) (by simp)
    · rw [lenOfO, rowO_one, if_pos rfl]; exact hm
    · rw [lenOfO, rowO_one, if_neg (by omega), if_pos rfl]; exact hm'
end Go.Proofs.Ytjhpknnhgbdkiaa

namespace Go.Proofs.Ytjhpknnhgbdkiaa
set_option linter.unusedSimpArgs false
set_option linter.unusedVariables false
open Go.RowKit
set_option maxRecDepth 100000 in
set_option maxHeartbeats 800000 in
theorem top_spec_NewOwners (xs : List Int) (hL : xs.length ≤ 1048576) : ∀ (A : Option Addr) (n c : Nat) (w : World), n = xs.length → IS w w.heap.size A xs →
    Calls Try.prog 62 #[.slice A n c] w fun e w' => RetO w (newF xs) e w' := by
  intro A n c w hn h
  have HA := Lib.hid (spec_allIn A n c xs (-1) 50 w w.heap.size (Nat.le_refl _) hn h (by omega))
  have HC := Lib.hid (spec_copyIntsA A n c xs w w.heap.size (Nat.le_refl _) hn h (by omega))
  unfold newF
  by_cases h3 : n = 3
  case neg =>
    have hx : ctxOK xs = false := by unfold ctxOK; rw [decide_eq_false (by omega)]; rfl
    have hne : ((n : Int) != 3) = true := by simp; omega
    rw [hx]
    clear hx hn h HC HA h3
    simp only [Bool.false_eq_true, if_false]
    go_enter Try.func62, Try.ntmps62
    go_wp2
    go_ret
    exact RetO.nil (Below.refl _ _)
  have hne : ((n : Int) != 3) = false := by simp; omega
  have hx : ctxOK xs = allR xs (-1) 50 := by unfold ctxOK; rw [decide_eq_true (by omega)]; rfl
  rw [hx]
  have HN := Lib.hid hn
  clear hx hn h h3
  cases ha : allR xs (-1) 50
  · rw [ha] at HA
    clear ha HC
    simp only [Bool.false_eq_true, if_false]
    go_enter Try.func62, Try.ntmps62
    go_wp2_with fail
    refine HA.out.mono ?_
    rintro e w1 ⟨rfl, rfl⟩
    go_wp2
    go_ret
    exact RetO.nil (Below.refl _ _)
  · rw [ha] at HA
    clear ha
    simp only [if_true]
    go_enter Try.func62, Try.ntmps62
    go_wp2_with fail
    refine HA.out.mono ?_
    rintro e w1 ⟨rfl, rfl⟩
    go_wp2_with fail
    refine HC.out.mono ?_
    rintro e w1 ⟨g, cap, rfl, ho, hb⟩
    have HO := Lib.hid ho
    have HB := Lib.hid hb
    clear ho hb HC HA
    go_wp2
    go_ret
    exact ⟨_, rfl, OwO.single (d := ⟨-1, true, [], xs⟩) (lo := w.heap.size) (mid := w.heap.size) (OwR.nil _ _ _ _ _) rfl (OwR.start HO.out) HN.out (Nat.le_refl _) HB.out.size, HB.out.alloc HB.out.size _⟩
end Go.Proofs.Ytjhpknnhgbdkiaa

namespace Go.Proofs.Ytjhpknnhgbdkiaa
set_option linter.unusedSimpArgs false
set_option linter.unusedVariables false
open Go.RowKit
/-- One of the lists grew by an append. -/
theorem SSk.grow {lo hi J m' c' : Nat} {vs : List Value} {lens lens' : Nat → Nat} {cont cont' : Nat → List Value} {w w' : World} {X : Value} {A' : Option Addr} {ys : List Value} (h : SSk lo hi vs lens cont w) (hle : hi ≤ w.heap.size) (hJ : vs[J]? = some X) (hg : w.grownBy w' X.ownBlock)
    (hv : w'.ownsRow lo 3 1 (.slice A' m' c') m' ys) (hb : (Value.slice A' m' c').ownBlock = X.ownBlock ∨ (Value.slice A' m' c').ownBlock = some w.heap.size) (hl : lens' J = m') (hc : cont' J = ys) (ho : ∀ j, j ≠ J → lens' j = lens j ∧ cont' j = cont j) : SSk lo w'.heap.size (vs.set J (.slice A' m' c')) lens' cont' w' := by
  have hJl : J < vs.length := by
    rcases Nat.lt_or_ge J vs.length with h1 | h1
    · exact h1
    · rw [List.getElem?_eq_none h1] at hJ; cases hJ
  have hw := hg.size
  have hother (j : Nat) (hj : j ≠ J) (u : Value) (hu : vs[j]? = some u) (q : Nat) (hq : u.ownBlock = some q) : q < w.heap.size ∧ X.ownBlock ≠ some q := by
    refine ⟨by have := (h.lt j u q hu hq).2; omega, fun hx => ?_⟩
    exact h.apart j J u X q hj hu hJ hq hx
  refine ⟨fun j hj => ?_, fun i j v u q hij hi hj hvq huq => ?_⟩
  · by_cases e : j = J
    · subst e
      exact ⟨A', m', c', by rw [List.getElem?_set, if_pos rfl, if_pos hJl], hl.symm, by rw [hc]; exact OwR.start hv⟩
    · obtain ⟨A, m, c, e1, e2, e3⟩ := h.row j (by simpa using hj)
      obtain ⟨o1, o2⟩ := ho j e
      refine ⟨A, m, c, by rw [List.getElem?_set, if_neg (fun h => e h.symm)]; exact e1, by rw [o1]; exact e2, ?_⟩
      rw [o2]
      refine ⟨e3.1.kept hg ?_, fun q hq => by have := e3.2 q hq; omega⟩
      cases hb2 : (Value.slice A m c).ownBlock with
      | none => exact .inl rfl
      | some q => exact .inr fun hx => (hother j e _ e1 q hb2).2 hx.symm
  · by_cases ei : i = J
    · subst ei
      rw [List.getElem?_set, if_pos rfl, if_pos hJl] at hi
      cases hi
      rw [List.getElem?_set, if_neg hij] at hj
      have := hother j (fun h => hij h.symm) u hj q huq
      rcases hb with hb | hb
      · rw [hb] at hvq; exact this.2 hvq
      · rw [hb] at hvq; simp only [Option.some.injEq] at hvq; omega
    · rw [List.getElem?_set, if_neg (fun h => ei h.symm)] at hi
      by_cases ej : j = J
      · subst ej
        rw [List.getElem?_set, if_pos rfl, if_pos hJl] at hj
        cases hj
        have := hother i ei v hi q hvq
        rcases hb with hb | hb
        · rw [hb] at huq; exact this.2 huq
        · rw [hb] at huq; simp only [Option.some.injEq] at huq; omega
      · rw [List.getElem?_set, if_neg (fun h => ej h.symm)] at hj
        exact h.apart i j v u q hij hi hj hvq huq
/-- One list of one owner was replaced. -/
theorem OwO.field {lo hi top n cap g k e : Nat} {ds : List On} {d' : On} {w : World} {xs us : List Value} {X : Value} (he : e < 2) (hn : n = ds.length) (hr : OwR lo hi 32 4 (.slice (some ⟨g, 0, none⟩) n cap) n xs w) (hul : us.length = n * 2) (hf : OwF xs us ds) (hk : k < n)
    (hs : SSk lo top (us.set (k * 2 + e) X) (lenOf (rowsO (ds.set k d'))) (rowOf (rowsO (ds.set k d'))) w) (hp : d'.p = (ds.getD k default).p) (ho : d'.o = (ds.getD k default).o) (hle : hi ≤ top) :
    OwO lo top (.slice (some ⟨g, 0, none⟩) n cap) n (ds.set k d') (w.setCell ⟨g, k * 4 + 2 + e, none⟩ X) := by
  have hxl : xs.length = n * 4 := hr.1.1
  have hst := hr.1.stored (k * 4 + 2 + e) X
  have hkl : k < ds.length := by omega
  refine ⟨by simpa using hn, _, _, ⟨hst.1, fun q hq => Nat.lt_of_lt_of_le (hr.2 q hq) hle⟩, by simpa using hul, fun j hj => ?_, hs.grown hst.2 (hs.ne hr.1 owner_ne_int.symm)⟩
  have hj' : j < ds.length := by simpa using hj
  obtain ⟨f0, f1, f2, f3⟩ := hf j hj'
  rw [getD_set ds k j d' hkl]
  have a0 : (xs.set (k * 4 + 2 + e) X)[j * 4]? = xs[j * 4]? := by rw [List.getElem?_set, if_neg (by omega)]
  have a1 : (xs.set (k * 4 + 2 + e) X)[j * 4 + 1]? = xs[j * 4 + 1]? := by rw [List.getElem?_set, if_neg (by omega)]
  rw [a0, a1]
  have hpo : (if j = k then d' else ds.getD j default).p = (ds.getD j default).p ∧ (if j = k then d' else ds.getD j default).o = (ds.getD j default).o := by
    by_cases ej : j = k
    · subst ej; rw [if_pos rfl]; exact ⟨hp, ho⟩
    · rw [if_neg ej]; exact ⟨rfl, rfl⟩
  rw [hpo.1, hpo.2]
  refine ⟨f0, f1, ?_, ?_⟩
  · rw [List.getElem?_set, List.getElem?_set]
    by_cases e2 : k * 4 + 2 + e = j * 4 + 2
    · rw [if_pos e2, if_pos (by omega), if_pos (by omega), if_pos (by omega)]
    · rw [if_neg e2, if_neg (by omega)]; exact f2
  · rw [List.getElem?_set, List.getElem?_set]
    by_cases e2 : k * 4 + 2 + e = j * 4 + 3
    · rw [if_pos e2, if_pos (by omega), if_pos (by omega), if_pos (by omega)]
    · rw [if_neg e2, if_neg (by omega)]; exact f3
/-- One number of one list was written. -/
theorem SSk.put1 {lo hi J g m cap j : Nat} {vs : List Value} {lens : Nat → Nat} {cont cont' : Nat → List Value} {w : World} {x : Value} (h : SSk lo hi vs lens cont w) (hJ : vs[J]? = some (.slice (some ⟨g, 0, none⟩) m cap)) (hc : cont' J = (cont J).set j x) (ho : ∀ i, i ≠ J → cont' i = cont i) : SSk lo hi vs lens cont' (w.setCell ⟨g, j, none⟩ x) := by
  refine ⟨fun i hi => ?_, h.apart⟩
  obtain ⟨A, m', c, e1, e2, e3⟩ := h.row i hi
  by_cases e : i = J
  · subst e
    rw [hJ] at e1
    cases e1
    refine ⟨_, _, _, hJ, e2, ?_⟩
    rw [hc]
    exact ⟨(e3.1.stored j x).1, e3.2⟩
  · refine ⟨A, m', c, e1, e2, ?_⟩
    rw [ho i e]
    obtain ⟨A2, m2, c2, k1, k2, k3⟩ := h.row J (by
      rcases Nat.lt_or_ge J vs.length with h1 | h1
      · exact h1
      · rw [List.getElem?_eq_none h1] at hJ; cases hJ)
    rw [hJ] at k1
    cases k1
    refine ⟨e3.1.kept (k3.1.stored j x).2 ?_, e3.2⟩
    cases hb : (Value.slice A m' c).ownBlock with
    | none => exact .inl rfl
    | some q => exact .inr fun hx => h.apart i J _ _ q e e1 hJ hb hx.symm
/-- Returns owners in fresh blocks, and a bool. -/
def RetOB (w : World) (ds : List On) (b : Bool) (e : Ending) (w' : World) : Prop := ∃ v, e = .returned (.tuple #[v, .bool b]) ∧ OwO w.heap.size w'.heap.size v ds.length ds w' ∧ Below w.heap.size w w'
theorem RetOB.nil {w w' : World} (hb : Below w.heap.size w w') : RetOB w [] false (.returned (.tuple #[.slice none 0 0, .bool false])) w' := ⟨_, rfl, OwO.nil _ _ _, hb⟩
theorem rowO_set (ds : List On) (k : Nat) (d : On) (hk : k < ds.length) (i : Nat) : rowO (ds.set k d) i = if i = k * 2 then d.cl else if i = k * 2 + 1 then d.cx else rowO ds i := by
  unfold rowO
  rw [getD_set ds k (i / 2) d hk]
  by_cases e1 : i / 2 = k
  · rw [if_pos e1]
    by_cases e2 : i % 2 = 0
    · rw [if_pos e2, if_pos (by omega)]
    · rw [if_neg e2, if_neg (by omega), if_pos (by omega)]
  · have e3 : ¬ i = k * 2 := by omega
    have e4 : ¬ i = k * 2 + 1 := by omega
    simp only [if_neg e1, if_neg e3, if_neg e4]
theorem okO_len2 {ds : List On} (h : validO ds = true) (i : Nat) (hi : i < ds.length) : (ds.getD i default).cx.length = 3 := by
  have h1 := (validO_ok h).2.2 i hi
  unfold okO okD clOK ctxOK at h1
  simp only [Bool.and_eq_true, decide_eq_true_eq] at h1
  omega
end Go.Proofs.Ytjhpknnhgbdkiaa

namespace Go.Proofs.Ytjhpknnhgbdkiaa
set_option linter.unusedSimpArgs false
set_option linter.unusedVariables false
open Go.RowKit
/-- The slice at A reads as the bytes bs; it lies below block B. -/
def BS (w : World) (B : Nat) (A : Option Addr) (bs : List Int) : Prop :=
  0 < bs.length → ∃ b off, A = some ⟨b, off, none⟩ ∧ b < B ∧ ∀ j, j < bs.length → w.cell? ⟨b, off + j, none⟩ = some (.int .u8 (bs.getD j 0))
theorem BS.keep {w w' : World} {B : Nat} {A : Option Addr} {xs : List Int} (h : BS w B A xs) (hk : ∀ p : Addr, p.block < B → w'.cell? p = w.cell? p) : BS w' B A xs := by
  intro hn
  obtain ⟨b, off, e, hb, hc⟩ := h hn
  exact ⟨b, off, e, hb, fun j hj => (hk _ hb).trans (hc j hj)⟩
theorem BS.more {w : World} {B B' : Nat} {A : Option Addr} {xs : List Int} (h : BS w B A xs) (hB : B ≤ B') : BS w B' A xs := by
  intro hn
  obtain ⟨b, off, e, hb, hc⟩ := h hn
  exact ⟨b, off, e, by omega, hc⟩
def BY (bs : List Int) : Prop := ∀ j, 0 ≤ bs.getD j 0 ∧ bs.getD j 0 ≤ 255
/-- The reader lies in block g; it has picked at most P times. -/
structure Rdr (g : Nat) (A : Option Addr) (n c : Nat) (bs : List Int) (P : Nat) (w : World) : Prop where
  lt : g < w.heap.size
  c0 : w.cell? ⟨g, 0, none⟩ = some (.slice A n c)
  pos : ∃ p : Nat, p ≤ P ∧ w.cell? ⟨g, 1, none⟩ = some (.int .i64 p)
  fz : w.frozen? ⟨g, 1, none⟩ = false
  by_ : BS w g A bs
section
variable {g : Nat} {A : Option Addr} {n c : Nat} {bs : List Int} {P P' : Nat} {w w' : World}
theorem Rdr.mono (h : Rdr g A n c bs P w) (hP : P ≤ P') : Rdr g A n c bs P' w := ⟨h.lt, h.c0, h.pos.imp fun p hp => ⟨Nat.le_trans hp.1 hP, hp.2⟩, h.fz, h.by_⟩
theorem Rdr.step (h : Rdr g A n c bs P w) (hb : Below w.heap.size w w') : Rdr g A n c bs P w' :=
  ⟨Nat.lt_of_lt_of_le h.lt hb.size, (hb.cell (p := ⟨g, 0, none⟩) h.lt).trans h.c0, h.pos.imp fun p hp => ⟨hp.1, (hb.cell (p := ⟨g, 1, none⟩) h.lt).trans hp.2⟩, (hb.frozen (p := ⟨g, 1, none⟩) h.lt).trans h.fz, h.by_.keep fun q hq => hb.cell (Nat.lt_trans hq h.lt)⟩
theorem Rdr.alloc (h : Rdr g A n c bs P w) (o : Obj) : Rdr g A n c bs P (w.alloc o) := h.step ((Below.refl _ _).alloc (Nat.le_refl _) o)
end
theorem bits_xor_i64_nat (a b : Nat) (ha : a < 4611686018427387904) (hb : b < 4611686018427387904) : bits .xor .i64 (a : Int) (b : Int) = ((a ^^^ b : Nat) : Int) := by
  have hx : a ^^^ b < 2 ^ 62 := Nat.xor_lt_two_pow (by omega) (by omega)
  have h1 : (BitVec.ofInt 64 (a : Int)).toNat = a := by
    rw [BitVec.ofInt_natCast, BitVec.toNat_ofNat]; exact Nat.mod_eq_of_lt (by omega)
  have h2 : (BitVec.ofInt 64 (b : Int)).toNat = b := by
    rw [BitVec.ofInt_natCast, BitVec.toNat_ofNat]; exact Nat.mod_eq_of_lt (by omega)
  show IntKind.i64.wrap ((BitVec.ofInt 64 (a : Int) ^^^ BitVec.ofInt 64 (b : Int)).toNat : Int) = _
  rw [BitVec.toNat_xor, h1, h2, IntKind.wrap_i64]
  omega
theorem drewN_below0 {B n : Nat} {a w : World} (h : Below B a w) : Below B a (w.drewN n) := ⟨h.os, h.tape, h.output, h.size, h.block⟩
/-- A number below n, if n is not 0; the reader has picked once more. -/
def PkP (g : Nat) (A : Option Addr) (n c : Nat) (bs : List Int) (P : Nat) (m : Int) (w : World) (e : Ending) (w' : World) : Prop :=
  ∃ x : Nat, e = .returned (.int .i64 x) ∧ (1 ≤ m → (x : Int) < m) ∧ (m < 1 → x = 0) ∧ Rdr g A n c bs (P + 1) w' ∧ Tch g (g + 1) w w'
theorem Rdr.picked {g : Nat} {A : Option Addr} {n c p P : Nat} {bs : List Int} {w : World} (h : Rdr g A n c bs P w) (hp : p ≤ P) (hc : w.cell? ⟨g, 1, none⟩ = some (.int .i64 p)) :
    Rdr g A n c bs (P + 1) (w.setCell ⟨g, 1, none⟩ (.int .i64 (p + 1))) ∧ Tch g (g + 1) w (w.setCell ⟨g, 1, none⟩ (.int .i64 (p + 1))) := by
  have hg := grown_setCell0 w g 1 (.int .i64 ((p : Int) + 1))
  refine ⟨⟨by simpa [World.setCell] using h.lt, ?_, ⟨p + 1, by omega, ?_⟩, by simpa using h.fz, ?_⟩, Tch.of_grown hg fun k hk => by cases hk; omega⟩
  · rw [World.cell?_setCell_other _ _ _ _ (by intro e; simp at e)]; exact h.c0
  · rw [World.cell?_setCell_same _ _ _ hc]; simp
  · exact h.by_.keep fun q hq => World.cell?_of_block (hg.block q.block (Nat.lt_trans hq h.lt) (by intro e; cases e; omega))
set_option maxRecDepth 100000 in
set_option maxHeartbeats 3200000 in
theorem pick_any (g : Nat) (A : Option Addr) (n c : Nat) (bs : List Int) (P : Nat) (m : Int) (w : World) (h : Rdr g A n c bs P w) (hn : n = bs.length) (hby : BY bs) (hs : n ≤ 2000) (hP : P ≤ 1000000) (hm : m ≤ 1000000) :
    Calls Try.prog 54 #[.pointer (some ⟨g, 0, none⟩), .int .i64 m] w fun e w' => PkP g A n c bs P m w e w' := by
  obtain ⟨p, hp, hc1⟩ := h.pos
  have hc0 := h.c0
  have hf := h.fz
  have HP := Lib.hid (h.picked hp hc1)
  have H := Lib.hid h
  have HN := Lib.hid hn
  have HBY := Lib.hid hby
  clear h hn hby
  by_cases hm1 : m < 1
  · go_enter Try.func54, Try.ntmps54
    go_wp2
    go_ret
    exact ⟨0, rfl, by omega, fun _ => rfl, HP.out.1, HP.out.2⟩
  by_cases hn0 : n = 0
  · have hz : ((n : Int) == 0) = true := by simp [hn0]
    clear hn0
    go_enter Try.func54, Try.ntmps54
    go_wp2
    go_ret
    exact ⟨0, rfl, by omega, fun _ => rfl, HP.out.1, HP.out.2⟩
  have hz : ((n : Int) == 0) = false := by simp; omega
  obtain ⟨b, off, rfl, hb, hcc⟩ := H.out.by_ (by have := HN.out; omega)
  have hbg : b < g := hb
  have hne : ¬ b = g := by omega
  by_cases hpn : p < n
  · have hx := hcc p (by have := HN.out; omega)
    have hy := HBY.out p
    generalize bs.getD p 0 = y at *
    clear hcc hn0
    go_enter Try.func54, Try.ntmps54
    go_wp2
    go_ret
    have hyn : y % m = ((y % m).toNat : Int) := by
      have := Int.emod_nonneg y (show m ≠ 0 by omega)
      omega
    refine ⟨(y % m).toNat, ret_i (by exact hyn), fun _ => ?_, fun h => by omega, HP.out.1, HP.out.2⟩
    rw [← hyn]
    exact Int.emod_lt_of_pos y (by omega)
  · have hn0' : 0 < n := by omega
    have hnp : p ≤ 1000000 := by omega
    have hq1 : p % n < n := Nat.mod_lt _ hn0'
    have hq2 : (p * 7 + 3) % n < n := Nat.mod_lt _ hn0'
    have hx1 := hcc (p % n) (by have := HN.out; omega)
    have hx2 := hcc ((p * 7 + 3) % n) (by have := HN.out; omega)
    have hy1 := HBY.out (p % n)
    have hy2 := HBY.out ((p * 7 + 3) % n)
    have hdv : p / n ≤ p := Nat.div_le_self _ _
    have e1 : (p : Int).tmod (n : Int) = ((p % n : Nat) : Int) := by rw [Int.tmod_eq_emod_of_nonneg (by omega)]; rfl
    have e6 : (p : Int).tdiv (n : Int) = ((p / n : Nat) : Int) := by rw [Int.tdiv_eq_ediv_of_nonneg (by omega)]; rfl
    have e4 : (((p * 7 + 3 : Nat)) : Int).tmod (n : Int) = (((p * 7 + 3) % n : Nat) : Int) := by rw [Int.tmod_eq_emod_of_nonneg (by omega)]; rfl
    generalize bs.getD (p % n) 0 = y1 at *
    generalize bs.getD ((p * 7 + 3) % n) 0 = y2 at *
    generalize p % n = q1 at *
    generalize (p * 7 + 3) % n = q2 at *
    generalize p / n = dv at *
    have w1 : IntKind.i64.wrap ((p : Int) * 7) = ((p * 7 : Nat) : Int) := by rw [IntWalk.i64_in _ (by omega)]; omega
    have w2 : IntKind.i64.wrap (((p * 7 : Nat) : Int) + 3) = ((p * 7 + 3 : Nat) : Int) := by rw [IntWalk.i64_in _ (by omega)]; omega
    obtain ⟨a1, ha1, hb1⟩ : ∃ a1 : Nat, IntKind.i64.wrap (y1 * 131) = (a1 : Int) ∧ a1 ≤ 40000 := ⟨(y1 * 131).toNat, by rw [IntWalk.i64_in _ (by omega)]; omega, by omega⟩
    obtain ⟨a2, ha2, hb2⟩ : ∃ a2 : Nat, IntKind.i64.wrap (y2 * 1117) = (a2 : Int) ∧ a2 ≤ 300000 := ⟨(y2 * 1117).toNat, by rw [IntWalk.i64_in _ (by omega)]; omega, by omega⟩
    obtain ⟨a3, ha3, hb3⟩ : ∃ a3 : Nat, IntKind.i64.wrap ((a1 : Int) + (a2 : Int)) = (a3 : Int) ∧ a3 ≤ 400000 := ⟨a1 + a2, by rw [IntWalk.i64_in _ (by omega)]; omega, by omega⟩
    obtain ⟨a4, ha4, hb4⟩ : ∃ a4 : Nat, IntKind.i64.wrap ((p : Int) * 29) = (a4 : Int) ∧ a4 ≤ 30000000 := ⟨p * 29, by rw [IntWalk.i64_in _ (by omega)]; omega, by omega⟩
    obtain ⟨a5, ha5, hb5⟩ : ∃ a5 : Nat, IntKind.i64.wrap ((a3 : Int) + (a4 : Int)) = (a5 : Int) ∧ a5 ≤ 31000000 := ⟨a3 + a4, by rw [IntWalk.i64_in _ (by omega)]; omega, by omega⟩
    have w3 : IntKind.i64.wrap (dv : Int) = (dv : Int) := IntWalk.i64_in _ (by omega)
    obtain ⟨a7, ha7, hb7⟩ : ∃ a7 : Nat, IntKind.i64.wrap ((dv : Int) * 53) = (a7 : Int) ∧ a7 ≤ 60000000 := ⟨dv * 53, by rw [IntWalk.i64_in _ (by omega)]; omega, by omega⟩
    obtain ⟨X, hX, hXb⟩ : ∃ X : Nat, IntKind.i64.wrap ((a5 : Int) + (a7 : Int)) = (X : Int) ∧ X ≤ 100000000 := ⟨a5 + a7, by rw [IntWalk.i64_in _ (by omega)]; omega, by omega⟩
    generalize p * 7 + 3 = p73 at *
    generalize p * 7 = p7 at *
    have hxor : bits .xor .i64 (X : Int) ((X : Int) / 64) = ((X ^^^ X / 64 : Nat) : Int) := bits_xor_i64_nat X (X / 64) (by omega) (by omega)
    have hxl : X ^^^ X / 64 < 2 ^ 62 := Nat.xor_lt_two_pow (by omega) (by omega)
    generalize X ^^^ X / 64 = Z at *
    have hzb : (Z : Int) ≤ 4611686018427387904 := by omega
    have hbw : b < w.heap.size := by have := H.out.lt; omega
    clear hcc hxl hdv hn0
    go_enter Try.func54, Try.ntmps54
    go_wp2
    go_quiet (fail)
    clear w1 w2 w3 ha1 ha2 ha3 ha4 ha5 ha7 hX e1 e6 e4
    go_wp2
    go_ret
    have hyn : (Z : Int) % m = (((Z : Int) % m).toNat : Int) := by
      have := Int.emod_nonneg (Z : Int) (show m ≠ 0 by omega)
      omega
    refine ⟨((Z : Int) % m).toNat, ret_i (by exact hyn), fun _ => ?_, fun h => by omega, ?_, ?_⟩
    · rw [← hyn]
      exact Int.emod_lt_of_pos _ (by omega)
    · exact HP.out.1.step (drewN_below0 (Below.refl _ _))
    · exact HP.out.2.trans (Tch.of_below (drewN_below0 (Below.refl _ _)))
/-- One of the numbers; the reader has picked once more. -/
def OneP (g : Nat) (A : Option Addr) (n c : Nat) (bs : List Int) (P : Nat) (xs : List Int) (w : World) (e : Ending) (w' : World) : Prop :=
  ∃ x : Int, e = .returned (.int .i64 x) ∧ x ∈ xs ∧ Rdr g A n c bs (P + 1) w' ∧ Tch g (g + 1) w w'
set_option maxHeartbeats 800000 in
theorem one_any (g : Nat) (A : Option Addr) (n c : Nat) (bs : List Int) (P : Nat) (b' off' l c' : Nat) (xs : List Int) (w : World) (h : Rdr g A n c bs P w) (hn : n = bs.length) (hby : BY bs) (hs : n ≤ 2000) (hP : P ≤ 1000000)
    (hl : l = xs.length) (hl1 : 1 ≤ l) (hl2 : l ≤ 1000) (hx : ∀ j, j < l → w.cell? ⟨b', off' + j, none⟩ = some (.int .i64 (xs.getD j 0))) (hne : b' ≠ g) (hbw : b' < w.heap.size) :
    Calls Try.prog 44 #[.pointer (some ⟨g, 0, none⟩), .slice (some ⟨b', off', none⟩) l c'] w fun e w' => OneP g A n c bs P xs w e w' := by
  have HPK := Lib.hid (pick_any g A n c bs P l w h hn hby hs hP (by omega))
  have HX := Lib.hid hx
  have HL := Lib.hid hl
  clear hx hl h hn
  go_enter Try.func44, Try.ntmps44
  go_wp2_with fail
  refine HPK.out.mono ?_
  rintro e w1 ⟨x, rfl, hxl, _, hr, ht⟩
  have hxl' : x < l := by have := hxl (by omega); omega
  have c1 := (World.cell?_of_block (a := ⟨b', off' + x, none⟩) (ht.block b' hbw (by omega))).trans (HX.out x hxl')
  have HR := Lib.hid hr
  have HT := Lib.hid ht
  have hmem : xs.getD x 0 ∈ xs := by
    have : x < xs.length := by have := HL.out; omega
    simp [List.getD, this]
  have HMEM := Lib.hid hmem
  clear hxl hr ht hmem
  generalize xs.getD x 0 = y at *
  go_wp2
  go_ret
  exact ⟨y, rfl, HMEM.out, HR.out, HT.out⟩
end Go.Proofs.Ytjhpknnhgbdkiaa

namespace Go.Proofs.Ytjhpknnhgbdkiaa
set_option linter.unusedSimpArgs false
set_option linter.unusedVariables false
open Go.RowKit
/-- Of the blocks below s none but g has turned. -/
structure Frd (g s : Nat) (w w' : World) : Prop where
  os : w'.os = w.os
  tape : w'.tape = w.tape
  output : w'.output = w.output
  size : w.heap.size ≤ w'.heap.size
  block : ∀ k, k < s → k ≠ g → w'.heap[k]? = w.heap[k]?
section
variable {g s : Nat} {w w1 w' : World}
theorem Frd.refl (g s : Nat) (w : World) : Frd g s w w := ⟨rfl, rfl, rfl, Nat.le_refl _, fun _ _ _ => rfl⟩
theorem Frd.trans (h : Frd g s w w1) (k : Frd g s w1 w') : Frd g s w w' := ⟨k.os.trans h.os, k.tape.trans h.tape, k.output.trans h.output, Nat.le_trans h.size k.size, fun i a b => (k.block i a b).trans (h.block i a b)⟩
theorem Frd.of_tch (h : Tch g (g + 1) w w') (hs : s ≤ w.heap.size) : Frd g s w w' := ⟨h.os, h.tape, h.output, h.size, fun k a b => h.block k (by omega) (by omega)⟩
theorem Frd.of_below {C : Nat} (h : Below C w w') (hs : s ≤ C) : Frd g s w w' := ⟨h.os, h.tape, h.output, h.size, fun k a _ => h.block k (by omega)⟩
end
end Go.Proofs.Ytjhpknnhgbdkiaa

namespace Go.Proofs.Ytjhpknnhgbdkiaa
set_option linter.unusedSimpArgs false
set_option linter.unusedVariables false
open Go.RowKit
theorem BY.take {bs : List Int} (h : BY bs) (k : Nat) : BY (bs.take k) := by
  intro j
  by_cases hj : j < k
  · have : (bs.take k).getD j 0 = bs.getD j 0 := by simp only [List.getD, List.getElem?_take, if_pos hj]
    rw [this]; exact h j
  · have : (bs.take k).getD j 0 = 0 := by simp only [List.getD, List.getElem?_take, if_neg hj]; rfl
    rw [this]; omega
theorem BS.take {w : World} {B : Nat} {A : Option Addr} {bs : List Int} (h : BS w B A bs) (k : Nat) : BS w B A (bs.take k) := by
  intro hn
  rw [List.length_take] at hn
  obtain ⟨b, off, e, hb, hc⟩ := h (by omega)
  refine ⟨b, off, e, hb, fun j hj => ?_⟩
  rw [List.length_take] at hj
  have : (bs.take k).getD j 0 = bs.getD j 0 := by simp only [List.getD, List.getElem?_take, if_pos (show j < k by omega)]
  rw [this]
  exact hc j (by omega)
end Go.Proofs.Ytjhpknnhgbdkiaa

namespace Go.Proofs.Ytjhpknnhgbdkiaa
set_option linter.unusedSimpArgs false
set_option linter.unusedVariables false
open Go.RowKit
set_option maxRecDepth 100000 in
set_option maxHeartbeats 800000 in
theorem spec_emptyContext (w : World) : Calls Try.prog 53 #[] w fun e w' => RetI w noCtx e w' := by
  obtain ⟨i0, hi, hz0, hz1, hz2⟩ := info_parts info_int
  go_enter Try.func53, Try.ntmps53
  go_wp2
  go_loopw [1, 2] (fun v u wr => ∃ k : Nat, k ≤ 3 ∧ u = .int .i64 k ∧ Hid (OwnI wr w.heap.size v (List.replicate k (-1))) ∧ Hid (Below w.heap.size w wr) ∧ w.heap.size ≤ wr.heap.size) (fun _ u _ => 3 - (intOf u).toNat)
  case atStart =>
    refine ⟨0, by omega, rfl, ?_, (Below.refl _ _).alloc (Nat.le_refl _) _, by simp⟩
    have := World.ownsRow_lit (e := 3) (size := 1) (base := w.heap.size) w #[] 0 (Nat.le_refl _) (by unfold maxLen; omega) rfl
    simpa [OwnI, Hid] using this
  case round =>
    obtain ⟨k, hk, rfl, HO, HB, hwr⟩ := hrel
    by_cases hlt : k < 3
    · have hdl : (List.replicate k (-1 : Int)).length ≤ 3 := by simp; omega
      have HST := Lib.hid (show List.replicate (k + 1) (-1 : Int) = List.replicate k (-1) ++ [-1] from List.replicate_succ')
      generalize List.replicate k (-1 : Int) = D at *
      go_wp2_with (at_builtin; refine wpList_append_own _ rfl _ _ 26 rfl w.heap.size 3 i0 (.int .i64 0) 1 8 Try.underlying26 hi hz0 hz1 hz2 rfl (by decide) _ _ _ rfl (HO.out.alloc _) ⟨_, 0, none⟩ 1 1 [.int .i64 (-1)] rfl rfl (cell_one_new _ _ _) ?c2 ?c3 ?c4 ?c5 ?_)
      case c2 => first | rfl | (intro u hu; simp at hu; subst hu; rfl)
      case c3 => unfold maxLen; omega
      case c4 => omega
      case c5 => first | omega | (simp; omega)
      intro v' w3 hown' hgrow _
      have hpos := (HO.out.alloc (.cells #[.int .i64 (-1)] 3)).lt
      have HO' : Hid (OwnI w3 w.heap.size v' (List.replicate (k + 1) (-1))) := by
        rw [HST.out]
        simpa [OwnI, Hid] using hown'
      have HB' := Lib.hid ((HB.out.alloc hwr (.cells #[.int .i64 (-1)] 3)).grown hgrow (by first | (simp; omega) | omega) (fun q hq => (hpos q hq).1))
      clear hown' hgrow hpos
      go_wp2
      go_roundw
      case rel => exact ⟨k + 1, by omega, by go_num, HO'.out, HB'.out, HB'.out.size⟩
      case measure => simp [intOf]; omega
    · obtain rfl : k = 3 := by omega
      go_wp2
      go_ret
      exact ⟨_, rfl, HO.out, HB.out⟩
set_option maxRecDepth 100000 in
set_option maxHeartbeats 3200000 in
theorem top_spec_OpenUnder (ds : List On) (o : Int) (hO : OB ds) : ∀ (A : Option Addr) (n c : Nat) (w : World), n = ds.length → n ≤ c → OS w w.heap.size A ds →
    Calls Try.prog 28 #[.slice A n c, .int .i64 o] w fun e w' => RetOB w (openF ds o) (openB ds o) e w' := by
  intro A n c w hn hnc h
  obtain ⟨i1, hi1, hy0, hy1, hy2⟩ := info_parts info_owner
  have hnb : n ≤ 1048576 := by rw [hn]; exact hO.1
  have HS := Lib.hid h
  have HC := Lib.hid (spec_validOwners A n c ds w w.heap.size (Nat.le_refl _) hn h hO)
  have HI := Lib.hid fun (w' : World) (hB : w.heap.size ≤ w'.heap.size) (h : OS w' w.heap.size A ds) => spec_isOpen A n c ds o w' w.heap.size hB hn h hnb
  cases hv0 : validO ds
  · rw [hv0] at HC
    have hf : openB ds o = false := by unfold openB hasOpO hasO; rw [hv0]; rfl
    unfold openF
    rw [hf]
    clear hf hn h hO hv0 HI
    simp only [Bool.false_eq_true, if_false]
    go_enter Try.func28, Try.ntmps28
    go_wp2_with fail
    refine HC.out.mono ?_
    rintro e w1 ⟨rfl, hb⟩
    go_wp2
    go_ret2
    exact RetOB.nil hb
  rw [hv0] at HC
  cases hio : (rng o 0 ((n : Int) - 1) && opn ds o)
  · rw [hio] at HI
    have hf : openB ds o = false := by unfold openB hasOpO hasO; rw [hv0, Bool.true_and, ← hn, hio]; rfl
    unfold openF
    rw [hf]
    clear hf hn h hO hv0 hio
    simp only [Bool.false_eq_true, if_false]
    go_enter Try.func28, Try.ntmps28
    go_wp2_with fail
    refine HC.out.mono ?_
    rintro e w1 ⟨rfl, hb⟩
    go_wp2_with fail
    refine (HI.out w1 hb.size (HS.out.below hb (Nat.le_refl _))).mono ?_
    rintro e w1' ⟨rfl, rfl⟩
    go_wp2
    go_ret2
    exact RetOB.nil hb
  rw [hio] at HI
  have hv : hasOpO ds o = true := by unfold hasOpO hasO; rw [hv0, Bool.true_and, ← hn, hio]
  clear hio hv0
  by_cases h12 : n = 12
  · have h12' : ((n : Int) == 12) = true := by simp; omega
    have hf : openB ds o = false := by unfold openB; rw [← hn, decide_eq_true h12]; simp
    unfold openF
    rw [hf]
    clear hf hn h hO h12 hv
    simp only [Bool.false_eq_true, if_false]
    go_enter Try.func28, Try.ntmps28
    go_wp2_with fail
    refine HC.out.mono ?_
    rintro e w1 ⟨rfl, hb⟩
    go_wp2_with fail
    refine (HI.out w1 hb.size (HS.out.below hb (Nat.le_refl _))).mono ?_
    rintro e w1' ⟨rfl, rfl⟩
    go_wp2
    go_ret2
    exact RetOB.nil hb
  have h12' : ((n : Int) == 12) = false := by simp; omega
  have hf : openB ds o = true := by unfold openB; rw [hv, ← hn, decide_eq_false h12]; rfl
  have hce : openF ds o = ds ++ [newD o] := by unfold openF; rw [hf]; simp
  rw [hf, hce]
  have HCP := Lib.hid fun (w' : World) (hB : w.heap.size ≤ w'.heap.size) (h : OS w' w.heap.size A ds) => spec_copyOwners A n c ds w' w.heap.size hB hn h hO
  have HN := Lib.hid hn
  clear hf hce hn h hO h12 hv
  go_enter Try.func28, Try.ntmps28
  go_wp2_with fail
  refine HC.out.mono ?_
  rintro e w1 ⟨rfl, hb⟩
  have HB1 := Lib.hid hb
  go_wp2_with fail
  refine (HI.out w1 hb.size (HS.out.below hb (Nat.le_refl _))).mono ?_
  rintro e w1' ⟨rfl, rfl⟩
  have hs1 := hb.size
  have HS1 := Lib.hid (HS.out.below hb (Nat.le_refl _))
  clear hb HC HS
  go_wp2_with fail
  refine (HCP.out w1 hs1 HS1.out).mono ?_
  rintro e w2 ⟨v, rfl, ho, hb2⟩
  rw [← HN.out] at ho
  have hs2 := hb2.size
  have HO := Lib.hid ho
  have HB2 := Lib.hid (HB1.out.trans (hb2.mono hs1))
  clear ho hb2 HCP HS1
  go_wp2_with fail
  refine (spec_emptyContext _).mono ?_
  rintro e w3 ⟨v3, rfl, hoc, hbc⟩
  obtain ⟨A3, c3, rfl, -⟩ := hoc.form
  have hs3 := hbc.size
  have hoc' : w3.ownsRow w2.heap.size 3 1 (.slice A3 3 c3) 3 (noCtx.map (Value.int .i64)) := hoc
  have hl3 : noCtx.length = 3 := rfl
  rw [hl3]
  have HC3 := Lib.hid hoc'
  obtain ⟨-, xs, us, hr2', hul, hfl, hss⟩ := HO.out.step hbc (Nat.le_refl _)
  have HR := Lib.hid hr2'
  have HUL := Lib.hid hul
  have HFL := Lib.hid hfl
  have HSS := Lib.hid hss
  have HB3 := Lib.hid (HB2.out.trans (hbc.mono HB2.out.size))
  clear hr2' hul hfl hss hoc hoc' hbc HO HB2 hl3
  go_wp2_with (at_builtin; refine wpList_append_own _ rfl _ _ 23 rfl w1.heap.size 32 i1 _ 4 64 Try.underlying23 hi1 hy0 hy1 hy2 rfl (by decide) _ _ _ rfl (HR.out.1.alloc _) ⟨_, 0, none⟩ 1 1 [.int .i64 o, .bool true, .slice none 0 0, .slice A3 3 c3] rfl rfl (cells_new _ _ _ _ rfl) ?c2 ?c3 ?c4 ?c5 ?_)
  case c2 => first | rfl | (intro u hu; simp at hu; rcases hu with rfl | rfl | rfl | rfl <;> rfl)
  case c3 => unfold maxLen; omega
  case c4 => omega
  case c5 => first | omega | (simp; omega)
  intro v' w6 hown' hgrow _
  have HSN : Hid (OwO w1.heap.size w6.heap.size v' (n + 1) (ds ++ [newD o]) w6) :=
    OwO.snoc (d := newD o) (lo := w1.heap.size) (hi := w2.heap.size) (mid := w2.heap.size) (top := w3.heap.size) HN.out (HR.out.keep (w' := w3.alloc (.cells #[.int .i64 o, .bool true, .slice none 0 0, .slice A3 3 c3] 32)) (fun q _ hq => ((Below.refl w3.heap.size w3).alloc (Nat.le_refl _) _).block q (by omega))) HUL.out HFL.out (HSS.out.keep (fun q _ hq => ((Below.refl w3.heap.size w3).alloc (Nat.le_refl _) _).block q (by omega))) (OwR.nil _ _ _ _ _) rfl ⟨HC3.out.alloc _, fun q hq => (HC3.out.lt q hq).2⟩ rfl hs2 (Nat.le_refl _) hs3 (by simp) hgrow hown'
  have hpos := (HR.out.1.alloc (.cells #[.int .i64 o, .bool true, .slice none 0 0, .slice A3 3 c3] 32)).lt
  have HB6 := Lib.hid ((HB3.out.alloc HB3.out.size (.cells #[.int .i64 o, .bool true, .slice none 0 0, .slice A3 3 c3] 32)).grown hgrow (by simp; omega) (fun q hq => by have := (hpos q hq).1; omega))
  clear hown' hgrow hpos
  go_wp2
  go_ret2
  refine ⟨_, rfl, ?_, HB6.out⟩
  rw [List.length_append, ← HN.out]
  exact HSN.out.mono (by omega) (Nat.le_refl _)
end Go.Proofs.Ytjhpknnhgbdkiaa

namespace Go.Proofs.Ytjhpknnhgbdkiaa
set_option linter.unusedSimpArgs false
set_option linter.unusedVariables false
open Go.RowKit
set_option maxRecDepth 100000 in
set_option maxHeartbeats 3200000 in
theorem top_spec_AddCleanup (ds : List On) (o l : Int) (hO : OB ds) : ∀ (A : Option Addr) (n c : Nat) (w : World), n = ds.length → n ≤ c → OS w w.heap.size A ds →
    Calls Try.prog 63 #[.slice A n c, .int .i64 o, .int .i64 l] w fun e w' => RetOB w (addF ds o l) (addB ds o l) e w' := by
  intro A n c w hn hnc h
  obtain ⟨i0, hi, hz0, hz1, hz2⟩ := info_parts info_int
  have hnb : n ≤ 1048576 := by rw [hn]; exact hO.1
  have HS := Lib.hid h
  have HC := Lib.hid (spec_validOwners A n c ds w w.heap.size (Nat.le_refl _) hn h hO)
  have HI := Lib.hid fun (w' : World) (hB : w.heap.size ≤ w'.heap.size) (h : OS w' w.heap.size A ds) => spec_isOpen A n c ds o w' w.heap.size hB hn h hnb
  cases hv0 : validO ds
  · rw [hv0] at HC
    have hf : addB ds o l = false := by unfold addB hasOpO hasO; rw [hv0]; rfl
    unfold addF
    rw [hf]
    clear hf hn h hO hv0 HI
    simp only [Bool.false_eq_true, if_false]
    go_enter Try.func63, Try.ntmps63
    go_wp2_with fail
    refine HC.out.mono ?_
    rintro e w1 ⟨rfl, hb⟩
    go_wp2
    go_ret2
    exact RetOB.nil hb
  rw [hv0] at HC
  cases hio : (rng o 0 ((n : Int) - 1) && opn ds o)
  · rw [hio] at HI
    have hf : addB ds o l = false := by unfold addB hasOpO hasO; rw [hv0, Bool.true_and, ← hn, hio]; rfl
    unfold addF
    rw [hf]
    clear hf hn h hO hv0 hio
    simp only [Bool.false_eq_true, if_false]
    go_enter Try.func63, Try.ntmps63
    go_wp2_with fail
    refine HC.out.mono ?_
    rintro e w1 ⟨rfl, hb⟩
    go_wp2_with fail
    refine (HI.out w1 hb.size (HS.out.below hb (Nat.le_refl _))).mono ?_
    rintro e w1' ⟨rfl, rfl⟩
    go_wp2
    go_ret2
    exact RetOB.nil hb
  rw [hio] at HI
  have hv : hasOpO ds o = true := by unfold hasOpO hasO; rw [hv0, Bool.true_and, ← hn, hio]
  clear hio hv0
  obtain ⟨k, rfl, hkd, hval⟩ := hasOpO_at hv
  have hkn : k < n := by omega
  cases hr : rng l 0 50
  · have hE := hr
    have hf : addB ds (k : Int) l = false := by unfold addB; rw [hr]; simp
    unfold addF
    rw [hf]
    clear hf hn h hO hE hval
    simp only [Bool.false_eq_true, if_false]
    go_enter Try.func63, Try.ntmps63
    go_wp2_with fail
    refine HC.out.mono ?_
    rintro e w1 ⟨rfl, hb⟩
    go_wp2_with fail
    refine (HI.out w1 hb.size (HS.out.below hb (Nat.le_refl _))).mono ?_
    rintro e w1' ⟨rfl, rfl⟩
    go_wp2_with fail
    refine (spec_inRange _ _ _ _).mono ?_
    rintro e w' ⟨rfl, rfl⟩
    go_wp2
    go_ret2
    exact RetOB.nil hb
  obtain ⟨b, off, rfl, hbB, c0, c1, ⟨A1, n1, d1, c2, hn1, hp1⟩, -⟩ := h.at_ k hkd
  have hlen := (okO_len hval k).1
  by_cases h5 : n1 = 5
  · have h5' : ((n1 : Int) == 5) = true := by simp; omega
    have hf : addB ds (k : Int) l = false := by unfold addB; rw [Int.toNat_natCast, ← hn1, decide_eq_true h5]; simp
    unfold addF
    rw [hf]
    clear hf hn h hO hval c0 c1 hp1 hn1 hlen h5
    simp only [Bool.false_eq_true, if_false]
    go_enter Try.func63, Try.ntmps63
    go_wp2_with fail
    refine HC.out.mono ?_
    rintro e w1 ⟨rfl, hb⟩
    have b2 := (hb.cell (p := ⟨b, off + k * 4 + 2, none⟩) (by simp; omega)).trans c2
    go_wp2_with fail
    refine (HI.out w1 hb.size (HS.out.below hb (Nat.le_refl _))).mono ?_
    rintro e w1' ⟨rfl, rfl⟩
    go_wp2_with fail
    refine (spec_inRange _ _ _ _).mono ?_
    rintro e w' ⟨rfl, rfl⟩
    go_wp2
    go_ret2
    exact RetOB.nil hb
  have h5' : ((n1 : Int) == 5) = false := by simp; omega
  have hf : addB ds (k : Int) l = true := by unfold addB; rw [hv, hr, Int.toNat_natCast, ← hn1, decide_eq_false h5]; rfl
  have hce : addF ds (k : Int) l = ds.set k (withCl ds k l) := by unfold addF; rw [hf]; simp
  rw [hf, hce]
  have HCP := Lib.hid fun (w' : World) (hB : w.heap.size ≤ w'.heap.size) (h : OS w' w.heap.size (some ⟨b, off, none⟩) ds) => spec_copyOwners (some ⟨b, off, none⟩) n c ds w' w.heap.size hB hn h hO
  have HN := Lib.hid hn
  have HN1 := Lib.hid hn1
  have hn15 : n1 ≤ 5 := by omega
  have HKD := Lib.hid hkd
  clear hf hce hn h hO hval c0 c1 hp1 hn1 hlen h5 hv hkd
  go_enter Try.func63, Try.ntmps63
  go_wp2_with fail
  refine HC.out.mono ?_
  rintro e w1 ⟨rfl, hb⟩
  have b2 := (hb.cell (p := ⟨b, off + k * 4 + 2, none⟩) (by simp; omega)).trans c2
  have HB1 := Lib.hid hb
  go_wp2_with fail
  refine (HI.out w1 hb.size (HS.out.below hb (Nat.le_refl _))).mono ?_
  rintro e w1' ⟨rfl, rfl⟩
  go_wp2_with fail
  refine (spec_inRange _ _ _ _).mono ?_
  rintro e w' ⟨rfl, rfl⟩
  have hs1 := hb.size
  have HS1 := Lib.hid (HS.out.below hb (Nat.le_refl _))
  clear hb
  go_wp2_with fail
  refine (HCP.out w1 hs1 HS1.out).mono ?_
  rintro e w2 ⟨v, rfl, ho, hb2⟩
  rw [← HN.out] at ho
  obtain ⟨-, xs, us, hr2', hul, hfl, hss⟩ := ho
  rcases hr2'.1.2 with ⟨-, hz⟩ | ⟨g, cap, cur, rfl, -⟩
  · omega
  have hxl : xs.length = n * 4 := hr2'.1.1
  obtain ⟨-, -, f2, f3⟩ := hfl k HKD.out
  have hs2 := hb2.size
  have hgl := (hr2'.1.lt g rfl).2
  obtain ⟨A5, m5, c5, r1, r2, r3⟩ := hss.row (k * 2) (by omega)
  rw [lenOfO, rowO_cl] at r2
  rw [rowOfO, rowO_cl] at r3
  have hm5 : m5 ≤ 5 := by have := HN1.out; omega
  have u2 := (hr2'.1.cellAt (k * 4 + 2) (by omega)).trans (f2.trans r1)
  have R1 := Lib.hid r1
  have R2 := Lib.hid r2
  have R3 := Lib.hid r3
  have HR := Lib.hid hr2'
  have HUL := Lib.hid hul
  have HFL := Lib.hid hfl
  have HSS := Lib.hid hss
  have HB2 := Lib.hid (HB1.out.trans (hb2.mono HB1.out.size))
  clear r1 r2 r3 hr2' hul hfl hss hxl f2 f3 hb2 HC HCP HS HS1
  go_wp2_with (at_builtin; refine wpList_append_own_at _ rfl _ _ 26 rfl w1.heap.size 3 i0 (.int .i64 0) 1 8 Try.underlying26 hi hz0 hz1 hz2 rfl (by decide) _ _ _ rfl (R3.out.1.alloc _) ⟨_, 0, none⟩ 1 1 [.int .i64 l] rfl rfl (cell_one_new _ _ _) ?c2 ?c3 ?c4 ?c5 ?_)
  case c2 => first | rfl | (intro u hu; simp at hu; subst hu; rfl)
  case c3 => unfold maxLen; omega
  case c4 => omega
  case c5 => first | omega | (simp; omega)
  intro v' w3 hown' hgrow _ hblk
  obtain ⟨A6, c6, rfl⟩ := own_form hown'
  have hz3 := hgrow.size
  have hz3' : w2.heap.size + 1 ≤ w3.heap.size := by simpa using hz3
  have hr3 : OwR w1.heap.size w2.heap.size 32 4 (.slice (some ⟨g, 0, none⟩) n cap) n xs w3 := ⟨(HR.out.1.alloc _).kept hgrow (blocks_ne (HR.out.1.alloc (.cells #[.int .i64 l] 3)) (R3.out.1.alloc (.cells #[.int .i64 l] 3)) owner_ne_int), HR.out.2⟩
  have hxl : xs.length = n * 4 := hr3.1.1
  have d2 := hr3.1.cellAt (k * 4 + 2) (by omega)
  rw [List.getElem?_eq_getElem (by omega)] at d2
  have e2 := hr3.1.frozenAt (k * 4 + 2)
  generalize xs[k * 4 + 2]'(by omega) = v2 at d2
  have hpos := (R3.out.1.alloc (.cells #[.int .i64 l] 3)).lt
  have HSG : Hid (SSk w1.heap.size w3.heap.size (us.set (k * 2) (.slice A6 (m5 + 1) c6)) (lenOf (rowsO (ds.set k (withCl ds k l)))) (rowOf (rowsO (ds.set k (withCl ds k l)))) w3) := by
    refine SSk.grow (w := w2.alloc (.cells #[.int .i64 l] 3)) (hi := w2.heap.size) (HSS.out.keep fun q _ hq => ((Below.refl w2.heap.size w2).alloc (Nat.le_refl _) _).block q hq) (by simp) R1.out hgrow hown' (by rw [World.size_alloc]; exact hblk) ?_ ?_ fun j hj => ?_
    · rw [lenOfO, rowO_set ds k _ HKD.out, if_pos rfl]; simp only [withCl, List.length_append, List.length_singleton]; rw [← R2.out]
    · rw [rowOfO, rowO_set ds k _ HKD.out, if_pos rfl]; simp only [withCl, List.map_append, List.map_cons, List.map_nil]; try rfl
    · rw [lenOfO, rowOfO, rowO_set ds k _ HKD.out, if_neg hj]
      by_cases e5 : j = k * 2 + 1
      · rw [if_pos e5, lenOfO, rowOfO, e5, rowO_cx]; exact ⟨rfl, rfl⟩
      · rw [if_neg e5, lenOfO, rowOfO]; exact ⟨rfl, rfl⟩
  have HR3 := Lib.hid hr3
  have HB3 := Lib.hid ((HB2.out.alloc HB2.out.size (.cells #[.int .i64 l] 3)).grown hgrow (by simp; omega) (fun q hq => by have := (hpos q hq).1; omega))
  clear hown' hgrow hblk hpos hr3 hxl hz3 u2
  go_wp2
  go_ret2
  have hfin := OwO.field (e := 0) (lo := w1.heap.size) (top := w3.heap.size) (d' := withCl ds k l) (by omega) HN.out HR3.out HUL.out HFL.out hkn (by simpa using HSG.out) rfl rfl (by omega)
  refine ⟨_, rfl, ?_, HB3.out.setCell (by show w.heap.size ≤ g; have := (HR3.out.1.lt g rfl).1; omega) _⟩
  have hsz : (w3.setCell ⟨g, k * 4 + 2, none⟩ (.slice A6 (m5 + 1) c6)).heap.size = w3.heap.size := by simp [World.setCell]
  rw [hsz, List.length_set, ← HN.out]
  exact hfin.mono (by omega) (Nat.le_refl _)
set_option maxRecDepth 100000 in
set_option maxHeartbeats 3200000 in
theorem top_spec_SetContext (ds : List On) (o key x : Int) (hO : OB ds) : ∀ (A : Option Addr) (n c : Nat) (w : World), n = ds.length → n ≤ c → OS w w.heap.size A ds →
    Calls Try.prog 32 #[.slice A n c, .int .i64 o, .int .i64 key, .int .i64 x] w fun e w' => RetOB w (ctxF ds o key x) (ctxB ds o key x) e w' := by
  intro A n c w hn hnc h
  have hnb : n ≤ 1048576 := by rw [hn]; exact hO.1
  have HS := Lib.hid h
  have HC := Lib.hid (spec_validOwners A n c ds w w.heap.size (Nat.le_refl _) hn h hO)
  have HI := Lib.hid fun (w' : World) (hB : w.heap.size ≤ w'.heap.size) (h : OS w' w.heap.size A ds) => spec_isOpen A n c ds o w' w.heap.size hB hn h hnb
  cases hv0 : validO ds
  · rw [hv0] at HC
    have hf : ctxB ds o key x = false := by unfold ctxB hasOpO hasO; rw [hv0]; rfl
    unfold ctxF
    rw [hf]
    clear hf hn h hO hv0 HI
    simp only [Bool.false_eq_true, if_false]
    go_enter Try.func32, Try.ntmps32
    go_wp2_with fail
    refine HC.out.mono ?_
    rintro e w1 ⟨rfl, hb⟩
    go_wp2
    go_ret2
    exact RetOB.nil hb
  rw [hv0] at HC
  cases hio : (rng o 0 ((n : Int) - 1) && opn ds o)
  · rw [hio] at HI
    have hf : ctxB ds o key x = false := by unfold ctxB hasOpO hasO; rw [hv0, Bool.true_and, ← hn, hio]; rfl
    unfold ctxF
    rw [hf]
    clear hf hn h hO hv0 hio
    simp only [Bool.false_eq_true, if_false]
    go_enter Try.func32, Try.ntmps32
    go_wp2_with fail
    refine HC.out.mono ?_
    rintro e w1 ⟨rfl, hb⟩
    go_wp2_with fail
    refine (HI.out w1 hb.size (HS.out.below hb (Nat.le_refl _))).mono ?_
    rintro e w1' ⟨rfl, rfl⟩
    go_wp2
    go_ret2
    exact RetOB.nil hb
  rw [hio] at HI
  have hv : hasOpO ds o = true := by unfold hasOpO hasO; rw [hv0, Bool.true_and, ← hn, hio]
  clear hio hv0
  obtain ⟨k, rfl, hkd, hval⟩ := hasOpO_at hv
  have hkn : k < n := by omega
  cases hr : rng key 0 2
  · have hE := hr
    have hf : ctxB ds (k : Int) key x = false := by unfold ctxB; rw [hr]; simp
    unfold ctxF
    rw [hf]
    clear hf hn h hO hE hval
    simp only [Bool.false_eq_true, if_false]
    go_enter Try.func32, Try.ntmps32
    go_wp2_with fail
    refine HC.out.mono ?_
    rintro e w1 ⟨rfl, hb⟩
    go_wp2_with fail
    refine (HI.out w1 hb.size (HS.out.below hb (Nat.le_refl _))).mono ?_
    rintro e w1' ⟨rfl, rfl⟩
    go_wp2_with fail
    refine (spec_inRange _ _ _ _).mono ?_
    rintro e w' ⟨rfl, rfl⟩
    go_wp2
    go_ret2
    exact RetOB.nil hb
  cases hr2 : rng x 0 50
  · have hE := hr
    have hf : ctxB ds (k : Int) key x = false := by unfold ctxB; rw [hr2]; simp
    unfold ctxF
    rw [hf]
    clear hf hn h hO hE hval
    simp only [Bool.false_eq_true, if_false]
    go_enter Try.func32, Try.ntmps32
    go_wp2_with fail
    refine HC.out.mono ?_
    rintro e w1 ⟨rfl, hb⟩
    go_wp2_with fail
    refine (HI.out w1 hb.size (HS.out.below hb (Nat.le_refl _))).mono ?_
    rintro e w1' ⟨rfl, rfl⟩
    go_wp2_with fail
    refine (spec_inRange _ _ _ _).mono ?_
    rintro e w' ⟨rfl, rfl⟩
    go_wp2_with fail
    refine (spec_inRange _ _ _ _).mono ?_
    rintro e w' ⟨rfl, rfl⟩
    go_wp2
    go_ret2
    exact RetOB.nil hb
  have hf : ctxB ds (k : Int) key x = true := by unfold ctxB; rw [hv, hr, hr2]; rfl
  obtain ⟨hj0, hj1⟩ := (rng_iff _ _ _).1 hr
  obtain ⟨j, rfl⟩ : ∃ j : Nat, key = j := ⟨key.toNat, by omega⟩
  have hj3 : j < 3 := by omega
  have hcx3 := (okO_len2 hval k hkd)
  have hce : ctxF ds (k : Int) (j : Int) x = ds.set k (withCx ds k j x) := by unfold ctxF; rw [hf]; simp
  rw [hf, hce]
  have HCP := Lib.hid fun (w' : World) (hB : w.heap.size ≤ w'.heap.size) (h : OS w' w.heap.size A ds) => spec_copyOwners A n c ds w' w.heap.size hB hn h hO
  have HN := Lib.hid hn
  have HC3 := Lib.hid hcx3
  have HKD := Lib.hid hkd
  clear hf hce hn h hO hval hv hj0 hj1 hcx3 hkd
  go_enter Try.func32, Try.ntmps32
  go_wp2_with fail
  refine HC.out.mono ?_
  rintro e w1 ⟨rfl, hb⟩
  have HB1 := Lib.hid hb
  go_wp2_with fail
  refine (HI.out w1 hb.size (HS.out.below hb (Nat.le_refl _))).mono ?_
  rintro e w1' ⟨rfl, rfl⟩
  go_wp2_with fail
  refine (spec_inRange _ _ _ _).mono ?_
  rintro e w' ⟨rfl, rfl⟩
  go_wp2_with fail
  refine (spec_inRange _ _ _ _).mono ?_
  rintro e w' ⟨rfl, rfl⟩
  have hs1 := hb.size
  have HS1 := Lib.hid (HS.out.below hb (Nat.le_refl _))
  clear hb
  go_wp2_with fail
  refine (HCP.out w1 hs1 HS1.out).mono ?_
  rintro e w2 ⟨v, rfl, ho, hb2⟩
  rw [← HN.out] at ho
  obtain ⟨-, xs, us, hr2', hul, hfl, hss⟩ := ho
  rcases hr2'.1.2 with ⟨-, hz⟩ | ⟨g, cap, cur, rfl, -⟩
  · omega
  have hxl : xs.length = n * 4 := hr2'.1.1
  obtain ⟨-, -, f2, f3⟩ := hfl k HKD.out
  have hs2 := hb2.size
  have hgl := (hr2'.1.lt g rfl).2
  obtain ⟨A5, m5, c5, r1, r2, r3⟩ := hss.row (k * 2 + 1) (by omega)
  rw [lenOfO, rowO_cx] at r2
  have r3' := r3
  rw [rowOfO, rowO_cx] at r3'
  have hm5 : m5 = 3 := by have := HC3.out; omega
  rcases r3'.1.2 with ⟨-, hz'⟩ | ⟨gx, capx, curx, hvx, -⟩
  · omega
  simp only [Value.slice.injEq] at hvx
  obtain ⟨rfl, -, rfl⟩ := hvx
  have u2 := (hr2'.1.cellAt (k * 4 + 3) (by omega)).trans (f3.trans r1)
  have hyl : ((ds.getD k default).cx.map (Value.int .i64)).length = m5 * 1 := r3'.1.1
  have y2 := r3'.1.cellAt j (by omega)
  rw [List.getElem?_eq_getElem (by omega)] at y2
  have z2 := r3'.1.frozenAt j
  generalize ((ds.getD k default).cx.map (Value.int .i64))[j]'(by omega) = vx at y2
  have hjm : j < m5 := by omega
  have hst := r3'.1.stored j (.int .i64 x)
  have hgx := (r3'.1.lt gx rfl).1
  have hlen : lenOf (rowsO (ds.set k (withCx ds k j x))) = lenOf (rowsO ds) := by
    funext i
    rw [lenOfO, lenOfO, rowO_set ds k _ HKD.out]
    by_cases e1 : i = k * 2
    · rw [if_pos e1, e1, rowO_cl]; rfl
    · rw [if_neg e1]
      by_cases e2 : i = k * 2 + 1
      · rw [if_pos e2, e2, rowO_cx]; simp [withCx]
      · rw [if_neg e2]
  have HSG : Hid (SSk w1.heap.size w2.heap.size us (lenOf (rowsO (ds.set k (withCx ds k j x)))) (rowOf (rowsO (ds.set k (withCx ds k j x)))) (w2.setCell ⟨gx, j, none⟩ (.int .i64 x))) := by
    rw [hlen]
    refine hss.put1 r1 ?_ fun i hi => ?_
    · rw [rowOfO, rowOfO, rowO_set ds k _ HKD.out, if_neg (by omega), if_pos rfl, rowO_cx]; simp only [withCx, List.map_set]
    · rw [rowOfO, rowOfO, rowO_set ds k _ HKD.out]
      by_cases e1 : i = k * 2
      · rw [if_pos e1, e1, rowO_cl]; rfl
      · rw [if_neg e1, if_neg hi]
  have HR3 : Hid (OwR w1.heap.size w2.heap.size 32 4 (.slice (some ⟨g, 0, none⟩) n cap) n xs (w2.setCell ⟨gx, j, none⟩ (.int .i64 x))) := ⟨hr2'.1.kept hst.2 (blocks_ne hr2'.1 r3'.1 owner_ne_int), hr2'.2⟩
  have HUL := Lib.hid hul
  have HFL := Lib.hid hfl
  have HB3 := Lib.hid ((HB1.out.trans (hb2.mono HB1.out.size)).setCell (p := ⟨gx, j, none⟩) (by show w.heap.size ≤ gx; omega) (.int .i64 x))
  have HM := Lib.hid hm5
  clear r1 r2 r3 r3' hr2' hul hfl hss hxl f2 f3 hb2 HC HCP HS HS1 hst hlen hyl hm5
  go_wp2
  go_ret2
  refine ⟨_, rfl, ?_, HB3.out⟩
  have hsz : (w2.setCell ⟨gx, j, none⟩ (.int .i64 x)).heap.size = w2.heap.size := by simp [World.setCell]
  rw [hsz, List.length_set, ← HN.out]
  refine OwO.mono (lo := w1.heap.size) (hi := w2.heap.size) ⟨by rw [List.length_set]; exact HN.out, xs, us, HR3.out, HUL.out, fun i hi => ?_, HSG.out⟩ (by omega) (Nat.le_refl _)
  have hi' : i < ds.length := by simpa using hi
  rw [getD_set ds k i _ HKD.out]
  by_cases ei : i = k
  · subst ei; rw [if_pos rfl]; exact HFL.out i hi'
  · rw [if_neg ei]; exact HFL.out i hi'
end Go.Proofs.Ytjhpknnhgbdkiaa
