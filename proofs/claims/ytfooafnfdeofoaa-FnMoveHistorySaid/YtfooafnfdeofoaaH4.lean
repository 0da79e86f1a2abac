/- Words and contracts for memory that the texts behind use. -/
import Derived.Test.YtfooafnfdeofoaaH0a
import Derived.Test.YtfooafnfdeofoaaH0b
import Derived.Test.YtfooafnfdeofoaaH0
import Derived.Test.YtfooafnfdeofoaaH1
import Derived.Test.YtfooafnfdeofoaaH2
import Derived.Test.YtfooafnfdeofoaaH3
import Derived.WalkKit
import Derived.Laws.OwnMore
import Derived.Deep.Draws
import Derived.Test.YtfooafnfdeofoaaProg
import Derived.WalkSpells
import Derived.WalkLawsBesides
import Derived.Outline
import Derived.Lib.Hide
import Derived.BigQuiet
import Derived.Deep.QuietTactic
import Derived.StillTailTactics
import Derived.Deep.LoopGhost
import Derived.Laws.MakeOwn
import Derived.WalkSmall
import Derived.RegionTactic
import Derived.BigRegion
import Derived.Deep.RegionWith
import Derived.Deep.RegionHeld3
import Derived.Laws.Entries
import Derived.Laws.Bits64
import Derived.IntWalk
import Derived.Maps.AppendAt
import Derived.Deep.RegionLaw
import Derived.Deep.AppendLies
import Derived.Deep.Cut
import Derived.Deep.DeepCutAuto
import Derived.Laws.CopyOwn

namespace Go.Proofs.Ytfooafnfdeofoaa
set_option linter.unusedSimpArgs false
set_option linter.unusedVariables false
open Go.RowKit
theorem take_step {α : Type} [Inhabited α] (l m : List α) (k : Nat) (h : k < l.length) (h' : k < m.length) (ht : l.take k = m.take k) (he : l.getD k default = m.getD k default) : l.take (k + 1) = m.take (k + 1) := by
  rw [take_succ_getD l k h, take_succ_getD m k h', ht, he]
theorem take_all_eq {α : Type} (l m : List α) (n : Nat) (h : n = l.length) (h' : n = m.length) (ht : l.take n = m.take n) : l = m := by
  rw [List.take_of_length_le (by omega), List.take_of_length_le (by omega)] at ht
  exact ht
theorem getD_ne {α : Type} [Inhabited α] [DecidableEq α] (l m : List α) (k : Nat) (h : l.getD k default ≠ m.getD k default) : decide (l = m) = false := by
  rw [decide_eq_false_iff_not]; rintro rfl; exact h rfl
end Go.Proofs.Ytfooafnfdeofoaa

namespace Go.Proofs.Ytfooafnfdeofoaa
set_option linter.unusedSimpArgs false
set_option linter.unusedVariables false
open Go.RowKit
inductive Tm where
  | num (v : Int)
  | rd (v : Int)
  | pr (k : Int) (l r : Tm)
  | ch (t a b : Tm)
/-- The term of the part at an index; the number bounds how deep one goes. -/
def tmAt (ps : List Pt) : Nat → Nat → Tm
  | 0, _ => .num 0
  | f + 1, i =>
    let p := ps.getD i default
    if p.k == 0 then .num p.n
    else if p.k == 1 then .rd p.n
    else if p.k == 8 then .ch (tmAt ps f p.a.toNat) (tmAt ps f p.b.toNat) (tmAt ps f p.c.toNat)
    else .pr p.k (tmAt ps f p.a.toNat) (tmAt ps f p.b.toNat)
end Go.Proofs.Ytfooafnfdeofoaa

namespace Go.Proofs.Ytfooafnfdeofoaa
set_option linter.unusedSimpArgs false
set_option linter.unusedVariables false
open Go.RowKit
def Tm.deep : Tm → Nat
  | .num _ => 1
  | .rd _ => 1
  | .pr _ l r => max l.deep r.deep + 1
  | .ch t a b => max (max t.deep a.deep) b.deep + 1
end Go.Proofs.Ytfooafnfdeofoaa

namespace Go.Proofs.Ytfooafnfdeofoaa
set_option linter.unusedSimpArgs false
set_option linter.unusedVariables false
open Go.RowKit
/-- What a part of two makes of two values. -/
def jn (k x y : Int) : Int :=
  if k == 2 then (x + y) % 1000
  else if k == 3 then (x - y + 1000) % 1000
  else if k == 4 then x * y % 1000
  else if k == 5 then min x y
  else if k == 6 then max x y
  else if x < y then 1 else 0
end Go.Proofs.Ytfooafnfdeofoaa

namespace Go.Proofs.Ytfooafnfdeofoaa
set_option linter.unusedSimpArgs false
set_option linter.unusedVariables false
open Go.RowKit
def Tm.ev (vs : List Int) : Tm → Int
  | .num v => v
  | .rd v => vs.getD v.toNat 0
  | .pr k l r => jn k (l.ev vs) (r.ev vs)
  | .ch t a b => if t.ev vs == 0 then b.ev vs else a.ev vs
end Go.Proofs.Ytfooafnfdeofoaa

namespace Go.Proofs.Ytfooafnfdeofoaa
set_option linter.unusedSimpArgs false
set_option linter.unusedVariables false
def Tm.size : Tm → Nat
  | .num _ => 1
  | .rd _ => 1
  | .pr _ l r => l.size + r.size + 1
  | .ch t a b => t.size + a.size + b.size + 1
end Go.Proofs.Ytfooafnfdeofoaa

namespace Go.Proofs.Ytfooafnfdeofoaa
set_option linter.unusedSimpArgs false
set_option linter.unusedVariables false
open Go.RowKit
/-- The whole of a formula as a term. -/
def whole (ps : List Pt) : Tm := tmAt ps ps.length (ps.length - 1)
end Go.Proofs.Ytfooafnfdeofoaa

namespace Go.Proofs.Ytfooafnfdeofoaa
set_option linter.unusedSimpArgs false
set_option linter.unusedVariables false
open Go.RowKit
def okC (gs : List Nd) (cs : List Int) : Bool := validG gs && validC gs cs
/-- The values of the first nodes. -/
def meanTo (gs : List Nd) (cs : List Int) : Nat → List Int
  | 0 => []
  | i + 1 => meanTo gs cs i ++ [if (gs.getD i default).k == 0 then cs.getD i 0 else (whole (gs.getD i default).ps).ev (meanTo gs cs i)]
def mean (gs : List Nd) (cs : List Int) : List Int := meanTo gs cs gs.length
/-- The indices at which two lists differ. -/
def diffTo (a b : List Int) (k : Nat) : List Int := ((List.range k).filter fun i => !(a.getD i 0 == b.getD i 0)).map fun i : Nat => (i : Int)
end Go.Proofs.Ytfooafnfdeofoaa

namespace Go.Proofs.Ytfooafnfdeofoaa
set_option linter.unusedSimpArgs false
set_option linter.unusedVariables false
open Go.RowKit
/-- No more lists, and no longer ones, than a million. -/
def SB (xss : List (List Int)) : Prop := xss.length ≤ 1048576 ∧ ∀ j, (xss.getD j []).length ≤ 1048576
end Go.Proofs.Ytfooafnfdeofoaa

namespace Go.Proofs.Ytfooafnfdeofoaa
set_option linter.unusedSimpArgs false
set_option linter.unusedVariables false
open Go.RowKit
structure Hi where
  ss : List (List Int)
  ix : Int
deriving DecidableEq, Inhabited
/-- No more lists and numbers than a million. -/
def HiB (e : Hi) : Prop := e.ss.length ≤ 1048576 ∧ SB e.ss ∧ (e.ss.map List.length).sum ≤ 1048576
end Go.Proofs.Ytfooafnfdeofoaa

namespace Go.Proofs.Ytfooafnfdeofoaa
set_option linter.unusedSimpArgs false
set_option linter.unusedVariables false
open Go.RowKit
def validHi (gs : List Nd) (st : Hi) : Bool := validG gs && rng st.ss.length 1 10 && rng st.ix 0 (st.ss.length - 1) && st.ss.all (validC gs)
end Go.Proofs.Ytfooafnfdeofoaa

namespace Go.Proofs.Ytfooafnfdeofoaa
set_option linter.unusedSimpArgs false
set_option linter.unusedVariables false
open Go.RowKit
theorem SSk.congr {lo hi : Nat} {vs : List Value} {lens : Nat → Nat} {cont cont' : Nat → List Value} {w : World} (h : SSk lo hi vs lens cont w) (hc : ∀ j, j < vs.length → cont j = cont' j) : SSk lo hi vs lens cont' w :=
  ⟨fun j hj => by obtain ⟨A, m, c, e1, e2, e3⟩ := h.row j hj; exact ⟨A, m, c, e1, e2, by rw [← hc j hj]; exact e3⟩, h.apart⟩
end Go.Proofs.Ytfooafnfdeofoaa

namespace Go.Proofs.Ytfooafnfdeofoaa
set_option linter.unusedSimpArgs false
set_option linter.unusedVariables false
open Go.RowKit
def chgB (gs : List Nd) (xs ys : List Int) : Bool := validG gs && validC gs xs && validC gs ys
def chgF (gs : List Nd) (xs ys : List Int) : List Int := if chgB gs xs ys then diffTo (mean gs xs) (mean gs ys) gs.length else []
end Go.Proofs.Ytfooafnfdeofoaa

namespace Go.Proofs.Ytfooafnfdeofoaa
set_option linter.unusedSimpArgs false
set_option linter.unusedVariables false
open Go.RowKit
def newH (gs : List Nd) (xs : List Int) : Hi := if okC gs xs then ⟨[xs], 0⟩ else ⟨[], 0⟩
end Go.Proofs.Ytfooafnfdeofoaa

namespace Go.Proofs.Ytfooafnfdeofoaa
set_option linter.unusedSimpArgs false
set_option linter.unusedVariables false
open Go.RowKit
set_option maxHeartbeats 800000 in
theorem laws_equalInts (A A' : Option Addr) (n n' c c' : Nat) (a b : List Int) (w : World) (B : Nat) (hB : B ≤ w.heap.size) (hn : n = a.length) (hn' : n' = b.length) (h : IS w B A a) (h' : IS w B A' b) (hs : n ≤ 2000000) (hs' : n' ≤ 2000000) :
    Calls Try.prog 17 #[.slice A n c, .slice A' n' c'] w fun e w' => e = .returned (.bool (decide (a = b))) ∧ Below w.heap.size w w' := by
  by_cases hl : n = n'
  · have hne : ((n : Int) != (n' : Int)) = false := by simp [hl]
    have HL := Lib.hid hl
    have HN := Lib.hid hn
    have HN' := Lib.hid hn'
    have H := Lib.hid h
    have H' := Lib.hid h'
    clear hl hn hn' h h'
    go_enter Try.func17, Try.ntmps17
    go_wp2
    go_loopw [5] (fun i wr => ∃ k : Nat, k ≤ n ∧ i = .int .i64 k ∧ Hid (∀ j, j < k → a.getD j 0 = b.getD j 0) ∧ Below w.heap.size w wr) (fun i _ => n - (intOf i).toNat)
    case atStart => exact ⟨0, Nat.zero_le _, rfl, fun j hj => by omega, Below.refl _ _⟩
    case round =>
      obtain ⟨k, hk, rfl, HT, hb⟩ := hrel
      by_cases hlt : k < n
      · have hlt' : k < n' := by have := HL.out; omega
        obtain ⟨b1, off, rfl, hbB, hc⟩ := H.out (by have := HN.out; omega)
        obtain ⟨b2, off', rfl, hbB', hc'⟩ := H'.out (by have := HN'.out; omega)
        have d1 := hc k (by have := HN.out; omega)
        have d2 := hc' k (by have := HN'.out; omega)
        have e1 := (hb.cell (p := ⟨b1, off + k, none⟩) (by simp; omega)).trans d1
        have e2 := (hb.cell (p := ⟨b2, off' + k, none⟩) (by simp; omega)).trans d2
        clear hc hc' d1 d2 H H'
        have HNE : Hid (a.getD k 0 ≠ b.getD k 0 → decide (a = b) = false) := fun hh => by rw [decide_eq_false_iff_not]; rintro rfl; exact hh rfl
        have HEQ : Hid (a.getD k 0 = b.getD k 0 → ∀ j, j < k + 1 → a.getD j 0 = b.getD j 0) := fun hh j hj => by
          rcases Nat.lt_or_ge j k with h1 | h1
          · exact HT.out j h1
          · obtain rfl : j = k := by omega
            exact hh
        generalize a.getD k 0 = x at *
        generalize b.getD k 0 = y at *
        cases hxy : (x == y)
        · have hne2 : (x != y) = true := by simp [bne, hxy]
          have HF := Lib.hid (HNE.out (by simpa using hxy))
          clear hxy
          go_wp2
          go_region
          go_wp2
          go_ret
          exact ⟨ret_b HF.out.symm, hb.drew⟩
        · have hne2 : (x != y) = false := by simp [bne, hxy]
          have HF := Lib.hid (HEQ.out (by simpa using hxy))
          clear hxy
          go_wp2
          go_region
          go_wp2
          go_roundw
          case rel => exact ⟨k + 1, by omega, by go_num, HF.out, hb.drew⟩
          case measure => simp [intOf]; omega
      · obtain rfl : k = n := by omega
        go_wp2
        go_ret
        refine ⟨ret_b ?_, hb⟩
        symm
        apply decide_eq_true
        have h1 := HN.out
        have h2 := HN'.out
        have h3 := HL.out
        apply List.ext_getElem (by omega)
        intro j hj hj'
        have := HT.out j (by omega)
        simpa [List.getD, hj, hj'] using this
  · have hne : ((n : Int) != (n' : Int)) = true := by simp; omega
    have hf : decide (a = b) = false := by rw [decide_eq_false_iff_not]; rintro rfl; omega
    rw [hf]
    clear hl hn hn' h h' hf
    go_enter Try.func17, Try.ntmps17
    go_wp2
    go_ret
    exact ⟨rfl, Below.refl _ _⟩
end Go.Proofs.Ytfooafnfdeofoaa

namespace Go.Proofs.Ytfooafnfdeofoaa
set_option linter.unusedSimpArgs false
set_option linter.unusedVariables false
open Go.RowKit
def commitB (gs : List Nd) (st : Hi) (xs : List Int) : Bool := validHi gs st && validC gs xs && !(st.ix + 1 == 10)
def commitH (gs : List Nd) (st : Hi) (xs : List Int) : Hi := if commitB gs st xs then ⟨st.ss.take (st.ix + 1).toNat ++ [xs], st.ix + 1⟩ else ⟨[], 0⟩
theorem validHi_parts {gs : List Nd} {st : Hi} (h : validHi gs st = true) : validG gs = true ∧ 1 ≤ st.ss.length ∧ st.ss.length ≤ 10 ∧ 0 ≤ st.ix ∧ st.ix < st.ss.length ∧ ∀ k, k < st.ss.length → validC gs (st.ss.getD k []) = true := by
  unfold validHi at h
  simp only [Bool.and_eq_true, List.all_eq_true] at h
  obtain ⟨⟨⟨h1, h2⟩, h3⟩, h4⟩ := h
  simp only [rng, decide_eq_true_eq] at h2 h3
  refine ⟨h1, by omega, by omega, by omega, by omega, fun k hk => h4 _ ?_⟩
  rw [List.getD_eq_getElem?_getD, List.getElem?_eq_getElem hk]; exact List.getElem_mem _
end Go.Proofs.Ytfooafnfdeofoaa

namespace Go.Proofs.Ytfooafnfdeofoaa
set_option linter.unusedSimpArgs false
set_option linter.unusedVariables false
open Go.RowKit
set_option maxRecDepth 100000 in
set_option maxHeartbeats 1600000 in
theorem laws_equalLists (A A' : Option Addr) (n n' c c' : Nat) (xss yss : List (List Int)) (w : World) (B : Nat) (hB : B ≤ w.heap.size) (hn : n = xss.length) (hn' : n' = yss.length) (h : SS w B A xss) (h' : SS w B A' yss) (hb1 : SB xss) (hb2 : SB yss) :
    Calls Try.prog 37 #[.slice A n c, .slice A' n' c'] w fun e w' => e = .returned (.bool (decide (xss = yss))) ∧ Below w.heap.size w w' := by
  have hm1 : n ≤ 1048576 := by rw [hn]; exact hb1.1
  have hm2 : n' ≤ 1048576 := by rw [hn']; exact hb2.1
  by_cases hl : n = n'
  · have hne : ((n : Int) != (n' : Int)) = false := by simp [hl]
    have HL := Lib.hid hl
    have HN := Lib.hid hn
    have HN' := Lib.hid hn'
    have H := Lib.hid h
    have H' := Lib.hid h'
    have HB1 := Lib.hid hb1
    have HB2 := Lib.hid hb2
    clear hl hn hn' h h' hb1 hb2
    go_enter Try.func37, Try.ntmps37
    go_wp2
    go_loopw [5] (fun i wr => ∃ k : Nat, k ≤ n ∧ i = .int .i64 k ∧ Hid (xss.take k = yss.take k) ∧ Below w.heap.size w wr) (fun i _ => n - (intOf i).toNat)
    case atStart => exact ⟨0, Nat.zero_le _, rfl, by simp [Hid], Below.refl _ _⟩
    case round =>
      obtain ⟨k, hk, rfl, HT, hb⟩ := hrel
      by_cases hlt : k < n
      · obtain ⟨b, off, rfl, hbB, hc⟩ := H.out (by have := HN.out; omega)
        obtain ⟨b', off', rfl, hbB', hc'⟩ := H'.out (by have := HN'.out; have := HL.out; omega)
        obtain ⟨A1, n1, c1, c2, hn1', hps⟩ := hc k (by have := HN.out; omega)
        obtain ⟨A2, n2, d1, d2, hn2', hqs⟩ := hc' k (by have := HN'.out; have := HL.out; omega)
        have hx1 := HB1.out.2 k
        have hx2 := HB2.out.2 k
        clear hc hc' H H'
        have hlt' : k < n' := by have := HL.out; omega
        have b1 := (hb.cell (p := ⟨b, off + k, none⟩) (by simp; omega)).trans c2
        have e1 := (hb.cell (p := ⟨b', off' + k, none⟩) (by simp; omega)).trans d2
        have HPS := Lib.hid (hps.below hb hB)
        have HQS := Lib.hid (hqs.below hb hB)
        clear c2 d2 hps hqs
        have hpd : xss.getD k [] = xss.getD k default := rfl
        have hqd : yss.getD k [] = yss.getD k default := rfl
        rw [hpd] at *
        rw [hqd] at *
        clear hpd hqd
        generalize hp : xss.getD k default = p at *
        generalize hq : yss.getD k default = q at *
        have HP := Lib.hid hp
        have HQ := Lib.hid hq
        have HN1 := Lib.hid hn1'
        have HN2 := Lib.hid hn2'
        have hy1 : n1 ≤ 2000000 := by omega
        have hy2 : n2 ≤ 2000000 := by omega
        have HEQ := Lib.hid fun (w' : World) (hB : B ≤ w'.heap.size) (h : IS w' B A1 p) (h' : IS w' B A2 q) => laws_equalInts A1 A2 n1 n2 c1 d1 p q w' B hB HN1.out HN2.out h h' hy1 hy2
        obtain ⟨r, hr⟩ : ∃ r : Bool, r = decide (p = q) := ⟨_, rfl⟩
        rw [← hr] at HEQ
        have HR := Lib.hid hr
        clear hp hq hn1' hn2' hx1 hx2 hr
        go_wp2
        go_still_tail 8, (by kernel_rfl)
        go_wp2_with fail
        refine (HEQ.out wr.drew (Nat.le_trans hB hb.size) HPS.out HQS.out).mono ?_
        rintro e w1 ⟨rfl, hb1⟩
        cases r
        · go_wp2
          go_ret
          refine ⟨ret_b ?_, hb.drew.trans (hb1.mono hb.size)⟩
          have hne : xss.getD k default ≠ yss.getD k default := by
            rw [HP.out, HQ.out]; exact of_decide_eq_false HR.out.symm
          simp [getD_ne xss yss k hne]
        · have he : xss.getD k default = yss.getD k default := by
            rw [HP.out, HQ.out]; exact of_decide_eq_true HR.out.symm
          have hts := take_step xss yss k (by have := HN.out; omega) (by have := HN'.out; omega) HT.out he
          have HTS := Lib.hid hts
          clear he hts
          go_wp2
          go_roundw
          case rel => exact ⟨k + 1, by omega, by go_num, HTS.out, hb.drew.trans (hb1.mono hb.size)⟩
          case measure => simp [intOf]; omega
      · go_wp2
        go_ret
        refine ⟨ret_b ?_, hb⟩
        have hkn : k = n := by omega
        have := take_all_eq xss yss n HN.out (HL.out.trans HN'.out) (by rw [← hkn]; exact HT.out)
        simp [this]
  · have hne : ((n : Int) != (n' : Int)) = true := by simp; omega
    have hf : decide (xss = yss) = false := by
      rw [decide_eq_false_iff_not]; rintro rfl; omega
    rw [hf]
    clear hl hn hn' h h' hf hb1 hb2
    go_enter Try.func37, Try.ntmps37
    go_wp2
    go_ret
    exact ⟨rfl, Below.refl _ _⟩
end Go.Proofs.Ytfooafnfdeofoaa

namespace Go.Proofs.Ytfooafnfdeofoaa
set_option linter.unusedSimpArgs false
set_option linter.unusedVariables false
open Go.RowKit
def moveB (gs : List Nd) (st : Hi) (y : Int) : Bool := validHi gs st && rng y (-10) 10 && rng (st.ix + y) 0 (st.ss.length - 1)
def moveH (gs : List Nd) (st : Hi) (y : Int) : Hi := if moveB gs st y then ⟨st.ss, st.ix + y⟩ else ⟨[], 0⟩
def moveI (gs : List Nd) (st : Hi) (y : Int) : List Int := if moveB gs st y then chgF gs (st.ss.getD st.ix.toNat []) (st.ss.getD (st.ix + y).toNat []) else []
end Go.Proofs.Ytfooafnfdeofoaa
