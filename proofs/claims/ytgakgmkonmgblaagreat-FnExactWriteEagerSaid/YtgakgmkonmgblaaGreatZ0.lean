/- Words and contracts for memory that the texts behind use. -/
import Derived.Test.YtgakgmkonmgblaaGreatA0
import Derived.Test.YtgakgmkonmgblaaGreatA1
import Derived.Test.YtgakgmkonmgblaaGreatA2
import Derived.Test.YtgakgmkonmgblaaGreatA3
import Derived.Test.YtgakgmkonmgblaaGreatA4
import Derived.Test.YtgakgmkonmgblaaGreatA5
import Derived.Test.YtgakgmkonmgblaaGreatA6
import Derived.Test.YtgakgmkonmgblaaGreatA7
import Derived.Test.YtgakgmkonmgblaaGreatA8
import Derived.WalkKit
import Derived.Laws.OwnMore
import Derived.Deep.Draws
import Derived.Test.YtgakgmkonmgblaaGreatProg
import Derived.WalkSpells
import Derived.WalkLawsBesides
import Derived.Outline
import Derived.Lib.Hide
import Derived.BigQuiet
import Derived.Deep.QuietTactic
import Derived.StillTailTactics
import Derived.Deep.LoopGhost
import Derived.Laws.MakeOwn
import Derived.WalkSmall
import Derived.RegionTactic
import Derived.BigRegion
import Derived.Deep.RegionWith
import Derived.Deep.RegionHeld3
import Derived.Maps.AppendAt
import Derived.Laws.CopyOwn

namespace Go.Proofs.YtgakgmkonmgblaaGreat
set_option linter.unusedSimpArgs false
set_option linter.unusedVariables false
open Go.RowKit
theorem take_set1 (xs : List Value) (k : Nat) (v : Value) (h : k < xs.length) : (xs.set k v).take (k + 1) = xs.take k ++ [v] := by
  rw [List.take_succ_eq_append_getElem (by simpa using h), List.take_set_of_le (by omega)]
  simp
end Go.Proofs.YtgakgmkonmgblaaGreat

namespace Go.Proofs.YtgakgmkonmgblaaGreat
set_option linter.unusedSimpArgs false
set_option linter.unusedVariables false
open Go.RowKit
/-- A row of numbers from k on. -/
def mks (k : Int) (m : Nat) : List Value := (List.range m).map fun j : Nat => Value.int .i64 (k + j)
theorem mks_succ (k : Int) (m : Nat) : mks k (m + 1) = mks k m ++ [.int .i64 (k + m)] := by simp [mks, List.range_succ]
theorem grown_tr {a b c : World} {row : Option Nat} (h : a.grownBy b row) (k : b.grownBy c row) : a.grownBy c row :=
  ⟨k.os.trans h.os, k.tape.trans h.tape, k.output.trans h.output, Nat.le_trans h.size k.size, fun i hi hr => (k.block i (Nat.lt_of_lt_of_le hi h.size) hr).trans (h.block i hi hr)⟩
theorem grown_refl (a : World) (row : Option Nat) : a.grownBy a row := ⟨rfl, rfl, rfl, Nat.le_refl _, fun _ _ _ => rfl⟩
/-- What a mark leaves. -/
def Marked (w : World) (base : Nat) (e : TypeId) (size : Nat) (v : Value) (n : Nat) (k : Int) (r : Ending) (w' : World) : Prop :=
  r = .returned (.int .i64 (k + ((n * size : Nat) : Int))) ∧ w'.ownsRow base e size v n (mks k (n * size)) ∧ w.grownBy w' v.ownBlock
set_option maxHeartbeats 800000 in
theorem laws_markIntS (base n : Nat) (v : Value) (xs : List Value) (k : Int) (w : World) (h : w.ownsRow base 3 1 v n xs) (hk : 0 ≤ k) (hk' : k ≤ 1125899906842624) (hs : n ≤ 2000000) :
    Calls Tryz.prog 27 #[v, .int .i64 k] w fun e w' => Marked w base 3 1 v n k e w' := by
  rcases h.2 with ⟨rfl, rfl⟩ | ⟨g, cap, _, rfl, hbg, hgh, _⟩
  · clear h
    go_enter Tryz.func27, Tryz.ntmps27
    go_wp2
    go_loopw [5, 1] (fun i u wr => i = .int .i64 0 ∧ u = .int .i64 k ∧ wr = w) (fun i _ _ => 0)
    case atStart => exact ⟨rfl, rfl, rfl⟩
    case round =>
      obtain ⟨rfl, rfl, rfl⟩ := hrel
      go_wp2
      go_ret
      exact ⟨by simp, World.ownsRow_nil _ _ _ _, grown_refl _ _⟩
  · have HO := Lib.hid h
    have hgl : g < w.heap.size := (h.lt g rfl).2
    clear h hgh
    go_enter Tryz.func27, Tryz.ntmps27
    go_wp2
    go_loopw [5, 1] (fun i u wr => ∃ (j : Nat) (ys : List Value), j ≤ n ∧ i = .int .i64 j ∧ u = .int .i64 (k + j) ∧ Hid (wr.ownsRow base 3 1 (.slice (some ⟨g, 0, none⟩) n cap) n ys) ∧ Hid (ys.take j = mks k j) ∧ Hid (w.grownBy wr (some g))) (fun i _ _ => n - (intOf i).toNat)
    case atStart => exact ⟨0, xs, by omega, rfl, by simp, HO.out, by simp [Hid, mks], grown_refl _ _⟩
    case round =>
      obtain ⟨j, ys, hj, rfl, rfl, HY, HT, HGR⟩ := hrel
      by_cases hlt : j < n
      · have hl : ys.length = n * 1 := HY.out.1
        have u0 := HY.out.cellAt j (by omega)
        rw [List.getElem?_eq_getElem (by omega)] at u0
        have f0 := HY.out.frozenAt j
        generalize ys[j]'(by omega) = v0 at u0
        have HL := Lib.hid hl
        clear hl
        go_wp2
        all_goals try (go_region; go_wp2)
        all_goals go_roundw
        case rel =>
          have ho := HY.out.stored j (.int .i64 (k + j))
          refine ⟨j + 1, _, by omega, by go_num, by go_num, by first | exact ho.1 | exact ho.1.drew, ?_, by first | exact grown_tr HGR.out ho.2 | exact grown_tr HGR.out ⟨ho.2.os, ho.2.tape, ho.2.output, ho.2.size, ho.2.block⟩⟩
          rw [mks_succ, ← HT.out]
          exact take_set1 ys j _ (by have := HL.out; omega)
        case measure => simp [intOf]; omega
      · obtain rfl : j = n := by omega
        go_wp2
        go_ret
        refine ⟨by simp, ?_, HGR.out⟩
        have h1 := HT.out
        have h2 : ys.length = j * 1 := HY.out.1
        rw [List.take_of_length_le (by omega)] at h1
        rw [Nat.mul_one, ← h1]
        exact HY.out
end Go.Proofs.YtgakgmkonmgblaaGreat

namespace Go.Proofs.YtgakgmkonmgblaaGreat
set_option linter.unusedSimpArgs false
set_option linter.unusedVariables false
open Go.RowKit
/-- Only blocks from a to b - 1 have turned, of those that were there. -/
structure Tch (a b : Nat) (w w' : World) : Prop where
  os : w'.os = w.os
  tape : w'.tape = w.tape
  output : w'.output = w.output
  size : w.heap.size ≤ w'.heap.size
  block : ∀ k, k < w.heap.size → (k < a ∨ b ≤ k) → w'.heap[k]? = w.heap[k]?
theorem Tch.refl (a b : Nat) (w : World) : Tch a b w w := ⟨rfl, rfl, rfl, Nat.le_refl _, fun _ _ _ => rfl⟩
theorem Tch.trans {a b : Nat} {w w1 w2 : World} (h : Tch a b w w1) (k : Tch a b w1 w2) : Tch a b w w2 :=
  ⟨k.os.trans h.os, k.tape.trans h.tape, k.output.trans h.output, Nat.le_trans h.size k.size, fun i hi hr => (k.block i (Nat.lt_of_lt_of_le hi h.size) hr).trans (h.block i hi hr)⟩
theorem Tch.of_below {a b : Nat} {w w' : World} (h : Below w.heap.size w w') : Tch a b w w' := ⟨h.os, h.tape, h.output, h.size, fun k hk _ => h.block k hk⟩
theorem Tch.of_grown {a b : Nat} {w w' : World} {row : Option Nat} (h : w.grownBy w' row) (hr : ∀ k, row = some k → a ≤ k ∧ k < b) : Tch a b w w' :=
  ⟨h.os, h.tape, h.output, h.size, fun k hk ho => h.block k hk fun e => by have := hr k e.symm; omega⟩
theorem Tch.below {a b B : Nat} {w w' : World} (h : Tch a b w w') (hB : B ≤ a) (hs : B ≤ w.heap.size) : Below B w w' :=
  ⟨h.os, h.tape, h.output, h.size, fun k hk => h.block k (by omega) (by omega)⟩
theorem Tch.mono {a b a' b' : Nat} {w w' : World} (h : Tch a b w w') (ha : a' ≤ a) (hb : b ≤ b') : Tch a' b' w w' :=
  ⟨h.os, h.tape, h.output, h.size, fun k hk ho => h.block k hk (by omega)⟩
theorem Tch.drew {a b : Nat} {w w' : World} (h : Tch a b w w') : Tch a b w w'.drew := ⟨h.os, h.tape, h.output, h.size, h.block⟩
end Go.Proofs.YtgakgmkonmgblaaGreat

namespace Go.Proofs.YtgakgmkonmgblaaGreat
set_option linter.unusedSimpArgs false
set_option linter.unusedVariables false
open Go.RowKit
/-- What a mark of an answer leaves. -/
def MkS (lo hi : Nat) (P : World → Prop) (w : World) (k' : Int) (e : Ending) (w' : World) : Prop := e = .returned (.int .i64 k') ∧ As lo hi P w' ∧ Tch lo hi w w'
end Go.Proofs.YtgakgmkonmgblaaGreat

namespace Go.Proofs.YtgakgmkonmgblaaGreat
set_option linter.unusedSimpArgs false
set_option linter.unusedVariables false
open Go.RowKit
def offOf (xss : List (List Int)) (j : Nat) : Nat := ((xss.take j).map List.length).sum
theorem offOf_succ (xss : List (List Int)) (j : Nat) (h : j < xss.length) : offOf xss (j + 1) = offOf xss j + lenOf xss j := by
  unfold offOf lenOf
  rw [List.take_succ_eq_append_getElem h, List.map_append, List.sum_append]
  simp [List.getD, h]
theorem offOf_le (xss : List (List Int)) (j : Nat) : offOf xss j ≤ (xss.map List.length).sum := by
  have : (xss.map List.length).sum = offOf xss j + ((xss.drop j).map List.length).sum := by
    unfold offOf
    rw [← List.sum_append, ← List.map_append, List.take_append_drop]
  omega
theorem SSk.mark {lo hi : Nat} {vs : List Value} {xss : List (List Int)} {k : Int} {w w' : World} {e : Ending} {A : Option Addr} {m c J : Nat} (h : SSk lo hi vs (lenOf xss) (fun j => if j < J then mks (k + offOf xss j) (lenOf xss j) else rowOf xss j) w) (hJ : vs[J]? = some (.slice A m c)) (hml : m = lenOf xss J)
    (hm : Marked w lo 3 1 (.slice A m c) m (k + offOf xss J) e w') : SSk lo hi vs (lenOf xss) (fun j => if j < J + 1 then mks (k + offOf xss j) (lenOf xss j) else rowOf xss j) w' := by
  refine ⟨fun j hj => ?_, h.apart⟩
  obtain ⟨A', m', c', e1, e2, e3⟩ := h.row j hj
  by_cases ej : j = J
  · subst ej
    rw [hJ] at e1
    cases e1
    refine ⟨A, m, c, hJ, hml, ?_, e3.2⟩
    rw [if_pos (by omega), ← hml]
    have := hm.2.1
    rwa [Nat.mul_one] at this
  · refine ⟨A', m', c', e1, e2, ?_, e3.2⟩
    have hne : (Value.slice A' m' c').ownBlock = none ∨ (Value.slice A' m' c').ownBlock ≠ (Value.slice A m c).ownBlock := by
      cases hb : (Value.slice A' m' c').ownBlock with
      | none => exact .inl rfl
      | some q => exact .inr fun e => h.apart j J _ _ q ej e1 hJ hb e.symm
    have := e3.1.kept hm.2.2 hne
    have hif : (if j < J + 1 then mks (k + offOf xss j) (lenOf xss j) else rowOf xss j) = (if j < J then mks (k + offOf xss j) (lenOf xss j) else rowOf xss j) := by
      by_cases h1 : j < J
      · rw [if_pos (by omega), if_pos h1]
      · rw [if_neg (by omega), if_neg h1]
    rw [hif]
    exact this
end Go.Proofs.YtgakgmkonmgblaaGreat

namespace Go.Proofs.YtgakgmkonmgblaaGreat
set_option linter.unusedSimpArgs false
set_option linter.unusedVariables false
open Go.RowKit
/-- The content of rows of which the first J are marked. -/
def mkTo (yss : List (List Int)) (k : Int) (J : Nat) (j : Nat) : List Value := if j < J then mks (k + offOf yss j) (lenOf yss j) else rowOf yss j
/-- What marks of some of the rows leave. -/
def MkRows (lo hi n : Nat) (v : Value) (us vs : List Value) (yss : List (List Int)) (k : Int) (J : Nat) (w : World) (e : Ending) (w' : World) : Prop :=
  e = .returned (.int .i64 (k + offOf yss J)) ∧ OwR lo hi 26 1 v n us w' ∧ SSk lo hi vs (lenOf yss) (mkTo yss k J) w' ∧ Tch lo hi w w'
set_option maxRecDepth 100000 in
set_option maxHeartbeats 1600000 in
theorem laws_markRows (lo hi n s : Nat) (v : Value) (us vs : List Value) (yss : List (List Int)) (k st : Int) (w : World) (hst : st = k + offOf yss s) (hrow : OwR lo hi 26 1 v n us w) (hus : ∀ j, j < n → vs[s + j]? = us[j]?) (hvl : vs.length = yss.length) (hsn : s + n ≤ yss.length) (hin : SSk lo hi vs (lenOf yss) (mkTo yss k s) w) (hsb : SB2 yss) (htot : (yss.map List.length).sum ≤ 1048576) (hk : 0 ≤ k) (hk' : k ≤ 562949953421312) :
    Calls Tryz.prog 70 #[v, .int .i64 st] w fun e w' => MkRows lo hi n v us vs yss k (s + n) w e w' := by
  have hnb : n ≤ 2000000 := by have := hsb.1; omega
  have hul : us.length = n := by have := hrow.1.1; omega
  have HUS := Lib.hid hus
  have HVL := Lib.hid hvl
  have HIN := Lib.hid hin
  have HSB := Lib.hid hsb
  have HST := Lib.hid hst
  have HSN := Lib.hid hsn
  have hs0 : 0 ≤ st := by omega
  rcases hrow.1.2 with ⟨hv, hz⟩ | ⟨g, cap, cur, hv, hbg, hgh, hrest⟩
  · subst hv
    subst hz
    have HROW := Lib.hid hrow
    clear hrow hin hus hvl hst hsb hul hsn
    go_enter Tryz.func70, Tryz.ntmps70
    go_wp2
    go_loopw [5, 1] (fun i u wr => i = .int .i64 0 ∧ u = .int .i64 st ∧ wr = w) (fun i _ _ => 0)
    case atStart => exact ⟨rfl, rfl, rfl⟩
    case round =>
      obtain ⟨rfl, rfl, rfl⟩ := hrel
      go_wp2
      go_ret
      exact ⟨by simp [HST.out], HROW.out, by simpa using HIN.out, Tch.refl _ _ _⟩
  · subst hv
    have hglo : lo ≤ g := hbg
    have hghi : g < hi := hrow.2 g rfl
    have HROW := Lib.hid hrow
    clear hrow hin hus hvl hst hsb hgh hrest hbg hul hsn
    go_enter Tryz.func70, Tryz.ntmps70
    go_wp2
    go_loopw [5, 1] (fun i u wr => ∃ j : Nat, j ≤ n ∧ i = .int .i64 j ∧ u = .int .i64 (k + offOf yss (s + j)) ∧ Hid (OwR lo hi 26 1 (.slice (some ⟨g, 0, none⟩) n cap) n us wr) ∧ Hid (SSk lo hi vs (lenOf yss) (mkTo yss k (s + j)) wr) ∧ Hid (Tch lo hi w wr)) (fun i _ _ => n - (intOf i).toNat)
    case atStart => exact ⟨0, by omega, rfl, by simp [HST.out], HROW.out, by simpa using HIN, Tch.refl _ _ _⟩
    case round =>
      obtain ⟨j, hj, rfl, rfl, HR, HS, HT⟩ := hrel
      by_cases hlt : j < n
      · obtain ⟨A, m, c, e1, e2, e3⟩ := HS.out.row (s + j) (by have := HVL.out; have := HSN.out; omega)
        have u0 := (HR.out.1.cellAt j (by omega)).trans ((HUS.out j hlt).symm.trans e1)
        have hmb : m ≤ 1048576 := by rw [e2]; exact HSB.out.2 (s + j)
        have hoff := offOf_succ yss (s + j) (by have := HSN.out; omega)
        have hol := offOf_le yss (s + j)
        rw [← e2] at hoff
        have E1 := Lib.hid e1
        have E2 := Lib.hid e2
        have E3 := Lib.hid e3.1
        have HO := Lib.hid hoff
        obtain ⟨o, ho⟩ : ∃ o : Nat, o = offOf yss (s + j) := ⟨_, rfl⟩
        rw [← ho] at hol
        have hob : (o : Int) ≤ 1048576 := by omega
        have HOO := Lib.hid ho
        rw [← ho]
        clear e1 e2 e3 hoff ho hol
        go_wp2_with fail
        refine (laws_markIntS lo m _ _ (k + o) _ E3.out (by omega) (by omega) (by omega)).mono ?_
        rintro e w1 hm
        rw [HOO.out] at hm
        have he := hm.1
        have HS2 := Lib.hid (HS.out.mark E1.out E2.out hm)
        have HR2 : Hid (OwR lo hi 26 1 (.slice (some ⟨g, 0, none⟩) n cap) n us w1) := ⟨HR.out.1.kept hm.2.2 (blocks_ne HR.out.1 E3.out ints_ne_int.symm), HR.out.2⟩
        have hr3 := (HS.out.lt (s + j) _ · E1.out)
        have HT2 : Hid (Tch lo hi w w1) := HT.out.trans (Tch.of_grown hm.2.2 fun q hq => hr3 q hq)
        have hen : k + (offOf yss (s + j) : Int) + ((m * 1 : Nat) : Int) = k + (offOf yss (s + (j + 1)) : Nat) := by rw [← Nat.add_assoc, HO.out]; omega
        rw [hen] at he
        subst he
        clear hm hr3 hen
        obtain ⟨o2, ho2⟩ : ∃ o2 : Nat, o2 = offOf yss (s + (j + 1)) := ⟨_, rfl⟩
        have HO2 := Lib.hid ho2
        rw [← ho2]
        clear ho2
        go_wp2
        go_roundw
        case rel => exact ⟨j + 1, by omega, by go_num, by rw [HO2.out], HR2.out, HS2.out, HT2.out⟩
        case measure => simp [intOf]; omega
      · obtain rfl : j = n := by omega
        obtain ⟨o, ho⟩ : ∃ o : Nat, o = offOf yss (s + j) := ⟨_, rfl⟩
        have HOO := Lib.hid ho
        rw [← ho]
        clear ho
        go_wp2
        go_ret
        exact ⟨ret_i (by rw [HOO.out]), HR.out, HS.out, HT.out⟩
end Go.Proofs.YtgakgmkonmgblaaGreat
