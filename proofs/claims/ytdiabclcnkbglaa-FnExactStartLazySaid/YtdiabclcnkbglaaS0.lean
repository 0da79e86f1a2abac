/- Words and contracts for memory that the texts behind use. -/
import Derived.Test.YtdiabclcnkbglaaS0c
import Derived.WalkKit
import Derived.Laws.OwnMore
import Derived.Deep.Draws
import Derived.Test.YtdiabclcnkbglaaProg
import Derived.WalkSpells
import Derived.WalkLawsBesides
import Derived.Outline
import Derived.Lib.Hide
import Derived.BigQuiet
import Derived.Deep.QuietTactic
import Derived.StillTailTactics
import Derived.Deep.LoopGhost
import Derived.Laws.MakeOwn
import Derived.WalkSmall
import Derived.RegionTactic
import Derived.BigRegion
import Derived.Deep.RegionWith
import Derived.Deep.RegionHeld3
import Derived.Maps.AppendAt
import Derived.Laws.CopyOwn
import Derived.Deep.AppendLies
import Derived.Test.YtdiabclcnkbglaaRows
import Derived.ProofKit
import Derived.OpenShut
import Derived.ShutString
import Derived.ChangeOld
import Derived.Below
import Derived.Deep.Slices
import Derived.Deep.Fields

namespace Go.Proofs.Ytdiabclcnkbglaa
set_option linter.unusedSimpArgs false
set_option linter.unusedVariables false
open Go.RowKit
structure Eg where
  vs : List Int
  rs : List (List Int)
deriving DecidableEq, Inhabited
/-- Some more lists than a million, none longer. -/
def SB2 (xss : List (List Int)) : Prop := xss.length ≤ 2000000 ∧ ∀ j, (xss.getD j []).length ≤ 1048576
theorem len_le_sum (xss : List (List Int)) (j : Nat) : (xss.getD j []).length ≤ (xss.map List.length).sum := by
  induction xss generalizing j with
  | nil => simp
  | cons x xs ih =>
    cases j with
    | zero => simp [List.getD]
    | succ j => have := ih j; simp [List.getD] at *; omega
theorem SB.of_sum {xss : List (List Int)} (h : xss.length ≤ 1048576) (h' : (xss.map List.length).sum ≤ 1048576) : SB xss :=
  ⟨h, fun j => Nat.le_trans (len_le_sum xss j) h'⟩
theorem SB2.of_sum {xss : List (List Int)} (h : xss.length ≤ 2000000) (h' : (xss.map List.length).sum ≤ 1048576) : SB2 xss :=
  ⟨h, fun j => Nat.le_trans (len_le_sum xss j) h'⟩
/-- The first lists, and nothing for the others. -/
def cpTo (xss : List (List Int)) (n k : Nat) : List (List Int) := xss.take k ++ List.replicate (n - k) []
theorem SS.at_ {w : World} {B : Nat} {A : Option Addr} {xss : List (List Int)} (h : SS w B A xss) (j : Nat) (hj : j < xss.length) : ∃ b off, A = some ⟨b, off, none⟩ ∧ b < B ∧ ∃ A' n c, w.cell? ⟨b, off + j, none⟩ = some (.slice A' n c) ∧ n = (xss.getD j []).length ∧ IS w B A' (xss.getD j []) := by
  obtain ⟨b, off, e, hb, hc⟩ := h (by omega)
  exact ⟨b, off, e, hb, hc j hj⟩
end Go.Proofs.Ytdiabclcnkbglaa

namespace Go.Proofs.Ytdiabclcnkbglaa
set_option linter.unusedSimpArgs false
set_option linter.unusedVariables false
open Go.RowKit
/-- The content of rows of which the first J are marked. -/
def mkTo (yss : List (List Int)) (k : Int) (J : Nat) (j : Nat) : List Value := if j < J then mks (k + offOf yss j) (lenOf yss j) else rowOf yss j
theorem mkTo_zero (yss : List (List Int)) (k : Int) : mkTo yss k 0 = rowOf yss := by funext j; unfold mkTo; simp
theorem SSk.congr {lo hi : Nat} {vs : List Value} {lens : Nat → Nat} {cont cont' : Nat → List Value} {w : World} (h : SSk lo hi vs lens cont w) (hc : ∀ j, j < vs.length → cont j = cont' j) : SSk lo hi vs lens cont' w :=
  ⟨fun j hj => by obtain ⟨A, m, c, e1, e2, e3⟩ := h.row j hj; exact ⟨A, m, c, e1, e2, by rw [← hc j hj]; exact e3⟩, h.apart⟩
/-- What marks of some of the rows leave. -/
def MkRows (lo hi n : Nat) (v : Value) (us vs : List Value) (yss : List (List Int)) (k : Int) (J : Nat) (w : World) (e : Ending) (w' : World) : Prop :=
  e = .returned (.int .i64 (k + offOf yss J)) ∧ OwR lo hi 25 1 v n us w' ∧ SSk lo hi vs (lenOf yss) (mkTo yss k J) w' ∧ Tch lo hi w w'
set_option maxRecDepth 100000 in
set_option maxHeartbeats 1600000 in
theorem laws_markRows (lo hi n s : Nat) (v : Value) (us vs : List Value) (yss : List (List Int)) (k st : Int) (w : World) (hst : st = k + offOf yss s) (hrow : OwR lo hi 25 1 v n us w) (hus : ∀ j, j < n → vs[s + j]? = us[j]?) (hvl : vs.length = yss.length) (hsn : s + n ≤ yss.length) (hin : SSk lo hi vs (lenOf yss) (mkTo yss k s) w) (hsb : SB2 yss) (htot : (yss.map List.length).sum ≤ 1048576) (hk : 0 ≤ k) (hk' : k ≤ 562949953421312) :
    Calls Try.prog 26 #[v, .int .i64 st] w fun e w' => MkRows lo hi n v us vs yss k (s + n) w e w' := by
  have hnb : n ≤ 2000000 := by have := hsb.1; omega
  have hul : us.length = n := by have := hrow.1.1; omega
  have HUS := Lib.hid hus
  have HVL := Lib.hid hvl
  have HIN := Lib.hid hin
  have HSB := Lib.hid hsb
  have HST := Lib.hid hst
  have HSN := Lib.hid hsn
  have hs0 : 0 ≤ st := by omega
  rcases hrow.1.2 with ⟨hv, hz⟩ | ⟨g, cap, cur, hv, hbg, hgh, hrest⟩
  · subst hv
    subst hz
    have HROW := Lib.hid hrow
    clear hrow hin hus hvl hst hsb hul hsn
    go_enter Try.func26, Try.ntmps26
    go_wp2
    go_loopw [5, 1] (fun i u wr => i = .int .i64 0 ∧ u = .int .i64 st ∧ wr = w) (fun i _ _ => 0)
    case atStart => exact ⟨rfl, rfl, rfl⟩
    case round =>
      obtain ⟨rfl, rfl, rfl⟩ := hrel
      go_wp2
      go_ret
      exact ⟨by simp [HST.out], HROW.out, by simpa using HIN.out, Tch.refl _ _ _⟩
  · subst hv
    have hglo : lo ≤ g := hbg
    have hghi : g < hi := hrow.2 g rfl
    have HROW := Lib.hid hrow
    clear hrow hin hus hvl hst hsb hgh hrest hbg hul hsn
    go_enter Try.func26, Try.ntmps26
    go_wp2
    go_loopw [5, 1] (fun i u wr => ∃ j : Nat, j ≤ n ∧ i = .int .i64 j ∧ u = .int .i64 (k + offOf yss (s + j)) ∧ Hid (OwR lo hi 25 1 (.slice (some ⟨g, 0, none⟩) n cap) n us wr) ∧ Hid (SSk lo hi vs (lenOf yss) (mkTo yss k (s + j)) wr) ∧ Hid (Tch lo hi w wr)) (fun i _ _ => n - (intOf i).toNat)
    case atStart => exact ⟨0, by omega, rfl, by simp [HST.out], HROW.out, by simpa using HIN, Tch.refl _ _ _⟩
    case round =>
      obtain ⟨j, hj, rfl, rfl, HR, HS, HT⟩ := hrel
      by_cases hlt : j < n
      · obtain ⟨A, m, c, e1, e2, e3⟩ := HS.out.row (s + j) (by have := HVL.out; have := HSN.out; omega)
        have u0 := (HR.out.1.cellAt j (by omega)).trans ((HUS.out j hlt).symm.trans e1)
        have hmb : m ≤ 1048576 := by rw [e2]; exact HSB.out.2 (s + j)
        have hoff := offOf_succ yss (s + j) (by have := HSN.out; omega)
        have hol := offOf_le yss (s + j)
        rw [← e2] at hoff
        have E1 := Lib.hid e1
        have E2 := Lib.hid e2
        have E3 := Lib.hid e3.1
        have HO := Lib.hid hoff
        obtain ⟨o, ho⟩ : ∃ o : Nat, o = offOf yss (s + j) := ⟨_, rfl⟩
        rw [← ho] at hol
        have hob : (o : Int) ≤ 1048576 := by omega
        have HOO := Lib.hid ho
        rw [← ho]
        clear e1 e2 e3 hoff ho hol
        go_wp2_with fail
        refine (laws_markIntS lo m _ _ (k + o) _ E3.out (by omega) (by omega) (by omega)).mono ?_
        rintro e w1 hm
        rw [HOO.out] at hm
        have he := hm.1
        have HS2 := Lib.hid (HS.out.mark E1.out E2.out hm)
        have HR2 : Hid (OwR lo hi 25 1 (.slice (some ⟨g, 0, none⟩) n cap) n us w1) := ⟨HR.out.1.kept hm.2.2 (blocks_ne HR.out.1 E3.out ints_ne_int.symm), HR.out.2⟩
        have hr3 := (HS.out.lt (s + j) _ · E1.out)
        have HT2 : Hid (Tch lo hi w w1) := HT.out.trans (Tch.of_grown hm.2.2 fun q hq => hr3 q hq)
        have hen : k + (offOf yss (s + j) : Int) + ((m * 1 : Nat) : Int) = k + (offOf yss (s + (j + 1)) : Nat) := by rw [← Nat.add_assoc, HO.out]; omega
        rw [hen] at he
        subst he
        clear hm hr3 hen
        obtain ⟨o2, ho2⟩ : ∃ o2 : Nat, o2 = offOf yss (s + (j + 1)) := ⟨_, rfl⟩
        have HO2 := Lib.hid ho2
        rw [← ho2]
        clear ho2
        go_wp2
        go_roundw
        case rel => exact ⟨j + 1, by omega, by go_num, by rw [HO2.out], HR2.out, HS2.out, HT2.out⟩
        case measure => simp [intOf]; omega
      · obtain rfl : j = n := by omega
        obtain ⟨o, ho⟩ : ∃ o : Nat, o = offOf yss (s + j) := ⟨_, rfl⟩
        have HOO := Lib.hid ho
        rw [← ho]
        clear ho
        go_wp2
        go_ret
        exact ⟨ret_i (by rw [HOO.out]), HR.out, HS.out, HT.out⟩
set_option maxRecDepth 100000 in
set_option maxHeartbeats 1600000 in
theorem laws_heldRows (lo hi n s : Nat) (v : Value) (us vs : List Value) (yss : List (List Int)) (k st : Int) (w : World) (hst : st = k + offOf yss s) (hrow : OwR lo hi 25 1 v n us w) (hus : ∀ j, j < n → vs[s + j]? = us[j]?) (hvl : vs.length = yss.length) (hsn : s + n ≤ yss.length) (hin : SSk lo hi vs (lenOf yss) (fun j => mks (k + offOf yss j) (lenOf yss j)) w) (hsb : SB2 yss) (htot : (yss.map List.length).sum ≤ 1048576) (hk : 0 ≤ k) (hk' : k ≤ 562949953421312) :
    Calls Try.prog 28 #[v, .int .i64 st] w fun e w' => e = .returned (.int .i64 (k + offOf yss (s + n))) ∧ Below w.heap.size w w' := by
  have hnb : n ≤ 2000000 := by have := hsb.1; omega
  have hul : us.length = n := by have := hrow.1.1; omega
  have HUS := Lib.hid hus
  have HVL := Lib.hid hvl
  have HIN := Lib.hid hin
  have HSB := Lib.hid hsb
  have HST := Lib.hid hst
  have HSN := Lib.hid hsn
  have hs0 : 0 ≤ st := by omega
  rcases hrow.1.2 with ⟨hv, hz⟩ | ⟨g, cap, cur, hv, hbg, hgh, hrest⟩
  · subst hv
    subst hz
    clear hrow hin hus hvl hst hsb hul hsn
    go_enter Try.func28, Try.ntmps28
    go_wp2
    go_loopw [5, 1] (fun i u wr => i = .int .i64 0 ∧ u = .int .i64 st ∧ wr = w) (fun i _ _ => 0)
    case atStart => exact ⟨rfl, rfl, rfl⟩
    case round =>
      obtain ⟨rfl, rfl, rfl⟩ := hrel
      go_wp2
      go_ret
      exact ⟨by simp [HST.out], Below.refl _ _⟩
  · subst hv
    have HROW := Lib.hid hrow
    clear hrow hin hus hvl hst hsb hgh hrest hbg hul hsn
    go_enter Try.func28, Try.ntmps28
    go_wp2
    go_loopw [5, 1] (fun i u wr => ∃ j : Nat, j ≤ n ∧ i = .int .i64 j ∧ u = .int .i64 (k + offOf yss (s + j)) ∧ Below w.heap.size w wr) (fun i _ _ => n - (intOf i).toNat)
    case atStart => exact ⟨0, by omega, rfl, by simp [HST.out], Below.refl _ _⟩
    case round =>
      obtain ⟨j, hj, rfl, rfl, hb⟩ := hrel
      by_cases hlt : j < n
      · obtain ⟨A, m, c, e1, e2, e3⟩ := HIN.out.row (s + j) (by have := HVL.out; have := HSN.out; omega)
        have u0 := ((own_below HROW.out.1 hb).cellAt j (by omega)).trans ((HUS.out j hlt).symm.trans e1)
        have hmb : m ≤ 1048576 := by rw [e2]; exact HSB.out.2 (s + j)
        have hoff := offOf_succ yss (s + j) (by have := HSN.out; omega)
        have hol := offOf_le yss (s + j)
        rw [← e2] at hoff e3
        have E3 := Lib.hid (own_below e3.1 hb)
        have HO := Lib.hid hoff
        obtain ⟨o, ho⟩ : ∃ o : Nat, o = offOf yss (s + j) := ⟨_, rfl⟩
        rw [← ho] at hol E3 HO
        have hob : (o : Int) ≤ 1048576 := by omega
        rw [← ho]
        clear e1 e2 e3 hoff ho hol
        go_wp2_with fail
        refine (laws_heldIntS lo m _ (k + o) _ E3.out (by omega) (by omega) (by omega)).mono ?_
        rintro e w1 ⟨rfl, hb1⟩
        have hen : k + (o : Int) + (m : Int) = k + (offOf yss (s + (j + 1)) : Nat) := by rw [← Nat.add_assoc, HO.out]; omega
        rw [hen]
        obtain ⟨o2, ho2⟩ : ∃ o2 : Nat, o2 = offOf yss (s + (j + 1)) := ⟨_, rfl⟩
        have HO2 := Lib.hid ho2
        rw [← ho2]
        clear ho2 hen
        have hpos : 0 ≤ k + (o2 : Int) := by omega
        go_wp2
        go_roundw
        case rel => exact ⟨j + 1, by omega, by go_num, by rw [HO2.out], hb.trans (hb1.mono hb.size)⟩
        case measure => simp [intOf]; omega
      · obtain rfl : j = n := by omega
        obtain ⟨o, ho⟩ : ∃ o : Nat, o = offOf yss (s + j) := ⟨_, rfl⟩
        have HOO := Lib.hid ho
        rw [← ho]
        clear ho
        go_wp2
        go_ret
        exact ⟨ret_i (by rw [HOO.out]), hb⟩
end Go.Proofs.Ytdiabclcnkbglaa

namespace Go.Proofs.Ytdiabclcnkbglaa
set_option linter.unusedSimpArgs false
set_option linter.unusedVariables false
open Go.RowKit
section
variable {lo hi : Nat} {w : World}
/-- One row more ahead. -/
theorem SSk.cons {us : List Value} {x : List Int} {xs : List (List Int)} {A : Option Addr} {n c : Nat} (h : SSk lo hi us (lenOf xs) (rowOf xs) w) (hr : OwR lo hi 3 1 (.slice A n c) n (x.map (Value.int .i64)) w) (hn : n = x.length) (hap : ∀ (j : Nat) (u : Value) (k : Nat), us[j]? = some u → (Value.slice A n c).ownBlock = some k → u.ownBlock ≠ some k) : SSk lo hi (.slice A n c :: us) (lenOf (x :: xs)) (rowOf (x :: xs)) w := by
  refine ⟨fun j hj => ?_, fun i j v u k hij h3 h4 hv hu => ?_⟩
  · cases j with
    | zero => exact ⟨A, n, c, rfl, hn, hr⟩
    | succ j => exact h.row j (by simpa using hj)
  · cases i with
    | zero =>
      cases j with
      | zero => exact hij rfl
      | succ j =>
        simp only [List.getElem?_cons_zero, Option.some.injEq] at h3
        subst h3
        exact hap j u k h4 hv hu
    | succ i =>
      cases j with
      | zero =>
        simp only [List.getElem?_cons_zero, Option.some.injEq] at h4
        subst h4
        exact hap i v k h3 hu hv
      | succ j => exact h.apart i j v u k (by omega) h3 h4 hv hu
/-- One row more behind. -/
theorem SSk.snoc {us : List Value} {x : List Int} {xs : List (List Int)} {A : Option Addr} {n c : Nat} (h : SSk lo hi us (lenOf xs) (rowOf xs) w) (hl : us.length = xs.length) (hr : OwR lo hi 3 1 (.slice A n c) n (x.map (Value.int .i64)) w) (hn : n = x.length) (hap : ∀ (j : Nat) (u : Value) (k : Nat), us[j]? = some u → (Value.slice A n c).ownBlock = some k → u.ownBlock ≠ some k) : SSk lo hi (us ++ [.slice A n c]) (lenOf (xs ++ [x])) (rowOf (xs ++ [x])) w := by
  have hin : ∀ j, j < us.length → (us ++ [Value.slice A n c])[j]? = us[j]? ∧ (xs ++ [x]).getD j [] = xs.getD j [] := fun j hj => ⟨List.getElem?_append_left hj, by simp only [List.getD, List.getElem?_append_left (show j < xs.length by omega)]⟩
  have hlast : (us ++ [Value.slice A n c])[us.length]? = some (.slice A n c) ∧ (xs ++ [x]).getD us.length [] = x := ⟨by simp, by rw [hl]; simp [List.getD]⟩
  have hout : ∀ j v, (us ++ [Value.slice A n c])[j]? = some v → j < us.length ∨ (j = us.length ∧ v = .slice A n c) := by
    intro j v hv
    rcases Nat.lt_trichotomy j us.length with h1 | h1 | h1
    · exact .inl h1
    · subst h1; rw [hlast.1] at hv; cases hv; exact .inr ⟨rfl, rfl⟩
    · rw [List.getElem?_eq_none (by simp; omega)] at hv; cases hv
  refine ⟨fun j hj => ?_, fun i j v u k hij h3 h4 hv hu => ?_⟩
  · by_cases h1 : j < us.length
    · obtain ⟨A', m, c', r1, r2, r3⟩ := h.row j h1
      refine ⟨A', m, c', (hin j h1).1.trans r1, ?_, ?_⟩
      · rw [r2]; unfold lenOf; rw [(hin j h1).2]
      · have : rowOf (xs ++ [x]) j = rowOf xs j := by unfold rowOf; rw [(hin j h1).2]
        rw [this]; exact r3
    · obtain rfl : j = us.length := by simp at hj; omega
      refine ⟨A, n, c, hlast.1, ?_, ?_⟩
      · unfold lenOf; rw [hlast.2]; exact hn
      · have : rowOf (xs ++ [x]) us.length = x.map (Value.int .i64) := by unfold rowOf; rw [hlast.2]
        rw [this]; exact hr
  · rcases hout i v h3 with h1 | ⟨h1, rfl⟩
    · rcases hout j u h4 with h2 | ⟨h2, rfl⟩
      · exact h.apart i j v u k hij ((hin i h1).1.symm.trans h3) ((hin j h2).1.symm.trans h4) hv hu
      · exact hap i v k ((hin i h1).1.symm.trans h3) hu hv
    · rcases hout j u h4 with h2 | ⟨h2, rfl⟩
      · exact hap j u k ((hin j h2).1.symm.trans h4) hv hu
      · omega
end
structure Lz where
  vs : List Int
  rs : List (List Int)
  cs : List Int
deriving DecidableEq, Inhabited
def rowsL (e : Lz) : List (List Int) := e.vs :: (e.rs ++ [e.cs])
def lsz (e : Lz) : Nat := e.vs.length + (e.rs.length + (e.rs.map List.length).sum) + e.cs.length
/-- No more numbers than a million. -/
def LB (e : Lz) : Prop := e.vs.length ≤ 1048576 ∧ SB e.rs ∧ SB2 (rowsL e) ∧ (e.rs.map List.length).sum ≤ 1048576 ∧ ((rowsL e).map List.length).sum ≤ 1048576 ∧ e.cs.length ≤ 1048576
theorem LB.of_small (e : Lz) (h1 : e.vs.length ≤ 1000) (h2 : SB e.rs) (h3 : (e.rs.map List.length).sum ≤ 1000) (h4 : e.cs.length ≤ 1000) : LB e := by
  have h5 : ((rowsL e).map List.length).sum ≤ 1048576 := by unfold rowsL; simp; omega
  exact ⟨by omega, h2, SB2.of_sum (by unfold rowsL; simp; have := h2.1; omega) h5, by omega, h5, by omega⟩
/-- The slices at A, E and C read as the state e; all of it lies below block B. -/
def LS3 (w : World) (B : Nat) (A E C : Option Addr) (e : Lz) : Prop := IS w B A e.vs ∧ (SS w B E e.rs ∧ IS w B C e.cs)
section
variable {w w' : World} {B B' D : Nat} {A E C : Option Addr} {e : Lz}
theorem LS3.more (h : LS3 w B A E C e) (hB : B ≤ B') : LS3 w B' A E C e := ⟨h.1.more hB, h.2.1.more hB, h.2.2.more hB⟩
theorem LS3.below (h : LS3 w B A E C e) (hb : Below D w w') (hC : B ≤ D) : LS3 w' B A E C e := ⟨h.1.below hb hC, h.2.1.below hb hC, h.2.2.below hb hC⟩
theorem LS3.alloc (h : LS3 w B A E C e) (hB : B ≤ w.heap.size) (o : Obj) : LS3 (w.alloc o) B A E C e := ⟨h.1.alloc hB o, h.2.1.alloc hB o, h.2.2.alloc hB o⟩
theorem LS3.keep (h : LS3 w B A E C e) (hk : ∀ p : Addr, p.block < B → w'.cell? p = w.cell? p) : LS3 w' B A E C e := ⟨h.1.keep hk, h.2.1.keep hk, h.2.2.keep hk⟩
theorem LS3.setCell (h : LS3 w B A E C e) {b j : Nat} (hb : B ≤ b) (u : Value) : LS3 (w.setCell ⟨b, j, none⟩ u) B A E C e := h.keep fun p hp => World.cell?_setCell_other _ _ _ _ (by intro e; rw [← e] at hp; exact absurd hp (by show ¬ b < B; omega))
theorem LS3.loc (B : Nat) (A E C : Option Addr) (e : Lz) : Loc 0 B fun w => LS3 w B A E C e := (IS.loc B A e.vs).and ((SS.loc B E e.rs).and (IS.loc B C e.cs))
end
/-- A state of the call's own, in blocks lo to hi - 1. -/
def OwL (lo hi : Nat) (A : Option Addr) (n c : Nat) (E : Option Addr) (en ec : Nat) (C : Option Addr) (m d : Nat) (st : Lz) (w : World) : Prop :=
  n = st.vs.length ∧ en = st.rs.length ∧ m = st.cs.length ∧ ∃ us, OwR lo hi 25 1 (.slice E en ec) en us w ∧ SSk lo hi (.slice A n c :: (us ++ [.slice C m d])) (lenOf (rowsL st)) (rowOf (rowsL st)) w
/-- The same, marked from k on. -/
def MkL (lo hi : Nat) (A : Option Addr) (n c : Nat) (E : Option Addr) (en ec : Nat) (C : Option Addr) (m d : Nat) (st : Lz) (k : Int) (w : World) : Prop :=
  n = st.vs.length ∧ en = st.rs.length ∧ m = st.cs.length ∧ ∃ us, OwR lo hi 25 1 (.slice E en ec) en us w ∧ SSk lo hi (.slice A n c :: (us ++ [.slice C m d])) (lenOf (rowsL st)) (fun j => mks (k + offOf (rowsL st) j) (lenOf (rowsL st) j)) w
section
variable {lo hi lo' hi' n c en ec m d : Nat} {A E C : Option Addr} {st : Lz} {k : Int} {w w' : World}
theorem OwL.loc (lo hi : Nat) (A : Option Addr) (n c : Nat) (E : Option Addr) (en ec : Nat) (C : Option Addr) (m d : Nat) (st : Lz) : Loc lo hi (OwL lo hi A n c E en ec C m d st) := by
  rintro w w' ⟨h0, h0', h0'', vs, h1, h2⟩ hk
  exact ⟨h0, h0', h0'', vs, h1.keep hk, h2.keep hk⟩
theorem MkL.loc (lo hi : Nat) (A : Option Addr) (n c : Nat) (E : Option Addr) (en ec : Nat) (C : Option Addr) (m d : Nat) (st : Lz) (k : Int) : Loc lo hi (MkL lo hi A n c E en ec C m d st k) := by
  rintro w w' ⟨h0, h0', h0'', vs, h1, h2⟩ hk
  exact ⟨h0, h0', h0'', vs, h1.keep hk, h2.keep hk⟩
theorem OwL.mono (h : OwL lo hi A n c E en ec C m d st w) (h1 : lo' ≤ lo) (h2 : hi ≤ hi') : OwL lo' hi' A n c E en ec C m d st w := by
  obtain ⟨h0, h0', h0'', vs, e1, e2⟩ := h
  exact ⟨h0, h0', h0'', vs, e1.mono h1 h2, e2.mono h1 h2⟩
theorem OwL.row0 (h : OwL lo hi A n c E en ec C m d st w) : OwR lo hi 3 1 (.slice A n c) n (st.vs.map (Value.int .i64)) w := by
  obtain ⟨h0, h0', h0'', us, e1, e2⟩ := h
  obtain ⟨A', m', c', r1, r2, r3⟩ := e2.row 0 (by simp)
  simp only [List.getElem?_cons_zero, Option.some.injEq, Value.slice.injEq] at r1
  obtain ⟨rfl, rfl, rfl⟩ := r1
  exact r3
theorem rowsL_mid (st : Lz) (j : Nat) (h : j < st.rs.length) : (rowsL st).getD (j + 1) [] = st.rs.getD j [] := by
  unfold rowsL
  simp [List.getD, List.getElem?_append_left h]
theorem rowsL_last (st : Lz) : (rowsL st).getD (st.rs.length + 1) [] = st.cs := by
  unfold rowsL
  simp [List.getD]
theorem OwL.rowC (h : OwL lo hi A n c E en ec C m d st w) : OwR lo hi 3 1 (.slice C m d) m (st.cs.map (Value.int .i64)) w := by
  obtain ⟨h0, h0', h0'', us, e1, e2⟩ := h
  have hul : us.length = en := by have := e1.1.1; omega
  obtain ⟨A', m', c', r1, r2, r3⟩ := e2.row (st.rs.length + 1) (by simp; omega)
  rw [List.getElem?_cons_succ, ← h0', ← hul] at r1
  simp only [List.getElem?_concat_length, Option.some.injEq, Value.slice.injEq] at r1
  obtain ⟨rfl, rfl, rfl⟩ := r1
  have : rowOf (rowsL st) (st.rs.length + 1) = st.cs.map (Value.int .i64) := by unfold rowOf; rw [rowsL_last]
  rw [this] at r3
  exact r3
theorem OwL.lists (h : OwL lo hi A n c E en ec C m d st w) : OwSS lo hi (.slice E en ec) en st.rs w := by
  obtain ⟨h0, h0', h0'', us, e1, e2⟩ := h
  have hul : us.length = en := by have := e1.1.1; omega
  refine ⟨h0', us, e1, ⟨fun j hj => ?_, fun i j v u k hij h1 h2 => ?_⟩⟩
  · obtain ⟨A', m', c', r1, r2, r3⟩ := e2.row (j + 1) (by simp; omega)
    rw [List.getElem?_cons_succ, List.getElem?_append_left hj] at r1
    have hm := rowsL_mid st j (by omega)
    refine ⟨A', m', c', r1, by rw [r2]; unfold lenOf; rw [hm], ?_⟩
    have : rowOf (rowsL st) (j + 1) = rowOf st.rs j := by unfold rowOf; rw [hm]
    rw [← this]; exact r3
  · have l1 : i < us.length := by
      rcases Nat.lt_or_ge i us.length with h3 | h3
      · exact h3
      · rw [List.getElem?_eq_none h3] at h1; cases h1
    have l2 : j < us.length := by
      rcases Nat.lt_or_ge j us.length with h3 | h3
      · exact h3
      · rw [List.getElem?_eq_none h3] at h2; cases h2
    exact e2.apart (i + 1) (j + 1) v u k (by omega) (by rw [List.getElem?_cons_succ, List.getElem?_append_left l1]; exact h1) (by rw [List.getElem?_cons_succ, List.getElem?_append_left l2]; exact h2)
theorem OwL.reads (h : OwL lo hi A n c E en ec C m d st w) : LS3 w hi A E C st := ⟨h.row0.ints, h.lists.lists, h.rowC.ints⟩
theorem lazy_start (h : OwL lo w.heap.size A n c E en ec C m d st w) : As lo w.heap.size (OwL lo w.heap.size A n c E en ec C m d st) w := ⟨h, Nat.le_refl _, OwL.loc _ _ _ _ _ _ _ _ _ _ _ _⟩
theorem As.lazy (h : As lo hi (OwL lo hi A n c E en ec C m d st) w) : LS3 w w.heap.size A E C st := h.it.reads.more h.le
/-- Three parts that lie apart make a state. -/
theorem OwL.of_apart {us : List Value} (h1 : OwR lo hi 3 1 (.slice A n c) n (st.vs.map (Value.int .i64)) w) (hn : n = st.vs.length) (hen : en = st.rs.length) (h2 : OwR lo hi 25 1 (.slice E en ec) en us w) (h3 : SSk lo hi us (lenOf st.rs) (rowOf st.rs) w) (h4 : OwR lo hi 3 1 (.slice C m d) m (st.cs.map (Value.int .i64)) w) (hm : m = st.cs.length)
    (a1 : ∀ (j : Nat) (u : Value) (k : Nat), us[j]? = some u → (Value.slice A n c).ownBlock = some k → u.ownBlock ≠ some k) (a2 : ∀ (j : Nat) (u : Value) (k : Nat), us[j]? = some u → (Value.slice C m d).ownBlock = some k → u.ownBlock ≠ some k) (a3 : ∀ k, (Value.slice A n c).ownBlock = some k → (Value.slice C m d).ownBlock ≠ some k) : OwL lo hi A n c E en ec C m d st w := by
  have hul : us.length = st.rs.length := by have := h2.1.1; omega
  refine ⟨hn, hen, hm, us, h2, (h3.snoc hul h4 hm a2).cons h1 hn fun j u k hu hk => ?_⟩
  rcases Nat.lt_trichotomy j us.length with h5 | h5 | h5
  · rw [List.getElem?_append_left h5] at hu
    exact a1 j u k hu hk
  · subst h5
    simp only [List.getElem?_concat_length, Option.some.injEq] at hu
    subst hu
    exact a3 k hk
  · rw [List.getElem?_eq_none (by simp; omega)] at hu; cases hu
/-- .. made one after the other. -/
theorem OwL.join {mid mid2 : Nat} (h : OwR lo mid 3 1 (.slice A n c) n (st.vs.map (Value.int .i64)) w) (hn : n = st.vs.length) (h' : OwSS mid mid2 (.slice E en ec) en st.rs w) (h'' : OwR mid2 hi 3 1 (.slice C m d) m (st.cs.map (Value.int .i64)) w) (hm : m = st.cs.length) (h1 : lo ≤ mid) (h2 : mid ≤ mid2) (h3 : mid2 ≤ hi) : OwL lo hi A n c E en ec C m d st w := by
  obtain ⟨h0, us, e1, e2⟩ := h'
  refine OwL.of_apart (h.mono (Nat.le_refl _) (by omega)) hn h0 (e1.mono h1 h3) (e2.mono h1 h3) (h''.mono (by omega) (Nat.le_refl _)) hm (fun j u k hu hk hk' => ?_) (fun j u k hu hk hk' => ?_) (fun k hk hk' => ?_)
  · have b1 := (e2.lt j u k hu hk').1
    have b2 := h.2 k hk
    omega
  · have b1 := (e2.lt j u k hu hk').2
    have b2 := (h''.1.lt k hk).1
    omega
  · have b1 := (h''.1.lt k hk').1
    have b2 := h.2 k hk
    omega
theorem OwL.setCell (h : OwL lo hi A n c E en ec C m d st w) {a : Addr} (ha : a.block < lo) (u : Value) : OwL lo hi A n c E en ec C m d st (w.setCell a u) :=
  OwL.loc _ _ _ _ _ _ _ _ _ _ _ _ _ _ h fun k hk _ => Below.heap_setCell _ _ _ _ (by omega)
end
/-- Returns a state in fresh blocks. -/
def RetL (w : World) (st : Lz) (e : Ending) (w' : World) : Prop := ∃ A n c E en ec C m d, e = .returned (.agg #[.slice A n c, .slice E en ec, .slice C m d]) ∧ OwL w.heap.size w'.heap.size A n c E en ec C m d st w' ∧ Below w.heap.size w w'
theorem OwL.nil (lo hi : Nat) (w : World) (h : lo ≤ hi) : OwL lo hi none 0 0 none 0 0 none 0 0 ⟨[], [], []⟩ w := OwL.join (mid := hi) (mid2 := hi) (OwR.nil _ _ _ _ _) rfl (OwSS.nil _ _ _) (OwR.nil _ _ _ _ _) rfl h (Nat.le_refl _) (Nat.le_refl _)
theorem RetL.nil {w w' : World} (hb : Below w.heap.size w w') : RetL w ⟨[], [], []⟩ (.returned (.agg #[.slice none 0 0, .slice none 0 0, .slice none 0 0])) w' := ⟨_, _, _, _, _, _, _, _, _, rfl, OwL.nil _ _ _ hb.size, hb⟩
end Go.Proofs.Ytdiabclcnkbglaa

namespace Go.Proofs.Ytdiabclcnkbglaa
set_option linter.unusedSimpArgs false
set_option linter.unusedVariables false
open Go.RowKit
set_option maxHeartbeats 1600000 in
theorem laws_eqLazy (A E C A' E' C' : Option Addr) (n c en ec m d n' c' en' ec' m' d' : Nat) (st st' : Lz) (w : World) (B : Nat) (hB : B ≤ w.heap.size) (hn : n = st.vs.length) (he : en = st.rs.length) (hm : m = st.cs.length) (hn' : n' = st'.vs.length) (he' : en' = st'.rs.length) (hm' : m' = st'.cs.length) (h : LS3 w B A E C st) (h' : LS3 w B A' E' C' st') (hb1 : LB st) (hb2 : LB st') :
    Calls Try.prog 9 #[.agg #[.slice A n c, .slice E en ec, .slice C m d], .agg #[.slice A' n' c', .slice E' en' ec', .slice C' m' d']] w fun e w' => e = .returned (.bool (decide (st = st'))) ∧ Below w.heap.size w w' := by
  have hd : decide (st = st') = (decide (st.vs = st'.vs) && (decide (st.rs = st'.rs) && decide (st.cs = st'.cs))) := by
    obtain ⟨a, b, k⟩ := st
    obtain ⟨a', b', k'⟩ := st'
    by_cases h1 : a = a' <;> by_cases h2 : b = b' <;> by_cases h3 : k = k' <;> simp [h1, h2, h3]
  rw [hd]
  have HC1 := Lib.hid fun (w : World) (hB : B ≤ w.heap.size) (h : IS w B A st.vs) (h' : IS w B A' st'.vs) => laws_eqIntS A A' n n' c c' st.vs st'.vs w B hB hn hn' h h' (by have := hb1.1; omega) (by have := hb2.1; omega)
  have HC2 := Lib.hid fun (w : World) (hB : B ≤ w.heap.size) (h : SS w B E st.rs) (h' : SS w B E' st'.rs) => laws_eqIntSS E E' en en' ec ec' st.rs st'.rs w B hB he he' h h' hb1.2.1 hb2.2.1
  have HC3 := Lib.hid fun (w : World) (hB : B ≤ w.heap.size) (h : IS w B C st.cs) (h' : IS w B C' st'.cs) => laws_eqIntS C C' m m' d d' st.cs st'.cs w B hB hm hm' h h' (by have := hb1.2.2.2.2.2; omega) (by have := hb2.2.2.2.2.2; omega)
  have HA := Lib.hid ((h.alloc hB (.cells #[.slice A n c, .slice E en ec, .slice C m d] 29)).alloc (by simp; omega) (.cells #[.slice A' n' c', .slice E' en' ec', .slice C' m' d'] 29))
  have HA' := Lib.hid ((h'.alloc hB (.cells #[.slice A n c, .slice E en ec, .slice C m d] 29)).alloc (by simp; omega) (.cells #[.slice A' n' c', .slice E' en' ec', .slice C' m' d'] 29))
  have hB0 : Below w.heap.size w ((w.alloc (.cells #[.slice A n c, .slice E en ec, .slice C m d] 29)).alloc (.cells #[.slice A' n' c', .slice E' en' ec', .slice C' m' d'] 29)) := ((Below.refl _ _).alloc (Nat.le_refl _) _).alloc (by simp) _
  generalize decide (st.vs = st'.vs) = b1 at *
  generalize decide (st.rs = st'.rs) = b2 at *
  generalize decide (st.cs = st'.cs) = b3 at *
  clear hd hn he hm hn' he' hm' h h' hb1 hb2
  cases b1
  · go_enter Try.func9, Try.ntmps9
    go_wp2_with fail
    refine (HC1.out _ (by simp; omega) HA.out.1 HA'.out.1).mono ?_
    rintro e w1 ⟨rfl, hb⟩
    go_wp2
    go_ret
    exact ⟨rfl, hB0.trans (hb.mono hB0.size)⟩
  · cases b2
    · go_enter Try.func9, Try.ntmps9
      go_wp2_with fail
      refine (HC1.out _ (by simp; omega) HA.out.1 HA'.out.1).mono ?_
      rintro e w1 ⟨rfl, hb⟩
      have q1 : w1.cell? ⟨w.heap.size, 1, none⟩ = some (.slice E en ec) := (hb.cell (p := ⟨w.heap.size, 1, none⟩) (by simp; omega)).trans (by go_simp)
      have q2 : w1.cell? ⟨w.heap.size + 1, 1, none⟩ = some (.slice E' en' ec') := (hb.cell (p := ⟨w.heap.size + 1, 1, none⟩) (by simp)).trans (by go_simp)
      have HS := Lib.hid (HA.out.2.1.below hb (by simp; omega))
      have HS' := Lib.hid (HA'.out.2.1.below hb (by simp; omega))
      have hB1 := hB0.trans (hb.mono hB0.size)
      go_wp2_with fail
      refine (HC2.out _ (Nat.le_trans hB hB1.size) HS.out HS'.out).mono ?_
      rintro e w2 ⟨rfl, hb2⟩
      go_wp2
      go_ret
      exact ⟨rfl, hB1.trans (hb2.mono hB1.size)⟩
    · cases b3
      all_goals
        go_enter Try.func9, Try.ntmps9
        go_wp2_with fail
        refine (HC1.out _ (by simp; omega) HA.out.1 HA'.out.1).mono ?_
        rintro e w1 ⟨rfl, hb⟩
        have q1 : w1.cell? ⟨w.heap.size, 1, none⟩ = some (.slice E en ec) := (hb.cell (p := ⟨w.heap.size, 1, none⟩) (by simp; omega)).trans (by go_simp)
        have q2 : w1.cell? ⟨w.heap.size + 1, 1, none⟩ = some (.slice E' en' ec') := (hb.cell (p := ⟨w.heap.size + 1, 1, none⟩) (by simp)).trans (by go_simp)
        have q3 : w1.cell? ⟨w.heap.size, 2, none⟩ = some (.slice C m d) := (hb.cell (p := ⟨w.heap.size, 2, none⟩) (by simp; omega)).trans (by go_simp)
        have q4 : w1.cell? ⟨w.heap.size + 1, 2, none⟩ = some (.slice C' m' d') := (hb.cell (p := ⟨w.heap.size + 1, 2, none⟩) (by simp)).trans (by go_simp)
        have HS := Lib.hid (HA.out.2.1.below hb (by simp; omega))
        have HS' := Lib.hid (HA'.out.2.1.below hb (by simp; omega))
        have HT := Lib.hid (HA.out.2.2.below hb (by simp; omega))
        have HT' := Lib.hid (HA'.out.2.2.below hb (by simp; omega))
        have hB1 := hB0.trans (hb.mono hB0.size)
        have hs1 : w.heap.size + 2 ≤ w1.heap.size := by have := hb.size; simp at this; omega
        go_wp2_with fail
        refine (HC2.out _ (Nat.le_trans hB hB1.size) HS.out HS'.out).mono ?_
        rintro e w2 ⟨rfl, hb2⟩
        have q5 := (hb2.cell (p := ⟨w.heap.size, 2, none⟩) (by show w.heap.size < w1.heap.size; omega)).trans q3
        have q6 := (hb2.cell (p := ⟨w.heap.size + 1, 2, none⟩) (by show w.heap.size + 1 < w1.heap.size; omega)).trans q4
        have hB2 := hB1.trans (hb2.mono hB1.size)
        have HT2 := Lib.hid (HT.out.below hb2 (Nat.le_trans hB hB1.size))
        have HT2' := Lib.hid (HT'.out.below hb2 (Nat.le_trans hB hB1.size))
        go_wp2_with fail
        refine (HC3.out _ (Nat.le_trans hB hB2.size) HT2.out HT2'.out).mono ?_
        rintro e w3 ⟨rfl, hb3⟩
        go_wp2
        go_ret
        exact ⟨rfl, hB2.trans (hb3.mono hB2.size)⟩
end Go.Proofs.Ytdiabclcnkbglaa

namespace Go.Proofs.Ytdiabclcnkbglaa
set_option linter.unusedSimpArgs false
set_option linter.unusedVariables false
open Go.RowKit
/-- The three cells of a box. -/
structure Bx3 (b : Nat) (x y z : Value) (w : World) : Prop where
  lt : b < w.heap.size
  c0 : w.cell? ⟨b, 0, none⟩ = some x
  c1 : w.cell? ⟨b, 1, none⟩ = some y
  c2 : w.cell? ⟨b, 2, none⟩ = some z
  f : ∀ j, w.frozen? ⟨b, j, none⟩ = false
theorem Bx3.step {b : Nat} {x y z : Value} {w w' : World} {C : Nat} (h : Bx3 b x y z w) (hb : Below C w w') (hC : b < C) : Bx3 b x y z w' :=
  ⟨Nat.lt_of_lt_of_le h.lt hb.size, (hb.cell (p := ⟨b, 0, none⟩) hC).trans h.c0, (hb.cell (p := ⟨b, 1, none⟩) hC).trans h.c1, (hb.cell (p := ⟨b, 2, none⟩) hC).trans h.c2, fun j => (hb.frozen (p := ⟨b, j, none⟩) hC).trans (h.f j)⟩
theorem Bx3.other {b g j : Nat} {x y z u : Value} {w : World} (h : Bx3 b x y z w) (hg : b ≠ g) : Bx3 b x y z (w.setCell ⟨g, j, none⟩ u) := by
  have k (i : Nat) : (w.setCell ⟨g, j, none⟩ u).cell? ⟨b, i, none⟩ = w.cell? ⟨b, i, none⟩ := World.cell?_setCell_other _ _ _ _ (by intro e; cases e; exact hg rfl)
  exact ⟨by simpa [World.setCell] using h.lt, (k 0).trans h.c0, (k 1).trans h.c1, (k 2).trans h.c2, fun i => (World.frozen?_setCell _ _ _ _).trans (h.f i)⟩
theorem Bx3.set0 {b : Nat} {x y z u : Value} {w : World} (h : Bx3 b x y z w) : Bx3 b u y z (w.setCell ⟨b, 0, none⟩ u) :=
  ⟨by simpa [World.setCell] using h.lt, World.cell?_setCell_same _ _ _ h.c0, (World.cell?_setCell_other _ _ _ _ (by simp)).trans h.c1, (World.cell?_setCell_other _ _ _ _ (by simp)).trans h.c2, fun i => (World.frozen?_setCell _ _ _ _).trans (h.f i)⟩
theorem Bx3.set1 {b : Nat} {x y z u : Value} {w : World} (h : Bx3 b x y z w) : Bx3 b x u z (w.setCell ⟨b, 1, none⟩ u) :=
  ⟨by simpa [World.setCell] using h.lt, (World.cell?_setCell_other _ _ _ _ (by simp)).trans h.c0, World.cell?_setCell_same _ _ _ h.c1, (World.cell?_setCell_other _ _ _ _ (by simp)).trans h.c2, fun i => (World.frozen?_setCell _ _ _ _).trans (h.f i)⟩
theorem box3_start (w : World) (x y z : Value) (t : TypeId) : Bx3 w.heap.size x y z (w.alloc (.cells #[x, y, z] t)) :=
  ⟨by simp, by go_simp, by go_simp, by go_simp, fun j => by go_simp⟩
theorem Bx3.alloc {b : Nat} {x y z : Value} {w : World} (h : Bx3 b x y z w) (o : Obj) : Bx3 b x y z (w.alloc o) := h.step ((Below.refl w.heap.size w).alloc (Nat.le_refl _) o) h.lt
set_option maxRecDepth 100000 in
set_option maxHeartbeats 1600000 in
theorem mark_lazy (lo hi : Nat) (A : Option Addr) (n c : Nat) (E : Option Addr) (en ec : Nat) (C : Option Addr) (m d : Nat) (st : Lz) (k : Int) (w : World) (h : As lo hi (OwL lo hi A n c E en ec C m d st) w) (hb : LB st) (hk : 0 ≤ k) (hk' : k ≤ 562949953421312) :
    Calls Try.prog 14 #[.agg #[.slice A n c, .slice E en ec, .slice C m d], .int .i64 k] w fun e w' => MkS lo hi (MkL lo hi A n c E en ec C m d st k) w (k + (((rowsL st).map List.length).sum : Nat)) e w' := by
  have h2 := h.alloc (.cells #[.slice A n c, .slice E en ec, .slice C m d] 29)
  have hle0 := h.le
  obtain ⟨hn, hen, hm, us, hr, hss⟩ := h2.it
  have hul : us.length = en := by have := hr.1.1; omega
  have hr0 : OwR lo hi 3 1 (.slice A n c) n (st.vs.map (Value.int .i64)) (w.alloc (.cells #[.slice A n c, .slice E en ec, .slice C m d] 29)) := h2.it.row0
  have hn1 : n ≤ 2000000 := by have := hb.1; omega
  have hm1 : m ≤ 2000000 := by have := hb.2.2.2.2.2; omega
  have HM0 := Lib.hid (laws_markIntS lo n _ _ k _ hr0.1 hk (by omega) hn1)
  have hrl : (rowsL st).length = 1 + en + 1 := by unfold rowsL; simp; omega
  have hsum : ((rowsL st).map List.length).sum = offOf (rowsL st) (1 + en) + m := by
    have h1 := offOf_succ (rowsL st) (1 + en) (by omega)
    rw [← offOf_all, hrl, h1]
    have : lenOf (rowsL st) (1 + en) = m := by unfold lenOf; rw [Nat.add_comm, hen, rowsL_last, hm]
    omega
  have hoff1 : offOf (rowsL st) 1 = n := by unfold offOf rowsL; simp [hn]
  have hin0 := hss.congr (cont' := mkTo (rowsL st) k 0) (fun j _ => by rw [mkTo_zero])
  have hidx : ∀ j, j < en → (Value.slice A n c :: (us ++ [.slice C m d]))[1 + j]? = us[j]? := fun j hj => by rw [Nat.add_comm, List.getElem?_cons_succ, List.getElem?_append_left (by omega)]
  have hidl : (Value.slice A n c :: (us ++ [.slice C m d]))[1 + en]? = some (.slice C m d) := by rw [Nat.add_comm, List.getElem?_cons_succ, ← hul]; simp
  have hvl : (Value.slice A n c :: (us ++ [.slice C m d])).length = (rowsL st).length := by rw [hrl]; simp; omega
  have hlenl : m = lenOf (rowsL st) (1 + en) := by unfold lenOf; rw [Nat.add_comm, hen, rowsL_last, hm]
  have HIN0 := Lib.hid hin0
  have HR := Lib.hid hr
  have HSUM := Lib.hid hsum
  have HOFF := Lib.hid hoff1
  have HN := Lib.hid hn
  have HEN := Lib.hid hen
  have HM := Lib.hid hm
  have HLB := Lib.hid hb
  have HIDX := Lib.hid hidx
  have HIDL := Lib.hid hidl
  have HVL := Lib.hid hvl
  have HLL := Lib.hid hlenl
  have HRL := Lib.hid hrl
  have hl0 : n = lenOf (rowsL st) 0 := by unfold lenOf rowsL; simp [hn]
  have HL0 := Lib.hid hl0
  have hoffb : (offOf (rowsL st) (1 + en) : Int) + m ≤ 1048576 := by have := hb.2.2.2.2.1; omega
  clear h hr hss hin0 hsum hoff1 hn hen hm hb hul hr0 h2 hidx hidl hvl hlenl hrl hl0
  go_enter Try.func14, Try.ntmps14
  go_wp2_with fail
  refine HM0.out.mono ?_
  rintro e w1 hmk
  have he := hmk.1
  have HS1 := Lib.hid (HIN0.out.mark (J := 0) (A := A) (m := n) (c := c) rfl HL0.out (by simpa [offOf] using hmk))
  have HR1 : Hid (OwR lo hi 25 1 (.slice E en ec) en us w1) := by
    obtain ⟨A0, m0, c0, r1, _, r3⟩ := HIN0.out.row 0 (by simp)
    simp only [List.getElem?_cons_zero, Option.some.injEq, Value.slice.injEq] at r1
    obtain ⟨rfl, rfl, rfl⟩ := r1
    exact ⟨HR.out.1.kept hmk.2.2 (blocks_ne HR.out.1 r3.1 ints_ne_int.symm), HR.out.2⟩
  have HT1 : Hid (Tch lo hi w w1) := (Tch.of_below ((Below.refl _ _).alloc (Nat.le_refl _) _)).trans (Tch.of_grown hmk.2.2 fun q hq => HIN0.out.lt 0 _ q rfl hq)
  have hbx : w1.heap[w.heap.size]? = (w.alloc (.cells #[.slice A n c, .slice E en ec, .slice C m d] 29)).heap[w.heap.size]? := hmk.2.2.block w.heap.size (by simp) fun hq => by
    have hx := HIN0.out.lt 0 _ w.heap.size rfl hq.symm
    omega
  have q1 : w1.cell? ⟨w.heap.size, 1, none⟩ = some (.slice E en ec) := (World.cell?_of_block (a := ⟨w.heap.size, 1, none⟩) hbx).trans (by go_simp)
  have q2 : w1.cell? ⟨w.heap.size, 2, none⟩ = some (.slice C m d) := (World.cell?_of_block (a := ⟨w.heap.size, 2, none⟩) hbx).trans (by go_simp)
  have hw1 : w.heap.size < w1.heap.size := by have := hmk.2.2.size; simp at this; omega
  rw [Nat.mul_one] at he
  subst he
  clear hmk HM0 HIN0 HR hbx
  have HC := Lib.hid (laws_markRows lo hi en 1 (.slice E en ec) us (.slice A n c :: (us ++ [.slice C m d])) (rowsL st) k (k + n) w1 (by rw [HOFF.out]) HR1.out HIDX.out HVL.out (by rw [HRL.out]; omega) HS1.out HLB.out.2.2.1 HLB.out.2.2.2.2.1 hk hk')
  go_wp2_with fail
  refine HC.out.mono ?_
  rintro e w2 ⟨he, hr2, hs2, ht2⟩
  subst he
  have HR2 := Lib.hid hr2
  have HS2 := Lib.hid hs2
  have HT2 := Lib.hid (HT1.out.trans ht2)
  have q3 : w2.cell? ⟨w.heap.size, 2, none⟩ = some (.slice C m d) := (World.cell?_of_block (a := ⟨w.heap.size, 2, none⟩) (ht2.block w.heap.size hw1 (.inr hle0))).trans q2
  obtain ⟨A9, m9, c9, r1, r2, r3⟩ := hs2.row (1 + en) (by rw [HVL.out, HRL.out]; omega)
  rw [HIDL.out] at r1
  cases r1
  have HRC := Lib.hid r3.1
  clear hr2 hs2 ht2 HC r2 r3 HS1 HR1 HT1
  obtain ⟨o, ho⟩ : ∃ o : Nat, o = offOf (rowsL st) (1 + en) := ⟨_, rfl⟩
  have HO := Lib.hid ho
  rw [← ho] at hoffb
  rw [← ho]
  clear ho
  have HM2 := Lib.hid (laws_markIntS lo m _ _ (k + o) w2 HRC.out (by omega) (by omega) hm1)
  go_wp2_with fail
  refine HM2.out.mono ?_
  rintro e w3 hmk
  have he := hmk.1
  rw [HO.out] at hmk
  have HS3 := Lib.hid (HS2.out.mark (J := 1 + en) (A := C) (m := m) (c := d) HIDL.out HLL.out hmk)
  have HR3 : Hid (OwR lo hi 25 1 (.slice E en ec) en us w3) := ⟨HR2.out.1.kept hmk.2.2 (blocks_ne HR2.out.1 HRC.out ints_ne_int.symm), HR2.out.2⟩
  have HT3 : Hid (Tch lo hi w w3) := HT2.out.trans (Tch.of_grown hmk.2.2 fun q hq => HS2.out.lt (1 + en) _ q HIDL.out hq)
  rw [Nat.mul_one] at he
  subst he
  clear hmk HM2
  go_wp2
  go_ret
  refine ⟨ret_i (by rw [HSUM.out, HO.out]; omega), ⟨⟨HN.out, HEN.out, HM.out, us, HR3.out, HS3.out.congr fun j hj => ?_⟩, ?_, MkL.loc _ _ _ _ _ _ _ _ _ _ _ _ _⟩, HT3.out⟩
  · try unfold mkTo
    rw [if_pos (by rw [HVL.out, HRL.out] at hj; omega)]
  · have := HT3.out.size
    omega
end Go.Proofs.Ytdiabclcnkbglaa

namespace Go.Proofs.Ytdiabclcnkbglaa
set_option linter.unusedSimpArgs false
set_option linter.unusedVariables false
open Go.RowKit
section
variable {w w' : World} {B B' D lo hi n c en ec m d : Nat} {A E C : Option Addr} {e : Lz} {st : Lz}
theorem own_ncap {base e' size n c : Nat} {A : Option Addr} {xs : List Value} (h : w.ownsRow base e' size (.slice A n c) n xs) : n ≤ c := by
  rcases h.2 with ⟨hv, h0⟩ | ⟨g, cap, cur, hv, _, _, h1, _⟩
  · omega
  · simp only [Value.slice.injEq] at hv
    obtain ⟨_, _, rfl⟩ := hv
    exact h1
end
set_option maxRecDepth 100000 in
set_option maxHeartbeats 1600000 in
theorem held_lazy (lo hi : Nat) (A : Option Addr) (n c : Nat) (E : Option Addr) (en ec : Nat) (C : Option Addr) (m d : Nat) (st : Lz) (k : Int) (w : World) (h : As lo hi (MkL lo hi A n c E en ec C m d st k) w) (hb : LB st) (hk : 0 ≤ k) (hk' : k ≤ 562949953421312) :
    Calls Try.prog 15 #[.agg #[.slice A n c, .slice E en ec, .slice C m d], .int .i64 k] w fun e w' => e = .returned (.int .i64 (k + (((rowsL st).map List.length).sum : Nat))) ∧ Below w.heap.size w w' := by
  have h2 := h.alloc (.cells #[.slice A n c, .slice E en ec, .slice C m d] 29)
  obtain ⟨hn, hen, hm, us, hr, hss⟩ := h2.it
  have hul : us.length = en := by have := hr.1.1; omega
  have hn1 : n ≤ 2000000 := by have := hb.1; omega
  have hm1 : m ≤ 2000000 := by have := hb.2.2.2.2.2; omega
  have hrl : (rowsL st).length = 1 + en + 1 := by unfold rowsL; simp; omega
  have hlenl : m = lenOf (rowsL st) (1 + en) := by unfold lenOf; rw [Nat.add_comm, hen, rowsL_last, hm]
  have hsum : ((rowsL st).map List.length).sum = offOf (rowsL st) (1 + en) + m := by
    have h1 := offOf_succ (rowsL st) (1 + en) (by omega)
    rw [← offOf_all, hrl, h1]
    omega
  have hoff1 : offOf (rowsL st) 1 = n := by unfold offOf rowsL; simp [hn]
  have hidx : ∀ j, j < en → (Value.slice A n c :: (us ++ [.slice C m d]))[1 + j]? = us[j]? := fun j hj => by rw [Nat.add_comm, List.getElem?_cons_succ, List.getElem?_append_left (by omega)]
  have hidl : (Value.slice A n c :: (us ++ [.slice C m d]))[1 + en]? = some (.slice C m d) := by rw [Nat.add_comm, List.getElem?_cons_succ, ← hul]; simp
  have hvl : (Value.slice A n c :: (us ++ [.slice C m d])).length = (rowsL st).length := by rw [hrl]; simp; omega
  have hr0 : OwR lo hi 3 1 (.slice A n c) n (mks k n) (w.alloc (.cells #[.slice A n c, .slice E en ec, .slice C m d] 29)) := by
    obtain ⟨A', m', c', r1, r2, r3⟩ := hss.row 0 (by simp)
    simp only [List.getElem?_cons_zero, Option.some.injEq, Value.slice.injEq] at r1
    obtain ⟨rfl, rfl, rfl⟩ := r1
    rw [← r2] at r3
    simpa [offOf] using r3
  have hrC : OwR lo hi 3 1 (.slice C m d) m (mks (k + offOf (rowsL st) (1 + en)) m) (w.alloc (.cells #[.slice A n c, .slice E en ec, .slice C m d] 29)) := by
    obtain ⟨A', m', c', r1, r2, r3⟩ := hss.row (1 + en) (by rw [hvl, hrl]; omega)
    rw [hidl] at r1
    cases r1
    rw [← hlenl] at r3
    exact r3
  have HM0 := Lib.hid (laws_heldIntS lo n _ k _ hr0.1 hk (by omega) hn1)
  have HRC := Lib.hid hrC
  have HSS := Lib.hid hss
  have HR := Lib.hid hr
  have HSUM := Lib.hid hsum
  have HOFF := Lib.hid hoff1
  have HEN := Lib.hid hen
  have HLB := Lib.hid hb
  have HIDX := Lib.hid hidx
  have HVL := Lib.hid hvl
  have HRL := Lib.hid hrl
  have hoffb : (offOf (rowsL st) (1 + en) : Int) + m ≤ 1048576 := by have := hb.2.2.2.2.1; omega
  clear h hr hss hsum hoff1 hn hen hm hb hul hr0 hrC h2 hidx hidl hvl hrl hlenl
  go_enter Try.func15, Try.ntmps15
  go_wp2_with fail
  refine HM0.out.mono ?_
  rintro e w1 ⟨rfl, hb⟩
  have q1 : w1.cell? ⟨w.heap.size, 1, none⟩ = some (.slice E en ec) := (hb.cell (p := ⟨w.heap.size, 1, none⟩) (by simp)).trans (by go_simp)
  have q2 : w1.cell? ⟨w.heap.size, 2, none⟩ = some (.slice C m d) := (hb.cell (p := ⟨w.heap.size, 2, none⟩) (by simp)).trans (by go_simp)
  have hnn : ¬ k + (n : Int) < 0 := by omega
  have hw1 : w.heap.size < w1.heap.size := by have := hb.size; simp at this; omega
  have HR1 : Hid (OwR lo hi 25 1 (.slice E en ec) en us w1) := ⟨own_below HR.out.1 hb, HR.out.2⟩
  have HS1 : Hid (SSk lo hi (.slice A n c :: (us ++ [.slice C m d])) (lenOf (rowsL st)) (fun j => mks (k + offOf (rowsL st) j) (lenOf (rowsL st) j)) w1) :=
    ⟨fun j hj => by obtain ⟨A', m, c', r1, r2, r3⟩ := HSS.out.row j hj; exact ⟨A', m, c', r1, r2, r3.step hb⟩, HSS.out.apart⟩
  have HC := Lib.hid (laws_heldRows lo hi en 1 (.slice E en ec) us (.slice A n c :: (us ++ [.slice C m d])) (rowsL st) k (k + n) w1 (by rw [HOFF.out]) HR1.out HIDX.out HVL.out (by rw [HRL.out]; omega) HS1.out HLB.out.2.2.1 HLB.out.2.2.2.2.1 hk hk')
  have HRC1 := Lib.hid (show OwR lo hi 3 1 (.slice C m d) m (mks (k + offOf (rowsL st) (1 + en)) m) w1 from ⟨own_below HRC.out.1 hb, HRC.out.2⟩)
  have HB1 := Lib.hid (((Below.refl w.heap.size w).alloc (Nat.le_refl _) (.cells #[.slice A n c, .slice E en ec, .slice C m d] 29)).trans (hb.mono (by simp)))
  clear hb HM0 HSS HR HR1 HS1 HRC
  go_wp2_with fail
  refine HC.out.mono ?_
  rintro e w2 ⟨he, hb2⟩
  subst he
  have q3 : w2.cell? ⟨w.heap.size, 2, none⟩ = some (.slice C m d) := (hb2.cell (p := ⟨w.heap.size, 2, none⟩) hw1).trans q2
  have HRC2 := Lib.hid (show OwR lo hi 3 1 (.slice C m d) m (mks (k + offOf (rowsL st) (1 + en)) m) w2 from ⟨own_below HRC1.out.1 hb2, HRC1.out.2⟩)
  have HB2 := Lib.hid (HB1.out.trans (hb2.mono (Nat.le_of_lt hw1)))
  obtain ⟨o, ho⟩ : ∃ o : Nat, o = offOf (rowsL st) (1 + en) := ⟨_, rfl⟩
  have HO := Lib.hid ho
  rw [← ho]
  rw [← ho] at HRC2 hoffb
  have ho' : ¬ k + (o : Int) < 0 := by omega
  clear ho hb2 HRC1 HB1 HC
  have HM2 := Lib.hid (laws_heldIntS lo m _ (k + o) w2 HRC2.out.1 (by omega) (by omega) hm1)
  go_wp2_with fail
  refine HM2.out.mono ?_
  rintro e w3 ⟨rfl, hb3⟩
  go_wp2
  go_ret
  exact ⟨ret_i (by rw [HSUM.out, HO.out]; omega), HB2.out.trans (hb3.mono HB2.out.size)⟩
end Go.Proofs.Ytdiabclcnkbglaa

namespace Go.Proofs.Ytdiabclcnkbglaa
set_option linter.unusedSimpArgs false
set_option linter.unusedVariables false
/-- The value of a node that runs with some values. -/
def valE (gs : List Nd) (vs : List Int) (i : Nat) : Int := if (gs.getD i default).k == 0 then vs.getD i 0 else (whole (gs.getD i default).ps).ev vs
end Go.Proofs.Ytdiabclcnkbglaa

namespace Go.Proofs.Ytdiabclcnkbglaa
set_option linter.unusedSimpArgs false
set_option linter.unusedVariables false
open Go.RowKit
/-- The state after all nodes ran. -/
def startF (gs : List Nd) (xs : List Int) : Eg := if okC gs xs then ⟨mean gs xs, depTo gs (mean gs xs) gs.length⟩ else ⟨[], []⟩
theorem OwR.of_own {w : World} {lo n : Nat} {A : Option Addr} {c : Nat} {xs : List Int} (h : OwnI w lo (.slice A n c) xs) (hn : n = xs.length) : OwR lo w.heap.size 3 1 (.slice A n c) n (xs.map (Value.int .i64)) w := by
  subst hn
  exact OwR.start h
theorem OwSS.setCell {lo hi n : Nat} {v : Value} {xss : List (List Int)} {w : World} (h : OwSS lo hi v n xss w) {a : Addr} (ha : a.block < lo) (u : Value) : OwSS lo hi v n xss (w.setCell a u) :=
  OwSS.loc _ _ _ _ _ _ _ h fun k hk _ => Below.heap_setCell _ _ _ _ (by omega)
end Go.Proofs.Ytdiabclcnkbglaa

namespace Go.Proofs.Ytdiabclcnkbglaa
set_option linter.unusedSimpArgs false
set_option linter.unusedVariables false
open Go.RowKit
theorem news_of_ints {w : World} {b off n : Nat} {xs : List Int} (hc : ∀ j, j < xs.length → w.cell? ⟨b, off + j, none⟩ = some (.int .i64 (xs.getD j 0))) : ∀ j u, (xs.map (Value.int .i64))[j]? = some u → w.cell? ((⟨b, off, none⟩ : Addr).add j) = some u := by
  intro j u hu
  have hj : j < xs.length := by
    rcases Nat.lt_or_ge j xs.length with h1 | h1
    · exact h1
    · rw [List.getElem?_eq_none (by simpa using h1)] at hu; cases hu
  have hadd : (⟨b, off, none⟩ : Addr).add j = ⟨b, off + j, none⟩ := by unfold Addr.add; split <;> simp_all
  rw [hadd, hc j hj, ← hu]
  simp [List.getD, hj]
theorem ints_one (xs : List Int) : ∀ u ∈ xs.map (Value.int .i64), u.oneCell' = true := by
  intro u hu
  obtain ⟨x, _, rfl⟩ := List.mem_map.1 hu
  rfl
set_option maxHeartbeats 800000 in
theorem spec_copyInts (A : Option Addr) (n c : Nat) (xs : List Int) (w : World) (B : Nat) (hB : B ≤ w.heap.size) (hn : n = xs.length) (h : IS w B A xs) (hs : n ≤ 2000000) (hp : 0 < n) :
    Calls Try.prog 33 #[.slice A n c] w fun e w' => ∃ g cap, e = .returned (.slice (some ⟨g, 0, none⟩) n cap) ∧ w'.ownsRow w.heap.size 3 1 (.slice (some ⟨g, 0, none⟩) n cap) n (xs.map (Value.int .i64)) ∧ Below w.heap.size w w' := by
  obtain ⟨i0, hi, hz0, hz1, hz2⟩ := info_parts info_int
  obtain ⟨b, off, rfl, hbB, hc⟩ := h (by omega)
  have hnew := World.ownsRow_lit (e := 3) (size := 1) (base := w.heap.size) w #[] 0 (Nat.le_refl _) (by unfold maxLen; omega) (by simp)
  have hnews := news_of_ints (n := n) (fun j hj => (World.cell?_alloc_lt w (.cells #[] 3) ⟨b, off + j, none⟩ (show b < w.heap.size by omega)).trans (hc j hj))
  have HNEW := Lib.hid hnew
  have HNS := Lib.hid hnews
  have HN := Lib.hid hn
  clear hnew hnews hc hn h
  go_enter Try.func33, Try.ntmps33
  go_wp2_with (at_builtin; refine wpList_append_own_at _ rfl _ _ 25 rfl w.heap.size 3 i0 (.int .i64 0) 1 8 Try.underlying25 hi hz0 hz1 hz2 rfl (by decide) _ _ _ rfl HNEW.out ⟨b, off, none⟩ n c (xs.map (Value.int .i64)) rfl ?d1 HNS.out (ints_one xs) ?d3 ?d4 ?d5 ?_)
  case d1 => have := HN.out; first | omega | (simp; omega)
  case d3 => unfold maxLen; omega
  case d4 => omega
  intro v' w3 hown' hgrow _ _
  have hown'' : w3.ownsRow w.heap.size 3 1 v' n (xs.map (Value.int .i64)) := by simpa using hown'
  obtain ⟨g, cap, rfl⟩ : ∃ g cap, v' = .slice (some ⟨g, 0, none⟩) n cap := by
    rcases hown''.2 with ⟨_, h0⟩ | ⟨g, cap, cur, hv, _⟩
    · omega
    · exact ⟨g, cap, hv⟩
  have HO := Lib.hid hown''
  have hb3 : Below w.heap.size w w3 := ((Below.refl _ _).alloc (Nat.le_refl _) (.cells #[] 3)).grown hgrow (by simp) (fun k hk => by simp [Value.ownBlock] at hk; omega)
  clear hown' hown'' hgrow
  go_wp2
  go_ret
  exact ⟨g, cap, rfl, HO.out, hb3⟩
/-- Returns a fresh slice of numbers and a bool, or nothing. -/
theorem RetIB.nil {w w' : World} (hb : Below w.heap.size w w') : RetIB w [] false (.returned (.tuple #[.slice none 0 0, .bool false])) w' := ⟨_, rfl, World.ownsRow_nil _ _ _ _, hb⟩
end Go.Proofs.Ytdiabclcnkbglaa

namespace Go.Proofs.Ytdiabclcnkbglaa
set_option linter.unusedSimpArgs false
set_option linter.unusedVariables false
open Go.RowKit
section
variable {P : Program} {w : World}
theorem run_append_zero (base : Nat) (t ty e : TypeId) (i : TypeInfo) (size : Nat) (ht : P.underlying t = some (.slice e)) (hi : P.info? e = some i) (v : Value) (n : Nat) (xs : List Value) (hown : w.ownsRow base e size v n xs) (A : Option Addr) (c : Nat) :
    (Builtin.append_ #[t, t] ty #[v, .slice A 0 c]).run P w = .ok v w := by
  rcases hown.2 with ⟨rfl, rfl⟩ | ⟨g, cap, cur, rfl, _, _, hnc, _⟩
  · cases A <;> simp [Builtin.append_, run_underlying ht, sizeOf, typeInfo, hi, Builtin.lenOf, Builtin.firstCells, loadCells, loadCellsFrom, storeCells, Result.andThen]
  · cases A <;> simp [Builtin.append_, run_underlying ht, sizeOf, typeInfo, hi, Builtin.lenOf, Builtin.firstCells, hnc, loadCells, loadCellsFrom, storeCells, Result.andThen]
theorem wpList_append_zero {ops : Array Oper} {rest : List Oper} {o : Oper} {a : Act} {Q : Exit → Act → World → Prop} (hgd : o.guard = none) (s x : Operand) (t : TypeId)
    (ho : o.op = .call { callee := .builtin .append, args := #[s, x], argTypes := #[t, t] })
    (base : Nat) (e : TypeId) (i : TypeInfo) (size : Nat) (ht : P.underlying t = some (.slice e)) (hi : P.info? e = some i)
    (v : Value) (n : Nat) (xs : List Value) (hs : a.eval s = v) (hown : w.ownsRow base e size v n xs) (A : Option Addr) (c : Nat) (hx : a.eval x = .slice A 0 c)
    (h : wpList P ops Q rest (a.put o.dst v) w) : wpList P ops Q (o :: rest) a w := by
  refine wpList_plain hgd fun K hK => ?_
  have hrun := run_append_zero (P := P) (w := w) base t o.type e i size ht hi v n xs hown A c
  unfold Oper.wp
  simp [execOp, ho, resolve, invoke, builtin, hs, hx, hrun, Result.andThen]
  exact hK _ _ h
end
set_option maxHeartbeats 800000 in
theorem spec_copyIntsA (A : Option Addr) (n c : Nat) (xs : List Int) (w : World) (B : Nat) (hB : B ≤ w.heap.size) (hn : n = xs.length) (h : IS w B A xs) (hs : n ≤ 2000000) :
    Calls Try.prog 33 #[.slice A n c] w fun e w' => ∃ g cap, e = .returned (.slice (some ⟨g, 0, none⟩) n cap) ∧ w'.ownsRow w.heap.size 3 1 (.slice (some ⟨g, 0, none⟩) n cap) n (xs.map (Value.int .i64)) ∧ Below w.heap.size w w' := by
  by_cases hp : 0 < n
  · exact spec_copyInts A n c xs w B hB hn h hs hp
  · obtain rfl : n = 0 := by omega
    have hx : xs = [] := List.eq_nil_of_length_eq_zero hn.symm
    subst hx
    obtain ⟨i0, hi, hz0, hz1, hz2⟩ := info_parts info_int
    have hnew := World.ownsRow_lit (e := 3) (size := 1) (base := w.heap.size) w #[] 0 (Nat.le_refl _) (by unfold maxLen; omega) (by simp)
    have HNEW := Lib.hid hnew
    clear hnew hn h
    go_enter Try.func33, Try.ntmps33
    go_wp2_with (at_builtin; refine wpList_append_zero rfl _ _ 25 rfl w.heap.size 3 i0 1 Try.underlying25 hi _ 0 _ rfl HNEW.out A c rfl ?_)
    go_ret
    exact ⟨_, _, rfl, by simpa using HNEW.out, (Below.refl _ _).alloc (Nat.le_refl _) _⟩
end Go.Proofs.Ytdiabclcnkbglaa

namespace Go.Proofs.Ytdiabclcnkbglaa
set_option linter.unusedSimpArgs false
set_option linter.unusedVariables false
/-- No number comes twice. -/
def apartL (l : List Int) : Bool := decide (∀ i, i < l.length → ¬ l.getD i 0 ∈ l.take i)
/-- All numbers are in a list. -/
def inL (l b : List Int) : Bool := l.all fun x => decide (x ∈ b)
/-- All nodes of a list are clean. -/
def cleanR (cs l : List Int) : Bool := l.all fun x => cs.getD x.toNat 0 == 0
/-- A node is as if it had run. -/
def asRun (gs : List Nd) (st : Lz) (i : Nat) : Bool := (valE gs st.vs i == st.vs.getD i 0) && decide (depF gs st.vs i = st.rs.getD i [])
def colOK (gs : List Nd) (st : Lz) (i : Nat) : Bool :=
  if (gs.getD i default).k == 0 then (st.cs.getD i 0 == 0) && decide ((st.rs.getD i []).length = 0)
  else if st.cs.getD i 0 == 2 then apartL (st.rs.getD i []) && inL (st.rs.getD i []) (mayR (gs.getD i default).ps)
  else if st.cs.getD i 0 == 0 then asRun gs st i && cleanR st.cs (st.rs.getD i [])
  else asRun gs st i
end Go.Proofs.Ytdiabclcnkbglaa

namespace Go.Proofs.Ytdiabclcnkbglaa
set_option linter.unusedSimpArgs false
set_option linter.unusedVariables false
open Go.ChangeShapes Go.WideShapes Go.ChangeAt Go.RowKit Go.Deep
theorem own : ownKnob Try.prog.godebug = none := by kernel_rfl
theorem laidOut : laidOutB Try.prog = true := by kernel_rfl
theorem cells_lawPart : Try.prog.cellsOf 85 = 5 := by kernel_rfl
theorem cells_int : Try.prog.cellsOf 3 = 1 := by kernel_rfl
theorem cells_lawFormula : Try.prog.cellsOf 59 = 1 := by kernel_rfl
theorem cells_lawParts : Try.prog.cellsOf 57 = 1 := by kernel_rfl
theorem add_of (b off n : Nat) : (⟨b, off, none⟩ : Addr).add n = ⟨b, off + n, none⟩ := by
  unfold Addr.add
  by_cases h : n = 0 <;> simp [h]
theorem add_add' (a : Addr) (i j : Nat) : (a.add i).add j = a.add (i + j) := by
  unfold Addr.add
  by_cases hi : i = 0 <;> by_cases hj : j = 0 <;> simp [hi, hj, Nat.add_assoc]
theorem one_of_list (cs : List Value) (h : cs.length = 1) : ∃ c, cs = [c] := by
  match cs, h with
  | [c], _ => exact ⟨c, rfl⟩
theorem choose_parts (f : Nat → Nat → Option Value) (len : Nat) (hp : ∀ i, i < len → ∃ p : Pt, ∀ j, j < 5 → f i j = p.cells[j]?) :
    ∃ ps : List Pt, ps.length = len ∧ ∀ i, i < len → ∀ j, j < 5 → f i j = (ps.getD i default).cells[j]? := by
  induction len with
  | zero => exact ⟨[], rfl, fun i hi => by omega⟩
  | succ k ih =>
    obtain ⟨ps, hl, hps⟩ := ih (fun i hi => hp i (by omega))
    obtain ⟨p, hpp⟩ := hp k (by omega)
    refine ⟨ps ++ [p], by simp [hl], fun i hi j hj => ?_⟩
    rcases Nat.lt_or_ge i k with h1 | h1
    · rw [hps i h1 j hj]; simp [List.getD, List.getElem?_append, hl, h1]
    · obtain rfl : i = k := by omega
      rw [hpp j hj]; simp [List.getD, List.getElem?_append, hl]
section
variable {H : Type} {enc : TypeId × Value → H} {w : World} {base : Nat} {spare : Nat → Bool} {held : Bool}
set_option maxRecDepth 100000 in
theorem part_cells {fuel : Nat} {cs : List Value} {x : DataW H × List MemPlace} (h : DataW.trod enc Try.prog w base spare held fuel 85 cs = some x) :
    ∃ p : Pt, cs = p.cells := by
  obtain ⟨xs, n, _, _, hl, hxl, hf⟩ := DataW.trod_struct Try.underlying85 h
  rw [cells_lawPart] at hl
  match cs, hl with
  | [c0, c1, c2, c3, c4], _ =>
    have key (c : Value) (m : Nat) (i : Nat) (hi : i < xs.length) (h1 : DataW.trod enc Try.prog w base spare held m 3 (List.take (Try.prog.cellsOf 3) (c :: ([c0, c1, c2, c3, c4] : List Value).drop (i + 1))) = xs[i]?) : ∃ k : Int, c = .int .i64 k := by
      rw [cells_int, List.getElem?_eq_getElem hi] at h1
      obtain ⟨k, e, _⟩ := DataW.trod_int Try.underlying3 h1
      exact ⟨k, by simpa using e⟩
    have hxl' : xs.length = 5 := hxl
    obtain ⟨k0, rfl⟩ := key c0 n 0 (by omega) (hf 0 _ rfl)
    obtain ⟨k1, rfl⟩ := key c1 n 1 (by omega) (hf 1 _ rfl)
    obtain ⟨k2, rfl⟩ := key c2 n 2 (by omega) (hf 2 _ rfl)
    obtain ⟨k3, rfl⟩ := key c3 n 3 (by omega) (hf 3 _ rfl)
    obtain ⟨k4, rfl⟩ := key c4 n 4 (by omega) (hf 4 _ rfl)
    exact ⟨⟨k0, k1, k2, k3, k4⟩, rfl⟩
set_option maxRecDepth 100000 in
theorem open_parts {fuel : Nat} {cs : List Value} {x : DataW H × List MemPlace} (h : DataW.trod enc Try.prog w base spare held fuel 57 cs = some x) :
    ∃ (A : Option Addr) (n c : Nat) (ps : List Pt), cs = [.slice A n c] ∧ n = ps.length ∧ n ≤ 9223372036854775807 ∧ PS w w.heap.size A ps := by
  rcases open_slice Try.underlying57 h with ⟨rfl, _⟩ | ⟨a, len, cap, m, n, D, Pl, rfl, hb, hl, hm, hmm, _, hi⟩
  · exact ⟨none, 0, 0, [], rfl, rfl, by omega, PS.nil _ _ _⟩
  · have hlm : len ≤ m := by rw [hmm]; split <;> omega
    have hp : ∀ i, i < len → ∃ p : Pt, ∀ j, j < 5 → w.cell? (a.add (i * 5 + j)) = p.cells[j]? := by
      intro i hlt
      obtain ⟨cs', hc, ht⟩ := hi i (by omega)
      obtain ⟨p, rfl⟩ := part_cells ht
      rw [cells_lawPart] at hc
      obtain ⟨_, _, hat⟩ := World.cells?_some hc
      exact ⟨p, fun j hj => by rw [← add_add']; exact hat j hj⟩
    obtain ⟨ps, hlen, hps⟩ := choose_parts (fun i j => w.cell? (a.add (i * 5 + j))) len hp
    refine ⟨some a, len, cap, ps, rfl, hlen.symm, by unfold maxLen at hm; omega, fun hn => ?_⟩
    have h0 := hps 0 (by omega) 0 (by omega)
    obtain ⟨b, off, spot⟩ := a
    have hspot : spot = none := by
      have h1 : w.cell? ⟨b, off, spot⟩ = some (.int .i64 (ps.getD 0 default).k) := by simpa [Addr.add, Pt.cells] using h0
      exact World.cell?_spot h1
    subst hspot
    have hblk : b < w.heap.size := by
      have h1 : w.cell? ⟨b, off, none⟩ = some (.int .i64 (ps.getD 0 default).k) := by simpa [Addr.add, Pt.cells] using h0
      exact World.block_lt_of_cell? w _ h1
    refine ⟨b, off, rfl, hblk, fun j hj => ?_⟩
    have g := hps j (by omega)
    have g0 := g 0 (by omega)
    have g1 := g 1 (by omega)
    have g2 := g 2 (by omega)
    have g3 := g 3 (by omega)
    have g4 := g 4 (by omega)
    simp only [add_of] at g0 g1 g2 g3 g4
    exact ⟨g0, g1, g2, g3, g4⟩
set_option maxRecDepth 100000 in
theorem open_list {r : Reach} {b0 : Nat} {v : Value} {d : DataW H} {p : List MemPlace} (hsp : ∀ b, spare b = true) (hv : Value.okWide Try.prog w r b0 25 v) (h : DataW.Trod enc Try.prog w base spare held 25 v d p) :
    ∃ (A : Option Addr) (n c : Nat) (xs : List Int), v = .slice A n c ∧ n = xs.length ∧ n ≤ 9223372036854775807 ∧ IS w w.heap.size A xs := by
  obtain ⟨a0, len0, cap0, rfl⟩ := okWide_slice Try.underlying25 hv
  obtain ⟨fuel, hf⟩ := h
  rcases open_ints Try.underlying25 Try.underlying3 cells_int hf with ⟨hcs, _⟩ | ⟨x, l, c, zs, hcs, _, hl, hm, hz, _, hcell, _⟩
  · simp [Value.cells] at hcs
    obtain ⟨rfl, rfl, rfl⟩ := hcs
    exact ⟨none, 0, 0, [], rfl, rfl, by omega, IS.nil _ _ _⟩
  · simp [Value.cells] at hcs
    obtain ⟨rfl, rfl, rfl⟩ := hcs
    have hzl : len0 ≤ zs.length := by rw [hz]; split <;> omega
    refine ⟨some x, len0, cap0, zs.take len0, rfl, by simp; omega, by unfold maxLen at hm; omega, fun hn => ?_⟩
    have hlen : (zs.take len0).length = len0 := by simp; omega
    have h0 := hcell 0 (by omega)
    obtain ⟨b, off, spot⟩ := x
    have hspot : spot = none := by
      have h1 : w.cell? ⟨b, off, spot⟩ = some (.int .i64 (zs.getD 0 0)) := by simpa [Addr.add] using h0
      exact World.cell?_spot h1
    subst hspot
    have hblk : b < w.heap.size := by
      have h1 : w.cell? ⟨b, off, none⟩ = some (.int .i64 (zs.getD 0 0)) := by simpa [Addr.add] using h0
      exact World.block_lt_of_cell? w _ h1
    refine ⟨b, off, rfl, hblk, fun j hj => ?_⟩
    have g := hcell j (by omega)
    rw [add_of] at g
    rw [g]
    congr 2
    simp only [List.getD, List.getElem?_take, if_pos (show j < len0 by omega)]
end
end Go.Proofs.Ytdiabclcnkbglaa

namespace Go.Proofs.Ytdiabclcnkbglaa
set_option linter.unusedSimpArgs false
set_option linter.unusedVariables false
open Go.ChangeShapes Go.WideShapes Go.ChangeAt Go.RowKit Go.Deep
theorem cells_lawNode : Try.prog.cellsOf 61 = 2 := by kernel_rfl
theorem cells_lawGraph : Try.prog.cellsOf 24 = 1 := by kernel_rfl
theorem cells_lawNodes : Try.prog.cellsOf 22 = 1 := by kernel_rfl
theorem choose_list {α : Type} [Inhabited α] (P : Nat → α → Prop) (len : Nat) (hp : ∀ i, i < len → ∃ a, P i a) : ∃ l : List α, l.length = len ∧ ∀ i, i < len → P i (l.getD i default) := by
  induction len with
  | zero => exact ⟨[], rfl, fun i hi => by omega⟩
  | succ k ih =>
    obtain ⟨l, hl, hP⟩ := ih (fun i hi => hp i (by omega))
    obtain ⟨a, ha⟩ := hp k (by omega)
    refine ⟨l ++ [a], by simp [hl], fun i hi => ?_⟩
    rcases Nat.lt_or_ge i k with h1 | h1
    · have := hP i h1
      simpa [List.getD, List.getElem?_append, hl, h1] using this
    · obtain rfl : i = k := by omega
      simpa [List.getD, List.getElem?_append, hl] using ha
section
variable {H : Type} {enc : TypeId × Value → H} {w : World} {base : Nat} {spare : Nat → Bool} {held : Bool}
set_option maxRecDepth 100000 in
theorem node_cells {fuel : Nat} {cs : List Value} {x : DataW H × List MemPlace} (h : DataW.trod enc Try.prog w base spare held fuel 61 cs = some x) :
    ∃ (k : Int) (A : Option Addr) (n c : Nat) (ps : List Pt), cs = [.int .i64 k, .slice A n c] ∧ n = ps.length ∧ n ≤ 9223372036854775807 ∧ PS w w.heap.size A ps := by
  obtain ⟨xs, n, _, _, hl, hxl, hf⟩ := DataW.trod_struct Try.underlying61 h
  rw [cells_lawNode] at hl
  match cs, hl with
  | [c0, c1], _ =>
    have hxl' : xs.length = 2 := hxl
    have h0 : DataW.trod enc Try.prog w base spare held n 3 (List.take (Try.prog.cellsOf 3) [c0, c1]) = xs[0]? := hf 0 _ rfl
    have h1 : DataW.trod enc Try.prog w base spare held n 59 (List.take (Try.prog.cellsOf 59) [c1]) = xs[1]? := hf 1 _ rfl
    rw [cells_int, List.getElem?_eq_getElem (by omega)] at h0
    rw [cells_lawFormula, List.getElem?_eq_getElem (by omega)] at h1
    obtain ⟨k, e, _⟩ := DataW.trod_int Try.underlying3 h0
    have e0 : c0 = .int .i64 k := by simpa using e
    obtain ⟨ys, n2, _, _, hl2, hyl, hg⟩ := DataW.trod_struct Try.underlying59 h1
    have hyl' : ys.length = 1 := hyl
    have h2 : DataW.trod enc Try.prog w base spare held n2 57 (List.take (Try.prog.cellsOf 57) [c1]) = ys[0]? := hg 0 _ rfl
    rw [List.getElem?_eq_getElem (by omega)] at h2
    obtain ⟨A, n3, c', ps, e3, h3, h4, h5⟩ := open_parts h2
    rw [cells_lawParts] at e3
    have e1 : c1 = .slice A n3 c' := by simpa using e3
    exact ⟨k, A, n3, c', ps, by rw [e0, e1], h3, h4, h5⟩
set_option maxRecDepth 100000 in
theorem open_nodes {fuel : Nat} {cs : List Value} {x : DataW H × List MemPlace} (h : DataW.trod enc Try.prog w base spare held fuel 22 cs = some x) :
    ∃ (A : Option Addr) (n c : Nat) (gs : List Nd), cs = [.slice A n c] ∧ n = gs.length ∧ n ≤ 9223372036854775807 ∧ (∀ j, (gs.getD j default).ps.length ≤ 9223372036854775807) ∧ GS w w.heap.size A gs := by
  rcases open_slice Try.underlying22 h with ⟨rfl, _⟩ | ⟨a, len, cap, m, n, D, Pl, rfl, hb, hl, hm, hmm, _, hi⟩
  · exact ⟨none, 0, 0, [], rfl, rfl, by omega, fun j => by simp [List.getD]; exact Nat.zero_le _, GS.nil _ _ _⟩
  · have hlm : len ≤ m := by rw [hmm]; split <;> omega
    have hp : ∀ i, i < len → ∃ d : Nd, w.cell? (a.add (i * 2)) = some (.int .i64 d.k) ∧ ∃ A n c, w.cell? (a.add (i * 2 + 1)) = some (.slice A n c) ∧ n = d.ps.length ∧ n ≤ 9223372036854775807 ∧ PS w w.heap.size A d.ps := by
      intro i hlt
      obtain ⟨cs', hc, ht⟩ := hi i (by omega)
      obtain ⟨k, A, n, c, ps, rfl, h1, h2, h3⟩ := node_cells ht
      rw [cells_lawNode] at hc
      obtain ⟨_, _, hat⟩ := World.cells?_some hc
      have a0 := hat 0 (by simp)
      have a1 := hat 1 (by simp)
      rw [add_add'] at a0 a1
      exact ⟨⟨k, ps⟩, a0, A, n, c, a1, h1, h2, h3⟩
    obtain ⟨gs, hlen, hgs⟩ := choose_list _ len hp
    refine ⟨some a, len, cap, gs, rfl, hlen.symm, by unfold maxLen at hm; omega, fun j => ?_, fun hn => ?_⟩
    · by_cases hj : j < len
      · obtain ⟨_, A, n, c, _, h1, h2, _⟩ := hgs j hj
        omega
      · rw [show gs.getD j default = default by simp [List.getD, List.getElem?_eq_none (show gs.length ≤ j by omega)]]
        exact Nat.zero_le _
    · obtain ⟨h0, _⟩ := hgs 0 (by omega)
      obtain ⟨b, off, spot⟩ := a
      have h1 : w.cell? ⟨b, off, spot⟩ = some (.int .i64 (gs.getD 0 default).k) := by simpa [Addr.add] using h0
      have hspot : spot = none := World.cell?_spot h1
      subst hspot
      refine ⟨b, off, rfl, World.block_lt_of_cell? w _ h1, fun j hj => ?_⟩
      obtain ⟨g0, A, n, c, g1, g2, _, g3⟩ := hgs j (by omega)
      rw [add_of] at g0 g1
      exact ⟨g0, A, n, c, g1, g2, g3⟩
set_option maxRecDepth 100000 in
theorem open_graph {r : Reach} {b0 : Nat} {v : Value} {d : DataW H} {p : List MemPlace} (hv : Value.okWide Try.prog w r b0 24 v) (h : DataW.Trod enc Try.prog w base spare held 24 v d p) :
    ∃ (A : Option Addr) (n c : Nat) (gs : List Nd), v = .agg #[.slice A n c] ∧ n = gs.length ∧ n ≤ 9223372036854775807 ∧ (∀ j, (gs.getD j default).ps.length ≤ 9223372036854775807) ∧ GS w w.heap.size A gs := by
  obtain ⟨cs, rfl, hsz⟩ := okWide_struct Try.underlying24 hv
  obtain ⟨fuel, hf⟩ := h
  obtain ⟨xs, n, _, _, hl, hxl, hg⟩ := DataW.trod_struct Try.underlying24 hf
  obtain ⟨l⟩ := cs
  obtain ⟨c, rfl⟩ := one_of_list l (by rw [cells_lawGraph] at hsz; simpa using hsz)
  have hxl' : xs.length = 1 := hxl
  have h1 : DataW.trod enc Try.prog w base spare held n 22 (List.take (Try.prog.cellsOf 22) [c]) = xs[0]? := hg 0 _ rfl
  rw [List.getElem?_eq_getElem (by omega)] at h1
  obtain ⟨A, n, c', gs, e, h2, h3, h4, h5⟩ := open_nodes h1
  rw [cells_lawNodes] at e
  have e' : c = .slice A n c' := by simpa using e
  subst e'
  exact ⟨A, n, c', gs, rfl, h2, h3, h4, h5⟩
end
end Go.Proofs.Ytdiabclcnkbglaa
