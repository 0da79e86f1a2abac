/- Words and contracts for memory that the texts behind use. -/
import Derived.Test.YtlbomopjldhmeaaB0a
import Derived.Test.YtlbomopjldhmeaaB1a
import Derived.Test.YtlbomopjldhmeaaB2a
import Derived.Test.YtlbomopjldhmeaaB3a
import Derived.Test.YtlbomopjldhmeaaB4a
import Derived.Test.YtlbomopjldhmeaaB5a
import Derived.Test.YtlbomopjldhmeaaB6a
import Derived.Test.YtlbomopjldhmeaaB7a
import Derived.Test.YtlbomopjldhmeaaB8a
import Derived.Test.YtlbomopjldhmeaaB9a
import Derived.Test.YtlbomopjldhmeaaB10a
import Derived.Test.YtlbomopjldhmeaaB11a
import Derived.Test.YtlbomopjldhmeaaB12a
import Derived.Test.YtlbomopjldhmeaaB13a
import Derived.Test.YtlbomopjldhmeaaB14a
import Derived.Test.YtlbomopjldhmeaaB15a
import Derived.WalkKit
import Derived.Laws.OwnMore
import Derived.Deep.Draws
import Derived.Test.YtlbomopjldhmeaaProg
import Derived.WalkSpells
import Derived.WalkLawsBesides
import Derived.Outline
import Derived.Lib.Hide
import Derived.BigQuiet
import Derived.Deep.QuietTactic
import Derived.StillTailTactics
import Derived.Deep.LoopGhost
import Derived.Laws.MakeOwn
import Derived.WalkSmall
import Derived.RegionTactic
import Derived.BigRegion
import Derived.Deep.RegionWith
import Derived.Deep.RegionHeld3
import Derived.Laws.Entries
import Derived.Laws.Bits64
import Derived.IntWalk
import Derived.Maps.AppendAt
import Derived.Deep.RegionLaw
import Derived.Deep.AppendLies
import Derived.Deep.Cut
import Derived.Deep.DeepCutAuto
import Derived.Laws.CopyOwn
import Derived.ArgAppend
import Derived.RangeFuncNested
import Derived.RangeFuncBound
import Derived.RangeFuncCalls
import Derived.RangeFuncLeaves
import Derived.RangeFuncBox
import Derived.Shelf.Abstract
import Derived.Shelf.RegionOpen
import Derived.OwnWalkIn
import Derived.TacticsInMore
import Derived.LoopNIn
import Derived.LoopIn
import Derived.Sort.QuietIn
import Derived.Sort.QuietTacIn
import Derived.RegionIn
import Derived.Sort.CutIn

namespace Go.Proofs.Ytlbomopjldhmeaa
set_option linter.unusedSimpArgs false
set_option linter.unusedVariables false
open Go.RowKit
theorem take_succ_int (M : List Int) (m : Nat) (x : Int) (h : m < M.length) (hx : M.getD m 0 = x) : M.take (m + 1) = M.take m ++ [x] := by
  rw [List.take_succ_eq_append_getElem h, ← hx]; simp [List.getD, h]
end Go.Proofs.Ytlbomopjldhmeaa

namespace Go.Proofs.Ytlbomopjldhmeaa
set_option linter.unusedSimpArgs false
set_option linter.unusedVariables false
open Go.RowKit
theorem plc_lt (l : List Int) (x : Int) : decide (plc l x < 0) = !decide (x ∈ l) := by
  unfold plc
  by_cases h : x ∈ l
  · simp [h]
  · simp [h]
/-- Numbers without those that came before. -/
def firsts (l : List Int) : List Int := l.foldl (fun acc x => if x ∈ acc then acc else acc ++ [x]) []
theorem firsts_step (l : List Int) (k : Nat) (x : Int) (h : k < l.length) (hx : l.getD k 0 = x) : firsts (l.take (k + 1)) = if x ∈ firsts (l.take k) then firsts (l.take k) else firsts (l.take k) ++ [x] := by
  rw [take_succ_int l k x h hx]
  unfold firsts
  rw [List.foldl_append]
  rfl
theorem firsts_len (l : List Int) : (firsts l).length ≤ l.length := by
  have : ∀ (l acc : List Int), (l.foldl (fun acc x => if x ∈ acc then acc else acc ++ [x]) acc).length ≤ acc.length + l.length := by
    intro l
    induction l with
    | nil => intro acc; simp
    | cons y l ih =>
      intro acc
      rw [List.foldl_cons]
      split
      · have := ih acc; simp only [List.length_cons]; omega
      · have := ih (acc ++ [y]); simp only [List.length_cons, List.length_append, List.length_nil] at this ⊢; omega
  have h := this l []
  unfold firsts
  simpa using h
/-- A slice of the call's own that is not nil. -/
def OwnN (w : World) (base : Nat) (v : Value) (xs : List Int) : Prop := w.ownsRow base 3 1 v xs.length (xs.map (Value.int .i64)) ∧ v ≠ .slice none 0 0
theorem OwnN.form {w : World} {base : Nat} {v : Value} {xs : List Int} (h : OwnN w base v xs) : ∃ g c, v = .slice (some ⟨g, 0, none⟩) xs.length c ∧ base ≤ g ∧ g < w.heap.size := by
  rcases h.1.2 with ⟨hv, _⟩ | ⟨g, cap, cur, hv, hb, hh, _⟩
  · exact absurd hv h.2
  · refine ⟨g, cap, hv, hb, ?_⟩
    rcases Nat.lt_or_ge g w.heap.size with hlt | hge
    · exact hlt
    · rw [Array.getElem?_eq_none hge] at hh; cases hh
/-- Returns a fresh slice of numbers that is not nil. -/
def RetN (w : World) (xs : List Int) (e : Ending) (w' : World) : Prop := ∃ v, e = .returned v ∧ OwnN w' w.heap.size v xs ∧ Below w.heap.size w w'
set_option maxRecDepth 100000 in
set_option maxHeartbeats 1600000 in
theorem spec_firstOnly (A : Option Addr) (n c : Nat) (xs : List Int) (w : World) (B : Nat) (hB : B ≤ w.heap.size) (hn : n = xs.length) (h : IS w B A xs) (hs : n ≤ 2000000) :
    Calls Try.prog 74 #[.slice A n c] w fun e w' => RetN w (firsts xs) e w' := by
  obtain ⟨i0, hi, hz0, hz1, hz2⟩ := info_parts info_int
  have H := Lib.hid h
  have HN := Lib.hid hn
  clear hn h
  go_enter Try.func74, Try.ntmps74
  go_wp2
  go_loopw [3, 4] (fun v i wr => ∃ k : Nat, k ≤ n ∧ i = .int .i64 k ∧ Hid (OwnN wr w.heap.size v (firsts (xs.take k))) ∧ Below w.heap.size w wr) (fun _ i _ => n - (intOf i).toNat)
  case atStart =>
    refine ⟨0, Nat.zero_le _, rfl, ⟨?_, by simp⟩, (Below.refl _ _).alloc (Nat.le_refl _) _⟩
    exact World.ownsRow_lit (e := 3) (size := 1) w #[] 0 (Nat.le_refl _) (by unfold maxLen; omega) rfl
  case round =>
    obtain ⟨k, hk, rfl, HO, hb⟩ := hrel
    by_cases hlt : k < n
    · obtain ⟨b, off, rfl, hbB, hc⟩ := H.out (by have := HN.out; omega)
      have c0 := hc k (by have := HN.out; omega)
      clear hc
      have b0 := (hb.cell (p := ⟨b, off + k, none⟩) (by simp; omega)).trans c0
      clear c0
      generalize hp : xs.getD k 0 = p at *
      have HST := Lib.hid (firsts_step xs k p (by have := HN.out; omega) hp)
      have hfl := firsts_len (xs.take k)
      have hfk : (xs.take k).length ≤ k := List.length_take_le _ _
      generalize hF : firsts (xs.take k) = F at *
      clear hp hF
      obtain ⟨g, cc, rfl, hbg, hgs⟩ := HO.out.form
      have HI := Lib.hid (IS.of_own HO.out.1)
      have hwr : w.heap.size ≤ wr.heap.size := hb.size
      generalize hFL : F.length = fl at *
      have HFL := Lib.hid hFL
      clear hFL
      cases hin : decide (p ∈ F)
      · have hd : decide (plc F p < 0) = true := by rw [plc_lt, hin]; rfl
        have HIN := Lib.hid hin
        clear hin
        go_wp2_with (first | (go_at_call 57; refine (spec_placeIn _ _ _ F _ _ wr.heap.size (Nat.le_refl _) HFL.out.symm HI.out (by omega)).mono ?_; rintro e w' ⟨rfl, rfl⟩) | (at_builtin; refine wpList_append_own _ rfl _ _ 22 rfl w.heap.size 3 i0 (.int .i64 0) 1 8 Try.underlying22 hi hz0 hz1 hz2 rfl (by decide) _ _ _ rfl (HO.out.1.alloc _) ⟨wr.heap.size, 0, none⟩ 1 1 [.int .i64 p] rfl rfl (cell_one_new _ _ _) ?c2 ?c3 ?c4 ?c5 ?_))
        case c2 => intro u hu; simp at hu; subst hu; rfl
        case c3 => have := HFL.out; unfold maxLen; omega
        case c4 => have := HFL.out; omega
        case c5 => simp; omega
        intro v' w1 hown' hgrow hnil
        have HO' : Hid (OwnN w1 w.heap.size v' (firsts (xs.take (k + 1)))) := by
          have hst := HST.out
          have hnin : ¬ p ∈ F := of_decide_eq_false HIN.out
          rw [if_neg hnin] at hst
          rw [hst]
          refine ⟨?_, by first | exact hnil | (intro e; simp [e] at hnil)⟩
          simpa using hown'
        have hb' : Below w.heap.size w w1 := (hb.alloc hwr _).grown hgrow (by simp; omega) (by intro q hq; simp [Value.ownBlock] at hq; omega)
        clear hown' hgrow hnil
        go_wp2
        go_roundw
        case rel => exact ⟨k + 1, by omega, by go_num, HO'.out, hb'⟩
        case measure => simp [intOf]; omega
      · have hd : decide (plc F p < 0) = false := by rw [plc_lt, hin]; rfl
        have HIN := Lib.hid hin
        clear hin
        go_wp2_with (go_at_call 57; refine (spec_placeIn _ _ _ F _ _ wr.heap.size (Nat.le_refl _) HFL.out.symm HI.out (by omega)).mono ?_; rintro e w' ⟨rfl, rfl⟩)
        go_roundw
        case rel =>
          have hst := HST.out
          rw [if_pos (of_decide_eq_true HIN.out)] at hst
          exact ⟨k + 1, by omega, by go_num, by rw [hst]; exact HO.out, hb⟩
        case measure => simp [intOf]; omega
    · go_wp2
      go_ret
      have hkn : k = n := by omega
      refine ⟨_, rfl, ?_, hb⟩
      rw [hkn, List.take_of_length_le (by have := HN.out; omega)] at HO
      simpa using HO.out
end Go.Proofs.Ytlbomopjldhmeaa

namespace Go.Proofs.Ytlbomopjldhmeaa
set_option linter.unusedSimpArgs false
set_option linter.unusedVariables false
open Go.RowKit
theorem nodup_plc (xs : List Int) (h : xs.Nodup) (k : Nat) (hk : k < xs.length) : plc xs (xs.getD k 0) = (k : Int) := by
  refine plc_at xs _ k hk rfl fun j hj => ?_
  have := List.pairwise_iff_getElem.1 h j k (by omega) hk hj
  simpa [List.getD, hk, show j < xs.length by omega] using this
set_option maxHeartbeats 800000 in
theorem laws_noTwice (A : Option Addr) (n c : Nat) (xs : List Int) (w : World) (B : Nat) (hB : B ≤ w.heap.size) (hn : n = xs.length) (h : IS w B A xs) (hs : n ≤ 2000000) (hd : xs.Nodup) :
    Calls Try.prog 34 #[.slice A n c] w fun e w' => e = .returned (.bool true) ∧ w = w' := by
  have H := Lib.hid h
  have HN := Lib.hid hn
  have HP := Lib.hid fun (k : Nat) (hk : k < n) => nodup_plc xs hd k (by omega)
  clear hn h hd
  go_enter Try.func34, Try.ntmps34
  go_wp2
  go_loop [3] (fun i => ∃ k : Nat, k ≤ n ∧ i = .int .i64 k) (fun i => n - (intOf i).toNat)
  case atStart => exact ⟨0, Nat.zero_le _, rfl⟩
  case round =>
    obtain ⟨k, hk, rfl⟩ := hrel
    by_cases hlt : k < n
    · obtain ⟨b, off, rfl, hbB, hc⟩ := H.out (by have := HN.out; omega)
      have c0 := hc k (by have := HN.out; omega)
      clear hc
      have HC := Lib.hid (laws_place (some ⟨b, off, none⟩) n c xs (xs.getD k 0) w B hB HN.out H.out hs)
      rw [HP.out k hlt] at HC
      generalize xs.getD k 0 = x at *
      have hne : ((k : Int) != (k : Int)) = false := by simp
      go_wp2_with fail
      refine HC.out.mono ?_
      rintro e w' ⟨rfl, rfl⟩
      go_wp2
      go_round
      case rel => exact ⟨k + 1, by omega, by go_num⟩
      case measure => simp [intOf]; omega
    · go_wp2
      go_ret
      exact ⟨rfl, rfl⟩
end Go.Proofs.Ytlbomopjldhmeaa

namespace Go.Proofs.Ytlbomopjldhmeaa
set_option linter.unusedSimpArgs false
set_option linter.unusedVariables false
open Go.RowKit
/-- The slice value is one of the call's own, of acts. -/
def OwnW (w : World) (base : Nat) (v : Value) (xs : List Rk) : Prop := w.ownsRow base 53 2 v xs.length (xs.flatMap Rk.cells)
end Go.Proofs.Ytlbomopjldhmeaa

namespace Go.Proofs.Ytlbomopjldhmeaa
set_option linter.unusedSimpArgs false
set_option linter.unusedVariables false
open Go.RowKit
theorem kyW_step (rs : List Rk) (k : Nat) (h : k < rs.length) : kyW (rs.take (k + 1)) = kyW (rs.take k) ++ [(rs.getD k default).k] := by
  unfold kyW; rw [List.take_succ_eq_append_getElem h, List.map_append]; simp only [List.map_cons, List.map_nil, List.getD, List.getElem?_eq_getElem h, Option.getD_some]
theorem idW_step (rs : List Rk) (k : Nat) (h : k < rs.length) : idW (rs.take (k + 1)) = idW (rs.take k) ++ [(rs.getD k default).a] := by
  unfold idW; rw [List.take_succ_eq_append_getElem h, List.map_append]; simp only [List.map_cons, List.map_nil, List.getD, List.getElem?_eq_getElem h, Option.getD_some]
theorem firsts_eq (l : List Int) : decide ((firsts l).length = l.length) = decide l.Nodup := by
  have key : ∀ (l acc : List Int), (l.foldl (fun acc x => if x ∈ acc then acc else acc ++ [x]) acc).length ≤ acc.length + l.length ∧ ((acc ++ l).Nodup → l.foldl (fun acc x => if x ∈ acc then acc else acc ++ [x]) acc = acc ++ l) ∧ (acc.Nodup → ¬ (acc ++ l).Nodup → (l.foldl (fun acc x => if x ∈ acc then acc else acc ++ [x]) acc).length < acc.length + l.length) := by
    intro l
    induction l with
    | nil => intro acc; exact ⟨Nat.le_refl _, fun _ => by simp, fun h h2 => absurd (by simpa using h) h2⟩
    | cons x l ih =>
      intro acc
      simp only [List.foldl_cons]
      by_cases hx : x ∈ acc
      · rw [if_pos hx]
        obtain ⟨h1, h2, h3⟩ := ih acc
        refine ⟨by simp; omega, fun hn => ?_, fun _ _ => by simp; omega⟩
        rw [List.nodup_append] at hn
        exact absurd rfl (hn.2.2 x hx x (by simp))
      · rw [if_neg hx]
        obtain ⟨h1, h2, h3⟩ := ih (acc ++ [x])
        have e : acc ++ [x] ++ l = acc ++ x :: l := by simp
        rw [e] at h2 h3
        refine ⟨by simp at h1 ⊢; omega, h2, fun ha hn => ?_⟩
        have hax : (acc ++ [x]).Nodup := by
          rw [List.nodup_append]
          refine ⟨ha, by simp, ?_⟩
          intro a h b hb e2
          simp at hb
          rw [e2, hb] at h
          exact hx h
        have := h3 hax hn
        simp at this ⊢
        omega
  obtain ⟨_, h2, h3⟩ := key l []
  simp only [List.nil_append, List.length_nil, Nat.zero_add] at h2 h3
  by_cases hn : l.Nodup
  · rw [decide_eq_true hn]
    have : firsts l = l := h2 hn
    rw [this]; simp
  · rw [decide_eq_false hn]
    have : (firsts l).length < l.length := h3 List.nodup_nil hn
    exact decide_eq_false (by omega)
/-- Two rows lie apart. -/
def ApV (v u : Value) : Prop := ∀ k, v.ownBlock = some k → u.ownBlock ≠ some k
theorem ApV.symm {v u : Value} (h : ApV v u) : ApV u v := fun k h1 h2 => h k h2 h1
theorem ApV.grow {w w3 : World} {B : Nat} {v v' u : Value} {G : List Int} (h : ApV v u) (hu : OwnI w B u G) (hg : w.grownBy w3 v.ownBlock) {s : Nat} (hb : v'.ownBlock = v.ownBlock ∨ v'.ownBlock = some s) (hs : w.heap.size ≤ s) : OwnI w3 B u G ∧ ApV v' u := by
  refine ⟨World.ownsRow.kept hu hg ?_, fun k h1 h2 => ?_⟩
  · cases hub : u.ownBlock with
    | none => exact .inl rfl
    | some k => exact .inr fun e => h k e.symm hub
  · rcases hb with e | e
    · exact h k (e ▸ h1) h2
    · rw [e] at h1
      cases h1
      have := (World.ownsRow.lt hu _ h2).2
      omega
end Go.Proofs.Ytlbomopjldhmeaa

namespace Go.Proofs.Ytlbomopjldhmeaa
set_option linter.unusedSimpArgs false
set_option linter.unusedVariables false
open Go.RowKit
theorem cell_grown {w w3 : World} {row : Option Nat} (hg : w.grownBy w3 row) (p : Addr) (hp : p.block < w.heap.size) (hne : ∀ k, row = some k → k ≠ p.block) : w3.cell? p = w.cell? p :=
  World.cell?_of_block (hg.block p.block hp fun e => hne _ e.symm rfl)
set_option maxRecDepth 100000 in
set_option maxHeartbeats 3200000 in
theorem spec_validRows (A : Option Addr) (n c : Nat) (rs : List Rk) (nx : Int) (w : World) (B : Nat) (hB : B ≤ w.heap.size) (hn : n = rs.length) (h : WS w B A rs) (hs : n ≤ 1048576) :
    Calls Try.prog 56 #[.slice A n c, .int .i64 nx] w fun e w' => e = .returned (.bool (rowsOK rs nx)) ∧ Below w.heap.size w w' := by
  obtain ⟨i0, hi, hz0, hz1, hz2⟩ := info_parts info_int
  have H := Lib.hid h
  have HN := Lib.hid hn
  have ho1 : OwnI ((w.alloc (.cells #[] 3)).alloc (.cells #[] 3)) w.heap.size (.slice (some ⟨w.heap.size, 0, none⟩) 0 0) [] := World.ownsRow.alloc (World.ownsRow_lit (e := 3) (size := 1) w #[] 0 (Nat.le_refl _) (by unfold maxLen; omega) rfl) _
  have ho2 : OwnI ((w.alloc (.cells #[] 3)).alloc (.cells #[] 3)) w.heap.size (.slice (some ⟨w.heap.size + 1, 0, none⟩) 0 0) [] := by
    have := World.ownsRow_lit (e := 3) (size := 1) (base := w.heap.size) (w.alloc (.cells #[] 3)) #[] 0 (by simp) (by unfold maxLen; omega) rfl
    simpa [OwnI] using this
  have HO1 := Lib.hid ho1
  have HO2 := Lib.hid ho2
  clear hn h ho1 ho2
  go_enter Try.func56, Try.ntmps56
  go_wp2
  go_loopw [5, 6, 7] (fun v u i wr => ∃ k : Nat, k ≤ n ∧ i = .int .i64 k ∧ Hid (OwnI wr w.heap.size v (kyW (rs.take k))) ∧ Hid (OwnI wr w.heap.size u (idW (rs.take k))) ∧ Hid (ApV v u) ∧ Hid (Below w.heap.size w wr)) (fun _ _ i _ => n - (intOf i).toNat)
  case atStart =>
    refine ⟨0, Nat.zero_le _, rfl, by simpa [kyW, Hid] using HO1.out, by simpa [idW, Hid] using HO2.out, ?_, ((Below.refl _ _).alloc (Nat.le_refl _) _).alloc (by simp) _⟩
    intro k h1 h2
    simp [Value.ownBlock] at h1 h2
    omega
  case round =>
    obtain ⟨k, hk, rfl, HK, HI, HAp, HB⟩ := hrel
    have hwr : w.heap.size ≤ wr.heap.size := HB.out.size
    by_cases hlt : k < n
    · have hkx : k < rs.length := by have := HN.out; omega
      obtain ⟨b, off, rfl, hbB, c0, c1⟩ := H.out.at_ k hkx
      have q0 := (HB.out.cell (p := ⟨b, off + k * 2, none⟩) (by simp; omega)).trans c0
      have q1 := (HB.out.cell (p := ⟨b, off + k * 2 + 1, none⟩) (by simp; omega)).trans c1
      have hlk : (kyW (rs.take k)).length ≤ k := by rw [kyW_len]; exact List.length_take_le _ _
      have hli : (idW (rs.take k)).length ≤ k := by rw [idW_len]; exact List.length_take_le _ _
      have HSK := Lib.hid (kyW_step rs k hkx)
      have HSI := Lib.hid (idW_step rs k hkx)
      generalize rs.getD k default = p at *
      generalize kyW (rs.take k) = F at *
      generalize idW (rs.take k) = G at *
      have HLK := Lib.hid hlk
      have HLI := Lib.hid hli
      have HC1 := Lib.hid c1
      clear hlk hli c0 c1 q1
      go_wp2_with (at_builtin; refine wpList_append_own_at _ rfl _ _ 22 rfl w.heap.size 3 i0 (.int .i64 0) 1 8 Try.underlying22 hi hz0 hz1 hz2 rfl (by decide) _ _ _ rfl (HK.out.alloc _) ⟨_, 0, none⟩ 1 1 [.int .i64 (p.k)] rfl rfl (cell_one_new _ _ _) ?c2 ?c3 ?c4 ?c5 ?_)
      case c2 => first | rfl | (intro u hu; simp at hu; subst hu; rfl)
      case c3 => have := HLK.out; have := HLI.out; unfold maxLen; omega
      case c4 => have := HLK.out; have := HLI.out; omega
      case c5 => first | omega | (simp; omega)
      intro v3 w3 hown1 hg1 _ hb1
      obtain ⟨hi1, hap1⟩ := HAp.out.grow (World.ownsRow.alloc HI.out _) hg1 hb1 (by simp)
      have HI1 := Lib.hid hi1
      have HAp1 := Lib.hid hap1
      have HK1 : Hid (OwnI w3 w.heap.size v3 (F ++ [p.k])) := by simpa [OwnI, Hid] using hown1
      have hpos := (World.ownsRow.alloc HK.out (.cells #[.int .i64 p.k] 3)).lt
      have HB1 := Lib.hid ((HB.out.alloc hwr (.cells #[.int .i64 p.k] 3)).grown hg1 (by first | (simp; omega) | omega) (fun q hq => (hpos q hq).1))
      have q1 := (HB1.out.cell (p := ⟨b, off + k * 2 + 1, none⟩) (by simp; omega)).trans HC1.out
      have hw3 : w.heap.size ≤ w3.heap.size := HB1.out.size
      clear hown1 hg1 hb1 hi1 hap1 hpos HK HI HAp
      go_wp2_with (at_builtin; refine wpList_append_own_at _ rfl _ _ 22 rfl w.heap.size 3 i0 (.int .i64 0) 1 8 Try.underlying22 hi hz0 hz1 hz2 rfl (by decide) _ _ _ rfl (HI1.out.alloc _) ⟨_, 0, none⟩ 1 1 [.int .i64 (p.a)] rfl rfl (cell_one_new _ _ _) ?d2 ?d3 ?d4 ?d5 ?_)
      case d2 => first | rfl | (intro u hu; simp at hu; subst hu; rfl)
      case d3 => have := HLK.out; have := HLI.out; unfold maxLen; omega
      case d4 => have := HLK.out; have := HLI.out; omega
      case d5 => first | omega | (simp; omega)
      intro v4 w4 hown2 hg2 _ hb2
      obtain ⟨hk2, hap2⟩ := HAp1.out.symm.grow (World.ownsRow.alloc HK1.out _) hg2 hb2 (by simp)
      have HK2 := Lib.hid hk2
      have HAp2 := Lib.hid hap2.symm
      have HI2 : Hid (OwnI w4 w.heap.size v4 (G ++ [p.a])) := by simpa [OwnI, Hid] using hown2
      have hpos := (World.ownsRow.alloc HI1.out (.cells #[.int .i64 p.a] 3)).lt
      have HB2 := Lib.hid ((HB1.out.alloc hw3 (.cells #[.int .i64 p.a] 3)).grown hg2 (by first | (simp; omega) | omega) (fun q hq => (hpos q hq).1))
      clear hown2 hg2 hb2 hk2 hap2 hpos HK1 HI1 HAp1
      go_wp2
      go_roundw
      case rel => exact ⟨k + 1, by omega, by go_num, by rw [HSK.out]; exact HK2.out, by rw [HSI.out]; exact HI2.out, HAp2.out, HB2.out⟩
      case measure => simp [intOf]; omega
    · obtain rfl : k = n := by omega
      have htk : rs.take k = rs := List.take_of_length_le (by have := HN.out; omega)
      rw [htk] at HK HI
      obtain ⟨A1, c1, rfl, hi1, hc1, _⟩ := HK.out.form' k (by rw [kyW_len]; exact HN.out)
      obtain ⟨A2, c2, rfl, hi2, hc2, _⟩ := HI.out.form' k (by rw [idW_len]; exact HN.out)
      have HVK := Lib.hid (spec_validKeys A1 k c1 (kyW rs) wr wr.heap.size (Nat.le_refl _) (by rw [kyW_len]; exact HN.out) hc1 hi1 (by omega))
      have HAL := Lib.hid fun (q : Int) (w' : World) (hb : Below wr.heap.size wr w') => spec_allIn A2 k c2 (idW rs) 0 q w' wr.heap.size hb.size (by rw [idW_len]; exact HN.out) (hi2.below hb (Nat.le_refl _)) (by omega)
      have HFO := Lib.hid fun (w' : World) (hb : Below wr.heap.size wr w') => spec_firstOnly A2 k c2 (idW rs) w' wr.heap.size hb.size (by rw [idW_len]; exact HN.out) (hi2.below hb (Nat.le_refl _)) (by omega)
      have hfe := firsts_eq (idW rs)
      have hfl := firsts_len (idW rs)
      rw [idW_len, ← HN.out] at hfe hfl
      have hok : rowsOK rs nx = (rng nx 0 100 && (validK (kyW rs) && (allR (idW rs) 0 (nx - 1) && decide (idW rs).Nodup))) := rfl
      have HOK := Lib.hid hok
      generalize hr1 : validK (kyW rs) = r1 at *
      obtain ⟨l, hl⟩ : ∃ l : Nat, l = (firsts (idW rs)).length := ⟨_, rfl⟩
      rw [← hl] at hfe hfl
      have HL := Lib.hid hl
      have HFE := Lib.hid hfe
      have HB0 := Lib.hid HB.out
      clear hi1 hi2 hok hr1 hl hfe htk HK HI HAp
      cases r1
      · have hf : rowsOK rs nx = false := by rw [HOK.out]; simp
        have HF := Lib.hid hf
        clear hf
        go_wp2_with fail
        refine HVK.out.mono ?_
        rintro e w2 ⟨rfl, hb2⟩
        go_wp2
        go_ret
        exact ⟨ret_b (by rw [HF.out]), HB0.out.trans (hb2.mono HB0.out.size)⟩
      · by_cases hrg : 0 ≤ nx ∧ nx ≤ 100
        · obtain ⟨hn0, hn1⟩ := hrg
          have hrt : rng nx 0 100 = true := by simp [rng]; omega
          have HRT := Lib.hid hrt
          have HIR := Lib.hid (spec_inRange nx 0 100)
          have HA2 := Lib.hid (HAL.out (nx - 1))
          generalize hr2 : allR (idW rs) 0 (nx - 1) = r2 at *
          rw [hrt] at HIR
          clear hrt hr2 HAL
          cases r2
          · have hf : rowsOK rs nx = false := by rw [HOK.out]; simp
            have HF := Lib.hid hf
            clear hf
            go_wp2_with fail
            refine HVK.out.mono ?_
            rintro e w2 ⟨rfl, hb2⟩
            go_wp2_with fail
            refine (HA2.out _ hb2).mono ?_
            rintro e w3 ⟨rfl, rfl⟩
            go_wp2
            go_ret
            exact ⟨ret_b (by rw [HF.out]), HB0.out.trans (hb2.mono HB0.out.size)⟩
          · by_cases hlk : l = k
            · have hf : rowsOK rs nx = true := by rw [HOK.out, HRT.out, ← HFE.out, decide_eq_true hlk]; rfl
              have HF := Lib.hid hf
              have hbl : ((l : Int) == (k : Int)) = true := by simp [hlk]
              have HLK := Lib.hid hlk
              clear hf hlk
              go_wp2_with fail
              refine HVK.out.mono ?_
              rintro e w2 ⟨rfl, hb2⟩
              go_wp2_with fail
              refine (HA2.out _ hb2).mono ?_
              rintro e w3 ⟨rfl, rfl⟩
              go_wp2_with fail
              refine (HFO.out _ hb2).mono ?_
              rintro e w4 ⟨v4, rfl, ho4, hb4⟩
              obtain ⟨A4, c4, rfl⟩ := own_form ho4.1
              rw [← HL.out]
              clear ho4
              go_wp2_with fail
              refine (HIR.out _).mono ?_
              rintro e w5 ⟨rfl, rfl⟩
              go_wp2
              go_ret
              exact ⟨ret_b (by rw [HF.out]), HB0.out.trans ((hb2.trans (hb4.mono hb2.size)).mono HB0.out.size)⟩
            · have hf : rowsOK rs nx = false := by rw [HOK.out, ← HFE.out, decide_eq_false hlk]; simp
              have HF := Lib.hid hf
              have hbl : ((l : Int) == (k : Int)) = false := by simp; omega
              clear hf hlk
              go_wp2_with fail
              refine HVK.out.mono ?_
              rintro e w2 ⟨rfl, hb2⟩
              go_wp2_with fail
              refine (HA2.out _ hb2).mono ?_
              rintro e w3 ⟨rfl, rfl⟩
              go_wp2_with fail
              refine (HFO.out _ hb2).mono ?_
              rintro e w4 ⟨v4, rfl, ho4, hb4⟩
              obtain ⟨A4, c4, rfl⟩ := own_form ho4.1
              rw [← HL.out]
              clear ho4
              go_wp2
              go_ret
              exact ⟨ret_b (by rw [HF.out]), HB0.out.trans ((hb2.trans (hb4.mono hb2.size)).mono HB0.out.size)⟩
        · have hrt : rng nx 0 100 = false := by unfold rng; exact decide_eq_false hrg
          have HRT := Lib.hid hrt
          have HIR := Lib.hid (spec_inRange nx 0 100)
          rw [hrt] at HIR
          have hf : rowsOK rs nx = false := by rw [HOK.out, hrt]; rfl
          have HF := Lib.hid hf
          obtain ⟨y, hy⟩ : ∃ y, IntKind.i64.wrap (nx - 1) = y := ⟨_, rfl⟩
          have HA2 := Lib.hid (HAL.out y)
          generalize allR (idW rs) 0 y = r2 at *
          clear hrt hrg hf HAL HOK HRT
          cases r2
          · go_wp2_with fail
            refine HVK.out.mono ?_
            rintro e w2 ⟨rfl, hb2⟩
            go_wp2_with fail
            refine (HA2.out _ hb2).mono ?_
            rintro e w3 ⟨rfl, rfl⟩
            go_wp2
            go_ret
            exact ⟨ret_b (by rw [HF.out]), HB0.out.trans (hb2.mono HB0.out.size)⟩
          · by_cases hlk : l = k
            · have hbl : ((l : Int) == (k : Int)) = true := by simp [hlk]
              clear hlk
              go_wp2_with fail
              refine HVK.out.mono ?_
              rintro e w2 ⟨rfl, hb2⟩
              go_wp2_with fail
              refine (HA2.out _ hb2).mono ?_
              rintro e w3 ⟨rfl, rfl⟩
              go_wp2_with fail
              refine (HFO.out _ hb2).mono ?_
              rintro e w4 ⟨v4, rfl, ho4, hb4⟩
              obtain ⟨A4, c4, rfl⟩ := own_form ho4.1
              rw [← HL.out]
              clear ho4
              go_wp2_with fail
              refine (HIR.out _).mono ?_
              rintro e w5 ⟨rfl, rfl⟩
              go_wp2
              go_ret
              exact ⟨ret_b (by rw [HF.out]), HB0.out.trans ((hb2.trans (hb4.mono hb2.size)).mono HB0.out.size)⟩
            · have hbl : ((l : Int) == (k : Int)) = false := by simp; omega
              clear hlk
              go_wp2_with fail
              refine HVK.out.mono ?_
              rintro e w2 ⟨rfl, hb2⟩
              go_wp2_with fail
              refine (HA2.out _ hb2).mono ?_
              rintro e w3 ⟨rfl, rfl⟩
              go_wp2_with fail
              refine (HFO.out _ hb2).mono ?_
              rintro e w4 ⟨v4, rfl, ho4, hb4⟩
              obtain ⟨A4, c4, rfl⟩ := own_form ho4.1
              rw [← HL.out]
              clear ho4
              go_wp2
              go_ret
              exact ⟨ret_b (by rw [HF.out]), HB0.out.trans ((hb2.trans (hb4.mono hb2.size)).mono HB0.out.size)⟩
set_option maxRecDepth 100000 in
set_option maxHeartbeats 3200000 in
theorem impl_areRows (A : Option Addr) (n c : Nat) (rs : List Rk) (nx : Int) (w : World) (B : Nat) (hB : B ≤ w.heap.size) (hn : n = rs.length) (h : WS w B A rs) (hs : n ≤ 1048576) :
    Calls Try.prog 53 #[.slice A n c, .int .i64 nx] w fun e w' => e = .returned (.bool (rowsOK rs nx)) ∧ Below w.heap.size w w' := by
  obtain ⟨i0, hi, hz0, hz1, hz2⟩ := info_parts info_int
  have H := Lib.hid h
  have HN := Lib.hid hn
  clear hn h
  go_enter Try.func53, Try.ntmps53
  go_wp2
  go_loopw [5, 6, 11] (fun v u i wr => ∃ k : Nat, k ≤ n ∧ i = .int .i64 k ∧ Hid (OwnI wr w.heap.size v (kyW (rs.take k))) ∧ Hid (OwnI wr w.heap.size u (idW (rs.take k))) ∧ Hid (ApV v u) ∧ Hid (Below w.heap.size w wr)) (fun _ _ i _ => n - (intOf i).toNat)
  case atStart => exact ⟨0, Nat.zero_le _, rfl, World.ownsRow_nil _ _ _ _, World.ownsRow_nil _ _ _ _, fun k h1 _ => by simp [Value.ownBlock] at h1, Below.refl _ _⟩
  case round =>
    obtain ⟨k, hk, rfl, HK, HI, HAp, HB⟩ := hrel
    have hwr : w.heap.size ≤ wr.heap.size := HB.out.size
    by_cases hlt : k < n
    · have hkx : k < rs.length := by have := HN.out; omega
      obtain ⟨b, off, rfl, hbB, c0, c1⟩ := H.out.at_ k hkx
      have q0 := (HB.out.cell (p := ⟨b, off + k * 2, none⟩) (by simp; omega)).trans c0
      have q1 := (HB.out.cell (p := ⟨b, off + k * 2 + 1, none⟩) (by simp; omega)).trans c1
      have hlk : (kyW (rs.take k)).length ≤ k := by rw [kyW_len]; exact List.length_take_le _ _
      have hli : (idW (rs.take k)).length ≤ k := by rw [idW_len]; exact List.length_take_le _ _
      have HSK := Lib.hid (kyW_step rs k hkx)
      have HSI := Lib.hid (idW_step rs k hkx)
      generalize rs.getD k default = p at *
      generalize kyW (rs.take k) = F at *
      generalize idW (rs.take k) = G at *
      have HLK := Lib.hid hlk
      have HLI := Lib.hid hli
      clear hlk hli c0 c1
      have hnw := cell_one_new (wr.alloc (.cells #[.int .i64 p.k, .int .i64 p.a] 53)) (.int .i64 p.k) 3
      rw [World.size_alloc] at hnw
      have HNW := Lib.hid hnw
      clear hnw
      go_wp2_with (at_builtin; refine wpList_append_own_at _ rfl _ _ 22 rfl w.heap.size 3 i0 (.int .i64 0) 1 8 Try.underlying22 hi hz0 hz1 hz2 rfl (by decide) _ _ _ rfl ((HK.out.alloc _).alloc _) ⟨wr.heap.size + 1, 0, none⟩ 1 1 [.int .i64 (p.k)] rfl rfl HNW.out ?c2 ?c3 ?c4 ?c5 ?_)
      case c2 => first | rfl | (intro u hu; simp at hu; subst hu; rfl)
      case c3 => have := HLK.out; have := HLI.out; unfold maxLen; omega
      case c4 => have := HLK.out; have := HLI.out; omega
      case c5 => first | omega | (simp; omega)
      intro v3 w3 hown1 hg1 _ hb1
      obtain ⟨hi1, hap1⟩ := HAp.out.grow (World.ownsRow.alloc (World.ownsRow.alloc HI.out _) _) hg1 hb1 (by simp)
      have HI1 := Lib.hid hi1
      have HAp1 := Lib.hid hap1
      have HK1 : Hid (OwnI w3 w.heap.size v3 (F ++ [p.k])) := by simpa [OwnI, Hid] using hown1
      have hpos := (World.ownsRow.alloc (World.ownsRow.alloc HK.out (.cells #[.int .i64 p.k, .int .i64 p.a] 53)) (.cells #[.int .i64 p.k] 3)).lt
      have hpos0 := HK.out.lt
      have HB1 := Lib.hid (((HB.out.alloc hwr (.cells #[.int .i64 p.k, .int .i64 p.a] 53)).alloc (by simp; omega) (.cells #[.int .i64 p.k] 3)).grown hg1 (by first | (simp; omega) | omega) (fun q hq => (hpos q hq).1))
      have x1 : w3.cell? ⟨wr.heap.size, 1, none⟩ = some (.int .i64 p.a) := (cell_grown hg1 ⟨wr.heap.size, 1, none⟩ (by simp; omega) (fun q hq e => by have h1 := (hpos0 q hq).2; have h2 : q = wr.heap.size := e; omega)).trans (by go_simp)
      have hw3 : w.heap.size ≤ w3.heap.size := HB1.out.size
      clear hown1 hg1 hb1 hi1 hap1 hpos hpos0 HK HI HAp
      go_wp2_with (at_builtin; refine wpList_append_own_at _ rfl _ _ 22 rfl w.heap.size 3 i0 (.int .i64 0) 1 8 Try.underlying22 hi hz0 hz1 hz2 rfl (by decide) _ _ _ rfl (HI1.out.alloc _) ⟨_, 0, none⟩ 1 1 [.int .i64 (p.a)] rfl rfl (cell_one_new _ _ _) ?d2 ?d3 ?d4 ?d5 ?_)
      case d2 => first | rfl | (intro u hu; simp at hu; subst hu; rfl)
      case d3 => have := HLK.out; have := HLI.out; unfold maxLen; omega
      case d4 => have := HLK.out; have := HLI.out; omega
      case d5 => first | omega | (simp; omega)
      intro v4 w4 hown2 hg2 _ hb2
      obtain ⟨hk2, hap2⟩ := HAp1.out.symm.grow (World.ownsRow.alloc HK1.out _) hg2 hb2 (by simp)
      have HK2 := Lib.hid hk2
      have HAp2 := Lib.hid hap2.symm
      have HI2 : Hid (OwnI w4 w.heap.size v4 (G ++ [p.a])) := by simpa [OwnI, Hid] using hown2
      have hpos := (World.ownsRow.alloc HI1.out (.cells #[.int .i64 p.a] 3)).lt
      have HB2 := Lib.hid ((HB1.out.alloc hw3 (.cells #[.int .i64 p.a] 3)).grown hg2 (by first | (simp; omega) | omega) (fun q hq => (hpos q hq).1))
      clear hown2 hg2 hb2 hk2 hap2 hpos HK1 HI1 HAp1
      go_wp2
      go_roundw
      case rel => exact ⟨k + 1, by omega, by go_num, by rw [HSK.out]; exact HK2.out, by rw [HSI.out]; exact HI2.out, HAp2.out, HB2.out⟩
      case measure => simp [intOf]; omega
    · obtain rfl : k = n := by omega
      have htk : rs.take k = rs := List.take_of_length_le (by have := HN.out; omega)
      rw [htk] at HK HI
      obtain ⟨A1, c1, rfl, hi1, hc1, _⟩ := HK.out.form' k (by rw [kyW_len]; exact HN.out)
      obtain ⟨A2, c2, rfl, hi2, hc2, _⟩ := HI.out.form' k (by rw [idW_len]; exact HN.out)
      have HVK := Lib.hid (impl_ValidKeys A1 k c1 (kyW rs) wr wr.heap.size (Nat.le_refl _) (by rw [kyW_len]; exact HN.out) hc1 hi1 (by omega))
      have HAD := Lib.hid fun (w' : World) (hb : Below wr.heap.size wr w') => impl_areDifferentUpTo (nx - 1) A2 k c2 (idW rs) w' wr.heap.size hb.size (by rw [idW_len]; exact HN.out) hc2 (hi2.below hb (Nat.le_refl _)) (by omega)
      have HIR := Lib.hid (impl_inRange nx 100)
      have hok : rowsOK rs nx = (rng nx 0 100 && (validK (kyW rs) && difB (nx - 1) (idW rs))) := rfl
      have HOK := Lib.hid hok
      generalize hr1 : validK (kyW rs) = r1 at *
      generalize hr2 : difB (nx - 1) (idW rs) = r2 at *
      generalize hr0 : rng nx 0 100 = r0 at *
      have HB0 := Lib.hid HB.out
      have hrg : r0 = true → 0 ≤ nx ∧ nx ≤ 100 := fun e => by rw [e] at hr0; simpa [rng] using hr0
      clear hi1 hi2 hok hr1 hr2 hr0 htk HK HI HAp
      cases r0
      · have hf : rowsOK rs nx = false := by rw [HOK.out]; rfl
        have HF := Lib.hid hf
        clear hf hrg
        go_wp2_with fail
        refine (HIR.out _).mono ?_
        rintro e w2 ⟨rfl, rfl⟩
        go_wp2
        go_ret
        exact ⟨ret_b (by rw [HF.out]), HB0.out⟩
      · obtain ⟨hn0, hn1⟩ := hrg rfl
        clear hrg
        cases r1
        · have hf : rowsOK rs nx = false := by rw [HOK.out]; rfl
          have HF := Lib.hid hf
          clear hf
          go_wp2_with fail
          refine (HIR.out _).mono ?_
          rintro e w2 ⟨rfl, rfl⟩
          go_wp2_with fail
          refine HVK.out.mono ?_
          rintro e w2 ⟨rfl, hb2⟩
          go_wp2
          go_ret
          exact ⟨ret_b (by rw [HF.out]), HB0.out.trans (hb2.mono HB0.out.size)⟩
        · have hf : rowsOK rs nx = r2 := by rw [HOK.out]; cases r2 <;> rfl
          have HF := Lib.hid hf
          clear hf
          go_wp2_with fail
          refine (HIR.out _).mono ?_
          rintro e w2 ⟨rfl, rfl⟩
          go_wp2_with fail
          refine HVK.out.mono ?_
          rintro e w2 ⟨rfl, hb2⟩
          go_wp2_with fail
          refine (HAD.out _ hb2).mono ?_
          rintro e w3 ⟨rfl, hb3⟩
          go_wp2
          go_ret
          exact ⟨ret_b (by rw [HF.out]), HB0.out.trans ((hb2.trans (hb3.mono hb2.size)).mono HB0.out.size)⟩
end Go.Proofs.Ytlbomopjldhmeaa

namespace Go.Proofs.Ytlbomopjldhmeaa
set_option linter.unusedSimpArgs false
set_option linter.unusedVariables false
open Go.RowKit
theorem matchF_len (rs : List Rk) (nx : Int) (ys : List Int) : (matchF rs nx ys).length ≤ 10 := by
  unfold matchF
  split
  · rename_i h
    rw [(mtc_bd rs ys nx ys.length).1]
    unfold matchB matchOK at h
    simp only [Bool.and_eq_true] at h
    exact validK_len _ h.1.2
  · simp
theorem rowsOK_parts (rs : List Rk) (nx : Int) (h : rowsOK rs nx = true) : 0 ≤ nx ∧ nx ≤ 100 ∧ (kyW rs).Nodup ∧ rs.length ≤ 10 ∧ ∀ y, y ∈ kyW rs → 0 ≤ idOf rs y ∧ idOf rs y ≤ 100 := by
  unfold rowsOK validK difB at h
  simp only [Bool.and_eq_true, decide_eq_true_eq] at h
  obtain ⟨h1, ⟨h2, _, h3⟩, h4, _⟩ := h
  have hr : 0 ≤ nx ∧ nx ≤ 100 := by simpa [rng] using h1
  rw [kyW_len] at h2
  refine ⟨hr.1, hr.2, h3, h2, fun y hy => ?_⟩
  obtain ⟨p, hp, hpl, _⟩ := plc_index _ _ hy
  rw [kyW_len] at hpl
  have hm : idOf rs y ∈ idW rs := by
    unfold idOf
    rw [hp]
    show (rs.getD p default).a ∈ idW rs
    rw [← idW_get]
    have : p < (idW rs).length := by rw [idW_len]; exact hpl
    simp [List.getD, this]
  unfold allR at h4
  have := (List.all_eq_true.1 h4) _ hm
  have h5 : 0 ≤ idOf rs y ∧ idOf rs y ≤ nx - 1 := by simpa [rng] using this
  omega
theorem kyW_row (rs : List Rk) (y : Int) (hy : y ∈ kyW rs) : ∃ p : Nat, plc (kyW rs) y = p ∧ p < rs.length ∧ rs.getD p default = ⟨y, idOf rs y⟩ := by
  obtain ⟨p, hp, hpl, hpy⟩ := plc_index _ _ hy
  rw [kyW_len] at hpl
  refine ⟨p, hp, hpl, ?_⟩
  have h1 : (rs.getD p default).k = y := by rw [← kyW_get]; exact hpy
  have h2 : (rs.getD p default).a = idOf rs y := by unfold idOf; rw [hp]; rfl
  generalize rs.getD p default = q at *
  obtain ⟨a, b⟩ := q
  simp at h1 h2
  rw [h1, h2]
/-- Returns fresh rows and a number. -/
def RetWI (w : World) (xs : List Rk) (m : Int) (e : Ending) (w' : World) : Prop := ∃ v, e = .returned (.tuple #[v, .int .i64 m]) ∧ OwnW w' w.heap.size v xs ∧ Below w.heap.size w w'
set_option maxHeartbeats 800000 in
theorem match1_at (gb : Nat) (p : Rk) (y : Int) (w : World) (h1 : w.cell? ⟨gb, 0, none⟩ = some (.int .i64 y)) (hg : gb < w.heap.size) :
    Calls Try.prog 55 #[.agg #[.int .i64 p.k, .int .i64 p.a], .pointer (some ⟨gb, 0, none⟩)] w fun e w' => e = .returned (.bool (p.k == y)) ∧ Below w.heap.size w w' := by
  obtain ⟨k, a⟩ := p
  go_enter Try.func55, Try.ntmps55
  go_wp2
  go_ret
  exact ⟨rfl, (Below.refl _ _).alloc (Nat.le_refl _) _⟩
set_option maxHeartbeats 1600000 in
theorem index_row (gb : Nat) (y : Int) (A : Option Addr) (n c : Nat) (rs : List Rk) (w : World) (hn : n = rs.length) (h : WS w w.heap.size A rs) (hs : n ≤ 2000000) (h1 : w.cell? ⟨gb, 0, none⟩ = some (.int .i64 y)) (hg : gb < w.heap.size) :
    Calls Try.prog 54 #[.slice A n c, .func (.func 55) #[] #[.pointer (some ⟨gb, 0, none⟩)]] w fun e w' => e = .returned (.int .i64 (plc (kyW rs) y)) ∧ Below w.heap.size w w' := by
  have hcf : ∀ (a b : Int) (w : World), (callFunc 55 #[.agg #[.int .i64 a, .int .i64 b], .pointer (some ⟨gb, 0, none⟩)]).run Try.prog w = .ok (.enter 55 #[.agg #[.int .i64 a, .int .i64 b], .pointer (some ⟨gb, 0, none⟩)]) w := fun a b w => by kernel_rfl
  have H := Lib.hid h
  have HN := Lib.hid hn
  have H1 := Lib.hid h1
  have HCF := Lib.hid hcf
  clear h hn h1 hcf
  go_enter Try.func54, Try.ntmps54
  go_wp2
  go_loopw [8] (fun i wr => ∃ k : Nat, k ≤ n ∧ i = .int .i64 k ∧ Hid (∀ j, j < k → (kyW rs).getD j 0 ≠ y) ∧ Below w.heap.size w wr) (fun i _ => n - (intOf i).toNat)
  case atStart => exact ⟨0, Nat.zero_le _, rfl, fun j hj => by omega, Below.refl _ _⟩
  case round =>
    obtain ⟨k, hk, rfl, HA, hb⟩ := hrel
    have hwr := hb.size
    by_cases hlt : k < n
    · obtain ⟨b, off, rfl, hbB, c0, c1⟩ := H.out.at_ k (by have := HN.out; omega)
      have q0 := (hb.cell (p := ⟨b, off + k * 2, none⟩) hbB).trans c0
      have q1 := (hb.cell (p := ⟨b, off + k * 2 + 1, none⟩) hbB).trans c1
      have HKG := Lib.hid (kyW_get rs k)
      generalize rs.getD k default = p at *
      have hcf := HCF.out p.k p.a
      have HM := Lib.hid (match1_at gb p y wr ((hb.cell (p := ⟨gb, 0, none⟩) hg).trans H1.out) (by omega))
      clear c0 c1
      cases hky : (p.k == y)
      · rw [hky] at HM
        have HNE : Hid (∀ j, j < k + 1 → (kyW rs).getD j 0 ≠ y) := fun j hj => by
          rcases Nat.lt_or_ge j k with h2 | h2
          · exact HA.out j h2
          · obtain rfl : j = k := by omega
            rw [HKG.out]; simpa using hky
        clear hky
        go_wp2_with fail
        refine HM.out.mono ?_
        rintro e w2 ⟨rfl, hb2⟩
        go_wp2
        go_roundw
        case rel => exact ⟨k + 1, by omega, by go_num, HNE.out, hb.trans (hb2.mono hwr)⟩
        case measure => simp [intOf]; omega
      · rw [hky] at HM
        have hpl := plc_at (kyW rs) y k (by rw [kyW_len]; have := HN.out; omega) (by rw [HKG.out]; simpa using hky) HA.out
        have HPL := Lib.hid hpl
        clear hky hpl
        go_wp2_with fail
        refine HM.out.mono ?_
        rintro e w2 ⟨rfl, hb2⟩
        go_wp2
        go_ret
        exact ⟨ret_i (by rw [HPL.out]), hb.trans (hb2.mono hwr)⟩
    · go_wp2
      go_ret
      exact ⟨ret_i (plc_none (kyW rs) y fun j hj => HA.out j (by rw [kyW_len] at hj; have := HN.out; omega)).symm, hb⟩
set_option maxRecDepth 100000 in
set_option maxHeartbeats 6400000 in
theorem top_spec_MatchRows (rs : List Rk) (nx : Int) (ys : List Int) (hL : rs.length ≤ 1048576) (hL2 : ys.length ≤ 1048576) : ∀ (A : Option Addr) (n c : Nat) (A' : Option Addr) (m c' : Nat) (w : World), n = rs.length → n ≤ c → WS w w.heap.size A rs → m = ys.length → m ≤ c' → IS w w.heap.size A' ys →
    Calls Try.prog 32 #[.slice A n c, .int .i64 nx, .slice A' m c'] w fun e w' => RetWI w (matchF rs nx ys) (matchN rs nx ys) e w' := by
  intro A n c A' m c' w hn hnc h hm hmc h'
  obtain ⟨i1, hi1, hy0, hy1, hy2⟩ := info_parts info_row
  have hn1 : n ≤ 1048576 := by omega
  have hm1 : m ≤ 1048576 := by omega
  have HVR := Lib.hid (spec_validRows A n c rs nx w w.heap.size (Nat.le_refl _) hn h hn1)
  have HVK := Lib.hid fun (w' : World) (hb : Below w.heap.size w w') => spec_validKeys A' m c' ys w' w.heap.size hb.size hm hmc (h'.below hb (Nat.le_refl _)) (by omega)
  have hpt := rowsOK_parts rs nx
  have hmF : matchF rs nx ys = if matchB rs nx ys then (mtc rs ys nx ys.length).1 else [] := rfl
  have hmN : matchN rs nx ys = if matchB rs nx ys then (mtc rs ys nx ys.length).2 else -1 := rfl
  have hmB : matchB rs nx ys = ((rowsOK rs nx && validK ys) && decide ((mtc rs ys nx ys.length).2 ≤ 100)) := rfl
  generalize rowsOK rs nx = r at *
  generalize validK ys = s at *
  have H := Lib.hid h
  have HN := Lib.hid hn
  have H' := Lib.hid h'
  have HM := Lib.hid hm
  have HMF := Lib.hid hmF
  have HMN := Lib.hid hmN
  have HMB := Lib.hid hmB
  clear hn h hm h' hnc hmc hmF hmN hmB hL hL2
  cases r
  · have HB0 : Hid (matchB rs nx ys = false) := by rw [HMB.out]; exact Lib.hid rfl
    clear hpt
    go_enter Try.func32, Try.ntmps32
    go_wp2_with fail
    refine HVR.out.mono ?_
    rintro e w1 ⟨rfl, hb⟩
    go_wp2
    go_ret2
    rw [HMF.out, HMN.out, HB0.out]
    exact ⟨_, rfl, World.ownsRow_nil _ _ _ _, hb⟩
  cases s
  · have HB0 : Hid (matchB rs nx ys = false) := by rw [HMB.out]; exact Lib.hid rfl
    clear hpt
    go_enter Try.func32, Try.ntmps32
    go_wp2_with fail
    refine HVR.out.mono ?_
    rintro e w1 ⟨rfl, hb⟩
    go_wp2_with fail
    refine (HVK.out _ hb).mono ?_
    rintro e w2 ⟨rfl, hb2⟩
    go_wp2
    go_ret2
    rw [HMF.out, HMN.out, HB0.out]
    exact ⟨_, rfl, World.ownsRow_nil _ _ _ _, hb.trans (hb2.mono hb.size)⟩
  have HMB2 : Hid (matchB rs nx ys = decide ((mtc rs ys nx ys.length).2 ≤ 100)) := by rw [HMB.out]; exact Lib.hid (by simp)
  obtain ⟨hx0, hx1, hnd, hn10, hids⟩ := hpt rfl
  have HND := Lib.hid hnd
  have HIDS := Lib.hid hids
  rw [← HM.out] at HMF HMN HMB2
  clear hpt hnd hids hn10 HMB
  go_enter Try.func32, Try.ntmps32
  go_wp2_with fail
  refine HVR.out.mono ?_
  rintro e w1 ⟨rfl, hb⟩
  go_wp2_with fail
  refine (HVK.out _ hb).mono ?_
  rintro e w2 ⟨rfl, hb2⟩
  have HB2 := Lib.hid (hb.trans (hb2.mono hb.size))
  have hw2 := HB2.out.size
  have HZ : Hid (mtc rs ys nx 0 = ([], nx)) := rfl
  clear hb hb2 HVR HVK
  have HO0 : Hid (OwnW (w2.alloc (.cells #[] 53)) w.heap.size (.slice (some ⟨w2.heap.size, 0, none⟩) 0 0) []) := World.ownsRow_lit (e := 53) (size := 2) w2 #[] 0 hw2 (by unfold maxLen; omega) rfl
  go_wp2
  go_loopw [8, 1, 9] (fun v q i wr => ∃ k : Nat, k ≤ m ∧ i = .int .i64 k ∧ q = .int .i64 (mtc rs ys nx k).2 ∧ Hid (OwnW wr w.heap.size v (mtc rs ys nx k).1) ∧ Hid (Below w.heap.size w wr)) (fun _ _ i _ => m - (intOf i).toNat)
  case atStart => exact ⟨0, Nat.zero_le _, rfl, by rw [HZ.out], by rw [HZ.out]; exact HO0.out, HB2.out.alloc hw2 _⟩
  case round =>
    obtain ⟨k, hk, rfl, rfl, HO, HB⟩ := hrel
    have hwr : w.heap.size ≤ wr.heap.size := HB.out.size
    have hmb := mtc_bd rs ys nx k
    by_cases hlt : k < m
    · have hky : k < ys.length := by have := HM.out; omega
      obtain ⟨b2, o2, rfl, hbB2, hc2⟩ := (H'.out.below HB.out (Nat.le_refl _)) (by omega)
      have y0 := hc2 k hky
      have HYE := Lib.hid (mtc_yes rs ys nx k)
      have HNO := Lib.hid (mtc_no rs ys nx k)
      have hla := lid_all rs (ys.getD k 0) HND.out
      have hid := HIDS.out (ys.getD k 0)
      have HL0 : Hid (lid rs (ys.getD k 0) 0 = -1) := rfl
      generalize hy : ys.getD k 0 = y at *
      generalize mtc rs ys nx k = S at *
      obtain ⟨F, q⟩ := S
      obtain ⟨hF1, hF2, hF3⟩ := hmb
      simp only at hF1 hF2 hF3 HYE HNO HO ⊢
      have HFL := Lib.hid hF1
      rw [← HN.out] at hla
      have HLA := Lib.hid hla
      have HID := Lib.hid hid
      have HY := Lib.hid hy
      clear hF1 hc2 hy hla hid
      go_wp2
      go_loopw [10, 11] (fun z j wx => ∃ d : Nat, d ≤ n ∧ j = .int .i64 d ∧ z = .int .i64 (lid rs y d) ∧ Hid (OwnW wx w.heap.size u8 F) ∧ Hid (Below w.heap.size w wx)) (fun _ j _ => n - (intOf j).toNat)
      case atStart => exact ⟨0, Nat.zero_le _, rfl, by rw [HL0.out], HO.out, HB.out⟩
      case round =>
        clear HO HB
        obtain ⟨d, hd, rfl, rfl, HO, HB⟩ := hrel
        have hwr : w.heap.size ≤ wr.heap.size := HB.out.size
        have y1 : wr.cell? ⟨b2, o2 + k, none⟩ = some (.int .i64 y) := by
          obtain ⟨b3, o3, e3, _, hc3⟩ := (H'.out.below HB.out (Nat.le_refl _)) (by omega)
          cases e3
          rw [hc3 k hky, HY.out]
        by_cases hdn : d < n
        · obtain ⟨b, off, rfl, hbB, c0, c1⟩ := H.out.at_ d (by have := HN.out; omega)
          have q0 := (HB.out.cell (p := ⟨b, off + d * 2, none⟩) hbB).trans c0
          have q1 := (HB.out.cell (p := ⟨b, off + d * 2 + 1, none⟩) hbB).trans c1
          have HLY := Lib.hid (lid_yes rs y d)
          have HLN := Lib.hid (lid_no rs y d)
          generalize rs.getD d default = p at *
          generalize lid rs y d = z at *
          have hdi : (d : Int) < (n : Int) := by omega
          have hki : (k : Int) < (m : Int) := by omega
          clear c0 c1 y0
          by_cases hpy : p.k = y
          · have hb1 : (p.k == y) = true := by simp [hpy]
            have HL2 := Lib.hid (HLY.out hpy)
            clear HLY HLN hpy
            go_wp2
            go_quiet (fail)
            go_wp2
            go_roundw
            case rel => exact ⟨d + 1, by omega, by go_num, by rw [HL2.out], HO.out, drewN_b HB.out⟩
            case measure => simp [intOf]; omega
          · have hb1 : (p.k == y) = false := by simp [hpy]
            have HL2 := Lib.hid (HLN.out hpy)
            clear HLY HLN hpy
            go_wp2
            go_quiet (fail)
            go_wp2
            go_roundw
            case rel => exact ⟨d + 1, by omega, by go_num, by rw [HL2.out], HO.out, drewN_b HB.out⟩
            case measure => simp [intOf]; omega
        · obtain rfl : d = n := by omega
          have hw4 : F.length ≤ 1048576 := by have := HFL.out; omega
          by_cases hym : y ∈ kyW rs
          · have hl2 : lid rs y d = idOf rs y := by rw [HLA.out, if_pos hym]
            obtain ⟨hd0, hd1⟩ := HID.out hym
            have HS2 := Lib.hid (HYE.out hym)
            have hneg : decide (idOf rs y < 0) = false := decide_eq_false (by omega)
            rw [hl2]
            generalize idOf rs y = z at *
            clear hl2 hym HYE HNO HLA HID y0
            go_wp2_with (at_builtin; refine wpList_append_own _ rfl _ _ 46 rfl w.heap.size 53 i1 _ 2 16 Try.underlying46 hi1 hy0 hy1 hy2 rfl (by decide) _ _ _ rfl (HO.out.alloc _) ⟨_, 0, none⟩ 1 1 (Rk.cells ⟨y, z⟩) rfl rfl (acells_new _ _ _ _ rfl) ?c2 ?c3 ?c4 ?c5 ?_)
            case c2 => intro u hu; simp [Rk.cells] at hu; rcases hu with rfl | rfl <;> rfl
            case c3 => have := HFL.out; unfold maxLen; omega
            case c4 => have := HFL.out; omega
            case c5 => first | omega | (simp; omega)
            intro v' w5 hown' hgrow _
            have hpos := (World.ownsRow.alloc HO.out (.cells #[.int .i64 (y), .int .i64 (z)] 53)).lt
            have HO' : Hid (OwnW w5 w.heap.size v' (F ++ [⟨y, z⟩])) := by
              unfold OwnW
              rw [List.length_append, List.flatMap_append]
              simpa [Hid] using hown'
            have HB' := Lib.hid ((HB.out.alloc hwr (.cells #[.int .i64 (y), .int .i64 (z)] 53)).grown hgrow (by first | (simp; omega) | omega) (fun q hq => (hpos q hq).1))
            clear hown' hgrow hpos
            go_wp2
            go_roundw
            case rel => exact ⟨k + 1, by omega, by go_num, by rw [HS2.out], by rw [HS2.out]; exact HO'.out, HB'.out⟩
            case measure => simp [intOf]; omega
          · have hl2 : lid rs y d = -1 := by rw [HLA.out, if_neg hym]
            have HS2 := Lib.hid (HNO.out hym)
            rw [hl2]
            clear hl2 hym HYE HNO HLA HID y0
            go_wp2_with (at_builtin; refine wpList_append_own _ rfl _ _ 46 rfl w.heap.size 53 i1 _ 2 16 Try.underlying46 hi1 hy0 hy1 hy2 rfl (by decide) _ _ _ rfl (HO.out.alloc _) ⟨_, 0, none⟩ 1 1 (Rk.cells ⟨y, q⟩) rfl rfl (acells_new _ _ _ _ rfl) ?d2 ?d3 ?d4 ?d5 ?_)
            case d2 => intro u hu; simp [Rk.cells] at hu; rcases hu with rfl | rfl <;> rfl
            case d3 => have := HFL.out; unfold maxLen; omega
            case d4 => have := HFL.out; omega
            case d5 => first | omega | (simp; omega)
            intro v' w5 hown' hgrow _
            have hpos := (World.ownsRow.alloc HO.out (.cells #[.int .i64 (y), .int .i64 (q)] 53)).lt
            have HO' : Hid (OwnW w5 w.heap.size v' (F ++ [⟨y, q⟩])) := by
              unfold OwnW
              rw [List.length_append, List.flatMap_append]
              simpa [Hid] using hown'
            have HB' := Lib.hid ((HB.out.alloc hwr (.cells #[.int .i64 (y), .int .i64 (q)] 53)).grown hgrow (by first | (simp; omega) | omega) (fun q hq => (hpos q hq).1))
            clear hown' hgrow hpos
            go_wp2
            go_roundw
            case rel => exact ⟨k + 1, by omega, by go_num, by rw [HS2.out], by rw [HS2.out]; exact HO'.out, HB'.out⟩
            case measure => simp [intOf]; omega
    · obtain rfl : k = m := by omega
      obtain ⟨hF1, hF2, hF3⟩ := hmb
      generalize hS : mtc rs ys nx k = S at *
      obtain ⟨F, q⟩ := S
      simp only at hF1 hF2 hF3 HO ⊢
      have HS := Lib.hid hS
      clear hS hF1
      by_cases h100 : q ≤ 100
      · have hgt : decide (100 < q) = false := decide_eq_false (by omega)
        have hle : decide (q ≤ 100) = true := decide_eq_true h100
        have HLE := Lib.hid hle
        clear h100 hle
        go_wp2
        go_ret2
        rw [HMF.out, HMN.out, HMB2.out, HLE.out]
        exact ⟨_, rfl, HO.out, HB.out⟩
      · have hgt : 100 < q := by omega
        have hle : decide (q ≤ 100) = false := decide_eq_false h100
        have HLE := Lib.hid hle
        clear h100 hle
        go_wp2
        go_ret2
        rw [HMF.out, HMN.out, HMB2.out, HLE.out]
        exact ⟨_, rfl, World.ownsRow_nil _ _ _ _, HB.out⟩
end Go.Proofs.Ytlbomopjldhmeaa

namespace Go.Proofs.Ytlbomopjldhmeaa
set_option linter.unusedSimpArgs false
set_option linter.unusedVariables false
open Go.RowKit
set_option maxRecDepth 100000 in
set_option maxHeartbeats 6400000 in
theorem top_impl_MatchRows (rs : List Rk) (nx : Int) (ys : List Int) (hL : rs.length ≤ 1048576) (hL2 : ys.length ≤ 1048576) : ∀ (A : Option Addr) (n c : Nat) (A' : Option Addr) (m c' : Nat) (w : World), n = rs.length → n ≤ c → WS w w.heap.size A rs → m = ys.length → m ≤ c' → IS w w.heap.size A' ys →
    Calls Try.prog 31 #[.slice A n c, .int .i64 nx, .slice A' m c'] w fun e w' => RetWI w (matchF rs nx ys) (matchN rs nx ys) e w' := by
  intro A n c A' m c' w hn hnc h hm hmc h'
  obtain ⟨i1, hi1, hy0, hy1, hy2⟩ := info_parts info_row
  have hn1 : n ≤ 1048576 := by omega
  have hm1 : m ≤ 1048576 := by omega
  have HVR := Lib.hid (impl_areRows A n c rs nx w w.heap.size (Nat.le_refl _) hn h hn1)
  have HVK := Lib.hid fun (w' : World) (hb : Below w.heap.size w w') => impl_ValidKeys A' m c' ys w' w.heap.size hb.size hm hmc (h'.below hb (Nat.le_refl _)) (by omega)
  have hpt := rowsOK_parts rs nx
  have hmF : matchF rs nx ys = if matchB rs nx ys then (mtc rs ys nx ys.length).1 else [] := rfl
  have hmN : matchN rs nx ys = if matchB rs nx ys then (mtc rs ys nx ys.length).2 else -1 := rfl
  have hmB : matchB rs nx ys = ((rowsOK rs nx && validK ys) && decide ((mtc rs ys nx ys.length).2 ≤ 100)) := rfl
  generalize rowsOK rs nx = r at *
  generalize validK ys = s at *
  have H := Lib.hid h
  have HN := Lib.hid hn
  have H' := Lib.hid h'
  have HM := Lib.hid hm
  have HMF := Lib.hid hmF
  have HMN := Lib.hid hmN
  have HMB := Lib.hid hmB
  clear hn h hm h' hnc hmc hmF hmN hmB hL hL2
  cases r
  · have HB0 : Hid (matchB rs nx ys = false) := by rw [HMB.out]; exact Lib.hid rfl
    clear hpt
    go_enter Try.func31, Try.ntmps31
    go_wp2_with fail
    refine HVR.out.mono ?_
    rintro e w1 ⟨rfl, hb⟩
    go_wp2
    go_ret2
    rw [HMF.out, HMN.out, HB0.out]
    exact ⟨_, rfl, World.ownsRow_nil _ _ _ _, hb⟩
  cases s
  · have HB0 : Hid (matchB rs nx ys = false) := by rw [HMB.out]; exact Lib.hid rfl
    clear hpt
    go_enter Try.func31, Try.ntmps31
    go_wp2_with fail
    refine HVR.out.mono ?_
    rintro e w1 ⟨rfl, hb⟩
    go_wp2_with fail
    refine (HVK.out _ hb).mono ?_
    rintro e w2 ⟨rfl, hb2⟩
    go_wp2
    go_ret2
    rw [HMF.out, HMN.out, HB0.out]
    exact ⟨_, rfl, World.ownsRow_nil _ _ _ _, hb.trans (hb2.mono hb.size)⟩
  have HMB2 : Hid (matchB rs nx ys = decide ((mtc rs ys nx ys.length).2 ≤ 100)) := by rw [HMB.out]; exact Lib.hid (by simp)
  obtain ⟨hx0, hx1, hnd, hn10, hids⟩ := hpt rfl
  have HND := Lib.hid hnd
  have HIDS := Lib.hid hids
  rw [← HM.out] at HMF HMN HMB2
  clear hpt hnd hids hn10 HMB
  go_enter Try.func31, Try.ntmps31
  go_wp2_with fail
  refine HVR.out.mono ?_
  rintro e w1 ⟨rfl, hb⟩
  go_wp2_with fail
  refine (HVK.out _ hb).mono ?_
  rintro e w2 ⟨rfl, hb2⟩
  have HB2 := Lib.hid (hb.trans (hb2.mono hb.size))
  have hw2 := HB2.out.size
  have HZ : Hid (mtc rs ys nx 0 = ([], nx)) := rfl
  clear hb hb2 HVR HVK
  go_wp2
  go_loopw [8, 1, 23] (fun v q i wr => ∃ k : Nat, k ≤ m ∧ i = .int .i64 k ∧ q = .int .i64 (mtc rs ys nx k).2 ∧ Hid (OwnW wr w.heap.size v (mtc rs ys nx k).1) ∧ Hid (Below w.heap.size w wr)) (fun _ _ i _ => m - (intOf i).toNat)
  case atStart => exact ⟨0, Nat.zero_le _, rfl, by rw [HZ.out], by rw [HZ.out]; exact World.ownsRow_nil _ _ _ _, HB2.out⟩
  case round =>
    obtain ⟨k, hk, rfl, rfl, HO, HB⟩ := hrel
    have hwr : w.heap.size ≤ wr.heap.size := HB.out.size
    have hmb := mtc_bd rs ys nx k
    by_cases hlt : k < m
    · have hky : k < ys.length := by have := HM.out; omega
      obtain ⟨b2, o2, rfl, hbB2, hc2⟩ := (H'.out.below HB.out (Nat.le_refl _)) (by omega)
      have y0 := hc2 k hky
      have HYE := Lib.hid (mtc_yes rs ys nx k)
      have HNO := Lib.hid (mtc_no rs ys nx k)
      have hkr := kyW_row rs (ys.getD k 0)
      have hno := plc_ge (kyW rs) (ys.getD k 0)
      have HIX := Lib.hid fun (g : Nat) (w' : World) (hb : Below w.heap.size w w') (h1 : w'.cell? ⟨g, 0, none⟩ = some (.int .i64 (ys.getD k 0))) (hg : g < w'.heap.size) => index_row g (ys.getD k 0) A n c rs w' HN.out ((H.out.below hb (Nat.le_refl _)).more hb.size) (by omega) h1 hg
      generalize ys.getD k 0 = y at *
      generalize mtc rs ys nx k = S at *
      obtain ⟨F, q⟩ := S
      obtain ⟨hF1, hF2, hF3⟩ := hmb
      simp only at hF1 hF2 hF3 HYE HNO HO ⊢
      have HFL := Lib.hid hF1
      have HBa := Lib.hid (HB.out.alloc hwr (.cells #[.int .i64 y] 3))
      have HOa := Lib.hid (World.ownsRow.alloc HO.out (.cells #[.int .i64 y] 3))
      have hbx : (wr.alloc (.cells #[.int .i64 y] 3)).cell? ⟨wr.heap.size, 0, none⟩ = some (.int .i64 y) := by go_simp
      have HI2 := Lib.hid (HIX.out wr.heap.size (wr.alloc (.cells #[.int .i64 y] 3)) HBa.out hbx (by simp))
      have HBX := Lib.hid hbx
      clear hF1 hc2 HIX hbx HO HB
      by_cases hym : y ∈ kyW rs
      · obtain ⟨p, hp, hpn, hpr⟩ := hkr hym
        obtain ⟨b, off, rfl, hbB, c0, c1⟩ := H.out.at_ p hpn
        rw [hpr] at c0 c1
        rw [hp] at HI2
        have HS2 := Lib.hid (HYE.out hym)
        have HC0 := Lib.hid c0
        have HC1 := Lib.hid c1
        have hpn2 : p < n := by have := HN.out; omega
        generalize idOf rs y = z at *
        clear hno hkr hp hpr hpn hym HYE HNO c0 c1
        go_wp2_with fail
        refine HI2.out.mono ?_
        rintro e w4 ⟨rfl, hb4⟩
        have HO : Hid (OwnW w4 w.heap.size u8 F) := own_below HOa.out hb4
        have HB := Lib.hid (HBa.out.trans (hb4.mono HBa.out.size))
        clear hwr
        have hwr : w.heap.size ≤ w4.heap.size := HB.out.size
        have q0 : w4.cell? ⟨b, off + p * 2, none⟩ = some (.int .i64 y) := (HB.out.cell (p := ⟨b, off + p * 2, none⟩) hbB).trans HC0.out
        have q1 : w4.cell? ⟨b, off + p * 2 + 1, none⟩ = some (.int .i64 z) := (HB.out.cell (p := ⟨b, off + p * 2 + 1, none⟩) hbB).trans HC1.out
        clear hb4 HOa HBa
        go_wp2_with (at_builtin; refine wpList_append_own _ rfl _ _ 46 rfl w.heap.size 53 i1 _ 2 16 Try.underlying46 hi1 hy0 hy1 hy2 rfl (by decide) _ _ _ rfl (HO.out.alloc _) ⟨_, 0, none⟩ 1 1 (Rk.cells ⟨y, z⟩) rfl rfl (acells_new _ _ _ _ rfl) ?c2 ?c3 ?c4 ?c5 ?_)
        case c2 => intro u hu; simp [Rk.cells] at hu; rcases hu with rfl | rfl <;> rfl
        case c3 => have := HFL.out; unfold maxLen; omega
        case c4 => have := HFL.out; omega
        case c5 => first | omega | (simp; omega)
        intro v' w5 hown' hgrow _
        have hpos := (World.ownsRow.alloc HO.out (.cells #[.int .i64 (y), .int .i64 (z)] 53)).lt
        have HO' : Hid (OwnW w5 w.heap.size v' (F ++ [⟨y, z⟩])) := by
          unfold OwnW
          rw [List.length_append, List.flatMap_append]
          simpa [Hid] using hown'
        have HB' := Lib.hid ((HB.out.alloc hwr (.cells #[.int .i64 (y), .int .i64 (z)] 53)).grown hgrow (by first | (simp; omega) | omega) (fun q hq => (hpos q hq).1))
        clear hown' hgrow hpos
        go_wp2
        go_roundw
        case rel => exact ⟨k + 1, by omega, by go_num, by rw [HS2.out], by rw [HS2.out]; exact HO'.out, HB'.out⟩
        case measure => simp [intOf]; omega
      · have HS2 := Lib.hid (HNO.out hym)
        rw [decide_eq_false hym] at hno
        generalize plc (kyW rs) y = z at *
        clear hkr hym HYE HNO
        go_wp2_with fail
        refine HI2.out.mono ?_
        rintro e w4 ⟨rfl, hb4⟩
        have HO : Hid (OwnW w4 w.heap.size u8 F) := own_below HOa.out hb4
        have HB := Lib.hid (HBa.out.trans (hb4.mono HBa.out.size))
        have q0 : w4.cell? ⟨wr.heap.size, 0, none⟩ = some (.int .i64 y) := (hb4.cell (p := ⟨wr.heap.size, 0, none⟩) (by simp)).trans HBX.out
        clear hwr
        have hwr : w.heap.size ≤ w4.heap.size := HB.out.size
        clear hb4 HOa HBa
        go_wp2_with (at_builtin; refine wpList_append_own _ rfl _ _ 46 rfl w.heap.size 53 i1 _ 2 16 Try.underlying46 hi1 hy0 hy1 hy2 rfl (by decide) _ _ _ rfl (HO.out.alloc _) ⟨_, 0, none⟩ 1 1 (Rk.cells ⟨y, q⟩) rfl rfl (acells_new _ _ _ _ rfl) ?d2 ?d3 ?d4 ?d5 ?_)
        case d2 => intro u hu; simp [Rk.cells] at hu; rcases hu with rfl | rfl <;> rfl
        case d3 => have := HFL.out; unfold maxLen; omega
        case d4 => have := HFL.out; omega
        case d5 => first | omega | (simp; omega)
        intro v' w5 hown' hgrow _
        have hpos := (World.ownsRow.alloc HO.out (.cells #[.int .i64 (y), .int .i64 (q)] 53)).lt
        have HO' : Hid (OwnW w5 w.heap.size v' (F ++ [⟨y, q⟩])) := by
          unfold OwnW
          rw [List.length_append, List.flatMap_append]
          simpa [Hid] using hown'
        have HB' := Lib.hid ((HB.out.alloc hwr (.cells #[.int .i64 (y), .int .i64 (q)] 53)).grown hgrow (by first | (simp; omega) | omega) (fun q hq => (hpos q hq).1))
        clear hown' hgrow hpos
        go_wp2
        go_roundw
        case rel => exact ⟨k + 1, by omega, by go_num, by rw [HS2.out], by rw [HS2.out]; exact HO'.out, HB'.out⟩
        case measure => simp [intOf]; omega
    · obtain rfl : k = m := by omega
      obtain ⟨hF1, hF2, hF3⟩ := hmb
      generalize hS : mtc rs ys nx k = S at *
      obtain ⟨F, q⟩ := S
      simp only at hF1 hF2 hF3 HO ⊢
      have HS := Lib.hid hS
      clear hS hF1
      by_cases h100 : q ≤ 100
      · have hgt : decide (100 < q) = false := decide_eq_false (by omega)
        have hle : decide (q ≤ 100) = true := decide_eq_true h100
        have HLE := Lib.hid hle
        clear h100 hle
        go_wp2
        go_ret2
        rw [HMF.out, HMN.out, HMB2.out, HLE.out]
        exact ⟨_, rfl, HO.out, HB.out⟩
      · have hgt : 100 < q := by omega
        have hle : decide (q ≤ 100) = false := decide_eq_false h100
        have HLE := Lib.hid hle
        clear h100 hle
        go_wp2
        go_ret2
        rw [HMF.out, HMN.out, HMB2.out, HLE.out]
        exact ⟨_, rfl, World.ownsRow_nil _ _ _ _, HB.out⟩
end Go.Proofs.Ytlbomopjldhmeaa
