/- Words and contracts for memory that the texts behind use. -/
import Derived.Test.YtjlfabfejnpaaaaS0
import Derived.Test.YtjlfabfejnpaaaaS1
import Derived.Test.YtjlfabfejnpaaaaS2
import Derived.Test.YtjlfabfejnpaaaaS3
import Derived.Test.YtjlfabfejnpaaaaS4
import Derived.Test.YtjlfabfejnpaaaaS5
import Derived.Test.YtjlfabfejnpaaaaS6
import Derived.Test.YtjlfabfejnpaaaaS7
import Derived.Test.YtjlfabfejnpaaaaS8
import Derived.Test.YtjlfabfejnpaaaaS9
import Derived.Test.YtjlfabfejnpaaaaS10
import Derived.Test.YtjlfabfejnpaaaaS11
import Derived.Test.YtjlfabfejnpaaaaS12
import Derived.Test.YtjlfabfejnpaaaaS13
import Derived.Test.YtjlfabfejnpaaaaS14
import Derived.Test.YtjlfabfejnpaaaaS15
import Derived.Test.YtjlfabfejnpaaaaS16
import Derived.Test.YtjlfabfejnpaaaaS17
import Derived.Test.YtjlfabfejnpaaaaS18
import Derived.Test.YtjlfabfejnpaaaaS19
import Derived.Test.YtjlfabfejnpaaaaS20
import Derived.Test.YtjlfabfejnpaaaaS21
import Derived.Test.YtjlfabfejnpaaaaS22
import Derived.Test.YtjlfabfejnpaaaaS23
import Derived.Test.YtjlfabfejnpaaaaS24
import Derived.WalkKit
import Derived.Laws.OwnMore
import Derived.Deep.Draws
import Derived.Test.YtjlfabfejnpaaaaProg
import Derived.WalkSpells
import Derived.WalkLawsBesides
import Derived.Outline
import Derived.Lib.Hide
import Derived.BigQuiet
import Derived.Deep.QuietTactic
import Derived.StillTailTactics
import Derived.Deep.LoopGhost
import Derived.Laws.MakeOwn
import Derived.WalkSmall
import Derived.RegionTactic
import Derived.BigRegion
import Derived.Deep.RegionWith
import Derived.Deep.RegionHeld3
import Derived.Maps.AppendAt

namespace Go.Proofs.Ytjlfabfejnpaaaa
set_option linter.unusedSimpArgs false
set_option linter.unusedVariables false
open Go.RowKit
theorem take_succ_int (M : List Int) (m : Nat) (x : Int) (h : m < M.length) (hx : M.getD m 0 = x) : M.take (m + 1) = M.take m ++ [x] := by
  rw [List.take_succ_eq_append_getElem h, ← hx]; simp [List.getD, h]
end Go.Proofs.Ytjlfabfejnpaaaa

namespace Go.Proofs.Ytjlfabfejnpaaaa
set_option linter.unusedSimpArgs false
set_option linter.unusedVariables false
open Go.RowKit
theorem plc_lt (l : List Int) (x : Int) : decide (plc l x < 0) = !decide (x ∈ l) := by
  unfold plc
  by_cases h : x ∈ l
  · simp [h]
  · simp [h]
theorem firsts_step (l : List Int) (k : Nat) (x : Int) (h : k < l.length) (hx : l.getD k 0 = x) : firsts (l.take (k + 1)) = if x ∈ firsts (l.take k) then firsts (l.take k) else firsts (l.take k) ++ [x] := by
  rw [take_succ_int l k x h hx]
  unfold firsts
  rw [List.foldl_append]
  rfl
theorem firsts_len (l : List Int) : (firsts l).length ≤ l.length := by
  have : ∀ (l acc : List Int), (l.foldl (fun acc x => if x ∈ acc then acc else acc ++ [x]) acc).length ≤ acc.length + l.length := by
    intro l
    induction l with
    | nil => intro acc; simp
    | cons y l ih =>
      intro acc
      rw [List.foldl_cons]
      split
      · have := ih acc; simp only [List.length_cons]; omega
      · have := ih (acc ++ [y]); simp only [List.length_cons, List.length_append, List.length_nil] at this ⊢; omega
  have h := this l []
  unfold firsts
  simpa using h
/-- A slice of the call's own that is not nil. -/
def OwnN (w : World) (base : Nat) (v : Value) (xs : List Int) : Prop := w.ownsRow base 3 1 v xs.length (xs.map (Value.int .i64)) ∧ v ≠ .slice none 0 0
theorem OwnN.form {w : World} {base : Nat} {v : Value} {xs : List Int} (h : OwnN w base v xs) : ∃ g c, v = .slice (some ⟨g, 0, none⟩) xs.length c ∧ base ≤ g ∧ g < w.heap.size := by
  rcases h.1.2 with ⟨hv, _⟩ | ⟨g, cap, cur, hv, hb, hh, _⟩
  · exact absurd hv h.2
  · refine ⟨g, cap, hv, hb, ?_⟩
    rcases Nat.lt_or_ge g w.heap.size with hlt | hge
    · exact hlt
    · rw [Array.getElem?_eq_none hge] at hh; cases hh
/-- Returns a fresh slice of numbers that is not nil. -/
def RetN (w : World) (xs : List Int) (e : Ending) (w' : World) : Prop := ∃ v, e = .returned v ∧ OwnN w' w.heap.size v xs ∧ Below w.heap.size w w'
set_option maxRecDepth 100000 in
set_option maxHeartbeats 1600000 in
theorem spec_firstOnly (A : Option Addr) (n c : Nat) (xs : List Int) (w : World) (B : Nat) (hB : B ≤ w.heap.size) (hn : n = xs.length) (h : IS w B A xs) (hs : n ≤ 2000000) :
    Calls Try.prog 82 #[.slice A n c] w fun e w' => RetN w (firsts xs) e w' := by
  obtain ⟨i0, hi, hz0, hz1, hz2⟩ := info_parts info_int
  have H := Lib.hid h
  have HN := Lib.hid hn
  clear hn h
  go_enter Try.func82, Try.ntmps82
  go_wp2
  go_loopw [3, 4] (fun v i wr => ∃ k : Nat, k ≤ n ∧ i = .int .i64 k ∧ Hid (OwnN wr w.heap.size v (firsts (xs.take k))) ∧ Below w.heap.size w wr) (fun _ i _ => n - (intOf i).toNat)
  case atStart =>
    refine ⟨0, Nat.zero_le _, rfl, ⟨?_, by simp⟩, (Below.refl _ _).alloc (Nat.le_refl _) _⟩
    exact World.ownsRow_lit (e := 3) (size := 1) w #[] 0 (Nat.le_refl _) (by unfold maxLen; omega) rfl
  case round =>
    obtain ⟨k, hk, rfl, HO, hb⟩ := hrel
    by_cases hlt : k < n
    · obtain ⟨b, off, rfl, hbB, hc⟩ := H.out (by have := HN.out; omega)
      have c0 := hc k (by have := HN.out; omega)
      clear hc
      have b0 := (hb.cell (p := ⟨b, off + k, none⟩) (by simp; omega)).trans c0
      clear c0
      generalize hp : xs.getD k 0 = p at *
      have HST := Lib.hid (firsts_step xs k p (by have := HN.out; omega) hp)
      have hfl := firsts_len (xs.take k)
      have hfk : (xs.take k).length ≤ k := List.length_take_le _ _
      generalize hF : firsts (xs.take k) = F at *
      clear hp hF
      obtain ⟨g, cc, rfl, hbg, hgs⟩ := HO.out.form
      have HI := Lib.hid (IS.of_own HO.out.1)
      have hwr : w.heap.size ≤ wr.heap.size := hb.size
      generalize hFL : F.length = fl at *
      have HFL := Lib.hid hFL
      clear hFL
      cases hin : decide (p ∈ F)
      · have hd : decide (plc F p < 0) = true := by rw [plc_lt, hin]; rfl
        have HIN := Lib.hid hin
        clear hin
        go_wp2_with (first | (go_at_call 67; refine (spec_placeIn _ _ _ F _ _ wr.heap.size (Nat.le_refl _) HFL.out.symm HI.out (by omega)).mono ?_; rintro e w' ⟨rfl, rfl⟩) | (at_builtin; refine wpList_append_own _ rfl _ _ 22 rfl w.heap.size 3 i0 (.int .i64 0) 1 8 Try.underlying22 hi hz0 hz1 hz2 rfl (by decide) _ _ _ rfl (HO.out.1.alloc _) ⟨wr.heap.size, 0, none⟩ 1 1 [.int .i64 p] rfl rfl (cell_one_new _ _ _) ?c2 ?c3 ?c4 ?c5 ?_))
        case c2 => intro u hu; simp at hu; subst hu; rfl
        case c3 => have := HFL.out; unfold maxLen; omega
        case c4 => have := HFL.out; omega
        case c5 => simp; omega
        intro v' w1 hown' hgrow hnil
        have HO' : Hid (OwnN w1 w.heap.size v' (firsts (xs.take (k + 1)))) := by
          have hst := HST.out
          have hnin : ¬ p ∈ F := of_decide_eq_false HIN.out
          rw [if_neg hnin] at hst
          rw [hst]
          refine ⟨?_, by first | exact hnil | (intro e; simp [e] at hnil)⟩
          simpa using hown'
        have hb' : Below w.heap.size w w1 := (hb.alloc hwr _).grown hgrow (by simp; omega) (by intro q hq; simp [Value.ownBlock] at hq; omega)
        clear hown' hgrow hnil
        go_wp2
        go_roundw
        case rel => exact ⟨k + 1, by omega, by go_num, HO'.out, hb'⟩
        case measure => simp [intOf]; omega
      · have hd : decide (plc F p < 0) = false := by rw [plc_lt, hin]; rfl
        have HIN := Lib.hid hin
        clear hin
        go_wp2_with (go_at_call 67; refine (spec_placeIn _ _ _ F _ _ wr.heap.size (Nat.le_refl _) HFL.out.symm HI.out (by omega)).mono ?_; rintro e w' ⟨rfl, rfl⟩)
        go_roundw
        case rel =>
          have hst := HST.out
          rw [if_pos (of_decide_eq_true HIN.out)] at hst
          exact ⟨k + 1, by omega, by go_num, by rw [hst]; exact HO.out, hb⟩
        case measure => simp [intOf]; omega
    · go_wp2
      go_ret
      have hkn : k = n := by omega
      refine ⟨_, rfl, ?_, hb⟩
      rw [hkn, List.take_of_length_le (by have := HN.out; omega)] at HO
      simpa using HO.out
end Go.Proofs.Ytjlfabfejnpaaaa
