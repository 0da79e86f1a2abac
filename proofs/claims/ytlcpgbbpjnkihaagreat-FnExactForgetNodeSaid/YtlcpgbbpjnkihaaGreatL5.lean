/- Words and contracts for memory that the texts behind use. -/
import Derived.Test.YtlcpgbbpjnkihaaGreatL0
import Derived.Test.YtlcpgbbpjnkihaaGreatL1
import Derived.Test.YtlcpgbbpjnkihaaGreatL2
import Derived.Test.YtlcpgbbpjnkihaaGreatL3
import Derived.Test.YtlcpgbbpjnkihaaGreatL4
import Derived.WalkKit
import Derived.Laws.OwnMore
import Derived.Deep.Draws
import Derived.Test.YtlcpgbbpjnkihaaGreatProg
import Derived.WalkSpells
import Derived.WalkLawsBesides
import Derived.Outline
import Derived.Lib.Hide
import Derived.BigQuiet
import Derived.Deep.QuietTactic
import Derived.StillTailTactics
import Derived.Deep.LoopGhost
import Derived.Laws.MakeOwn
import Derived.WalkSmall
import Derived.RegionTactic
import Derived.BigRegion
import Derived.Deep.RegionWith
import Derived.Deep.RegionHeld3
import Derived.Maps.AppendAt
import Derived.Laws.CopyOwn
import Derived.Deep.Cut
import Derived.Deep.AppendLies
import Derived.Laws.Entries
import Derived.Laws.Bits64
import Derived.IntWalk
import Derived.Deep.RegionLaw
import Derived.Deep.DeepCutAuto
import Derived.Maps.Own
import Derived.Maps.Views
import Derived.ChangeAlike

namespace Go.Proofs.YtlcpgbbpjnkihaaGreat
set_option linter.unusedSimpArgs false
set_option linter.unusedVariables false
open Go.RowKit
section
variable {B gr cr n : Nat} {Er : Option Addr} {U : List Value} {vs ch rn : List Int} {rs : List (List Int)} {w w' : World}
/-- A node reads another list, that lies in new blocks. -/
theorem WF.putR {i m c : Nat} {A : Option Addr} {D : List Int} (h : WF B (some ⟨gr, 0, none⟩) cr n U vs ch rn rs w) (hi : i < n) (hB : B ≤ w.heap.size) (hb : Below w.heap.size w w') (hd : w'.ownsRow w.heap.size 3 1 (.slice A m c) m (D.map (Value.int .i64))) (hm : m = D.length) :
    WF B (some ⟨gr, 0, none⟩) cr n (U.set (i + 3) (.slice A m c)) vs ch rn (rs.set i D) (w'.setCell ⟨gr, i, none⟩ (.slice A m c)) := by
  have ht := own_below h.top hb
  have hst := ht.stored i (.slice A m c)
  have hul := h.ul
  have hrl := h.rl
  have hsz : (w'.setCell ⟨gr, i, none⟩ (.slice A m c)).heap.size = w'.heap.size := by simp [World.setCell]
  have hf := h.fam.keep (w' := w') fun q _ hq => hb.block q hq
  have hf2 := hf.grown hst.2 (hf.ne ht ints_ne_int)
  have hd2 := World.ownsRow.kept hd hst.2 (blocks_ne hd ht ints_ne_int)
  have hrow : rowOf (vs :: ch :: rn :: rs.set i D) (i + 3) = D.map (Value.int .i64) := by
    simp only [rowOf, List.getD_cons_succ]
    rw [show (rs.set i D).getD i [] = D by simp [List.getD, show i < rs.length by omega]]
  have hlen : lenOf (vs :: ch :: rn :: rs.set i D) (i + 3) = D.length := by
    simp only [lenOf, List.getD_cons_succ]
    rw [show (rs.set i D).getD i [] = D by simp [List.getD, show i < rs.length by omega]]
  rw [← hrow] at hd2
  refine ⟨by rw [List.length_set]; exact hul, by rw [List.length_set]; exact hrl, ?_, ?_⟩
  · rw [hsz]
    refine hf2.put (hi' := w'.heap.size) (i + 3) ?_ (fun j hj => ?_) (fun j hj _ => ?_) (by rw [hlen]; exact hm) (fun j hj => ?_) ⟨hd2, fun q hq => by have := (hd2.lt q hq).2; rw [hsz] at this; exact this⟩ hB hb.size
    · rw [List.getElem?_set, if_pos rfl, if_pos (by omega)]
    · rw [List.getElem?_set, if_neg (by omega)]
    · simpa using hj
    · match j, hj with
      | 0, _ => simp [lenOf, rowOf]
      | 1, _ => simp [lenOf, rowOf]
      | 2, _ => simp [lenOf, rowOf]
      | j + 3, hj =>
        have hne : ¬ i = j := by omega
        simp [lenOf, rowOf, List.getD, List.getElem?_set, hne]
  · have e : (U.set (i + 3) (.slice A m c)).drop 3 = (U.drop 3).set i (.slice A m c) := by
      refine List.ext_getElem? fun j => ?_
      rw [List.getElem?_drop, List.getElem?_set, List.getElem?_set, List.getElem?_drop, List.length_drop]
      by_cases hij : i = j
      · subst hij
        rw [if_pos (by omega), if_pos rfl, if_pos (by omega), if_pos (by omega)]
      · rw [if_neg (by omega), if_neg hij]
    rw [e]
    exact hst.1
end
end Go.Proofs.YtlcpgbbpjnkihaaGreat
