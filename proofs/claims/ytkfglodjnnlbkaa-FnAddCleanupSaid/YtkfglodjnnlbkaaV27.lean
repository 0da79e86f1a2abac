/- impl's tree of owners: the owners as they are in the tree. -/
import Derived.Test.YtkfglodjnnlbkaaV24
import Derived.Test.YtkfglodjnnlbkaaT5a

namespace Go.Proofs.Ytkfglodjnnlbkaa
set_option linter.unusedSimpArgs false
set_option linter.unusedVariables false
open Go.RowKit Go.Maps

theorem rowO_setCl (ds : List On) (k i : Nat) (hk : k < ds.length) (p : Int) (o : Bool) (l : List Int) : rowO (ds.set k ⟨p, o, l, (ds.getD k default).cx⟩) i = if i = k * 2 then l else rowO ds i := by
  unfold rowO
  rw [getD_set ds k _ _ hk]
  by_cases e2 : i % 2 = 0
  · rw [if_pos e2, if_pos e2]
    by_cases e1 : i / 2 = k
    · rw [if_pos e1, if_pos (by omega)]
    · rw [if_neg e1, if_neg (by omega)]
  · rw [if_neg e2, if_neg e2, if_neg (show ¬ i = k * 2 by omega)]
    by_cases e1 : i / 2 = k
    · rw [if_pos e1, e1]
    · rw [if_neg e1]
/-- An owner's labels were replaced by a row of numbers that lies in new blocks. -/
theorem OwO.setCl {lo hi top n cap g m c : Nat} {ds : List On} {w : World} {A : Option Addr} {l : List Int} (h : OwO lo hi (.slice (some ⟨g, 0, none⟩) n cap) n ds w) (k : Nat) (hk : k < n) (hx : OwR hi top 3 1 (.slice A m c) m (l.map (Value.int .i64)) w) (hm : m = l.length) (hlo : lo ≤ hi) (htop : hi ≤ top) :
    OwO lo top (.slice (some ⟨g, 0, none⟩) n cap) n (ds.set k ⟨(ds.getD k default).p, (ds.getD k default).o, l, (ds.getD k default).cx⟩) (w.setCell ⟨g, k * 4 + 2, none⟩ (.slice A m c)) := by
  obtain ⟨hn, xs, us, hr, hu, hf, hs⟩ := h
  have hkl : k < ds.length := by omega
  have hro := fun i => rowO_setCl ds k i hkl (ds.getD k default).p (ds.getD k default).o l
  have hss : SSk lo top (us.set (k * 2) (.slice A m c)) (lenOf (rowsO (ds.set k ⟨(ds.getD k default).p, (ds.getD k default).o, l, (ds.getD k default).cx⟩))) (rowOf (rowsO (ds.set k ⟨(ds.getD k default).p, (ds.getD k default).o, l, (ds.getD k default).cx⟩))) w := by
    refine hs.put (k * 2) (by rw [List.getElem?_set, if_pos rfl, if_pos (by omega)]) (fun j hj => by rw [List.getElem?_set, if_neg (by omega)]) (fun j hj _ => by simpa using hj) ?_ (fun j hj => ?_) ?_ hlo htop
    · rw [lenOfO, hro, if_pos rfl]; exact hm
    · rw [lenOfO, rowOfO, hro, if_neg hj, lenOfO, rowOfO]; exact ⟨rfl, rfl⟩
    · rw [rowOfO, hro, if_pos rfl]; exact hx
  have hxl : xs.length = n * 4 := hr.1.1
  have hst := hr.1.stored (k * 4 + 2) (.slice A m c)
  refine ⟨by rw [List.length_set]; exact hn, _, us.set (k * 2) (.slice A m c), ⟨hst.1, fun q hq => Nat.lt_of_lt_of_le (hr.2 q hq) htop⟩, by simpa using hu, fun j hj => ?_, hss.grown hst.2 (hss.ne hr.1 owner_ne_int.symm)⟩
  rw [List.length_set] at hj
  obtain ⟨f0, f1, f2, f3⟩ := hf j hj
  rw [getD_set ds k j _ hkl]
  by_cases e : j = k
  · subst e
    rw [if_pos rfl]
    refine ⟨?_, ?_, ?_, ?_⟩
    · rw [List.getElem?_set, if_neg (by omega)]; exact f0
    · rw [List.getElem?_set, if_neg (by omega)]; exact f1
    · rw [List.getElem?_set, if_pos rfl, if_pos (by omega), List.getElem?_set, if_pos rfl, if_pos (by omega)]
    · rw [List.getElem?_set, if_neg (by omega), List.getElem?_set, if_neg (by omega)]; exact f3
  · rw [if_neg e]
    refine ⟨?_, ?_, ?_, ?_⟩
    · rw [List.getElem?_set, if_neg (by omega)]; exact f0
    · rw [List.getElem?_set, if_neg (by omega)]; exact f1
    · rw [List.getElem?_set, if_neg (by omega), List.getElem?_set, if_neg (by omega)]; exact f2
    · rw [List.getElem?_set, if_neg (by omega), List.getElem?_set, if_neg (by omega)]; exact f3

/-- The owners when the first k are as in es. -/
def apO (ds es : List On) (k : Nat) : List On := es.take k ++ ds.drop k
theorem apO_zero (ds es : List On) : apO ds es 0 = ds := by simp [apO]
theorem apO_all (ds es : List On) (hl : es.length = ds.length) : apO ds es ds.length = es := by unfold apO; rw [← hl, List.take_length]; rw [hl]; simp
theorem apO_len (ds es : List On) (hl : es.length = ds.length) (k : Nat) (hk : k ≤ ds.length) : (apO ds es k).length = ds.length := by unfold apO; simp; omega
theorem apO_get (ds es : List On) (hl : es.length = ds.length) (k : Nat) (hk : k < ds.length) : (apO ds es k).getD k default = ds.getD k default := by
  unfold apO
  simp only [List.getD]
  rw [List.getElem?_append_right (by rw [List.length_take]; omega), List.length_take, show k - min k es.length = 0 by omega, List.getElem?_drop, Nat.add_zero]
theorem apO_succ (ds es : List On) (hl : es.length = ds.length) (k : Nat) (hk : k < ds.length) : (apO ds es k).set k (es.getD k default) = apO ds es (k + 1) := by
  unfold apO
  have h1 : (es.take k).length = k := by rw [List.length_take]; omega
  rw [List.set_append_right _ _ (by omega), h1, Nat.sub_self, List.drop_eq_getElem_cons hk, List.set_cons_zero, List.take_succ_eq_append_getElem (by omega), List.append_assoc]
  simp [List.getD, show k < es.length by omega]
end Go.Proofs.Ytkfglodjnnlbkaa
