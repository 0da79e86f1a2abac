/- The drawing of owners that may be invalid: someOwners, ownerOf. (Made by d21.py.) -/
import Derived.Test.YtjhpknnhgbdkiaaD20
import Derived.Test.YtjhpknnhgbdkiaaP6a

namespace Go.Proofs.Ytjhpknnhgbdkiaa
set_option linter.unusedSimpArgs false
set_option linter.unusedVariables false
open Go.RowKit

/-- A slice reads as owners, and goes on so while nothing from block lo on turns. -/
def KpO (lo : Nat) (A : Option Addr) (ds : List On) (w : World) : Prop := ∀ w' : World, w.heap.size ≤ w'.heap.size → (∀ k, lo ≤ k → k < w.heap.size → w'.heap[k]? = w.heap[k]?) → OS w' w'.heap.size A ds
theorem KpO.of {lo hi n c : Nat} {A : Option Addr} {ds : List On} {w : World} (h : OwO lo hi (.slice A n c) n ds w) (hle : hi ≤ w.heap.size) : KpO lo A ds w :=
  fun w' hs hk => (h.keep (w' := w') fun k h1 h2 => hk k h1 (by omega)).owners.more (by omega)
theorem KpO.os {lo : Nat} {A : Option Addr} {ds : List On} {w : World} (h : KpO lo A ds w) : OS w w.heap.size A ds := h w (Nat.le_refl _) (fun _ _ _ => rfl)
theorem KpO.pick {lo g : Nat} {A : Option Addr} {ds : List On} {w w' : World} (h : KpO lo A ds w) (ht : Tch g (g + 1) w w') (hg : g < lo) : KpO lo A ds w' :=
  fun w'' hs hk => h w'' (Nat.le_trans ht.size hs) fun k h1 h2 => (hk k h1 (Nat.lt_of_lt_of_le h2 ht.size)).trans (ht.block k h2 (.inr (by omega)))
theorem KpO.below {lo : Nat} {A : Option Addr} {ds : List On} {w w' : World} (h : KpO lo A ds w) (hb : Below w.heap.size w w') : KpO lo A ds w' :=
  fun w'' hs hk => h w'' (Nat.le_trans hb.size hs) fun k h1 h2 => (hk k h1 (Nat.lt_of_lt_of_le h2 hb.size)).trans (hb.block k h2)

theorem rowsO_same (ds : List On) (k : Nat) (d : On) (hk : k < ds.length) (h1 : d.cl = (ds.getD k default).cl) (h2 : d.cx = (ds.getD k default).cx) : rowsO (ds.set k d) = rowsO ds := by
  apply List.ext_getElem?
  intro i
  have hl : (rowsO (ds.set k d)).length = (rowsO ds).length := by rw [rowsO_len, rowsO_len, List.length_set]
  by_cases hi : i < (rowsO ds).length
  · have e : ∀ (l : List (List Int)) (i : Nat), i < l.length → l[i]? = some (l.getD i []) := fun l i h => by simp [List.getD, h]
    rw [e _ i (by omega), e _ i hi, rowsO_getD, rowsO_getD]
    unfold rowO
    rw [getD_set ds k _ d hk]
    by_cases hx : i / 2 = k
    · rw [if_pos hx, hx, h1, h2]
    · rw [if_neg hx]
  · rw [List.getElem?_eq_none (by omega), List.getElem?_eq_none (by omega)]
/-- The parent of an owner, or whether it is open, was written. -/
theorem OwO.setHead {lo hi n cap g k e : Nat} {ds : List On} {w : World} {d : On} {x : Value} (h : OwO lo hi (.slice (some ⟨g, 0, none⟩) n cap) n ds w) (hk : k < n) (he : e < 2) (h1 : d.cl = (ds.getD k default).cl) (h2 : d.cx = (ds.getD k default).cx)
    (hx : (e = 0 ∧ x = .int .i64 d.p ∧ d.o = (ds.getD k default).o) ∨ (e = 1 ∧ x = .bool d.o ∧ d.p = (ds.getD k default).p)) :
    OwO lo hi (.slice (some ⟨g, 0, none⟩) n cap) n (ds.set k d) (w.setCell ⟨g, k * 4 + e, none⟩ x) := by
  obtain ⟨hn, xs, us, hr, hu, hf, hs⟩ := h
  have hxl : xs.length = n * 4 := hr.1.1
  have hst := hr.1.stored (k * 4 + e) x
  have hkl : k < ds.length := by omega
  refine ⟨by rw [List.length_set]; exact hn, _, us, ⟨hst.1, hr.2⟩, hu, fun j hj => ?_, by rw [rowsO_same ds k d hkl h1 h2]; exact hs.grown hst.2 (hs.ne hr.1 owner_ne_int.symm)⟩
  rw [List.length_set] at hj
  obtain ⟨f0, f1, f2, f3⟩ := hf j hj
  rw [getD_set ds k j d hkl]
  refine ⟨?_, ?_, ?_, ?_⟩
  · rw [List.getElem?_set]
    by_cases ej : j = k
    · subst ej
      rw [if_pos rfl]
      rcases hx with ⟨rfl, rfl, hd⟩ | ⟨rfl, rfl, hd⟩
      · rw [if_pos (show j * 4 + 0 = j * 4 by omega), if_pos (by omega)]
      · rw [if_neg (by omega), hd]; exact f0
    · rw [if_neg (by omega), if_neg ej]; exact f0
  · rw [List.getElem?_set]
    by_cases ej : j = k
    · subst ej
      rw [if_pos rfl]
      rcases hx with ⟨rfl, rfl, hd⟩ | ⟨rfl, rfl, hd⟩
      · rw [if_neg (by omega), hd]; exact f1
      · rw [if_pos rfl, if_pos (by omega)]
    · rw [if_neg (by omega), if_neg ej]; exact f1
  · rw [List.getElem?_set, if_neg (by omega)]; exact f2
  · rw [List.getElem?_set, if_neg (by omega)]; exact f3
/-- An owner's context begins behind its first value now. -/
theorem KpO.cut {lo hi n cap g gx m c k : Nat} {ds : List On} {w : World} {xs us : List Value} (hn : n = ds.length) (hr : OwR lo hi 32 4 (.slice (some ⟨g, 0, none⟩) n cap) n xs w) (hu : us.length = n * 2) (hf : OwF xs us ds) (hs : SSk lo hi us (lenOf (rowsO ds)) (rowOf (rowsO ds)) w) (hle : hi ≤ w.heap.size)
    (hk : k < n) (hX : us[k * 2 + 1]? = some (.slice (some ⟨gx, 0, none⟩) m c)) :
    KpO lo (some ⟨g, 0, none⟩) (ds.set k ⟨(ds.getD k default).p, (ds.getD k default).o, (ds.getD k default).cl, (ds.getD k default).cx.drop 1⟩) (w.setCell ⟨g, k * 4 + 3, none⟩ (.slice (some ⟨gx, 1, none⟩) (m - 1) (c - 1))) := by
  intro w' hsz hkeep
  have hxl : xs.length = n * 4 := hr.1.1
  have hst := hr.1.stored (k * 4 + 3) (.slice (some ⟨gx, 1, none⟩) (m - 1) (c - 1))
  have hkl : k < ds.length := by omega
  have hsz0 : (w.setCell ⟨g, k * 4 + 3, none⟩ (.slice (some ⟨gx, 1, none⟩) (m - 1) (c - 1))).heap.size = w.heap.size := by simp [World.setCell]
  rw [hsz0] at hsz hkeep
  have hr1 : OwR lo hi 32 4 (.slice (some ⟨g, 0, none⟩) n cap) n (xs.set (k * 4 + 3) (.slice (some ⟨gx, 1, none⟩) (m - 1) (c - 1))) w' := OwR.keep (w := w.setCell ⟨g, k * 4 + 3, none⟩ (.slice (some ⟨gx, 1, none⟩) (m - 1) (c - 1))) ⟨hst.1, hr.2⟩ fun q h1 h2 => hkeep q h1 (by omega)
  have hs1 := (hs.grown hst.2 (hs.ne hr.1 owner_ne_int.symm)).keep (w' := w') fun q h1 h2 => hkeep q h1 (by omega)
  intro hl
  rw [List.length_set] at hl
  have hg := hr.2 g rfl
  refine ⟨g, 0, rfl, by omega, fun j hj => ?_⟩
  rw [List.length_set] at hj
  obtain ⟨f0, f1, f2, f3⟩ := hf j hj
  obtain ⟨A1, m1, c1, a1, a2, a3⟩ := hs1.row (j * 2) (by omega)
  obtain ⟨A2, m2, c2, b1, b2, b3⟩ := hs1.row (j * 2 + 1) (by omega)
  rw [lenOfO, rowO_cl] at a2
  rw [lenOfO, rowO_cx] at b2
  rw [rowOfO, rowO_cl] at a3
  rw [rowOfO, rowO_cx] at b3
  rw [getD_set ds k j _ hkl]
  have c0 : w'.cell? ⟨g, j * 4, none⟩ = some (.int .i64 (ds.getD j default).p) := by rw [hr1.1.cellAt _ (by omega), List.getElem?_set, if_neg (by omega)]; exact f0
  have d1 : w'.cell? ⟨g, j * 4 + 1, none⟩ = some (.bool (ds.getD j default).o) := by rw [hr1.1.cellAt _ (by omega), List.getElem?_set, if_neg (by omega)]; exact f1
  have d2 : w'.cell? ⟨g, j * 4 + 2, none⟩ = some (.slice A1 m1 c1) := by rw [hr1.1.cellAt _ (by omega), List.getElem?_set, if_neg (by omega)]; exact f2.trans a1
  have hcl : ∃ A n c, w'.cell? ⟨g, 0 + j * 4 + 2, none⟩ = some (.slice A n c) ∧ n = (ds.getD j default).cl.length ∧ IS w' w'.heap.size A (ds.getD j default).cl := ⟨A1, m1, c1, by rw [Nat.zero_add]; exact d2, a2, a3.ints.more (by omega)⟩
  by_cases ej : j = k
  · subst ej
    rw [if_pos rfl]
    rw [hX] at b1
    cases b1
    refine ⟨by rw [Nat.zero_add]; exact c0, by rw [Nat.zero_add]; exact d1, hcl, some ⟨gx, 1, none⟩, m - 1, c - 1, ?_, by rw [List.length_drop, ← b2], fun h0 => ?_⟩
    · rw [Nat.zero_add, hr1.1.cellAt _ (by omega), List.getElem?_set, if_pos rfl, if_pos (by omega)]
    · rw [List.length_drop] at h0
      obtain ⟨b', off', e, hb', hc'⟩ := b3.ints (by omega)
      cases e
      refine ⟨gx, 1, rfl, by omega, fun i hi => ?_⟩
      rw [List.length_drop] at hi
      have := hc' (i + 1) (by omega)
      rw [show 0 + (i + 1) = 1 + i by omega] at this
      rw [this]
      simp [List.getD, List.getElem?_drop, Nat.add_comm]
  · rw [if_neg ej]
    refine ⟨by rw [Nat.zero_add]; exact c0, by rw [Nat.zero_add]; exact d1, hcl, A2, m2, c2, ?_, b2, b3.ints.more (by omega)⟩
    rw [Nat.zero_add, hr1.1.cellAt _ (by omega), List.getElem?_set, if_neg (by omega)]; exact f3.trans b1

/-- Returns owners that may be invalid; the reader goes on. -/
def SoP (g : Nat) (A : Option Addr) (n c : Nat) (bs : List Int) (Q : Nat) (w : World) (e : Ending) (w' : World) : Prop :=
  ∃ (B : Option Addr) (l m : Nat) (ds : List On), e = .returned (.slice B l m) ∧ l = ds.length ∧ 1 ≤ l ∧ l ≤ 12 ∧ l ≤ m ∧ (∀ j, (ds.getD j default).cl.length ≤ 6 ∧ (ds.getD j default).cx.length ≤ 3) ∧ KpO w.heap.size B ds w' ∧ Rdr g A n c bs Q w' ∧ Frd g w.heap.size w w'
theorem below_drew (w : World) : Below w.heap.size w w.drew := ⟨rfl, rfl, rfl, Nat.le_refl _, fun _ _ => rfl⟩
theorem set_lens {ds : List On} {k : Nat} {d : On} (hk : k < ds.length) (h : ∀ j, (ds.getD j default).cl.length ≤ 5 ∧ (ds.getD j default).cx.length ≤ 3) (h1 : d.cl.length ≤ 6) (h2 : d.cx.length ≤ 3) : ∀ j, ((ds.set k d).getD j default).cl.length ≤ 6 ∧ ((ds.set k d).getD j default).cx.length ≤ 3 := fun j => by
  rw [getD_set ds k j d hk]
  by_cases e : j = k
  · rw [if_pos e]; exact ⟨h1, h2⟩
  · rw [if_neg e]; have := h j; omega
section
variable {g n c l m P Q : Nat} {A B : Option Addr} {bs : List Int} {ds es : List On} {w0 w : World}
theorem OG.lens {v : Value} (h : OG g A n c bs w0 v l ds P w) : ∀ j, (ds.getD j default).cl.length ≤ 5 ∧ (ds.getD j default).cx.length ≤ 3 := fun j => by have := okO_len h.va j; omega
theorem OG.fin (h : OG g A n c bs w0 (.slice B l m) l ds P w) (hP : P ≤ Q) : SoP g A n c bs Q w0 (.returned (.slice B l m)) w :=
  ⟨B, l, m, ds, rfl, h.len, h.len1.1, h.len1.2, own_ncapP h.row, fun j => by have := h.lens j; omega, KpO.of h.row (Nat.le_refl _), h.rd.mono hP, h.fr⟩
end

set_option maxRecDepth 100000 in
set_option maxHeartbeats 12800000 in
theorem someOwners_any (g : Nat) (A : Option Addr) (n c : Nat) (bs : List Int) (P : Nat) (w : World) (h : Rdr g A n c bs P w) (hn : n = bs.length) (hby : BY bs) (hs : n ≤ 2000) (hP : P ≤ 400000) :
    Calls Try.prog 46 #[.pointer (some ⟨g, 0, none⟩)] w fun e w' => SoP g A n c bs (P + 64) w e w' := by
  obtain ⟨i0, hi, hz0, hz1, hz2⟩ := info_parts info_int
  have hgw := h.lt
  have HN := Lib.hid hn
  have HC := Lib.hid (goodOwners_any g A n c bs P w h hn hby hs hP)
  clear h hn
  go_enter Try.func46, Try.ntmps46
  go_wp2_with fail
  refine HC.out.mono ?_
  rintro e w1 ⟨B, l, cap, ds, rfl, hg1⟩
  obtain ⟨hl1, hl12⟩ := hg1.len1
  obtain ⟨gr, cap, hB⟩ : ∃ gr cap', Value.slice B l cap = .slice (some ⟨gr, 0, none⟩) l cap' := by
    obtain ⟨_, xs, us, h1, _⟩ := hg1.row
    exact row_form2 h1.1 (by omega)
  cases hB
  have HG1 := Lib.hid hg1
  clear hg1 HC
  go_wp2_with fail
  refine (pick_any g A n c bs (P + 60) (l : Int) w1 HG1.out.rd HN.out hby hs (by omega) (by omega)).mono ?_
  rintro e w2 ⟨k, rfl, hk, _, hr2, ht2⟩
  have hkl : k < l := by have := hk (by omega); omega
  have HG2 := Lib.hid (HG1.out.pick hr2 ht2)
  clear hk hr2 ht2 HG1
  go_wp2_with fail
  refine (pick_any g A n c bs (P + 60 + 1) 24 w2 HG2.out.rd HN.out hby hs (by omega) (by omega)).mono ?_
  rintro e w3 ⟨x3, rfl, _, _, hr3, ht3⟩
  have HG3 := Lib.hid (HG2.out.pick hr3 ht3)
  clear hr3 ht3 HG2
  have hkn : (k : Int) < (l : Int) := by omega
  have hkd : k < ds.length := by have := HG3.out.len; omega
  have hwg : w.heap.size ≤ gr ∧ gr < w3.heap.size := by
    obtain ⟨_, xs, us, h1, _⟩ := HG3.out.row
    exact h1.1.lt gr rfl
  by_cases h0 : x3 = 0
  · have e0 : ((x3 : Int) == 0) = true := by simp [h0]
    have HG4 := Lib.hid (HG3.out.alloc (.cells #[.int .i64 (-2), .int .i64 (k : Int), .int .i64 12] 3))
    have hg3 : g < w3.heap.size := HG3.out.rd.lt
    clear HG3 h0
    go_wp2_with fail
    refine (one_any g A n c bs (P + 60 + 1 + 1) w3.heap.size 0 3 3 [-2, (k : Int), 12] _ HG4.out.rd HN.out hby hs (by omega) rfl (by omega) (by omega) ?_ (by omega) (by simp)).mono ?_
    · intro j hj
      have : j = 0 ∨ j = 1 ∨ j = 2 := by omega
      rcases this with rfl | rfl | rfl <;> go_simp
    rintro e w5 ⟨x5, rfl, _, hr5, ht5⟩
    have HG5 := Lib.hid (HG4.out.pick hr5 ht5)
    have hg5 : gr < w5.heap.size := by have := ht5.size; simp at this; omega
    obtain ⟨b', off', eo, _, q0, _, _, _⟩ := HG5.out.os.at_ k hkd
    cases eo
    have fz : w5.frozen? ⟨gr, k * 4, none⟩ = false := by obtain ⟨_, xs, us, h1, _⟩ := HG5.out.row; exact h1.1.frozenAt _
    have u0 : w5.cell? ⟨gr, k * 4, none⟩ = some (.int .i64 (ds.getD k default).p) := by simpa using q0
    have HOW : Hid (OwO w.heap.size w5.heap.size (.slice (some ⟨gr, 0, none⟩) l cap) l (ds.set k ⟨x5, (ds.getD k default).o, (ds.getD k default).cl, (ds.getD k default).cx⟩) (w5.setCell ⟨gr, k * 4, none⟩ (.int .i64 x5))) := HG5.out.row.setHead (e := 0) hkl (by omega) rfl rfl (.inl ⟨rfl, rfl, rfl⟩)
    have HK : Hid (SoP g A n c bs (P + 64) w (.returned (.slice (some ⟨gr, 0, none⟩) l cap)) (w5.setCell ⟨gr, k * 4, none⟩ (.int .i64 x5))) :=
      ⟨_, l, cap, ds.set k ⟨x5, (ds.getD k default).o, (ds.getD k default).cl, (ds.getD k default).cx⟩, rfl, by rw [List.length_set]; exact HG5.out.len, hl1, hl12, own_ncapP HG5.out.row, set_lens hkd HG5.out.lens (show (ds.getD k default).cl.length ≤ 6 by have := HG5.out.lens k; omega) (HG5.out.lens k).2, KpO.of HOW.out (by simp [World.setCell]), (HG5.out.rd.mono (by omega)).turn (Tch.setIn (Tch.refl gr (gr + 1) w5) (Nat.le_refl _) (Nat.lt_succ_self _) _) (by have := HG5.out.gw; omega), HG5.out.fr.trans (Frd.of_below ((Below.refl w.heap.size w5).setCell (p := ⟨gr, k * 4, none⟩) hwg.1 _) (Nat.le_refl _))⟩
    generalize (ds.getD k default).p = px at u0
    clear q0 HOW HG5 HG4 hr5 ht5
    go_wp2
    go_ret
    exact HK.out
  have e0 : ((x3 : Int) == 0) = false := by simp; omega
  by_cases h1 : x3 = 1
  · have e1 : ((x3 : Int) == 1) = true := by simp [h1]
    clear h0 h1
    have HG4 := Lib.hid (HG3.out.below (below_drew w3))
    have hg3 : g < w3.drew.heap.size := HG3.out.rd.lt
    obtain ⟨b', off', eo, _, _, _, ⟨A7, m7, c7, q2, hm7, _⟩, _⟩ := HG4.out.os.at_ k hkd
    cases eo
    have u0 : w3.drew.cell? ⟨gr, k * 4 + 2, none⟩ = some (.slice A7 m7 c7) := by simpa using q2
    have hm75 : m7 ≤ 5 := by have := (HG4.out.lens k).1; omega
    have hgw3 : g < w.heap.size := HG3.out.gw
    have hgr3 : gr < w3.drew.heap.size := hwg.2
    have u0w : w3.cell? ⟨gr, k * 4 + 2, none⟩ = some (.slice A7 m7 c7) := u0
    have hgr3w : gr < w3.heap.size := hwg.2
    clear HG3 q2 hm7
    go_wp2
    refine wp_region_held_drew (S := fun _ => True) (by kernel_rfl) trivial (fun hHeld => ?_)
    refine wpAnyH_take (i := 0) (oi := ⟨some 25, _, _, _, _, _⟩) (v := ?_) rfl (by kernel_rfl) (by kernel_rfl) (by kernel_rfl) (fun _ _ _ h => h) (Or.inl ⟨by rfl, ?_⟩) (by assumption) ?_; rotate_left; (focus (intro w hSw; (try dsimp only at hSw); go_simp; (try with_reducible rfl))); (try simp only [Act.put, List.setIfInBounds_toArray, List.set_cons_zero, List.set_cons_succ])
    refine wpAnyH_take (i := 1) (oi := ⟨some 26, _, _, _, _, _⟩) (v := ?_) rfl (by kernel_rfl) (by kernel_rfl) (by kernel_rfl) (fun _ _ _ h => h) (Or.inl ⟨by rfl, ?_⟩) (by assumption) ?_; rotate_left; (focus (intro w hSw; (try dsimp only at hSw); go_simp; (try with_reducible rfl))); (try simp only [Act.put, List.setIfInBounds_toArray, List.set_cons_zero, List.set_cons_succ])
    refine wpAnyH_take (i := 2) (oi := ⟨some 27, _, _, _, _, _⟩) (v := ?_) rfl (by kernel_rfl) (by kernel_rfl) (by kernel_rfl) (fun _ _ _ h => h) (Or.inl ⟨by rfl, ?_⟩) (by assumption) ?_; rotate_left; (focus (intro w hSw; (try dsimp only at hSw); go_simp; (try with_reducible rfl))); (try simp only [Act.put, List.setIfInBounds_toArray, List.set_cons_zero, List.set_cons_succ])
    refine wpAnyH_take (i := 3) (oi := ⟨some 28, _, _, _, _, _⟩) (v := ?_) rfl (by kernel_rfl) (by kernel_rfl) (by kernel_rfl) (fun _ _ _ h => h) (Or.inl ⟨by rfl, ?_⟩) (by assumption) ?_; rotate_left; (focus (intro w hSw; (try dsimp only at hSw); go_simp; (try with_reducible rfl))); (try simp only [Act.put, List.setIfInBounds_toArray, List.set_cons_zero, List.set_cons_succ])
    refine wpAnyH_take (i := 4) (oi := ⟨some 29, _, _, _, _, _⟩) (v := ?_) rfl (by kernel_rfl) (by kernel_rfl) (by kernel_rfl) (fun _ _ _ h => h) (Or.inl ⟨by rfl, ?_⟩) (by assumption) ?_; rotate_left; (focus (intro w hSw; (try dsimp only at hSw); go_simp; (try with_reducible rfl))); (try simp only [Act.put, List.setIfInBounds_toArray, List.set_cons_zero, List.set_cons_succ])
    refine wpAnyH_take (i := 5) (oi := ⟨some 30, _, _, _, _, _⟩) (v := ?_) rfl (by kernel_rfl) (by kernel_rfl) (by kernel_rfl) (fun _ _ _ h => h) (Or.inl ⟨by rfl, ?_⟩) (by assumption) ?_; rotate_left; (focus (intro w hSw; (try dsimp only at hSw); go_simp; (try with_reducible rfl))); (try simp only [Act.put, List.setIfInBounds_toArray, List.set_cons_zero, List.set_cons_succ])
    refine wpAnyH_take (i := 7) (oi := ⟨some 32, _, _, _, _, _⟩) (v := ?_) rfl (by kernel_rfl) (by kernel_rfl) (by kernel_rfl) (fun _ _ _ h => h) (Or.inl ⟨by rfl, ?_⟩) (by assumption) ?_; rotate_left; (focus (intro w hSw; (try dsimp only at hSw); go_simp; (try with_reducible rfl))); (try simp only [Act.put, List.setIfInBounds_toArray, List.set_cons_zero, List.set_cons_succ])
    refine wpAnyH_ready (rs := [6, 8]) (by kernel_rfl) (by simp) ?_; refine AllReadyH.cons (o := ⟨some 31, _, _, _, _, _⟩) rfl (fun K hK => ?_) (AllReadyH.cons (o := ⟨some 33, _, _, _, _, _⟩) rfl (fun K hK => ?_) AllReadyH.nil)
    · go_simp
      refine hK.out _ _ trivial (fun hHeld => ?_); clear hK K; (try simp only [Act.put, List.setIfInBounds_toArray, List.set_cons_zero, List.set_cons_succ])
      refine wpAnyH_ready (rs := [8]) (by kernel_rfl) (by simp) ?_; refine AllReadyH.cons (o := ⟨some 33, _, _, _, _, _⟩) rfl (fun K hK => ?_) AllReadyH.nil; go_simp
      have HG1a := Lib.hid (HG4.out.alloc (.cells #[.int .i64 (-1), .int .i64 51, .int .i64 1] 3))
      have u1a : (w3.drew.alloc (.cells #[.int .i64 (-1), .int .i64 51, .int .i64 1] 3)).cell? ⟨gr, k * 4 + 2, none⟩ = some (.slice A7 m7 c7) := ((below_new w3.drew _).cell (p := ⟨gr, k * 4 + 2, none⟩) hgr3).trans u0
      refine hK.out _ _ trivial (fun hHeld => ?_); clear hK K; (try simp only [Act.put, List.setIfInBounds_toArray, List.set_cons_zero, List.set_cons_succ])
      refine wpAnyH_ready (rs := [9]) (by kernel_rfl) (by simp) ?_; refine AllReadyH.cons (o := ⟨some 34, _, _, _, _, _⟩) rfl (fun K hK => ?_) AllReadyH.nil; go_simp
      go_at_call 44
      refine (one_any g A n c bs (P + 60 + 1 + 1) w3.drew.heap.size 0 3 3 [-1, 51, 1] (w3.drew.alloc (.cells #[.int .i64 (-1), .int .i64 51, .int .i64 1] 3)) HG1a.out.rd HN.out hby hs (by omega) rfl (by omega) (by omega) ?_ (by omega) (by simp)).mono ?_
      · intro j hj
        have : j = 0 ∨ j = 1 ∨ j = 2 := by omega
        rcases this with rfl | rfl | rfl <;> go_simp
      rintro e w9 ⟨x9, rfl, _, hr9, ht9⟩
      have HG2a := Lib.hid (HG1a.out.pick hr9 ht9)
      have hgr9 : gr < w9.heap.size := by have := ht9.size; simp at this; have := hwg.2; omega
      have u2a : w9.cell? ⟨gr, k * 4 + 2, none⟩ = some (.slice A7 m7 c7) := (World.cell?_of_block (a := ⟨gr, k * 4 + 2, none⟩) (ht9.block gr (by simp; have := hwg.2; omega) (.inr (by omega)))).trans u1a
      clear hr9 ht9
      refine hK.out _ _ trivial (fun hHeld => ?_); clear hK K; (try simp only [Act.put, List.setIfInBounds_toArray, List.set_cons_zero, List.set_cons_succ])
      refine wpAnyH_ready (rs := [10]) (by kernel_rfl) (by simp) ?_; refine AllReadyH.cons (o := ⟨some 35, _, _, _, _, _⟩) rfl (fun K hK => ?_) AllReadyH.nil; go_simp
      have u3a : (w9.alloc (.cells #[.int .i64 x9] 3)).cell? ⟨gr, k * 4 + 2, none⟩ = some (.slice A7 m7 c7) := ((below_new w9 _).cell (p := ⟨gr, k * 4 + 2, none⟩) hgr9).trans u2a
      refine hK.out _ _ trivial (fun hHeld => ?_); clear hK K; (try simp only [Act.put, List.setIfInBounds_toArray, List.set_cons_zero, List.set_cons_succ])
      obtain ⟨hln, xs, us, hr, hul, hf, hss⟩ := HG2a.out.row
      have hxl : xs.length = l * 4 := hr.1.1
      obtain ⟨-, -, f2, f3⟩ := hf k hkd
      obtain ⟨A5, m5, c5, r1, r2, r3⟩ := hss.row (k * 2) (by omega)
      have hx5 := (hr.1.cellAt (k * 4 + 2) (by omega)).trans (f2.trans r1)
      have he5 := hx5.symm.trans u2a
      simp only [Option.some.injEq, Value.slice.injEq] at he5
      obtain ⟨rfl, rfl, rfl⟩ := he5
      rw [lenOfO, rowO_cl] at r2
      rw [rowOfO, rowO_cl] at r3
      have hs9 := HG2a.out.fr.size
      refine wpAnyH_ready (rs := [11]) (by kernel_rfl) (by simp) ?_; refine AllReadyH.cons (o := ⟨some 36, _, _, _, _, _⟩) rfl (fun K hK => ?_) AllReadyH.nil
      refine step_append_own_at _ (by rfl) _ _ _ (by rfl) w.heap.size 3 i0 (.int .i64 0) 1 8 Try.underlying26 hi hz0 hz1 hz2 rfl (by omega) (.slice A5 m5 c5) m5 ((ds.getD k default).cl.map (Value.int .i64)) (by rfl) (r3.1.alloc (.cells #[.int .i64 x9] 3)) ⟨w9.heap.size, 0, none⟩ 1 1 [.int .i64 x9] (by rfl) rfl (cell_one_new _ _ _) (by intro u hu; simp at hu; subst hu; rfl) (by unfold maxLen; omega) (by omega) (by simp; omega) ?_
      intro v6 w10 hown6 hgrow6 hblk6
      obtain ⟨A6, c6, rfl⟩ := own_form hown6
      have hz10 := hgrow6.size
      have hz10' : w9.heap.size + 1 ≤ w10.heap.size := by simpa using hz10
      have hr10 : OwR w.heap.size w9.heap.size 32 4 (.slice (some ⟨gr, 0, none⟩) l cap) l xs w10 := ⟨(hr.1.alloc _).kept hgrow6 (blocks_ne (hr.1.alloc (.cells #[.int .i64 x9] 3)) (r3.1.alloc (.cells #[.int .i64 x9] 3)) owner_ne_int), hr.2⟩
      have hpos := (r3.1.alloc (.cells #[.int .i64 x9] 3)).lt
      have hssg : SSk w.heap.size w10.heap.size (us.set (k * 2) (.slice A6 (m5 + 1) c6)) (lenOf (rowsO (ds.set k (withCl ds k x9)))) (rowOf (rowsO (ds.set k (withCl ds k x9)))) w10 := by
        refine SSk.grow (w := w9.alloc (.cells #[.int .i64 x9] 3)) (hi := w9.heap.size) (hss.keep fun q _ hq => ((Below.refl w9.heap.size w9).alloc (Nat.le_refl _) _).block q hq) (by simp) r1 hgrow6 hown6 (by rw [World.size_alloc]; simpa using hblk6) ?_ ?_ fun j hj => ?_
        · rw [lenOfO, rowO_set ds k _ hkd, if_pos rfl]; simp only [withCl, List.length_append, List.length_singleton]; rw [← r2]
        · rw [rowOfO, rowO_set ds k _ hkd, if_pos rfl]; simp only [withCl, List.map_append, List.map_cons, List.map_nil]; try rfl
        · rw [lenOfO, rowOfO, rowO_set ds k _ hkd, if_neg hj]
          by_cases e5 : j = k * 2 + 1
          · rw [if_pos e5, lenOfO, rowOfO, e5, rowO_cx]; exact ⟨rfl, rfl⟩
          · rw [if_neg e5, lenOfO, rowOfO]; exact ⟨rfl, rfl⟩
      have hfin := OwO.field (e := 0) (lo := w.heap.size) (top := w10.heap.size) (d' := withCl ds k x9) (by omega) hln hr10 hul hf hkl (by simpa using hssg) rfl rfl (by omega)
      have hbb : Below w.heap.size w9 w10 := ((Below.refl w.heap.size w9).alloc hs9 (.cells #[.int .i64 x9] 3)).grown hgrow6 (by simp; omega) (fun q hq => (hpos q hq).1)
      have d2 := hr10.1.cellAt (k * 4 + 2) (by omega)
      rw [List.getElem?_eq_getElem (by omega)] at d2
      have e2 := hr10.1.frozenAt (k * 4 + 2)
      generalize xs[k * 4 + 2]'(by omega) = v2 at d2
      have hg10 : gr < w10.heap.size := by omega
      have HK : Hid (SoP g A n c bs (P + 64) w (.returned (.slice (some ⟨gr, 0, none⟩) l cap)) (w10.setCell ⟨gr, k * 4 + 2, none⟩ (.slice A6 (m5 + 1) c6))) :=
        ⟨_, l, cap, ds.set k (withCl ds k x9), rfl, by rw [List.length_set]; exact HG2a.out.len, hl1, hl12, own_ncapP HG2a.out.row, set_lens hkd HG2a.out.lens (by show ((ds.getD k default).cl ++ [x9]).length ≤ 6; rw [List.length_append, ← r2, List.length_singleton]; omega) (HG2a.out.lens k).2, KpO.of hfin (by simp [World.setCell]), ((HG2a.out.rd.mono (by omega)).turn (Tch.of_below' hbb) hgw3).turn (Tch.setIn (Tch.refl gr (gr + 1) w10) (Nat.le_refl _) (Nat.lt_succ_self _) _) (by omega), (HG2a.out.fr.trans (Frd.of_below hbb (Nat.le_refl _))).trans (Frd.of_below ((Below.refl w.heap.size w10).setCell (p := ⟨gr, k * 4 + 2, none⟩) hwg.1 _) (Nat.le_refl _))⟩
      clear hfin hbb hpos hssg hr10 hown6 hgrow6 hblk6 hz10 hss hf hr r1 r2 r3 f2 f3 hx5 HG2a hln hul hxl
      refine hK.out _ _ trivial (fun hHeld => ?_); clear hK K; (try simp only [Act.put, List.setIfInBounds_toArray, List.set_cons_zero, List.set_cons_succ])
      refine wpAnyH_take (i := 12) (oi := ⟨some 37, _, _, _, _, _⟩) (v := ?_) rfl (by kernel_rfl) (by kernel_rfl) (by kernel_rfl) (fun _ _ _ h => h) (Or.inl ⟨by rfl, ?_⟩) (by assumption) ?_; rotate_left; (focus (intro w hSw; (try dsimp only at hSw); go_simp; (try with_reducible rfl))); (try simp only [Act.put, List.setIfInBounds_toArray, List.set_cons_zero, List.set_cons_succ])
      refine wpAnyH_take (i := 13) (oi := ⟨some 38, _, _, _, _, _⟩) (v := ?_) rfl (by kernel_rfl) (by kernel_rfl) (by kernel_rfl) (fun _ _ _ h => h) (Or.inl ⟨by rfl, ?_⟩) (by assumption) ?_; rotate_left; (focus (intro w hSw; (try dsimp only at hSw); go_simp; (try with_reducible rfl))); (try simp only [Act.put, List.setIfInBounds_toArray, List.set_cons_zero, List.set_cons_succ])
      refine wpAnyH_ready (rs := [14]) (by kernel_rfl) (by simp) ?_; refine AllReadyH.cons (o := ⟨none, _, _, _, _, _⟩) rfl (fun K hK => ?_) AllReadyH.nil; go_simp
      refine hK.out _ _ trivial (fun hHeld => ?_); clear hK K; (try simp only [Act.put, List.setIfInBounds_toArray, List.set_cons_zero, List.set_cons_succ])
      refine wpAnyH_done (by kernel_rfl) ?_ _
      go_wp2
      go_ret
      exact HK.out
    · skip
      go_simp
      have HG1a := Lib.hid (HG4.out.alloc (.cells #[.int .i64 (-1), .int .i64 51, .int .i64 1] 3))
      have u1a : (w3.drew.alloc (.cells #[.int .i64 (-1), .int .i64 51, .int .i64 1] 3)).cell? ⟨gr, k * 4 + 2, none⟩ = some (.slice A7 m7 c7) := ((below_new w3.drew _).cell (p := ⟨gr, k * 4 + 2, none⟩) hgr3).trans u0
      refine hK.out _ _ trivial (fun hHeld => ?_); clear hK K; (try simp only [Act.put, List.setIfInBounds_toArray, List.set_cons_zero, List.set_cons_succ])
      refine wpAnyH_ready (rs := [6, 9]) (by kernel_rfl) (by simp) ?_; refine AllReadyH.cons (o := ⟨some 31, _, _, _, _, _⟩) rfl (fun K hK => ?_) (AllReadyH.cons (o := ⟨some 34, _, _, _, _, _⟩) rfl (fun K hK => ?_) AllReadyH.nil)
      · go_simp
        refine hK.out _ _ trivial (fun hHeld => ?_); clear hK K; (try simp only [Act.put, List.setIfInBounds_toArray, List.set_cons_zero, List.set_cons_succ])
        refine wpAnyH_ready (rs := [9]) (by kernel_rfl) (by simp) ?_; refine AllReadyH.cons (o := ⟨some 34, _, _, _, _, _⟩) rfl (fun K hK => ?_) AllReadyH.nil; go_simp
        go_at_call 44
        refine (one_any g A n c bs (P + 60 + 1 + 1) w3.drew.heap.size 0 3 3 [-1, 51, 1] (w3.drew.alloc (.cells #[.int .i64 (-1), .int .i64 51, .int .i64 1] 3)) HG1a.out.rd HN.out hby hs (by omega) rfl (by omega) (by omega) ?_ (by omega) (by simp)).mono ?_
        · intro j hj
          have : j = 0 ∨ j = 1 ∨ j = 2 := by omega
          rcases this with rfl | rfl | rfl <;> go_simp
        rintro e w9 ⟨x9, rfl, _, hr9, ht9⟩
        have HG2a := Lib.hid (HG1a.out.pick hr9 ht9)
        have hgr9 : gr < w9.heap.size := by have := ht9.size; simp at this; have := hwg.2; omega
        have u2a : w9.cell? ⟨gr, k * 4 + 2, none⟩ = some (.slice A7 m7 c7) := (World.cell?_of_block (a := ⟨gr, k * 4 + 2, none⟩) (ht9.block gr (by simp; have := hwg.2; omega) (.inr (by omega)))).trans u1a
        clear hr9 ht9
        refine hK.out _ _ trivial (fun hHeld => ?_); clear hK K; (try simp only [Act.put, List.setIfInBounds_toArray, List.set_cons_zero, List.set_cons_succ])
        refine wpAnyH_ready (rs := [10]) (by kernel_rfl) (by simp) ?_; refine AllReadyH.cons (o := ⟨some 35, _, _, _, _, _⟩) rfl (fun K hK => ?_) AllReadyH.nil; go_simp
        have u3a : (w9.alloc (.cells #[.int .i64 x9] 3)).cell? ⟨gr, k * 4 + 2, none⟩ = some (.slice A7 m7 c7) := ((below_new w9 _).cell (p := ⟨gr, k * 4 + 2, none⟩) hgr9).trans u2a
        refine hK.out _ _ trivial (fun hHeld => ?_); clear hK K; (try simp only [Act.put, List.setIfInBounds_toArray, List.set_cons_zero, List.set_cons_succ])
        obtain ⟨hln, xs, us, hr, hul, hf, hss⟩ := HG2a.out.row
        have hxl : xs.length = l * 4 := hr.1.1
        obtain ⟨-, -, f2, f3⟩ := hf k hkd
        obtain ⟨A5, m5, c5, r1, r2, r3⟩ := hss.row (k * 2) (by omega)
        have hx5 := (hr.1.cellAt (k * 4 + 2) (by omega)).trans (f2.trans r1)
        have he5 := hx5.symm.trans u2a
        simp only [Option.some.injEq, Value.slice.injEq] at he5
        obtain ⟨rfl, rfl, rfl⟩ := he5
        rw [lenOfO, rowO_cl] at r2
        rw [rowOfO, rowO_cl] at r3
        have hs9 := HG2a.out.fr.size
        refine wpAnyH_ready (rs := [11]) (by kernel_rfl) (by simp) ?_; refine AllReadyH.cons (o := ⟨some 36, _, _, _, _, _⟩) rfl (fun K hK => ?_) AllReadyH.nil
        refine step_append_own_at _ (by rfl) _ _ _ (by rfl) w.heap.size 3 i0 (.int .i64 0) 1 8 Try.underlying26 hi hz0 hz1 hz2 rfl (by omega) (.slice A5 m5 c5) m5 ((ds.getD k default).cl.map (Value.int .i64)) (by rfl) (r3.1.alloc (.cells #[.int .i64 x9] 3)) ⟨w9.heap.size, 0, none⟩ 1 1 [.int .i64 x9] (by rfl) rfl (cell_one_new _ _ _) (by intro u hu; simp at hu; subst hu; rfl) (by unfold maxLen; omega) (by omega) (by simp; omega) ?_
        intro v6 w10 hown6 hgrow6 hblk6
        obtain ⟨A6, c6, rfl⟩ := own_form hown6
        have hz10 := hgrow6.size
        have hz10' : w9.heap.size + 1 ≤ w10.heap.size := by simpa using hz10
        have hr10 : OwR w.heap.size w9.heap.size 32 4 (.slice (some ⟨gr, 0, none⟩) l cap) l xs w10 := ⟨(hr.1.alloc _).kept hgrow6 (blocks_ne (hr.1.alloc (.cells #[.int .i64 x9] 3)) (r3.1.alloc (.cells #[.int .i64 x9] 3)) owner_ne_int), hr.2⟩
        have hpos := (r3.1.alloc (.cells #[.int .i64 x9] 3)).lt
        have hssg : SSk w.heap.size w10.heap.size (us.set (k * 2) (.slice A6 (m5 + 1) c6)) (lenOf (rowsO (ds.set k (withCl ds k x9)))) (rowOf (rowsO (ds.set k (withCl ds k x9)))) w10 := by
          refine SSk.grow (w := w9.alloc (.cells #[.int .i64 x9] 3)) (hi := w9.heap.size) (hss.keep fun q _ hq => ((Below.refl w9.heap.size w9).alloc (Nat.le_refl _) _).block q hq) (by simp) r1 hgrow6 hown6 (by rw [World.size_alloc]; simpa using hblk6) ?_ ?_ fun j hj => ?_
          · rw [lenOfO, rowO_set ds k _ hkd, if_pos rfl]; simp only [withCl, List.length_append, List.length_singleton]; rw [← r2]
          · rw [rowOfO, rowO_set ds k _ hkd, if_pos rfl]; simp only [withCl, List.map_append, List.map_cons, List.map_nil]; try rfl
          · rw [lenOfO, rowOfO, rowO_set ds k _ hkd, if_neg hj]
            by_cases e5 : j = k * 2 + 1
            · rw [if_pos e5, lenOfO, rowOfO, e5, rowO_cx]; exact ⟨rfl, rfl⟩
            · rw [if_neg e5, lenOfO, rowOfO]; exact ⟨rfl, rfl⟩
        have hfin := OwO.field (e := 0) (lo := w.heap.size) (top := w10.heap.size) (d' := withCl ds k x9) (by omega) hln hr10 hul hf hkl (by simpa using hssg) rfl rfl (by omega)
        have hbb : Below w.heap.size w9 w10 := ((Below.refl w.heap.size w9).alloc hs9 (.cells #[.int .i64 x9] 3)).grown hgrow6 (by simp; omega) (fun q hq => (hpos q hq).1)
        have d2 := hr10.1.cellAt (k * 4 + 2) (by omega)
        rw [List.getElem?_eq_getElem (by omega)] at d2
        have e2 := hr10.1.frozenAt (k * 4 + 2)
        generalize xs[k * 4 + 2]'(by omega) = v2 at d2
        have hg10 : gr < w10.heap.size := by omega
        have HK : Hid (SoP g A n c bs (P + 64) w (.returned (.slice (some ⟨gr, 0, none⟩) l cap)) (w10.setCell ⟨gr, k * 4 + 2, none⟩ (.slice A6 (m5 + 1) c6))) :=
          ⟨_, l, cap, ds.set k (withCl ds k x9), rfl, by rw [List.length_set]; exact HG2a.out.len, hl1, hl12, own_ncapP HG2a.out.row, set_lens hkd HG2a.out.lens (by show ((ds.getD k default).cl ++ [x9]).length ≤ 6; rw [List.length_append, ← r2, List.length_singleton]; omega) (HG2a.out.lens k).2, KpO.of hfin (by simp [World.setCell]), ((HG2a.out.rd.mono (by omega)).turn (Tch.of_below' hbb) hgw3).turn (Tch.setIn (Tch.refl gr (gr + 1) w10) (Nat.le_refl _) (Nat.lt_succ_self _) _) (by omega), (HG2a.out.fr.trans (Frd.of_below hbb (Nat.le_refl _))).trans (Frd.of_below ((Below.refl w.heap.size w10).setCell (p := ⟨gr, k * 4 + 2, none⟩) hwg.1 _) (Nat.le_refl _))⟩
        clear hfin hbb hpos hssg hr10 hown6 hgrow6 hblk6 hz10 hss hf hr r1 r2 r3 f2 f3 hx5 HG2a hln hul hxl
        refine hK.out _ _ trivial (fun hHeld => ?_); clear hK K; (try simp only [Act.put, List.setIfInBounds_toArray, List.set_cons_zero, List.set_cons_succ])
        refine wpAnyH_take (i := 12) (oi := ⟨some 37, _, _, _, _, _⟩) (v := ?_) rfl (by kernel_rfl) (by kernel_rfl) (by kernel_rfl) (fun _ _ _ h => h) (Or.inl ⟨by rfl, ?_⟩) (by assumption) ?_; rotate_left; (focus (intro w hSw; (try dsimp only at hSw); go_simp; (try with_reducible rfl))); (try simp only [Act.put, List.setIfInBounds_toArray, List.set_cons_zero, List.set_cons_succ])
        refine wpAnyH_take (i := 13) (oi := ⟨some 38, _, _, _, _, _⟩) (v := ?_) rfl (by kernel_rfl) (by kernel_rfl) (by kernel_rfl) (fun _ _ _ h => h) (Or.inl ⟨by rfl, ?_⟩) (by assumption) ?_; rotate_left; (focus (intro w hSw; (try dsimp only at hSw); go_simp; (try with_reducible rfl))); (try simp only [Act.put, List.setIfInBounds_toArray, List.set_cons_zero, List.set_cons_succ])
        refine wpAnyH_ready (rs := [14]) (by kernel_rfl) (by simp) ?_; refine AllReadyH.cons (o := ⟨none, _, _, _, _, _⟩) rfl (fun K hK => ?_) AllReadyH.nil; go_simp
        refine hK.out _ _ trivial (fun hHeld => ?_); clear hK K; (try simp only [Act.put, List.setIfInBounds_toArray, List.set_cons_zero, List.set_cons_succ])
        refine wpAnyH_done (by kernel_rfl) ?_ _
        go_wp2
        go_ret
        exact HK.out
      · skip
        go_simp
        go_at_call 44
        refine (one_any g A n c bs (P + 60 + 1 + 1) w3.drew.heap.size 0 3 3 [-1, 51, 1] (w3.drew.alloc (.cells #[.int .i64 (-1), .int .i64 51, .int .i64 1] 3)) HG1a.out.rd HN.out hby hs (by omega) rfl (by omega) (by omega) ?_ (by omega) (by simp)).mono ?_
        · intro j hj
          have : j = 0 ∨ j = 1 ∨ j = 2 := by omega
          rcases this with rfl | rfl | rfl <;> go_simp
        rintro e w9 ⟨x9, rfl, _, hr9, ht9⟩
        have HG2a := Lib.hid (HG1a.out.pick hr9 ht9)
        have hgr9 : gr < w9.heap.size := by have := ht9.size; simp at this; have := hwg.2; omega
        have u2a : w9.cell? ⟨gr, k * 4 + 2, none⟩ = some (.slice A7 m7 c7) := (World.cell?_of_block (a := ⟨gr, k * 4 + 2, none⟩) (ht9.block gr (by simp; have := hwg.2; omega) (.inr (by omega)))).trans u1a
        clear hr9 ht9
        refine hK.out _ _ trivial (fun hHeld => ?_); clear hK K; (try simp only [Act.put, List.setIfInBounds_toArray, List.set_cons_zero, List.set_cons_succ])
        refine wpAnyH_ready (rs := [6, 10]) (by kernel_rfl) (by simp) ?_; refine AllReadyH.cons (o := ⟨some 31, _, _, _, _, _⟩) rfl (fun K hK => ?_) (AllReadyH.cons (o := ⟨some 35, _, _, _, _, _⟩) rfl (fun K hK => ?_) AllReadyH.nil)
        · go_simp
          refine hK.out _ _ trivial (fun hHeld => ?_); clear hK K; (try simp only [Act.put, List.setIfInBounds_toArray, List.set_cons_zero, List.set_cons_succ])
          refine wpAnyH_ready (rs := [10]) (by kernel_rfl) (by simp) ?_; refine AllReadyH.cons (o := ⟨some 35, _, _, _, _, _⟩) rfl (fun K hK => ?_) AllReadyH.nil; go_simp
          have u3a : (w9.alloc (.cells #[.int .i64 x9] 3)).cell? ⟨gr, k * 4 + 2, none⟩ = some (.slice A7 m7 c7) := ((below_new w9 _).cell (p := ⟨gr, k * 4 + 2, none⟩) hgr9).trans u2a
          refine hK.out _ _ trivial (fun hHeld => ?_); clear hK K; (try simp only [Act.put, List.setIfInBounds_toArray, List.set_cons_zero, List.set_cons_succ])
          obtain ⟨hln, xs, us, hr, hul, hf, hss⟩ := HG2a.out.row
          have hxl : xs.length = l * 4 := hr.1.1
          obtain ⟨-, -, f2, f3⟩ := hf k hkd
          obtain ⟨A5, m5, c5, r1, r2, r3⟩ := hss.row (k * 2) (by omega)
          have hx5 := (hr.1.cellAt (k * 4 + 2) (by omega)).trans (f2.trans r1)
          have he5 := hx5.symm.trans u2a
          simp only [Option.some.injEq, Value.slice.injEq] at he5
          obtain ⟨rfl, rfl, rfl⟩ := he5
          rw [lenOfO, rowO_cl] at r2
          rw [rowOfO, rowO_cl] at r3
          have hs9 := HG2a.out.fr.size
          refine wpAnyH_ready (rs := [11]) (by kernel_rfl) (by simp) ?_; refine AllReadyH.cons (o := ⟨some 36, _, _, _, _, _⟩) rfl (fun K hK => ?_) AllReadyH.nil
          refine step_append_own_at _ (by rfl) _ _ _ (by rfl) w.heap.size 3 i0 (.int .i64 0) 1 8 Try.underlying26 hi hz0 hz1 hz2 rfl (by omega) (.slice A5 m5 c5) m5 ((ds.getD k default).cl.map (Value.int .i64)) (by rfl) (r3.1.alloc (.cells #[.int .i64 x9] 3)) ⟨w9.heap.size, 0, none⟩ 1 1 [.int .i64 x9] (by rfl) rfl (cell_one_new _ _ _) (by intro u hu; simp at hu; subst hu; rfl) (by unfold maxLen; omega) (by omega) (by simp; omega) ?_
          intro v6 w10 hown6 hgrow6 hblk6
          obtain ⟨A6, c6, rfl⟩ := own_form hown6
          have hz10 := hgrow6.size
          have hz10' : w9.heap.size + 1 ≤ w10.heap.size := by simpa using hz10
          have hr10 : OwR w.heap.size w9.heap.size 32 4 (.slice (some ⟨gr, 0, none⟩) l cap) l xs w10 := ⟨(hr.1.alloc _).kept hgrow6 (blocks_ne (hr.1.alloc (.cells #[.int .i64 x9] 3)) (r3.1.alloc (.cells #[.int .i64 x9] 3)) owner_ne_int), hr.2⟩
          have hpos := (r3.1.alloc (.cells #[.int .i64 x9] 3)).lt
          have hssg : SSk w.heap.size w10.heap.size (us.set (k * 2) (.slice A6 (m5 + 1) c6)) (lenOf (rowsO (ds.set k (withCl ds k x9)))) (rowOf (rowsO (ds.set k (withCl ds k x9)))) w10 := by
            refine SSk.grow (w := w9.alloc (.cells #[.int .i64 x9] 3)) (hi := w9.heap.size) (hss.keep fun q _ hq => ((Below.refl w9.heap.size w9).alloc (Nat.le_refl _) _).block q hq) (by simp) r1 hgrow6 hown6 (by rw [World.size_alloc]; simpa using hblk6) ?_ ?_ fun j hj => ?_
            · rw [lenOfO, rowO_set ds k _ hkd, if_pos rfl]; simp only [withCl, List.length_append, List.length_singleton]; rw [← r2]
            · rw [rowOfO, rowO_set ds k _ hkd, if_pos rfl]; simp only [withCl, List.map_append, List.map_cons, List.map_nil]; try rfl
            · rw [lenOfO, rowOfO, rowO_set ds k _ hkd, if_neg hj]
              by_cases e5 : j = k * 2 + 1
              · rw [if_pos e5, lenOfO, rowOfO, e5, rowO_cx]; exact ⟨rfl, rfl⟩
              · rw [if_neg e5, lenOfO, rowOfO]; exact ⟨rfl, rfl⟩
          have hfin := OwO.field (e := 0) (lo := w.heap.size) (top := w10.heap.size) (d' := withCl ds k x9) (by omega) hln hr10 hul hf hkl (by simpa using hssg) rfl rfl (by omega)
          have hbb : Below w.heap.size w9 w10 := ((Below.refl w.heap.size w9).alloc hs9 (.cells #[.int .i64 x9] 3)).grown hgrow6 (by simp; omega) (fun q hq => (hpos q hq).1)
          have d2 := hr10.1.cellAt (k * 4 + 2) (by omega)
          rw [List.getElem?_eq_getElem (by omega)] at d2
          have e2 := hr10.1.frozenAt (k * 4 + 2)
          generalize xs[k * 4 + 2]'(by omega) = v2 at d2
          have hg10 : gr < w10.heap.size := by omega
          have HK : Hid (SoP g A n c bs (P + 64) w (.returned (.slice (some ⟨gr, 0, none⟩) l cap)) (w10.setCell ⟨gr, k * 4 + 2, none⟩ (.slice A6 (m5 + 1) c6))) :=
            ⟨_, l, cap, ds.set k (withCl ds k x9), rfl, by rw [List.length_set]; exact HG2a.out.len, hl1, hl12, own_ncapP HG2a.out.row, set_lens hkd HG2a.out.lens (by show ((ds.getD k default).cl ++ [x9]).length ≤ 6; rw [List.length_append, ← r2, List.length_singleton]; omega) (HG2a.out.lens k).2, KpO.of hfin (by simp [World.setCell]), ((HG2a.out.rd.mono (by omega)).turn (Tch.of_below' hbb) hgw3).turn (Tch.setIn (Tch.refl gr (gr + 1) w10) (Nat.le_refl _) (Nat.lt_succ_self _) _) (by omega), (HG2a.out.fr.trans (Frd.of_below hbb (Nat.le_refl _))).trans (Frd.of_below ((Below.refl w.heap.size w10).setCell (p := ⟨gr, k * 4 + 2, none⟩) hwg.1 _) (Nat.le_refl _))⟩
          clear hfin hbb hpos hssg hr10 hown6 hgrow6 hblk6 hz10 hss hf hr r1 r2 r3 f2 f3 hx5 HG2a hln hul hxl
          refine hK.out _ _ trivial (fun hHeld => ?_); clear hK K; (try simp only [Act.put, List.setIfInBounds_toArray, List.set_cons_zero, List.set_cons_succ])
          refine wpAnyH_take (i := 12) (oi := ⟨some 37, _, _, _, _, _⟩) (v := ?_) rfl (by kernel_rfl) (by kernel_rfl) (by kernel_rfl) (fun _ _ _ h => h) (Or.inl ⟨by rfl, ?_⟩) (by assumption) ?_; rotate_left; (focus (intro w hSw; (try dsimp only at hSw); go_simp; (try with_reducible rfl))); (try simp only [Act.put, List.setIfInBounds_toArray, List.set_cons_zero, List.set_cons_succ])
          refine wpAnyH_take (i := 13) (oi := ⟨some 38, _, _, _, _, _⟩) (v := ?_) rfl (by kernel_rfl) (by kernel_rfl) (by kernel_rfl) (fun _ _ _ h => h) (Or.inl ⟨by rfl, ?_⟩) (by assumption) ?_; rotate_left; (focus (intro w hSw; (try dsimp only at hSw); go_simp; (try with_reducible rfl))); (try simp only [Act.put, List.setIfInBounds_toArray, List.set_cons_zero, List.set_cons_succ])
          refine wpAnyH_ready (rs := [14]) (by kernel_rfl) (by simp) ?_; refine AllReadyH.cons (o := ⟨none, _, _, _, _, _⟩) rfl (fun K hK => ?_) AllReadyH.nil; go_simp
          refine hK.out _ _ trivial (fun hHeld => ?_); clear hK K; (try simp only [Act.put, List.setIfInBounds_toArray, List.set_cons_zero, List.set_cons_succ])
          refine wpAnyH_done (by kernel_rfl) ?_ _
          go_wp2
          go_ret
          exact HK.out
        · skip
          go_simp
          have u3a : (w9.alloc (.cells #[.int .i64 x9] 3)).cell? ⟨gr, k * 4 + 2, none⟩ = some (.slice A7 m7 c7) := ((below_new w9 _).cell (p := ⟨gr, k * 4 + 2, none⟩) hgr9).trans u2a
          refine hK.out _ _ trivial (fun hHeld => ?_); clear hK K; (try simp only [Act.put, List.setIfInBounds_toArray, List.set_cons_zero, List.set_cons_succ])
          refine wpAnyH_ready (rs := [6]) (by kernel_rfl) (by simp) ?_; refine AllReadyH.cons (o := ⟨some 31, _, _, _, _, _⟩) rfl (fun K hK => ?_) AllReadyH.nil; go_simp
          refine hK.out _ _ trivial (fun hHeld => ?_); clear hK K; (try simp only [Act.put, List.setIfInBounds_toArray, List.set_cons_zero, List.set_cons_succ])
          obtain ⟨hln, xs, us, hr, hul, hf, hss⟩ := HG2a.out.row
          have hxl : xs.length = l * 4 := hr.1.1
          obtain ⟨-, -, f2, f3⟩ := hf k hkd
          obtain ⟨A5, m5, c5, r1, r2, r3⟩ := hss.row (k * 2) (by omega)
          have hx5 := (hr.1.cellAt (k * 4 + 2) (by omega)).trans (f2.trans r1)
          have he5 := hx5.symm.trans u2a
          simp only [Option.some.injEq, Value.slice.injEq] at he5
          obtain ⟨rfl, rfl, rfl⟩ := he5
          rw [lenOfO, rowO_cl] at r2
          rw [rowOfO, rowO_cl] at r3
          have hs9 := HG2a.out.fr.size
          refine wpAnyH_ready (rs := [11]) (by kernel_rfl) (by simp) ?_; refine AllReadyH.cons (o := ⟨some 36, _, _, _, _, _⟩) rfl (fun K hK => ?_) AllReadyH.nil
          refine step_append_own_at _ (by rfl) _ _ _ (by rfl) w.heap.size 3 i0 (.int .i64 0) 1 8 Try.underlying26 hi hz0 hz1 hz2 rfl (by omega) (.slice A5 m5 c5) m5 ((ds.getD k default).cl.map (Value.int .i64)) (by rfl) (r3.1.alloc (.cells #[.int .i64 x9] 3)) ⟨w9.heap.size, 0, none⟩ 1 1 [.int .i64 x9] (by rfl) rfl (cell_one_new _ _ _) (by intro u hu; simp at hu; subst hu; rfl) (by unfold maxLen; omega) (by omega) (by simp; omega) ?_
          intro v6 w10 hown6 hgrow6 hblk6
          obtain ⟨A6, c6, rfl⟩ := own_form hown6
          have hz10 := hgrow6.size
          have hz10' : w9.heap.size + 1 ≤ w10.heap.size := by simpa using hz10
          have hr10 : OwR w.heap.size w9.heap.size 32 4 (.slice (some ⟨gr, 0, none⟩) l cap) l xs w10 := ⟨(hr.1.alloc _).kept hgrow6 (blocks_ne (hr.1.alloc (.cells #[.int .i64 x9] 3)) (r3.1.alloc (.cells #[.int .i64 x9] 3)) owner_ne_int), hr.2⟩
          have hpos := (r3.1.alloc (.cells #[.int .i64 x9] 3)).lt
          have hssg : SSk w.heap.size w10.heap.size (us.set (k * 2) (.slice A6 (m5 + 1) c6)) (lenOf (rowsO (ds.set k (withCl ds k x9)))) (rowOf (rowsO (ds.set k (withCl ds k x9)))) w10 := by
            refine SSk.grow (w := w9.alloc (.cells #[.int .i64 x9] 3)) (hi := w9.heap.size) (hss.keep fun q _ hq => ((Below.refl w9.heap.size w9).alloc (Nat.le_refl _) _).block q hq) (by simp) r1 hgrow6 hown6 (by rw [World.size_alloc]; simpa using hblk6) ?_ ?_ fun j hj => ?_
            · rw [lenOfO, rowO_set ds k _ hkd, if_pos rfl]; simp only [withCl, List.length_append, List.length_singleton]; rw [← r2]
            · rw [rowOfO, rowO_set ds k _ hkd, if_pos rfl]; simp only [withCl, List.map_append, List.map_cons, List.map_nil]; try rfl
            · rw [lenOfO, rowOfO, rowO_set ds k _ hkd, if_neg hj]
              by_cases e5 : j = k * 2 + 1
              · rw [if_pos e5, lenOfO, rowOfO, e5, rowO_cx]; exact ⟨rfl, rfl⟩
              · rw [if_neg e5, lenOfO, rowOfO]; exact ⟨rfl, rfl⟩
          have hfin := OwO.field (e := 0) (lo := w.heap.size) (top := w10.heap.size) (d' := withCl ds k x9) (by omega) hln hr10 hul hf hkl (by simpa using hssg) rfl rfl (by omega)
          have hbb : Below w.heap.size w9 w10 := ((Below.refl w.heap.size w9).alloc hs9 (.cells #[.int .i64 x9] 3)).grown hgrow6 (by simp; omega) (fun q hq => (hpos q hq).1)
          have d2 := hr10.1.cellAt (k * 4 + 2) (by omega)
          rw [List.getElem?_eq_getElem (by omega)] at d2
          have e2 := hr10.1.frozenAt (k * 4 + 2)
          generalize xs[k * 4 + 2]'(by omega) = v2 at d2
          have hg10 : gr < w10.heap.size := by omega
          have HK : Hid (SoP g A n c bs (P + 64) w (.returned (.slice (some ⟨gr, 0, none⟩) l cap)) (w10.setCell ⟨gr, k * 4 + 2, none⟩ (.slice A6 (m5 + 1) c6))) :=
            ⟨_, l, cap, ds.set k (withCl ds k x9), rfl, by rw [List.length_set]; exact HG2a.out.len, hl1, hl12, own_ncapP HG2a.out.row, set_lens hkd HG2a.out.lens (by show ((ds.getD k default).cl ++ [x9]).length ≤ 6; rw [List.length_append, ← r2, List.length_singleton]; omega) (HG2a.out.lens k).2, KpO.of hfin (by simp [World.setCell]), ((HG2a.out.rd.mono (by omega)).turn (Tch.of_below' hbb) hgw3).turn (Tch.setIn (Tch.refl gr (gr + 1) w10) (Nat.le_refl _) (Nat.lt_succ_self _) _) (by omega), (HG2a.out.fr.trans (Frd.of_below hbb (Nat.le_refl _))).trans (Frd.of_below ((Below.refl w.heap.size w10).setCell (p := ⟨gr, k * 4 + 2, none⟩) hwg.1 _) (Nat.le_refl _))⟩
          clear hfin hbb hpos hssg hr10 hown6 hgrow6 hblk6 hz10 hss hf hr r1 r2 r3 f2 f3 hx5 HG2a hln hul hxl
          refine hK.out _ _ trivial (fun hHeld => ?_); clear hK K; (try simp only [Act.put, List.setIfInBounds_toArray, List.set_cons_zero, List.set_cons_succ])
          refine wpAnyH_take (i := 12) (oi := ⟨some 37, _, _, _, _, _⟩) (v := ?_) rfl (by kernel_rfl) (by kernel_rfl) (by kernel_rfl) (fun _ _ _ h => h) (Or.inl ⟨by rfl, ?_⟩) (by assumption) ?_; rotate_left; (focus (intro w hSw; (try dsimp only at hSw); go_simp; (try with_reducible rfl))); (try simp only [Act.put, List.setIfInBounds_toArray, List.set_cons_zero, List.set_cons_succ])
          refine wpAnyH_take (i := 13) (oi := ⟨some 38, _, _, _, _, _⟩) (v := ?_) rfl (by kernel_rfl) (by kernel_rfl) (by kernel_rfl) (fun _ _ _ h => h) (Or.inl ⟨by rfl, ?_⟩) (by assumption) ?_; rotate_left; (focus (intro w hSw; (try dsimp only at hSw); go_simp; (try with_reducible rfl))); (try simp only [Act.put, List.setIfInBounds_toArray, List.set_cons_zero, List.set_cons_succ])
          refine wpAnyH_ready (rs := [14]) (by kernel_rfl) (by simp) ?_; refine AllReadyH.cons (o := ⟨none, _, _, _, _, _⟩) rfl (fun K hK => ?_) AllReadyH.nil; go_simp
          refine hK.out _ _ trivial (fun hHeld => ?_); clear hK K; (try simp only [Act.put, List.setIfInBounds_toArray, List.set_cons_zero, List.set_cons_succ])
          refine wpAnyH_done (by kernel_rfl) ?_ _
          go_wp2
          go_ret
          exact HK.out
  have e1 : ((x3 : Int) == 1) = false := by simp; omega
  by_cases h2 : x3 = 2
  · have e2 : ((x3 : Int) == 2) = true := by simp [h2]
    clear h0 h1 h2
    obtain ⟨b', off', eo, _, _, q1, _, _⟩ := HG3.out.os.at_ k hkd
    cases eo
    have fz : w3.frozen? ⟨gr, k * 4 + 1, none⟩ = false := by obtain ⟨_, xs, us, h1, _⟩ := HG3.out.row; exact h1.1.frozenAt _
    have u0 : w3.cell? ⟨gr, k * 4 + 1, none⟩ = some (.bool (ds.getD k default).o) := by simpa using q1
    have hgr3 := hwg.2
    have HOW : Hid (OwO w.heap.size w3.heap.size (.slice (some ⟨gr, 0, none⟩) l cap) l (ds.set k ⟨(ds.getD k default).p, !(ds.getD k default).o, (ds.getD k default).cl, (ds.getD k default).cx⟩) (w3.setCell ⟨gr, k * 4 + 1, none⟩ (.bool (!(ds.getD k default).o)))) := HG3.out.row.setHead (e := 1) hkl (by omega) rfl rfl (.inr ⟨rfl, rfl, rfl⟩)
    have HK : Hid (SoP g A n c bs (P + 64) w (.returned (.slice (some ⟨gr, 0, none⟩) l cap)) (w3.setCell ⟨gr, k * 4 + 1, none⟩ (.bool (!(ds.getD k default).o)))) :=
      ⟨_, l, cap, ds.set k ⟨(ds.getD k default).p, !(ds.getD k default).o, (ds.getD k default).cl, (ds.getD k default).cx⟩, rfl, by rw [List.length_set]; exact HG3.out.len, hl1, hl12, own_ncapP HG3.out.row, set_lens hkd HG3.out.lens (show (ds.getD k default).cl.length ≤ 6 by have := HG3.out.lens k; omega) (HG3.out.lens k).2, KpO.of HOW.out (by simp [World.setCell]), (HG3.out.rd.mono (by omega)).turn (Tch.setIn (Tch.refl gr (gr + 1) w3) (Nat.le_refl _) (Nat.lt_succ_self _) _) (by have := HG3.out.gw; omega), HG3.out.fr.trans (Frd.of_below ((Below.refl w.heap.size w3).setCell (p := ⟨gr, k * 4 + 1, none⟩) hwg.1 _) (Nat.le_refl _))⟩
    generalize (ds.getD k default).o = po at *
    clear q1 HOW HG3
    go_wp2
    go_ret
    exact HK.out
  have e2 : ((x3 : Int) == 2) = false := by simp; omega
  by_cases h3 : x3 = 3
  · have e3 : ((x3 : Int) == 3) = true := by simp [h3]
    clear h0 h1 h2 h3
    obtain ⟨hln, xs, us, hr, hul, hf, hss⟩ := HG3.out.row
    have hxl : xs.length = l * 4 := hr.1.1
    obtain ⟨-, -, f2, f3⟩ := hf k hkd
    obtain ⟨A5, m5, c5, r1, r2, r3⟩ := hss.row (k * 2 + 1) (by omega)
    rw [lenOfO, rowO_cx] at r2
    have hcx3 : m5 = 3 := by
      rw [r2]
      have := (validO_iff ds).1 HG3.out.va
      have h9 := (this.2.2.2.2 k hkd).2
      unfold ctxOK at h9
      simp only [Bool.and_eq_true, decide_eq_true_eq] at h9
      exact h9.1
    have hx5 := (hr.1.cellAt (k * 4 + 3) (by omega)).trans (f3.trans r1)
    have fz := hr.1.frozenAt (k * 4 + 3)
    obtain ⟨gx, c9, hA5⟩ := row_form2 r3.1 (by omega)
    cases hA5
    have hnc5 := own_ncap r3.1
    have HKP := Lib.hid (KpO.cut (k := k) hln hr hul hf hss (Nat.le_refl _) hkl r1)
    subst hcx3
    have h1c : 1 ≤ c5 := by omega
    have hc1 : ¬ c5 = 1 := by omega
    have hgr3 := hwg.2
    have HK : Hid (SoP g A n c bs (P + 64) w (.returned (.slice (some ⟨gr, 0, none⟩) l cap)) (w3.setCell ⟨gr, k * 4 + 3, none⟩ (.slice (some ⟨gx, 1, none⟩) 2 (c5 - 1)))) :=
      ⟨_, l, cap, ds.set k ⟨(ds.getD k default).p, (ds.getD k default).o, (ds.getD k default).cl, (ds.getD k default).cx.drop 1⟩, rfl, by rw [List.length_set]; exact HG3.out.len, hl1, hl12, own_ncapP HG3.out.row, set_lens hkd HG3.out.lens (show (ds.getD k default).cl.length ≤ 6 by have := HG3.out.lens k; omega) (by show ((ds.getD k default).cx.drop 1).length ≤ 3; rw [List.length_drop]; omega), HKP.out, (HG3.out.rd.mono (by omega)).turn (Tch.setIn (Tch.refl gr (gr + 1) w3) (Nat.le_refl _) (Nat.lt_succ_self _) _) (by have := HG3.out.gw; omega), HG3.out.fr.trans (Frd.of_below ((Below.refl w.heap.size w3).setCell (p := ⟨gr, k * 4 + 3, none⟩) hwg.1 _) (Nat.le_refl _))⟩
    clear HKP hss hf hr r1 r2 r3 f2 f3 hln hul hxl HG3
    go_wp2
    go_ret
    exact HK.out
  have e3 : ((x3 : Int) == 3) = false := by simp; omega
  have HK := Lib.hid (HG3.out.fin (Q := P + 64) (by omega))
  clear HG3 h0 h1 h2 h3
  go_wp2
  go_ret
  exact HK.out

  /-- Returns owners, and a number. -/
  def OwP (g : Nat) (A : Option Addr) (n c : Nat) (bs : List Int) (Q : Nat) (w : World) (e : Ending) (w' : World) : Prop :=
    ∃ (B : Option Addr) (l m : Nat) (ds : List On) (o : Int), e = .returned (.tuple #[.slice B l m, .int .i64 o]) ∧ l = ds.length ∧ 1 ≤ l ∧ l ≤ 12 ∧ l ≤ m ∧ (∀ j, (ds.getD j default).cl.length ≤ 6 ∧ (ds.getD j default).cx.length ≤ 3) ∧ -1 ≤ o ∧ o ≤ 12 ∧ KpO w.heap.size B ds w' ∧ Rdr g A n c bs Q w' ∧ Frd g w.heap.size w w'

set_option maxRecDepth 100000 in
set_option maxHeartbeats 6400000 in
theorem ownerOf_any (g : Nat) (A : Option Addr) (n c : Nat) (bs : List Int) (P : Nat) (w : World) (h : Rdr g A n c bs P w) (hn : n = bs.length) (hby : BY bs) (hs : n ≤ 2000) (hP : P ≤ 400000) :
    Calls Try.prog 33 #[.pointer (some ⟨g, 0, none⟩)] w fun e w' => OwP g A n c bs (P + 70) w e w' := by
  have hgw := h.lt
  have HN := Lib.hid hn
  have HC := Lib.hid (someOwners_any g A n c bs P w h hn hby hs hP)
  clear h hn
  go_enter Try.func33, Try.ntmps33
  go_wp2_with fail
  refine HC.out.mono ?_
  rintro e w1 ⟨B, l, m, ds, rfl, h1, h2, h3, h4, h5, h6, h7, h8⟩
  have HL := Lib.hid h1
  have HLE := Lib.hid h5
  have HK1 := Lib.hid h6
  have HR1 := Lib.hid h7
  have HF1 := Lib.hid h8
  clear h1 h5 h6 h7 h8 HC
  go_wp2_with fail
  refine (pick_any g A n c bs (P + 64) (l : Int) w1 HR1.out HN.out hby hs (by omega) (by omega)).mono ?_
  rintro e w2 ⟨k, rfl, hk, _, hr2, ht2⟩
  have hkl : k < l := by have := hk (by omega); omega
  have HK2 := Lib.hid (HK1.out.pick ht2 hgw)
  have HR2 := Lib.hid hr2
  have HF2 := Lib.hid (HF1.out.trans (Frd.of_tch ht2 HF1.out.size))
  clear hk hr2 ht2 HK1 HR1 HF1
  go_wp2_with fail
  refine (pick_any g A n c bs (P + 64 + 1) (l : Int) w2 HR2.out HN.out hby hs (by omega) (by omega)).mono ?_
  rintro e w3 ⟨k3, rfl, hk3, _, hr3, ht3⟩
  have hkl3 : k3 < l := by have := hk3 (by omega); omega
  have HR3 := Lib.hid (hr3.alloc (.cells #[.int .i64 (k : Int), .int .i64 0, .int .i64 (k3 : Int), .int .i64 1, .int .i64 (-1), .int .i64 12] 3))
  have HK3 := Lib.hid ((HK2.out.pick ht3 hgw).below (below_new w3 (.cells #[.int .i64 (k : Int), .int .i64 0, .int .i64 (k3 : Int), .int .i64 1, .int .i64 (-1), .int .i64 12] 3)))
  have HF3 := Lib.hid ((HF2.out.trans (Frd.of_tch ht3 HF2.out.size)).trans (Frd.of_below (below_new w3 (.cells #[.int .i64 (k : Int), .int .i64 0, .int .i64 (k3 : Int), .int .i64 1, .int .i64 (-1), .int .i64 12] 3)) (by have := HF2.out.size; have := ht3.size; omega)))
  have hg3 : g < w3.heap.size := hr3.lt
  clear hk3 hr3 ht3 HK2 HR2 HF2
  go_wp2_with fail
  refine (one_any g A n c bs (P + 64 + 1 + 1) w3.heap.size 0 6 6 [(k : Int), 0, (k3 : Int), 1, -1, 12] _ HR3.out HN.out hby hs (by omega) rfl (by omega) (by omega) ?_ (by omega) (by simp)).mono ?_
  · intro j hj
    have : j = 0 ∨ j = 1 ∨ j = 2 ∨ j = 3 ∨ j = 4 ∨ j = 5 := by omega
    rcases this with rfl | rfl | rfl | rfl | rfl | rfl <;> go_simp
  rintro e w4 ⟨x4, rfl, hxm, hr4, ht4⟩
  have hx4 : -1 ≤ x4 ∧ x4 ≤ 12 := by
    simp only [List.mem_cons, List.not_mem_nil, or_false] at hxm
    omega
  have HKF : Hid (OwP g A n c bs (P + 70) w (.returned (.tuple #[.slice B l m, .int .i64 x4])) w4) :=
    ⟨B, l, m, ds, x4, rfl, HL.out, h2, h3, h4, HLE.out, hx4.1, hx4.2, HK3.out.pick ht4 hgw, hr4.mono (by omega), HF3.out.trans (Frd.of_tch ht4 HF3.out.size)⟩
  clear hxm hr4 ht4 HK3 HR3 HF3 hx4
  go_wp2
  go_ret2
  exact HKF.out
end Go.Proofs.Ytjhpknnhgbdkiaa
