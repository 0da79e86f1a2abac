/- RenameReads: plain facts, slices.Clone, impl's side. -/
import Derived.Test.YteeljfblncffpaaA24
namespace Go.Proofs.Yteeljfblncffpaa
set_option linter.unusedSimpArgs false
set_option linter.unusedVariables false
open Go.RowKit

/-- A part that reads another node. -/
def ren (to : List Int) (p : Pt) : Pt := if p.k == 1 then { p with n := to.getD p.n.toNat 0 } else p

/-- The first k parts are renamed. -/
def mix (to : List Int) (ps : List Pt) (k : Nat) : List Pt := (ps.take k).map (ren to) ++ ps.drop k

/-- The nodes serve the formula. -/
def canRen (ps : List Pt) (to : List Int) : Bool := validF ps && ((decide (to.length ≤ 10) && allR to 0 9) && eachOK ps to.length)

/-- What RenameReads answers. -/
def renF (ps : List Pt) (to : List Int) : List Pt := if canRen ps to then ps.map (ren to) else []

theorem mix_zero (to : List Int) (ps : List Pt) : mix to ps 0 = ps := by simp [mix]
theorem mix_all (to : List Int) (ps : List Pt) (n : Nat) (h : n = ps.length) : mix to ps n = ps.map (ren to) := by subst h; simp [mix]
theorem mix_len (to : List Int) (ps : List Pt) (k : Nat) : (mix to ps k).length = ps.length := by simp [mix]; omega

theorem mix_getD (to : List Int) (ps : List Pt) (k : Nat) (h : k < ps.length) : (mix to ps k).getD k default = ps.getD k default := by
  have h1 : ((ps.take k).map (ren to)).length = k := by simp; omega
  unfold mix
  simp only [List.getD]
  rw [List.getElem?_append_right (by omega), h1, Nat.sub_self, List.getElem?_drop, Nat.add_zero]

theorem mix_succ (to : List Int) (ps : List Pt) (k : Nat) (h : k < ps.length) : mix to ps (k + 1) = (mix to ps k).set k (ren to (ps.getD k default)) := by
  have h1 : ((ps.take k).map (ren to)).length = k := by simp; omega
  have h2 : ps.drop k = ps.getD k default :: ps.drop (k + 1) := by rw [List.drop_eq_getElem_cons h]; simp [List.getD, h]
  unfold mix
  rw [take_succ_getD ps k h, List.map_append, h2, List.set_append_right _ _ (by omega), h1]
  simp

theorem mix_keep (to : List Int) (ps : List Pt) (k : Nat) (h : k < ps.length) (hk : ((ps.getD k default).k == 1) = false) : mix to ps (k + 1) = mix to ps k := by
  have h1 : ren to (ps.getD k default) = ps.getD k default := by unfold ren; rw [hk]; rfl
  rw [mix_succ to ps k h, h1, ← mix_getD to ps k h]
  apply List.ext_getElem?
  intro i
  rw [List.getElem?_set]
  split
  · next e =>
    rw [← e]
    have : k < (mix to ps k).length := by rw [mix_len]; exact h
    simp [this, List.getD]
  · rfl

theorem cells_set4 (qs : List Pt) (k : Nat) (h : k < qs.length) (x : Int) : (qs.flatMap Pt.cells).set (k * 5 + 4) (.int .i64 x) = (qs.set k { qs.getD k default with n := x }).flatMap Pt.cells := by
  induction qs generalizing k with
  | nil => simp at h
  | cons q l ih =>
    match k with
    | 0 => simp [List.flatMap_cons, Pt.cells]
    | k + 1 =>
      have hk : k < l.length := by simpa using h
      have e : (k + 1) * 5 + 4 = q.cells.length + (k * 5 + 4) := by simp [Pt.cells]; omega
      rw [List.flatMap_cons, e, List.set_append_right _ _ (by omega), Nat.add_sub_cancel_left, ih k hk]
      simp [List.flatMap_cons]

theorem news_of_parts {w : World} {b off : Nat} {ps : List Pt} (hc : ∀ j, j < ps.length →
    w.cell? ⟨b, off + j * 5, none⟩ = some (.int .i64 (ps.getD j default).k) ∧ w.cell? ⟨b, off + j * 5 + 1, none⟩ = some (.int .i64 (ps.getD j default).a) ∧
    w.cell? ⟨b, off + j * 5 + 2, none⟩ = some (.int .i64 (ps.getD j default).b) ∧ w.cell? ⟨b, off + j * 5 + 3, none⟩ = some (.int .i64 (ps.getD j default).c) ∧
    w.cell? ⟨b, off + j * 5 + 4, none⟩ = some (.int .i64 (ps.getD j default).n)) :
    ∀ j u, (ps.flatMap Pt.cells)[j]? = some u → w.cell? ((⟨b, off, none⟩ : Addr).add j) = some u := by
  intro j u hu
  have hadd : (⟨b, off, none⟩ : Addr).add j = ⟨b, off + j, none⟩ := by unfold Addr.add; split <;> simp_all
  rw [hadd]
  have hj : j < ps.length * 5 := by
    rw [← length_cells]
    rcases Nat.lt_or_ge j (ps.flatMap Pt.cells).length with h | h
    · exact h
    · rw [List.getElem?_eq_none h] at hu; cases hu
  obtain ⟨q, r, hq, hr⟩ : ∃ q r, j = q * 5 + r ∧ r < 5 := ⟨j / 5, j % 5, by omega, by omega⟩
  obtain ⟨h0, h1, h2, h3, h4⟩ := hc q (by omega)
  obtain ⟨g0, g1, g2, g3, g4⟩ := cells_get ps q (by omega)
  subst hq
  match r, hr with
  | 0, _ => rw [Nat.add_zero] at hu ⊢; rw [g0] at hu; rw [h0]; exact hu
  | 1, _ => rw [g1] at hu; rw [← Nat.add_assoc, h1]; exact hu
  | 2, _ => rw [g2] at hu; rw [← Nat.add_assoc, h2]; exact hu
  | 3, _ => rw [g3] at hu; rw [← Nat.add_assoc, h3]; exact hu
  | 4, _ => rw [g4] at hu; rw [← Nat.add_assoc, h4]; exact hu

theorem news_alloc {w : World} {b off : Nat} {xs : List Value} (h : ∀ j u, xs[j]? = some u → w.cell? ((⟨b, off, none⟩ : Addr).add j) = some u) (hb : b < w.heap.size) (o : Obj) : ∀ j u, xs[j]? = some u → (w.alloc o).cell? ((⟨b, off, none⟩ : Addr).add j) = some u := by
  intro j u hu
  have hadd : (⟨b, off, none⟩ : Addr).add j = ⟨b, off + j, none⟩ := by unfold Addr.add; split <;> simp_all
  have h1 := h j u hu
  rw [hadd] at h1 ⊢
  rw [World.cell?_alloc_lt _ _ _ hb]
  exact h1

theorem cells_one (ps : List Pt) : ∀ u ∈ ps.flatMap Pt.cells, u.oneCell' = true := by
  intro u hu
  obtain ⟨p, _, hp⟩ := List.mem_flatMap.1 hu
  simp [Pt.cells] at hp
  rcases hp with rfl | rfl | rfl | rfl | rfl <;> rfl

/-- Returns a slice of fresh parts. -/
def RetQ (w : World) (ps : List Pt) (e : Ending) (w' : World) : Prop := ∃ v, e = .returned v ∧ w'.ownsRow w.heap.size 51 5 v ps.length (ps.flatMap Pt.cells) ∧ Below w.heap.size w w'

set_option maxRecDepth 100000 in
set_option maxHeartbeats 400000 in
theorem clone_parts (A : Option Addr) (n c : Nat) (ps : List Pt) (w : World) (B : Nat) (hB : B ≤ w.heap.size) (hn : n = ps.length) (h1 : 1 ≤ n) (h : PS w B A ps) (hs : n ≤ 2000000) :
    Calls Try.prog 63 #[.slice A n c] w fun e w' => RetQ w ps e w' := by
  obtain ⟨i1, hi1, hy0, hy1, hy2⟩ := info_parts info_part
  obtain ⟨b, off, rfl, hbB, hc⟩ := h (by omega)
  have HC := Lib.hid hc
  have HN := Lib.hid hn
  have hbw : b < w.heap.size := by omega
  clear h hc hn
  go_enter Try.func63, Try.ntmps63
  have hnew := World.ownsRow_lit (e := 51) (size := 5) (base := w.heap.size) w #[] 0 (Nat.le_refl _) (by unfold maxLen; omega) (by simp)
  have HNEW := Lib.hid hnew
  have qT : ∀ (w : World) (a : Option Addr) (n c : Nat), (binOp .eql 27 (.slice a n c) (.slice none 0 0)).run Try.prog w = .ok (.bool a.isNone) w := fun w a n c => Lib.run_eql_slice_nil w _ _ a n c 0 0 Try.underlying27
  clear hnew
  go_wp2_with (at_builtin; refine wpList_append_own_at _ rfl _ _ 27 rfl w.heap.size 51 i1 _ 5 40 Try.underlying27 hi1 hy0 hy1 hy2 rfl (by decide) _ _ _ rfl HNEW.out ⟨b, off, none⟩ n c (ps.flatMap Pt.cells) rfl ?d1 ?d6 (cells_one ps) ?d3 ?d4 ?d5 ?_)
  case d1 => rw [← List.length_flatMap, length_cells, HN.out]
  case d6 =>
    intro j u hu
    have h1 := news_of_parts (w := w) HC.out j u hu
    have hadd : (⟨b, off, none⟩ : Addr).add j = ⟨b, off + j, none⟩ := by unfold Addr.add; split <;> simp_all
    rw [hadd] at h1
    exact h1
  case d3 => unfold maxLen; omega
  case d4 => omega
  intro v' w3 hown' hgrow _ hwhere
  have HO := Lib.hid hown'
  have HG := Lib.hid hgrow
  clear hown' hgrow hwhere
  go_wp2
  go_ret
  refine ⟨v', rfl, ?_, ?_⟩
  · have h1 := HO.out
    rw [← HN.out]
    simpa using h1
  · exact ((Below.refl _ _).alloc (Nat.le_refl _) _).grown HG.out (by simp) (fun k hk => by simp [Value.ownBlock] at hk; omega)
end Go.Proofs.Yteeljfblncffpaa
