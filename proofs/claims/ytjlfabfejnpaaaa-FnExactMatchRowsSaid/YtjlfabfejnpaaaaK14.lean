/- Valid rows of keys: both sides. -/
import Derived.Test.YtjlfabfejnpaaaaK4
import Derived.Test.YtjlfabfejnpaaaaC3
import Derived.Test.YtjlfabfejnpaaaaS24
import Derived.Maps.AppendAt

namespace Go.Proofs.Ytjlfabfejnpaaaa
set_option linter.unusedSimpArgs false
set_option linter.unusedVariables false
open Go.RowKit

/-- The keys and the numbers of rows. -/
def kyW (rs : List Rk) : List Int := rs.map (·.k)
def idW (rs : List Rk) : List Int := rs.map (·.a)
/-- Rows are valid when nx is the next free number. -/
def rowsOK (rs : List Rk) (nx : Int) : Bool := rng nx 0 100 && (validK (kyW rs) && difB (nx - 1) (idW rs))

theorem kyW_get (rs : List Rk) (j : Nat) : (kyW rs).getD j 0 = (rs.getD j default).k := by
  unfold kyW
  rcases Nat.lt_or_ge j rs.length with h | h
  · simp [List.getD, h]
  · simp [List.getD, h]; rfl
theorem idW_get (rs : List Rk) (j : Nat) : (idW rs).getD j 0 = (rs.getD j default).a := by
  unfold idW
  rcases Nat.lt_or_ge j rs.length with h | h
  · simp [List.getD, h]
  · simp [List.getD, h]; rfl
theorem kyW_len (rs : List Rk) : (kyW rs).length = rs.length := by simp [kyW]
theorem idW_len (rs : List Rk) : (idW rs).length = rs.length := by simp [idW]
theorem kyW_step (rs : List Rk) (k : Nat) (h : k < rs.length) : kyW (rs.take (k + 1)) = kyW (rs.take k) ++ [(rs.getD k default).k] := by
  unfold kyW; rw [List.take_succ_eq_append_getElem h, List.map_append]; simp only [List.map_cons, List.map_nil, List.getD, List.getElem?_eq_getElem h, Option.getD_some]
theorem idW_step (rs : List Rk) (k : Nat) (h : k < rs.length) : idW (rs.take (k + 1)) = idW (rs.take k) ++ [(rs.getD k default).a] := by
  unfold idW; rw [List.take_succ_eq_append_getElem h, List.map_append]; simp only [List.map_cons, List.map_nil, List.getD, List.getElem?_eq_getElem h, Option.getD_some]

theorem firsts_nodup (l : List Int) : (firsts l).Nodup := by
  refine firsts_inv' l (fun a => a.Nodup) List.nodup_nil ?_
  intro acc x h
  split
  · exact h
  · rename_i hn
    rw [List.nodup_append]
    refine ⟨h, by simp, ?_⟩
    intro a ha b hb e
    simp at hb
    subst hb; subst e
    exact hn ha
where
  firsts_inv' (l : List Int) (P : List Int → Prop) (h0 : P []) (hs : ∀ acc x, P acc → P (if x ∈ acc then acc else acc ++ [x])) : P (firsts l) := by
    unfold firsts
    have key : ∀ (l acc : List Int), P acc → P (l.foldl (fun acc x => if x ∈ acc then acc else acc ++ [x]) acc) := by
      intro l
      induction l with
      | nil => intro acc h; exact h
      | cons x l ih => intro acc h; exact ih _ (hs acc x h)
    exact key l [] h0

theorem firsts_eq (l : List Int) : decide ((firsts l).length = l.length) = decide l.Nodup := by
  have key : ∀ (l acc : List Int), (l.foldl (fun acc x => if x ∈ acc then acc else acc ++ [x]) acc).length ≤ acc.length + l.length ∧ ((acc ++ l).Nodup → l.foldl (fun acc x => if x ∈ acc then acc else acc ++ [x]) acc = acc ++ l) ∧ (acc.Nodup → ¬ (acc ++ l).Nodup → (l.foldl (fun acc x => if x ∈ acc then acc else acc ++ [x]) acc).length < acc.length + l.length) := by
    intro l
    induction l with
    | nil => intro acc; exact ⟨Nat.le_refl _, fun _ => by simp, fun h h2 => absurd (by simpa using h) h2⟩
    | cons x l ih =>
      intro acc
      simp only [List.foldl_cons]
      by_cases hx : x ∈ acc
      · rw [if_pos hx]
        obtain ⟨h1, h2, h3⟩ := ih acc
        refine ⟨by simp; omega, fun hn => ?_, fun _ _ => by simp; omega⟩
        rw [List.nodup_append] at hn
        exact absurd rfl (hn.2.2 x hx x (by simp))
      · rw [if_neg hx]
        obtain ⟨h1, h2, h3⟩ := ih (acc ++ [x])
        have e : acc ++ [x] ++ l = acc ++ x :: l := by simp
        rw [e] at h2 h3
        refine ⟨by simp at h1 ⊢; omega, h2, fun ha hn => ?_⟩
        have hax : (acc ++ [x]).Nodup := by
          rw [List.nodup_append]
          refine ⟨ha, by simp, ?_⟩
          intro a h b hb e2
          simp at hb
          rw [e2, hb] at h
          exact hx h
        have := h3 hax hn
        simp at this ⊢
        omega
  obtain ⟨_, h2, h3⟩ := key l []
  simp only [List.nil_append, List.length_nil, Nat.zero_add] at h2 h3
  by_cases hn : l.Nodup
  · rw [decide_eq_true hn]
    have : firsts l = l := h2 hn
    rw [this]; simp
  · rw [decide_eq_false hn]
    have : (firsts l).length < l.length := h3 List.nodup_nil hn
    exact decide_eq_false (by omega)

/-- Two rows lie apart. -/
def ApV (v u : Value) : Prop := ∀ k, v.ownBlock = some k → u.ownBlock ≠ some k
theorem ApV.symm {v u : Value} (h : ApV v u) : ApV u v := fun k h1 h2 => h k h2 h1
theorem ApV.grow {w w3 : World} {B : Nat} {v v' u : Value} {G : List Int} (h : ApV v u) (hu : OwnI w B u G) (hg : w.grownBy w3 v.ownBlock) {s : Nat} (hb : v'.ownBlock = v.ownBlock ∨ v'.ownBlock = some s) (hs : w.heap.size ≤ s) : OwnI w3 B u G ∧ ApV v' u := by
  refine ⟨World.ownsRow.kept hu hg ?_, fun k h1 h2 => ?_⟩
  · cases hub : u.ownBlock with
    | none => exact .inl rfl
    | some k => exact .inr fun e => h k e.symm hub
  · rcases hb with e | e
    · exact h k (e ▸ h1) h2
    · rw [e] at h1
      cases h1
      have := (World.ownsRow.lt hu _ h2).2
      omega

theorem WS.at_ {w : World} {B : Nat} {A : Option Addr} {ps : List Rk} (h : WS w B A ps) (k : Nat) (hk : k < ps.length) : ∃ b off, A = some ⟨b, off, none⟩ ∧ b < B ∧ w.cell? ⟨b, off + k * 2, none⟩ = some (.int .i64 (ps.getD k default).k) ∧ w.cell? ⟨b, off + k * 2 + 1, none⟩ = some (.int .i64 (ps.getD k default).a) := by
  obtain ⟨b, off, e, hb, hc⟩ := h (by omega)
  exact ⟨b, off, e, hb, hc k hk⟩
end Go.Proofs.Ytjlfabfejnpaaaa
