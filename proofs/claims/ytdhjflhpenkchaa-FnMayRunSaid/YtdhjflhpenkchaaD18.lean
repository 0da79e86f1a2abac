/- What is drawn to be written: two lists that grow side by side beside the reader. -/
import Derived.Test.YtdhjflhpenkchaaD9
import Derived.Test.YtdhjflhpenkchaaD8
import Derived.Test.YtdhjflhpenkchaaH21
import Derived.Maps.AppendAt

namespace Go.Proofs.Ytdhjflhpenkchaa
set_option linter.unusedSimpArgs false
set_option linter.unusedVariables false
open Go.RowKit

/-- Two rows of the call's own in blocks of their own; the numbers of the first are nodes. -/
structure SwI (base k : Nat) (vN vV : Value) (xs ys : List Int) (w : World) : Prop where
  n : w.ownsRow base 3 1 vN xs.length (xs.map (Value.int .i64))
  v : w.ownsRow base 3 1 vV ys.length (ys.map (Value.int .i64))
  ne : vN.ownBlock ≠ vV.ownBlock
  ok : ∀ x ∈ xs, 0 ≤ x ∧ x < (k : Int)
structure Bn (g : Nat) (A : Option Addr) (n c : Nat) (bs : List Int) (lo hi : Nat) (Ag : Option Addr) (k cg : Nat) (gs : List Nd) (s : Nat) (w0 : World) (Q : Nat) (vN vV : Value) (xs ys : List Int) (w : World) : Prop where
  rd : Rdr g A n c bs Q w
  gr : As lo hi (OwG lo hi (.slice Ag k cg) k gs) w
  bx : As s (s + 1) (fun w' => w'.cell? ⟨s, 0, none⟩ = some (.slice Ag k cg)) w
  fr : Frd g s w0 w
  ro : SwI (s + 1) k vN vV xs ys w
section
variable {g : Nat} {A : Option Addr} {n c : Nat} {bs : List Int} {lo hi : Nat} {Ag : Option Addr} {k cg : Nat} {gs : List Nd} {s : Nat} {w0 : World} {Q Q' : Nat} {vN vV v9 : Value} {xs ys : List Int} {w w' : World} {z : Int}
theorem Bn.turn (h : Bn g A n c bs lo hi Ag k cg gs s w0 Q vN vV xs ys w) (hr : Rdr g A n c bs Q' w') (ht : Tch g (g + 1) w w') (h1 : g < lo) (h2 : g < s) : Bn g A n c bs lo hi Ag k cg gs s w0 Q' vN vV xs ys w' :=
  ⟨hr, h.gr.turn ht (.inl (by omega)), h.bx.turn ht (.inl (by omega)), h.fr.trans (Frd.of_tch ht (by have := h.bx.le; omega)),
   own_keep h.ro.n fun q a b => ht.block q b (.inr (by omega)), own_keep h.ro.v fun q a b => ht.block q b (.inr (by omega)), h.ro.ne, h.ro.ok⟩
theorem Bn.step (h : Bn g A n c bs lo hi Ag k cg gs s w0 Q vN vV xs ys w) (hb : Below w.heap.size w w') : Bn g A n c bs lo hi Ag k cg gs s w0 Q vN vV xs ys w' :=
  ⟨h.rd.step hb, h.gr.step hb, h.bx.step hb, h.fr.trans (Frd.of_below hb (by have := h.bx.le; omega)), own_below h.ro.n hb, own_below h.ro.v hb, h.ro.ne, h.ro.ok⟩
theorem Bn.alloc (h : Bn g A n c bs lo hi Ag k cg gs s w0 Q vN vV xs ys w) (o : Obj) : Bn g A n c bs lo hi Ag k cg gs s w0 Q vN vV xs ys (w.alloc o) := h.step ((Below.refl _ _).alloc (Nat.le_refl _) o)
theorem Bn.snocN (h : Bn g A n c bs lo hi Ag k cg gs s w0 Q vN vV xs ys w) (hs : hi ≤ s) (hg : g < s) (ho : w'.ownsRow (s + 1) 3 1 v9 (xs.length + 1) (xs.map (Value.int .i64) ++ [.int .i64 z])) (hgrow : w.grownBy w' vN.ownBlock) (hblk : v9.ownBlock = vN.ownBlock ∨ v9.ownBlock = some w.heap.size) (hz0 : 0 ≤ z) (hz : z < (k : Int)) :
    Bn g A n c bs lo hi Ag k cg gs s w0 Q v9 vV (xs ++ [z]) ys w' := by
  have hb : Below (s + 1) w w' := (Below.refl _ _).grown hgrow h.bx.le (fun q hq => (h.ro.n.lt q hq).1)
  have ht : Tch (s + 1) w.heap.size w w' := Tch.of_grown hgrow fun q hq => h.ro.n.lt q hq
  refine ⟨h.rd.turn ht (by omega), h.gr.turn ht (.inr (by omega)), h.bx.turn ht (.inr (Nat.le_refl _)), h.fr.trans (Frd.of_below hb (by omega)), by simpa using ho, h.ro.v.kept hgrow (.inr fun e => h.ro.ne e.symm), ?_, ?_⟩
  · rcases hblk with e | e
    · rw [e]; exact h.ro.ne
    · rw [e]; intro e2
      have := (h.ro.v.lt _ e2.symm).2
      omega
  · intro x hx
    rcases List.mem_append.1 hx with h1 | h1
    · exact h.ro.ok x h1
    · simp at h1; omega
theorem Bn.snocV (h : Bn g A n c bs lo hi Ag k cg gs s w0 Q vN vV xs ys w) (hs : hi ≤ s) (hg : g < s) (ho : w'.ownsRow (s + 1) 3 1 v9 (ys.length + 1) (ys.map (Value.int .i64) ++ [.int .i64 z])) (hgrow : w.grownBy w' vV.ownBlock) (hblk : v9.ownBlock = vV.ownBlock ∨ v9.ownBlock = some w.heap.size) :
    Bn g A n c bs lo hi Ag k cg gs s w0 Q vN v9 xs (ys ++ [z]) w' := by
  have hb : Below (s + 1) w w' := (Below.refl _ _).grown hgrow h.bx.le (fun q hq => (h.ro.v.lt q hq).1)
  have ht : Tch (s + 1) w.heap.size w w' := Tch.of_grown hgrow fun q hq => h.ro.v.lt q hq
  refine ⟨h.rd.turn ht (by omega), h.gr.turn ht (.inr (by omega)), h.bx.turn ht (.inr (Nat.le_refl _)), h.fr.trans (Frd.of_below hb (by omega)), h.ro.n.kept hgrow (.inr h.ro.ne), by simpa using ho, ?_, h.ro.ok⟩
  rcases hblk with e | e
  · rw [e]; exact h.ro.ne
  · rw [e]; intro e2
    have := (h.ro.n.lt _ e2).2
    omega
end
end Go.Proofs.Ytdhjflhpenkchaa
