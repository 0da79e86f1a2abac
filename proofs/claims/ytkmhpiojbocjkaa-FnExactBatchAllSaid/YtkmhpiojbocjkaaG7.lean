/- Words for the walks of laws, one for each kind of argument and answer. -/
import Derived.Test.YtkmhpiojbocjkaaG3
import Derived.Test.YtkmhpiojbocjkaaG4
import Derived.Test.YtkmhpiojbocjkaaLW
namespace Go.Proofs.Ytkmhpiojbocjkaa
set_option linter.unusedSimpArgs false
set_option linter.unusedVariables false
open Go.RowKit

/-- Of what was there when the law began nothing has turned. -/
def Bl (W wk : World) : Prop := Below W.heap.size W wk
theorem Bl.step {W wk wl : World} (h : Bl W wk) (hb : Below wk.heap.size wk wl) : Bl W wl := Below.trans h (hb.mono (Below.size h))
theorem Bl.alloc {W wk : World} (h : Bl W wk) (o : Obj) : Bl W (wk.alloc o) := h.step ((Below.refl _ _).alloc (Nat.le_refl _) o)
theorem Bl.turn {a b : Nat} {W wk wl : World} (h : Bl W wk) (ht : Tch a b wk wl) (ha : W.heap.size ≤ a) : Bl W wl := Below.trans h (ht.below ha (Below.size h))
theorem Bl.refl (W : World) : Bl W W := Below.refl _ _
theorem Bl.le {W wk : World} (h : Bl W wk) : W.heap.size ≤ wk.heap.size := Below.size h

theorem OwG.ncap {lo hi n c : Nat} {A : Option Addr} {gs : List Nd} {w : World} (h : OwG lo hi (.slice A n c) n gs w) : n ≤ c := by
  obtain ⟨_, xs, h1, _⟩ := h
  rcases h1.1.2 with ⟨hv, hz⟩ | ⟨g, cap, cur, hv, _, _, h2, _⟩
  · omega
  · simp only [Value.slice.injEq] at hv
    obtain ⟨_, _, rfl⟩ := hv
    exact h2

/-- A graph of the call's own, in blocks lo to hi - 1. -/
theorem graph_start {lo n c : Nat} {A : Option Addr} {gs : List Nd} {w : World} (h : OwG lo w.heap.size (.slice A n c) n gs w) : As lo w.heap.size (OwG lo w.heap.size (.slice A n c) n gs) w := ⟨h, Nat.le_refl _, OwG.loc _ _ _ _ _⟩
theorem As.graph {lo hi n c : Nat} {A : Option Addr} {gs : List Nd} {w : World} (h : As lo hi (OwG lo hi (.slice A n c) n gs) w) : GS w w.heap.size A gs := h.it.nodes.more h.le

/-- A row of numbers of the call's own, in blocks lo to hi - 1. -/
theorem row_start {lo size n : Nat} {e : TypeId} {v : Value} {xs : List Value} {w : World} (h : w.ownsRow lo e size v n xs) : As lo w.heap.size (OwR lo w.heap.size e size v n xs) w := ⟨OwR.start h, Nat.le_refl _, OwR.loc _ _ _ _ _ _ _⟩
theorem As.ints {lo hi n c : Nat} {A : Option Addr} {xs : List Int} {w : World} (h : As lo hi (OwR lo hi 3 1 (.slice A n c) n (xs.map (Value.int .i64))) w) : IS w w.heap.size A xs := h.it.ints.more h.le
theorem As.parts {lo hi n c : Nat} {A : Option Addr} {ps : List Pt} {w : World} (h : As lo hi (OwR lo hi 117 5 (.slice A n c) n (ps.flatMap Pt.cells)) w) : PS w w.heap.size A ps := h.it.parts.more h.le

/-- What a mark of an answer leaves. -/
def MkS (lo hi : Nat) (P : World → Prop) (w : World) (k' : Int) (e : Ending) (w' : World) : Prop := e = .returned (.int .i64 k') ∧ As lo hi P w' ∧ Tch lo hi w w'

theorem markw_graph (lo hi n c : Nat) (A : Option Addr) (gs : List Nd) (k : Int) (w : World) (h : As lo hi (OwG lo hi (.slice A n c) n gs) w) (hb : GB gs) (hk : 0 ≤ k) (hk' : k ≤ 562949953421312) :
    Calls Try.prog 18 #[.agg #[.slice A n c], .int .i64 k] w fun e w' => MkW lo hi w k (k + 6000000000000) e w' := by
  have hn : n ≤ 1048576 := by rw [h.it.1]; exact hb.1
  refine (laws_markGraph lo hi n c A k w (h.it.weak hb) hn hk hk' h.le).mono ?_
  rintro e w' ⟨k', he, h1, h2, ht⟩
  exact ⟨k', he, h1, by omega, ht⟩

theorem sz_formula (A : Option Addr) (n c : Nat) (ps : List Pt) (l : Int) (w : World) (hn : n = ps.length) (hl0 : 0 ≤ l) (hl : l ≤ 2000000) (hm : n ≤ 9223372036854775807) :
    Calls Try.prog 51 #[.agg #[.slice A n c], .int .i64 l] w fun e w' => e = .returned (.int .i64 (leftOf l ps.length)) ∧ Below w.heap.size w w' := by
  have e : leftOf l ps.length = if l - n < 0 then -1 else l - n := by
    unfold leftOf
    rw [hn]
    split <;> split <;> omega
  rw [e]
  exact laws_szFormula A n c l w hl0 hl hm

theorem leftOf_no {l : Int} {s : Nat} (h : ¬ (s : Int) ≤ l) : leftOf l s = -1 := by unfold leftOf; rw [if_neg h]
theorem leftOf_ok {l : Int} {s : Nat} (h : (s : Int) ≤ l) : leftOf l s = l - s := by unfold leftOf; rw [if_pos h]
theorem gb_of {gs : List Nd} (h : ((gsz gs : Nat) : Int) ≤ 1048576) : GB gs := GB.of_gsz (by omega)
end Go.Proofs.Ytkmhpiojbocjkaa
