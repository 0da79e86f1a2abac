/- slices.Backward over numbers, the round keeping some blocks. -/
import Derived.Test.YtjlfabfejnpaaaaS18
import Derived.Test.YtjlfabfejnpaaaaK5

namespace Go.Proofs.Ytjlfabfejnpaaaa
set_option linter.unusedSimpArgs false
set_option linter.unusedVariables false
open Go.RowKit Go.Shelf

attribute [local go_sem] Oper.semAt_some

/-- What a round must keep: the cells of some blocks. -/
def KC (S : Nat → Prop) (W W' : World) : Prop := ∀ (p : Addr) (x : Value), S p.block → W.cell? p = some x → W'.cell? p = some x
theorem KC.refl (S : Nat → Prop) (W : World) : KC S W W := fun _ _ _ h => h
theorem KC.tr {S : Nat → Prop} {A B C : World} (h : KC S A B) (k : KC S B C) : KC S A C := fun p x hs hx => k p x hs (h p x hs hx)
theorem KC.put {S : Nat → Prop} (W : World) (l : Nat) (o o' : Obj) (h : W.heap[l]? = some o) (hc : o.isCells = false) : KC S W (W.putObj l o') :=
  fun p x _ hx => cell_kept hx (grownBy_putObj' W l o') (fun r e => by cases e; exact ⟨o, h, hc⟩)
theorem KC.put' {S : Nat → Prop} {w : World} (W : World) (l : Nat) (o o' : Obj) (_ : w.heap.size ≤ l) (h : W.heap[l]? = some o) (hc : o.isCells = false) (_ : o.isWalk = false) : KC S W (W.putObj l o') := KC.put W l o o' h hc

set_option maxRecDepth 100000 in
set_option maxHeartbeats 2000000 in
theorem back1C_in (F : Fence) (n : Nat) (h7 : F.fn 78) (hro : F.round = none) (hn : 1 ≤ n) (l Bs b off len cap : Nat) (zs : List Int) (hreach : len ≤ 2000000) (S : Nat → Prop) (hb : S b) (hbs : S Bs) (J Jx : List (Below' len) → World → Prop)
    (hY : ∀ pre x W, J pre W → pre.length < len → YieldAt F (n - 1) Try.prog l #[.int .i64 ((len - 1 - x.1 : Nat) : Int), .int .i64 (zs[len - 1 - x.1]?.getD 0)] W fun e W' =>
      (e = .returned (.bool true) ∧ J (pre ++ [x]) W' ∧ KC S W W') ∨ (e = .returned (.bool false) ∧ Jx (pre ++ [x]) W'))
    (W : World) (hBs : W.cell? ⟨Bs, 0, none⟩ = some (.slice (some ⟨b, off, none⟩) len cap)) (hc : ∀ j, j < len → W.cell? ⟨b, off + j, none⟩ = some (.int .i64 (zs[j]?.getD 0))) (h0 : J [] W) :
    CallsIn F n Try.prog 78 #[.func (.yield l) #[] #[], .pointer (some ⟨Bs, 0, none⟩)] W fun e W' => (∃ v, e = .returned v) ∧
      ((∃ ys, ys = sub len len ∧ J ys W') ∨ (∃ pre, (∃ k, k ≤ len ∧ pre = sub len k) ∧ Jx pre W')) := by
  refine callsIn_of_wp Try.func78 rfl h7 ?_ hro
  simp only [Try.ntmps78, List.size_toArray, List.length_cons, List.length_nil, Nat.reduceAdd, Nat.reduceSub, Array.replicate_succ, Array.replicate_zero, List.push_toArray, List.append_toArray, List.nil_append, List.cons_append]
  gi_wp2
  gi_loopw [3] (fun i wr => ∃ k : Nat, k ≤ len ∧ i = .int .i64 ((len : Int) - 1 - k) ∧ J (sub len k) wr ∧ KC S W wr)
    (fun i _ => (intOf i + 1).toNat)
  case atStart => exact ⟨0, Nat.zero_le _, by simp, h0, KC.refl _ _⟩
  case round =>
    obtain ⟨k, hk, rfl, hJs, hnx⟩ := hrel
    have hbx := hnx _ _ hbs hBs
    by_cases hlt : k < len
    · obtain ⟨q, hq⟩ : ∃ q : Nat, q = len - 1 - k := ⟨_, rfl⟩
      have hqi : (len : Int) - 1 - k = (q : Int) := by omega
      have hql : q < len := by omega
      have hcx := hnx ⟨b, off + q, none⟩ _ hb (hc q hql)
      obtain ⟨fn, tmps, assign, body, hy, hR⟩ := hY _ ⟨k, hlt⟩ wr hJs (by rw [sub_length _ _ hk]; exact hlt)
      dsimp only at hy
      rw [← hq] at hy
      have hst := sub_succ len k hlt
      have HST := Lib.hid hst
      have HQ := Lib.hid hqi
      rw [hqi]
      clear hst hq hqi
      gi_wp2
      refine hR.mono ?_
      rintro e W3 (⟨rfl, hJ3, hk3⟩ | ⟨rfl, hJx3⟩)
      · gi_wp2
        go_roundw
        case rel => exact ⟨k + 1, by omega, by have := HQ.out; go_num, by rw [HST.out]; exact hJ3, hnx.tr hk3⟩
        case measure => have := HQ.out; simp [intOf]
      · gi_wp2
        refine bodyPost_ret (results_none rfl _ _ _) rfl ?_
        exact ⟨⟨_, rfl⟩, .inr ⟨_, ⟨k + 1, by omega, HST.out.symm⟩, hJx3⟩⟩
    · obtain rfl : k = len := by omega
      have hneg : decide ((0 : Int) ≤ (k : Int) - 1 - k) = false := decide_eq_false (by omega)
      gi_wp2
      go_end0
      exact ⟨⟨_, rfl⟩, .inl ⟨_, rfl, hJs⟩⟩

theorem backC_stops (F : Fence) (n : Nat) (h7 : F.fn 78) (hro : F.round = none) (hn : 1 ≤ n) (Bs : Nat) (S : Nat → Prop) (hbs : S Bs) (A : Option Addr) (len cap : Nat) (zs : List Int) (hl : len = zs.length) (hreach : len ≤ 2000000) (w : World) (hBs : Bs < w.heap.size) 
    (hc : w.cell? ⟨Bs, 0, none⟩ = some (.slice A len cap)) (hI : IS w w.heap.size A zs) (hA : ∀ b off, A = some ⟨b, off, none⟩ → S b) :
    SeqStopsK F n Try.prog 78 #[.pointer (some ⟨Bs, 0, none⟩)] (fun x : Below' len => #[Value.int .i64 ((len - 1 - x.1 : Nat) : Int), Value.int .i64 (zs[len - 1 - x.1]?.getD 0)]) (KC S) (fun ys => ys = sub len len)
      (fun pre => ∃ k, k ≤ len ∧ pre = sub len k) len w := fun l J Jx W hW _ _ hY h0 => by
  have hc' := (hW.cell (p := ⟨Bs, 0, none⟩) hBs).trans hc
  rcases Nat.eq_zero_or_pos len with rfl | hpos
  · exact (back1_nil_in F n h7 hro l Bs A cap J W hc' h0).mono fun e W' ⟨he, hj⟩ => ⟨he, .inl ⟨_, rfl, hj⟩⟩
  · obtain ⟨b, off, rfl, hb, hcs⟩ := hI (by omega)
    refine (back1C_in F n h7 hro hn l Bs b off len cap zs hreach S (hA b off rfl) hbs J Jx hY W hc' (fun j hj => ?_) h0).mono ?_
    · have := (hW.cell (p := ⟨b, off + j, none⟩) (by show b < w.heap.size; exact hb)).trans (hcs j (by omega))
      simpa [List.getD] using this
    · rintro e W' ⟨he, ⟨ys, rfl, hj⟩ | ⟨pre, ⟨k, hk, rfl⟩, hj⟩⟩
      · exact ⟨he, .inl ⟨_, rfl, hj⟩⟩
      · exact ⟨he, .inr ⟨_, ⟨k, hk, rfl⟩, hj⟩⟩
end Go.Proofs.Ytjlfabfejnpaaaa
