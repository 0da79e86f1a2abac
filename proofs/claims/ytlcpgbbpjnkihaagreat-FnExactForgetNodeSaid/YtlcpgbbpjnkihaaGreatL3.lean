/- Words and contracts for memory that the texts behind use. -/
import Derived.Test.YtlcpgbbpjnkihaaGreatL0
import Derived.Test.YtlcpgbbpjnkihaaGreatL1
import Derived.Test.YtlcpgbbpjnkihaaGreatL2
import Derived.WalkKit
import Derived.Laws.OwnMore
import Derived.Deep.Draws
import Derived.Test.YtlcpgbbpjnkihaaGreatProg
import Derived.WalkSpells
import Derived.WalkLawsBesides
import Derived.Outline
import Derived.Lib.Hide
import Derived.BigQuiet
import Derived.Deep.QuietTactic
import Derived.StillTailTactics
import Derived.Deep.LoopGhost
import Derived.Laws.MakeOwn
import Derived.WalkSmall
import Derived.RegionTactic
import Derived.BigRegion
import Derived.Deep.RegionWith
import Derived.Deep.RegionHeld3
import Derived.Maps.AppendAt
import Derived.Laws.CopyOwn
import Derived.Deep.Cut
import Derived.Deep.AppendLies

namespace Go.Proofs.YtlcpgbbpjnkihaaGreat
set_option linter.unusedSimpArgs false
set_option linter.unusedVariables false
open Go.RowKit
theorem below_of_drew {C : Nat} {w w' : World} (h : Below C w.drew w') : Below C w w' := ⟨h.os, h.tape, h.output, h.size, h.block⟩
end Go.Proofs.YtlcpgbbpjnkihaaGreat

namespace Go.Proofs.YtlcpgbbpjnkihaaGreat
set_option linter.unusedSimpArgs false
set_option linter.unusedVariables false
open Go.RowKit
theorem IS.take {w : World} {B : Nat} {A : Option Addr} {xs : List Int} (h : IS w B A xs) (k : Nat) : IS w B A (xs.take k) := by
  intro hn
  rw [List.length_take] at hn
  obtain ⟨b, off, e, hb, hc⟩ := h (by omega)
  refine ⟨b, off, e, hb, fun j hj => ?_⟩
  rw [List.length_take] at hj
  have : (xs.take k).getD j 0 = xs.getD j 0 := by simp only [List.getD, List.getElem?_take, if_pos (show j < k by omega)]
  rw [this]
  exact hc j (by omega)
end Go.Proofs.YtlcpgbbpjnkihaaGreat

namespace Go.Proofs.YtlcpgbbpjnkihaaGreat
set_option linter.unusedSimpArgs false
set_option linter.unusedVariables false
open Go.RowKit
/-- Returns lists of numbers in fresh blocks. -/
def RetSS (w : World) (xss : List (List Int)) (e : Ending) (w' : World) : Prop := ∃ v, e = .returned v ∧ OwSS w.heap.size w'.heap.size v xss.length xss w' ∧ Below w.heap.size w w'
theorem RetSS.nil {w w' : World} (hb : Below w.heap.size w w') : RetSS w [] (.returned (.slice none 0 0)) w' := ⟨_, rfl, OwSS.nil _ _ _, hb⟩
end Go.Proofs.YtlcpgbbpjnkihaaGreat

namespace Go.Proofs.YtlcpgbbpjnkihaaGreat
set_option linter.unusedSimpArgs false
set_option linter.unusedVariables false
open Go.RowKit
theorem info_ints1 : (Tryz.prog.info? 25).map (fun i => (i.zero, i.size, i.bytes)) = some (some (.slice none 0 0), 1, 24) := by kernel_rfl
end Go.Proofs.YtlcpgbbpjnkihaaGreat

namespace Go.Proofs.YtlcpgbbpjnkihaaGreat
set_option linter.unusedSimpArgs false
set_option linter.unusedVariables false
open Go.RowKit
theorem news_of_ints {w : World} {b off n : Nat} {xs : List Int} (hc : ∀ j, j < xs.length → w.cell? ⟨b, off + j, none⟩ = some (.int .i64 (xs.getD j 0))) : ∀ j u, (xs.map (Value.int .i64))[j]? = some u → w.cell? ((⟨b, off, none⟩ : Addr).add j) = some u := by
  intro j u hu
  have hj : j < xs.length := by
    rcases Nat.lt_or_ge j xs.length with h1 | h1
    · exact h1
    · rw [List.getElem?_eq_none (by simpa using h1)] at hu; cases hu
  have hadd : (⟨b, off, none⟩ : Addr).add j = ⟨b, off + j, none⟩ := by unfold Addr.add; split <;> simp_all
  rw [hadd, hc j hj, ← hu]
  simp [List.getD, hj]
theorem ints_one (xs : List Int) : ∀ u ∈ xs.map (Value.int .i64), u.oneCell' = true := by
  intro u hu
  obtain ⟨x, _, rfl⟩ := List.mem_map.1 hu
  rfl
set_option maxHeartbeats 800000 in
theorem spec_copyInts (A : Option Addr) (n c : Nat) (xs : List Int) (w : World) (B : Nat) (hB : B ≤ w.heap.size) (hn : n = xs.length) (h : IS w B A xs) (hs : n ≤ 2000000) (hp : 0 < n) :
    Calls Tryz.prog 63 #[.slice A n c] w fun e w' => ∃ g cap, e = .returned (.slice (some ⟨g, 0, none⟩) n cap) ∧ w'.ownsRow w.heap.size 3 1 (.slice (some ⟨g, 0, none⟩) n cap) n (xs.map (Value.int .i64)) ∧ Below w.heap.size w w' := by
  obtain ⟨i0, hi, hz0, hz1, hz2⟩ := info_parts info_int
  obtain ⟨b, off, rfl, hbB, hc⟩ := h (by omega)
  have hnew := World.ownsRow_lit (e := 3) (size := 1) (base := w.heap.size) w #[] 0 (Nat.le_refl _) (by unfold maxLen; omega) (by simp)
  have hnews := news_of_ints (n := n) (fun j hj => (World.cell?_alloc_lt w (.cells #[] 3) ⟨b, off + j, none⟩ (show b < w.heap.size by omega)).trans (hc j hj))
  have HNEW := Lib.hid hnew
  have HNS := Lib.hid hnews
  have HN := Lib.hid hn
  clear hnew hnews hc hn h
  go_enter Tryz.func63, Tryz.ntmps63
  go_wp2_with (at_builtin; refine wpList_append_own_at _ rfl _ _ 25 rfl w.heap.size 3 i0 (.int .i64 0) 1 8 Tryz.underlying25 hi hz0 hz1 hz2 rfl (by decide) _ _ _ rfl HNEW.out ⟨b, off, none⟩ n c (xs.map (Value.int .i64)) rfl ?d1 HNS.out (ints_one xs) ?d3 ?d4 ?d5 ?_)
  case d1 => have := HN.out; first | omega | (simp; omega)
  case d3 => unfold maxLen; omega
  case d4 => omega
  intro v' w3 hown' hgrow _ _
  have hown'' : w3.ownsRow w.heap.size 3 1 v' n (xs.map (Value.int .i64)) := by simpa using hown'
  obtain ⟨g, cap, rfl⟩ : ∃ g cap, v' = .slice (some ⟨g, 0, none⟩) n cap := by
    rcases hown''.2 with ⟨_, h0⟩ | ⟨g, cap, cur, hv, _⟩
    · omega
    · exact ⟨g, cap, hv⟩
  have HO := Lib.hid hown''
  have hb3 : Below w.heap.size w w3 := ((Below.refl _ _).alloc (Nat.le_refl _) (.cells #[] 3)).grown hgrow (by simp) (fun k hk => by simp [Value.ownBlock] at hk; omega)
  clear hown' hown'' hgrow
  go_wp2
  go_ret
  exact ⟨g, cap, rfl, HO.out, hb3⟩
end Go.Proofs.YtlcpgbbpjnkihaaGreat

namespace Go.Proofs.YtlcpgbbpjnkihaaGreat
set_option linter.unusedSimpArgs false
set_option linter.unusedVariables false
open Go.RowKit
section
variable {P : Program} {w : World}
theorem run_append_zero (base : Nat) (t ty e : TypeId) (i : TypeInfo) (size : Nat) (ht : P.underlying t = some (.slice e)) (hi : P.info? e = some i) (v : Value) (n : Nat) (xs : List Value) (hown : w.ownsRow base e size v n xs) (A : Option Addr) (c : Nat) :
    (Builtin.append_ #[t, t] ty #[v, .slice A 0 c]).run P w = .ok v w := by
  rcases hown.2 with ⟨rfl, rfl⟩ | ⟨g, cap, cur, rfl, _, _, hnc, _⟩
  · cases A <;> simp [Builtin.append_, run_underlying ht, sizeOf, typeInfo, hi, Builtin.lenOf, Builtin.firstCells, loadCells, loadCellsFrom, storeCells, Result.andThen]
  · cases A <;> simp [Builtin.append_, run_underlying ht, sizeOf, typeInfo, hi, Builtin.lenOf, Builtin.firstCells, hnc, loadCells, loadCellsFrom, storeCells, Result.andThen]
theorem wpList_append_zero {ops : Array Oper} {rest : List Oper} {o : Oper} {a : Act} {Q : Exit → Act → World → Prop} (hgd : o.guard = none) (s x : Operand) (t : TypeId)
    (ho : o.op = .call { callee := .builtin .append, args := #[s, x], argTypes := #[t, t] })
    (base : Nat) (e : TypeId) (i : TypeInfo) (size : Nat) (ht : P.underlying t = some (.slice e)) (hi : P.info? e = some i)
    (v : Value) (n : Nat) (xs : List Value) (hs : a.eval s = v) (hown : w.ownsRow base e size v n xs) (A : Option Addr) (c : Nat) (hx : a.eval x = .slice A 0 c)
    (h : wpList P ops Q rest (a.put o.dst v) w) : wpList P ops Q (o :: rest) a w := by
  refine wpList_plain hgd fun K hK => ?_
  have hrun := run_append_zero (P := P) (w := w) base t o.type e i size ht hi v n xs hown A c
  unfold Oper.wp
  simp [execOp, ho, resolve, invoke, builtin, hs, hx, hrun, Result.andThen]
  exact hK _ _ h
end
set_option maxHeartbeats 800000 in
theorem spec_copyIntsA (A : Option Addr) (n c : Nat) (xs : List Int) (w : World) (B : Nat) (hB : B ≤ w.heap.size) (hn : n = xs.length) (h : IS w B A xs) (hs : n ≤ 2000000) :
    Calls Tryz.prog 63 #[.slice A n c] w fun e w' => ∃ g cap, e = .returned (.slice (some ⟨g, 0, none⟩) n cap) ∧ w'.ownsRow w.heap.size 3 1 (.slice (some ⟨g, 0, none⟩) n cap) n (xs.map (Value.int .i64)) ∧ Below w.heap.size w w' := by
  by_cases hp : 0 < n
  · exact spec_copyInts A n c xs w B hB hn h hs hp
  · obtain rfl : n = 0 := by omega
    have hx : xs = [] := List.eq_nil_of_length_eq_zero hn.symm
    subst hx
    obtain ⟨i0, hi, hz0, hz1, hz2⟩ := info_parts info_int
    have hnew := World.ownsRow_lit (e := 3) (size := 1) (base := w.heap.size) w #[] 0 (Nat.le_refl _) (by unfold maxLen; omega) (by simp)
    have HNEW := Lib.hid hnew
    clear hnew hn h
    go_enter Tryz.func63, Tryz.ntmps63
    go_wp2_with (at_builtin; refine wpList_append_zero rfl _ _ 25 rfl w.heap.size 3 i0 1 Tryz.underlying25 hi _ 0 _ rfl HNEW.out A c rfl ?_)
    go_ret
    exact ⟨_, _, rfl, by simpa using HNEW.out, (Below.refl _ _).alloc (Nat.le_refl _) _⟩
end Go.Proofs.YtlcpgbbpjnkihaaGreat

namespace Go.Proofs.YtlcpgbbpjnkihaaGreat
set_option linter.unusedSimpArgs false
set_option linter.unusedVariables false
open Go.RowKit
/-- Returns a state in fresh blocks. -/
def RetL (w : World) (st : Lz) (e : Ending) (w' : World) : Prop := ∃ A n c E en ec C m d, e = .returned (.agg #[.slice A n c, .slice E en ec, .slice C m d]) ∧ OwL w.heap.size w'.heap.size A n c E en ec C m d st w' ∧ Below w.heap.size w w'
theorem RetL.nil {w w' : World} (hb : Below w.heap.size w w') : RetL w ⟨[], [], []⟩ (.returned (.agg #[.slice none 0 0, .slice none 0 0, .slice none 0 0])) w' := ⟨_, _, _, _, _, _, _, _, _, rfl, OwL.nil _ _ _ hb.size, hb⟩
end Go.Proofs.YtlcpgbbpjnkihaaGreat

namespace Go.Proofs.YtlcpgbbpjnkihaaGreat
set_option linter.unusedSimpArgs false
set_option linter.unusedVariables false
open Go.RowKit
theorem take_snoc (xss : List (List Int)) (k : Nat) (h : k < xss.length) : xss.take (k + 1) = xss.take k ++ [xss.getD k []] := by
  rw [List.take_succ_eq_append_getElem h]; simp [List.getD, h]
set_option maxRecDepth 100000 in
set_option maxHeartbeats 1600000 in
theorem spec_copyLists (A : Option Addr) (n c : Nat) (xss : List (List Int)) (w : World) (B : Nat) (hB : B ≤ w.heap.size) (hn : n = xss.length) (h : SS w B A xss) (hs : SB xss) :
    Calls Tryz.prog 64 #[.slice A n c] w fun e w' => RetSS w xss e w' := by
  obtain ⟨i1, hi, hz0, hz1, hz2⟩ := info_parts info_ints1
  have hn1 : n ≤ 1048576 := by rw [hn]; exact hs.1
  have H := Lib.hid h
  have HN := Lib.hid hn
  have HS := Lib.hid hs
  clear hn h hs
  go_enter Tryz.func64, Tryz.ntmps64
  go_wp2
  go_loopw [3, 4] (fun v i wr => ∃ k : Nat, k ≤ n ∧ i = .int .i64 k ∧ Hid (OwSS w.heap.size wr.heap.size v k (xss.take k) wr) ∧ Hid (Below w.heap.size w wr)) (fun _ i _ => n - (intOf i).toNat)
  case atStart =>
    refine ⟨0, Nat.zero_le _, rfl, ⟨by simp, [], ?_, ⟨fun j hj => by simp at hj, fun i j v u k _ h => by simp at h⟩⟩, (Below.refl _ _).alloc (Nat.le_refl _) _⟩
    have := World.ownsRow_lit (e := 25) (size := 1) (base := w.heap.size) w #[] 0 (Nat.le_refl _) (by unfold maxLen; omega) rfl
    exact OwR.start this
  case round =>
    obtain ⟨k, hk, rfl, HO, HB⟩ := hrel
    have hwr := HB.out.size
    by_cases hlt : k < n
    · obtain ⟨b, off, rfl, hbB, A2, n2, c2, e0, hn2, hps⟩ := H.out.at_ k (by have := HN.out; omega)
      have e1 := (HB.out.cell (p := ⟨b, off + k, none⟩) (by simp; omega)).trans e0
      have HPS := Lib.hid (hps.below HB.out hB)
      have hnb := HS.out.2 k
      have HST := Lib.hid (take_snoc xss k (by have := HN.out; omega))
      have HTL := Lib.hid (show (xss.take k).length = k by rw [List.length_take]; have := HN.out; omega)
      generalize xss.getD k [] = D at *
      generalize xss.take k = T at *
      have HN2 := Lib.hid hn2
      have hn3 : n2 ≤ 2000000 := by omega
      clear e0 hn2 hps hnb
      go_wp2_with fail
      refine (spec_copyIntsA A2 n2 c2 D wr B (by omega) HN2.out HPS.out hn3).mono ?_
      rintro e w5 ⟨g, cap, rfl, ho5, hb5⟩
      have HO5 := Lib.hid ho5
      have HB5 := Lib.hid hb5
      have hw5 : w.heap.size ≤ w5.heap.size := Nat.le_trans hwr hb5.size
      obtain ⟨-, vs, hrow, hss⟩ := HO.out
      have HROW := Lib.hid hrow
      have HSS := Lib.hid hss
      have HR5 := Lib.hid (own_below hrow.1 hb5)
      clear hrow hss ho5 hb5
      go_wp2_with (at_builtin; refine wpList_append_own _ rfl _ _ 26 rfl w.heap.size 25 i1 (.slice none 0 0) 1 24 Tryz.underlying26 hi hz0 hz1 hz2 rfl (by decide) _ _ _ rfl (HR5.out.alloc _) ⟨_, 0, none⟩ 1 1 [.slice (some ⟨g, 0, none⟩) n2 cap] rfl rfl (cell_one_new _ _ _) ?c2 ?c3 ?c4 ?c5 ?_)
      case c2 => first | rfl | (intro u hu; simp at hu; subst hu; rfl)
      case c3 => unfold maxLen; omega
      case c4 => omega
      case c5 => first | omega | (simp; omega)
      intro v' w6 happ hgrow _
      have hpos := (HR5.out.alloc (.cells #[.slice (some ⟨g, 0, none⟩) n2 cap] 25)).lt
      have HB6 : Hid (Below w.heap.size w w6) := ((HB.out.trans (HB5.out.mono hwr)).alloc hw5 _).grown hgrow (by simp; omega) (fun q hq => (hpos q hq).1)
      have HO6 := Lib.hid (OwSS.snoc HROW.out.1 HSS.out HTL.out.symm HB5.out HO5.out HN2.out happ hgrow hwr)
      clear happ hgrow hpos
      go_wp2
      go_roundw
      case rel => exact ⟨k + 1, by omega, by go_num, by rw [HST.out]; exact HO6.out, HB6.out⟩
      case measure => simp [intOf]; omega
    · obtain rfl : k = n := by omega
      go_wp2
      go_ret
      have ho := HO.out
      rw [List.take_of_length_le (by have := HN.out; omega)] at ho
      exact ⟨_, rfl, by rw [← HN.out]; exact ho, HB.out⟩
end Go.Proofs.YtlcpgbbpjnkihaaGreat

namespace Go.Proofs.YtlcpgbbpjnkihaaGreat
set_option linter.unusedSimpArgs false
set_option linter.unusedVariables false
open Go.RowKit
theorem lenOf_set {a a' : List Int} {xs : List (List Int)} (h : a'.length = a.length) : lenOf (a' :: xs) = lenOf (a :: xs) := by
  funext j
  cases j with
  | zero => simp [lenOf, h]
  | succ j => simp [lenOf]
section
variable {B gr cr n : Nat} {Er : Option Addr} {U : List Value} {vs ch rn : List Int} {rs : List (List Int)} {w w' : World}
/-- One value is written. -/
theorem WF.setV {gv cv q : Nat} (h : WF B Er cr n U vs ch rn rs w) (h0 : U[0]? = some (.slice (some ⟨gv, 0, none⟩) n cv)) (x : Int) : WF B Er cr n U (vs.set q x) ch rn rs (w.setCell ⟨gv, q, none⟩ (.int .i64 x)) := by
  obtain ⟨A, m, c, e1, e2, e3⟩ := h.at_ 0 (by omega)
  rw [h0] at e1
  cases e1
  have hsz : (w.setCell ⟨gv, q, none⟩ (.int .i64 x)).heap.size = w.heap.size := by simp [World.setCell]
  refine ⟨h.ul, h.rl, ?_, World.ownsRow.kept h.top (e3.stored q (.int .i64 x)).2 (blocks_ne h.top e3 ints_ne_int.symm)⟩
  rw [hsz, lenOf_set (show (vs.set q x).length = vs.length from List.length_set)]
  refine h.fam.put1 h0 ?_ fun i hi => ?_
  · simp [rowOf, List.map_set]
  · cases i with
    | zero => exact absurd rfl hi
    | succ i => simp [rowOf]
end
end Go.Proofs.YtlcpgbbpjnkihaaGreat

namespace Go.Proofs.YtlcpgbbpjnkihaaGreat
set_option linter.unusedSimpArgs false
set_option linter.unusedVariables false
open Go.RowKit
theorem OwR.of_own {w : World} {lo n : Nat} {A : Option Addr} {c : Nat} {xs : List Int} (h : OwnI w lo (.slice A n c) xs) (hn : n = xs.length) : OwR lo w.heap.size 3 1 (.slice A n c) n (xs.map (Value.int .i64)) w := by
  subst hn
  exact OwR.start h
end Go.Proofs.YtlcpgbbpjnkihaaGreat
