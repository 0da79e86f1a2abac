/- Words and contracts for memory that the texts behind use. -/
import Derived.Test.YtbnioefhfpahcaaS0c
import Derived.WalkKit
import Derived.Laws.OwnMore
import Derived.Deep.Draws
import Derived.Test.YtbnioefhfpahcaaProg
import Derived.WalkSpells
import Derived.WalkLawsBesides
import Derived.Outline
import Derived.Lib.Hide
import Derived.BigQuiet
import Derived.Deep.QuietTactic
import Derived.StillTailTactics
import Derived.Deep.LoopGhost
import Derived.Laws.MakeOwn
import Derived.WalkSmall
import Derived.RegionTactic
import Derived.BigRegion
import Derived.Deep.RegionWith
import Derived.Deep.RegionHeld3
import Derived.Maps.AppendAt
import Derived.Laws.CopyOwn
import Derived.Deep.AppendLies
import Derived.Deep.Cut
import Derived.Laws.Entries
import Derived.Laws.Bits64
import Derived.IntWalk
import Derived.Deep.RegionLaw
import Derived.Deep.DeepCutAuto
import Derived.Test.YtbnioefhfpahcaaRows
import Derived.ProofKit
import Derived.OpenShut
import Derived.ShutString
import Derived.ChangeOld
import Derived.Below
import Derived.Deep.Slices
import Derived.Deep.Fields

namespace Go.Proofs.Ytbnioefhfpahcaa
set_option linter.unusedSimpArgs false
set_option linter.unusedVariables false
open Go.RowKit
/-- The first lists at E have room for what they hold. -/
def SC (w : World) (E : Option Addr) (en : Nat) : Prop := ∀ b off, E = some ⟨b, off, none⟩ → ∀ j, j < en → ∀ A' n c, w.cell? ⟨b, off + j, none⟩ = some (.slice A' n c) → n ≤ c
/-- A state that is read, the lists of which have room. -/
def LS4 (w : World) (B : Nat) (A E C : Option Addr) (e : Lz) : Prop := LS3 w B A E C e ∧ SC w E e.rs.length
section
variable {w w' : World} {B B' D lo hi n c en ec m d : Nat} {A E C : Option Addr} {e : Lz} {st : Lz}
theorem LS4.keep (h : LS4 w B A E C e) (hk : ∀ p : Addr, p.block < B → w'.cell? p = w.cell? p) : LS4 w' B A E C e := by
  refine ⟨h.1.keep hk, fun b off hE j hj A' n c hc => h.2 b off hE j hj A' n c ?_⟩
  obtain ⟨b', off', e', hb', _⟩ := h.1.2.1 (by omega)
  rw [hE] at e'
  cases e'
  rw [← hk _ hb']
  exact hc
theorem LS4.more (h : LS4 w B A E C e) (hB : B ≤ B') : LS4 w B' A E C e := ⟨h.1.more hB, h.2⟩
theorem LS4.below (h : LS4 w B A E C e) (hb : Below D w w') (hC : B ≤ D) : LS4 w' B A E C e := h.keep fun _ hp => hb.cell (Nat.lt_of_lt_of_le hp hC)
theorem LS4.alloc (h : LS4 w B A E C e) (hB : B ≤ w.heap.size) (o : Obj) : LS4 (w.alloc o) B A E C e := h.keep fun p hp => World.cell?_alloc_lt w o p (by omega)
theorem own_ncap {base e' size n c : Nat} {A : Option Addr} {xs : List Value} (h : w.ownsRow base e' size (.slice A n c) n xs) : n ≤ c := by
  rcases h.2 with ⟨hv, h0⟩ | ⟨g, cap, cur, hv, _, _, h1, _⟩
  · omega
  · simp only [Value.slice.injEq] at hv
    obtain ⟨_, _, rfl⟩ := hv
    exact h1
theorem OwSS.caps {xss : List (List Int)} (h : OwSS lo hi (.slice E n c) n xss w) : SC w E n := by
  obtain ⟨h0, us, h1, h2⟩ := h
  intro b off hE j hj A' m d hc
  subst hE
  have hul : us.length = n := by have := h1.1.1; omega
  obtain ⟨A'', m', c', r1, r2, r3⟩ := h2.row j (by omega)
  rcases h1.1.2 with ⟨hv, hz⟩ | ⟨g, cap, cur, hv, _⟩
  · omega
  · simp only [Value.slice.injEq, Option.some.injEq, Addr.mk.injEq, and_true, true_and] at hv
    obtain ⟨⟨rfl, rfl⟩, rfl⟩ := hv
    have h3 := h1.1.cellAt j (by omega)
    rw [Nat.zero_add, h3, r1] at hc
    cases hc
    exact own_ncap r3.1
theorem As.lazy4 (h : As lo hi (OwL lo hi A n c E en ec C m d st) w) : LS4 w w.heap.size A E C st := by
  refine ⟨h.lazy, ?_⟩
  have := h.it.lists.caps
  rw [h.it.2.1] at this
  exact this
end
end Go.Proofs.Ytbnioefhfpahcaa

namespace Go.Proofs.Ytbnioefhfpahcaa
set_option linter.unusedSimpArgs false
set_option linter.unusedVariables false
/-- The value of a node that runs with some values. -/
def valE (gs : List Nd) (vs : List Int) (i : Nat) : Int := if (gs.getD i default).k == 0 then vs.getD i 0 else (whole (gs.getD i default).ps).ev vs
theorem eager_canEv (gs : List Nd) (vs : List Int) (i : Nat) (hg : validG gs = true) (hl : vs.length = gs.length) (hr : allR vs 0 999 = true) (hi : i < gs.length) (hk : ((gs.getD i default).k == 0) = false) : canEv (gs.getD i default).ps vs = true := by
  obtain ⟨h10, hn⟩ := validG_parts gs hg
  have hv := (nodeOK_formula gs i (hn i hi) hk).1
  have he := each_ahead gs i vs.length hg hi hk (by omega)
  unfold canEv
  rw [hv, he, hr]
  simp
  omega
theorem eager_depF_bd (gs : List Nd) (vs : List Int) (hg : validG gs = true) (hl : vs.length = gs.length) (i : Nat) (hi : i < gs.length) : (depF gs vs i).length ≤ 10 := by
  unfold depF
  cases hk : ((gs.getD i default).k == 0)
  · simp only [Bool.false_eq_true, if_false]
    have hv := (nodeOK_formula gs i ((validG_parts gs hg).2 i hi) hk).1
    have hok := whole_ok _ vs.length hv (by rw [hl]; exact each_ahead gs i gs.length hg hi hk (by omega))
    have h10 := (validG_parts gs hg).1
    refine Nat.le_trans (firsts_bd _ vs.length ?_) (by rw [hl]; exact h10)
    intro x hx
    exact rds_lt _ _ _ hok x hx
  · simp
end Go.Proofs.Ytbnioefhfpahcaa

namespace Go.Proofs.Ytbnioefhfpahcaa
set_option linter.unusedSimpArgs false
set_option linter.unusedVariables false
open Go.RowKit
theorem OwR.of_own {w : World} {lo n : Nat} {A : Option Addr} {c : Nat} {xs : List Int} (h : OwnI w lo (.slice A n c) xs) (hn : n = xs.length) : OwR lo w.heap.size 3 1 (.slice A n c) n (xs.map (Value.int .i64)) w := by
  subst hn
  exact OwR.start h
theorem OwSS.setCell {lo hi n : Nat} {v : Value} {xss : List (List Int)} {w : World} (h : OwSS lo hi v n xss w) {a : Addr} (ha : a.block < lo) (u : Value) : OwSS lo hi v n xss (w.setCell a u) :=
  OwSS.loc _ _ _ _ _ _ _ h fun k hk _ => Below.heap_setCell _ _ _ _ (by omega)
end Go.Proofs.Ytbnioefhfpahcaa

namespace Go.Proofs.Ytbnioefhfpahcaa
set_option linter.unusedSimpArgs false
set_option linter.unusedVariables false
open Go.RowKit
/-- The first numbers for which something holds. -/
def nwTo (P : Nat → Bool) (n : Nat) : List Int := ((List.range n).filter P).map fun i : Nat => (i : Int)
theorem nwTo_step (P : Nat → Bool) (k : Nat) : nwTo P (k + 1) = nwTo P k ++ (if P k then [(k : Int)] else []) := by
  unfold nwTo
  rw [List.range_succ, List.filter_append, List.map_append]
  congr 1
  cases h : P k <;> simp [h]
theorem nwTo_len (P : Nat → Bool) (k : Nat) : (nwTo P k).length ≤ k := by
  unfold nwTo
  rw [List.length_map]
  have := List.length_filter_le P (List.range k)
  simpa using this
end Go.Proofs.Ytbnioefhfpahcaa

namespace Go.Proofs.Ytbnioefhfpahcaa
set_option linter.unusedSimpArgs false
set_option linter.unusedVariables false
open Go.RowKit
set_option maxHeartbeats 800000 in
theorem slices_Equal (A A' : Option Addr) (n n' c c' : Nat) (a b : List Int) (w : World) (B : Nat) (hB : B ≤ w.heap.size) (hn : n = a.length) (hn' : n' = b.length) (h : IS w B A a) (h' : IS w B A' b) (hs : n ≤ 2000000) (hs' : n' ≤ 2000000) :
    Calls Try.prog 49 #[.slice A n c, .slice A' n' c'] w fun e w' => e = .returned (.bool (decide (a = b))) ∧ Below w.heap.size w w' := by
  by_cases hl : n = n'
  · have hne : ((n : Int) != (n' : Int)) = false := by simp [hl]
    have HL := Lib.hid hl
    have HN := Lib.hid hn
    have HN' := Lib.hid hn'
    have H := Lib.hid h
    have H' := Lib.hid h'
    clear hl hn hn' h h'
    go_enter Try.func49, Try.ntmps49
    go_wp2
    go_loopw [13] (fun i wr => ∃ k : Nat, k ≤ n ∧ i = .int .i64 k ∧ Hid (∀ j, j < k → a.getD j 0 = b.getD j 0) ∧ Below w.heap.size w wr) (fun i _ => n - (intOf i).toNat)
    case atStart => exact ⟨0, Nat.zero_le _, rfl, fun j hj => by omega, Below.refl _ _⟩
    case round =>
      obtain ⟨k, hk, rfl, HT, hb⟩ := hrel
      by_cases hlt : k < n
      · have hlt' : k < n' := by have := HL.out; omega
        obtain ⟨b1, off, rfl, hbB, hc⟩ := H.out (by have := HN.out; omega)
        obtain ⟨b2, off', rfl, hbB', hc'⟩ := H'.out (by have := HN'.out; omega)
        have d1 := hc k (by have := HN.out; omega)
        have d2 := hc' k (by have := HN'.out; omega)
        have e1 := (hb.cell (p := ⟨b1, off + k, none⟩) (by simp; omega)).trans d1
        have e2 := (hb.cell (p := ⟨b2, off' + k, none⟩) (by simp; omega)).trans d2
        clear hc hc' d1 d2 H H'
        have HNE : Hid (a.getD k 0 ≠ b.getD k 0 → decide (a = b) = false) := fun hh => by rw [decide_eq_false_iff_not]; rintro rfl; exact hh rfl
        have HEQ : Hid (a.getD k 0 = b.getD k 0 → ∀ j, j < k + 1 → a.getD j 0 = b.getD j 0) := fun hh j hj => by
          rcases Nat.lt_or_ge j k with h1 | h1
          · exact HT.out j h1
          · obtain rfl : j = k := by omega
            exact hh
        generalize a.getD k 0 = x at *
        generalize b.getD k 0 = y at *
        cases hxy : (x == y)
        · have hne2 : (x != y) = true := by simp [bne, hxy]
          have HF := Lib.hid (HNE.out (by simpa using hxy))
          clear hxy
          go_wp2
          go_region
          go_wp2
          go_ret
          exact ⟨ret_b HF.out.symm, hb.drew⟩
        · have hne2 : (x != y) = false := by simp [bne, hxy]
          have HF := Lib.hid (HEQ.out (by simpa using hxy))
          clear hxy
          go_wp2
          go_region
          go_wp2
          go_roundw
          case rel => exact ⟨k + 1, by omega, by go_num, HF.out, hb.drew⟩
          case measure => simp [intOf]; omega
      · obtain rfl : k = n := by omega
        go_wp2
        go_ret
        refine ⟨ret_b ?_, hb⟩
        symm
        apply decide_eq_true
        have h1 := HN.out
        have h2 := HN'.out
        have h3 := HL.out
        apply List.ext_getElem (by omega)
        intro j hj hj'
        have := HT.out j (by omega)
        simpa [List.getD, hj, hj'] using this
  · have hne : ((n : Int) != (n' : Int)) = true := by simp; omega
    have hf : decide (a = b) = false := by rw [decide_eq_false_iff_not]; rintro rfl; omega
    rw [hf]
    clear hl hn hn' h h' hf
    go_enter Try.func49, Try.ntmps49
    go_wp2
    go_ret
    exact ⟨rfl, Below.refl _ _⟩
end Go.Proofs.Ytbnioefhfpahcaa

namespace Go.Proofs.Ytbnioefhfpahcaa
set_option linter.unusedSimpArgs false
set_option linter.unusedVariables false
open Go.RowKit
/-- Returns a number and a fresh list of numbers. -/
def RetVI (w : World) (x : Int) (xs : List Int) (e : Ending) (w' : World) : Prop := ∃ v, e = .returned (.tuple #[.int .i64 x, v]) ∧ OwnI w' w.heap.size v xs ∧ Below w.heap.size w w'
set_option maxRecDepth 100000 in
set_option maxHeartbeats 1600000 in
theorem impl_runOf (A A' : Option Addr) (n c m c' : Nat) (gs : List Nd) (vs : List Int) (i : Nat) (w : World) (B : Nat) (hB : B ≤ w.heap.size) (hn : n = gs.length) (hm : m = vs.length) (h : GS w B A gs) (h' : IS w B A' vs) (hvg : validG gs = true) (hl : vs.length = gs.length) (hr : allR vs 0 999 = true) (hi : i < n) :
    Calls Try.prog 48 #[.agg #[.slice A n c], .slice A' m c', .int .i64 i] w fun e w' => RetVI w (valE gs vs i) (depF gs vs i) e w' := by
  have hn10 : n ≤ 10 := by rw [hn]; exact (validG_parts gs hvg).1

  have hvl : valE gs vs i = if (gs.getD i default).k == 0 then vs.getD i 0 else (whole (gs.getD i default).ps).ev vs := rfl
  have hdl : depF gs vs i = if (gs.getD i default).k == 0 then [] else firsts ((whole (gs.getD i default).ps).rds vs) := rfl
  have hce := eager_canEv gs vs i hvg hl hr (by omega)
  obtain ⟨b, off, rfl, hbB, c0, A1, n1, c1, c2, hn1', hps⟩ := h.at_ i (by omega)
  have him : i < m := by omega
  obtain ⟨b2, off2, rfl, hbB2, hcx⟩ := h' (by omega)
  have d0 := hcx i (by omega)
  have HI := Lib.hid h'
  have HPS := Lib.hid hps
  have z2 : b < w.heap.size := by omega
  have z3 : b2 < w.heap.size := by omega
  rw [hvl, hdl]
  clear hvl hdl h hcx hps hn hvg hl hr h'
  generalize gs.getD i default = d at *
  generalize vs.getD i 0 = x at *
  cases hd : (d.k == 0)
  · have hce' := hce hd
    obtain ⟨hv1, hvo, hl10, hea⟩ := canEv_parts d.ps vs hce'
    obtain ⟨hg, h1, h12⟩ := validF_good d.ps hv1
    have hvf : valF d.ps vs = (whole d.ps).ev vs := by unfold valF; rw [hce']; rfl
    have hrf : readF d.ps vs = firsts ((whole d.ps).rds vs) := by unfold readF; rw [hce']; rfl
    have HVAL := Lib.hid fun (w' : World) (hB : B ≤ w'.heap.size) (h : PS w' B A1 d.ps) (h' : IS w' B (some ⟨b2, off2, none⟩) vs) => impl_ValueOf A1 (some ⟨b2, off2, none⟩) n1 c1 m c' d.ps vs B hn1' hm (by omega) (by omega) w' hB h h'
    have HRD := Lib.hid fun (w' : World) (hB : B ≤ w'.heap.size) (h : PS w' B A1 d.ps) (h' : IS w' B (some ⟨b2, off2, none⟩) vs) => impl_ReadsOf A1 (some ⟨b2, off2, none⟩) n1 c1 m c' d.ps vs B hn1' hm (by omega) (by omega) w' hB h h'
    rw [hvf, hce'] at HVAL
    rw [hrf] at HRD
    simp only [Bool.false_eq_true, if_false]
    generalize (whole d.ps).ev vs = X at *
    generalize firsts ((whole d.ps).rds vs) = F at *
    clear hce hce' hv1 hvo hl10 hea hg h1 h12 hvf hrf hn1' hm
    go_enter Try.func48, Try.ntmps48
    go_wp2_with fail
    refine (HVAL.out _ (by simp; omega) ((HPS.out.alloc hB _).alloc (by simp; omega) _) ((HI.out.alloc hB _).alloc (by simp; omega) _)).mono ?_
    rintro e w1 ⟨rfl, hb⟩
    have q1 : w1.cell? ⟨w.heap.size + 1, 1, none⟩ = some (.slice A1 n1 c1) := (hb.cell (p := ⟨w.heap.size + 1, 1, none⟩) (by simp)).trans (by go_simp)
    have hB1 : Below w.heap.size w w1 := (((Below.refl _ _).alloc (Nat.le_refl _) _).alloc (by simp) _).trans (hb.mono (by simp; omega))
    have HPS1 := Lib.hid (HPS.out.below hB1 hB)
    have HI1 := Lib.hid (HI.out.below hB1 hB)
    have hl1 : w.heap.size + 2 ≤ w1.heap.size := by have := hb.size; simp at this; omega
    clear hb HPS HI HVAL
    go_wp2_with fail
    refine (HRD.out _ (by omega) HPS1.out HI1.out).mono ?_
    rintro e w2 ⟨v, rfl, ho, hb2⟩
    go_wp2
    go_ret2
    exact ⟨v, rfl, own_mono ho (by omega), hB1.trans (hb2.mono (by omega))⟩
  · simp only [if_true]
    clear hce hn1' hm HI HPS
    go_enter Try.func48, Try.ntmps48
    go_wp2
    go_ret2
    exact ⟨_, rfl, World.ownsRow_nil _ _ _ _, ((Below.refl _ _).alloc (Nat.le_refl _) _).alloc (by simp) _⟩
end Go.Proofs.Ytbnioefhfpahcaa

namespace Go.Proofs.Ytbnioefhfpahcaa
set_option linter.unusedSimpArgs false
set_option linter.unusedVariables false
open Go.RowKit
theorem news_of_ints {w : World} {b off n : Nat} {xs : List Int} (hc : ∀ j, j < xs.length → w.cell? ⟨b, off + j, none⟩ = some (.int .i64 (xs.getD j 0))) : ∀ j u, (xs.map (Value.int .i64))[j]? = some u → w.cell? ((⟨b, off, none⟩ : Addr).add j) = some u := by
  intro j u hu
  have hj : j < xs.length := by
    rcases Nat.lt_or_ge j xs.length with h1 | h1
    · exact h1
    · rw [List.getElem?_eq_none (by simpa using h1)] at hu; cases hu
  have hadd : (⟨b, off, none⟩ : Addr).add j = ⟨b, off + j, none⟩ := by unfold Addr.add; split <;> simp_all
  rw [hadd, hc j hj, ← hu]
  simp [List.getD, hj]
theorem ints_one (xs : List Int) : ∀ u ∈ xs.map (Value.int .i64), u.oneCell' = true := by
  intro u hu
  obtain ⟨x, _, rfl⟩ := List.mem_map.1 hu
  rfl
set_option maxHeartbeats 800000 in
theorem spec_copyInts (A : Option Addr) (n c : Nat) (xs : List Int) (w : World) (B : Nat) (hB : B ≤ w.heap.size) (hn : n = xs.length) (h : IS w B A xs) (hs : n ≤ 2000000) (hp : 0 < n) :
    Calls Try.prog 31 #[.slice A n c] w fun e w' => ∃ g cap, e = .returned (.slice (some ⟨g, 0, none⟩) n cap) ∧ w'.ownsRow w.heap.size 3 1 (.slice (some ⟨g, 0, none⟩) n cap) n (xs.map (Value.int .i64)) ∧ Below w.heap.size w w' := by
  obtain ⟨i0, hi, hz0, hz1, hz2⟩ := info_parts info_int
  obtain ⟨b, off, rfl, hbB, hc⟩ := h (by omega)
  have hnew := World.ownsRow_lit (e := 3) (size := 1) (base := w.heap.size) w #[] 0 (Nat.le_refl _) (by unfold maxLen; omega) (by simp)
  have hnews := news_of_ints (n := n) (fun j hj => (World.cell?_alloc_lt w (.cells #[] 3) ⟨b, off + j, none⟩ (show b < w.heap.size by omega)).trans (hc j hj))
  have HNEW := Lib.hid hnew
  have HNS := Lib.hid hnews
  have HN := Lib.hid hn
  clear hnew hnews hc hn h
  go_enter Try.func31, Try.ntmps31
  go_wp2_with (at_builtin; refine wpList_append_own_at _ rfl _ _ 26 rfl w.heap.size 3 i0 (.int .i64 0) 1 8 Try.underlying26 hi hz0 hz1 hz2 rfl (by decide) _ _ _ rfl HNEW.out ⟨b, off, none⟩ n c (xs.map (Value.int .i64)) rfl ?d1 HNS.out (ints_one xs) ?d3 ?d4 ?d5 ?_)
  case d1 => have := HN.out; first | omega | (simp; omega)
  case d3 => unfold maxLen; omega
  case d4 => omega
  intro v' w3 hown' hgrow _ _
  have hown'' : w3.ownsRow w.heap.size 3 1 v' n (xs.map (Value.int .i64)) := by simpa using hown'
  obtain ⟨g, cap, rfl⟩ : ∃ g cap, v' = .slice (some ⟨g, 0, none⟩) n cap := by
    rcases hown''.2 with ⟨_, h0⟩ | ⟨g, cap, cur, hv, _⟩
    · omega
    · exact ⟨g, cap, hv⟩
  have HO := Lib.hid hown''
  have hb3 : Below w.heap.size w w3 := ((Below.refl _ _).alloc (Nat.le_refl _) (.cells #[] 3)).grown hgrow (by simp) (fun k hk => by simp [Value.ownBlock] at hk; omega)
  clear hown' hown'' hgrow
  go_wp2
  go_ret
  exact ⟨g, cap, rfl, HO.out, hb3⟩
/-- Returns a fresh slice of numbers and a bool, or nothing. -/
theorem RetIB.nil {w w' : World} (hb : Below w.heap.size w w') : RetIB w [] false (.returned (.tuple #[.slice none 0 0, .bool false])) w' := ⟨_, rfl, World.ownsRow_nil _ _ _ _, hb⟩
end Go.Proofs.Ytbnioefhfpahcaa

namespace Go.Proofs.Ytbnioefhfpahcaa
set_option linter.unusedSimpArgs false
set_option linter.unusedVariables false
open Go.RowKit
/-- Values with 0 for the first nodes that are no cells. -/
def celTo (gs : List Nd) (vs : List Int) : Nat → List Int
  | 0 => vs
  | k + 1 => if (gs.getD k default).k == 0 then celTo gs vs k else (celTo gs vs k).set k 0
theorem celTo_len (gs : List Nd) (vs : List Int) (k : Nat) : (celTo gs vs k).length = vs.length := by
  induction k with
  | zero => rfl
  | succ k ih => unfold celTo; split <;> simp [ih]
theorem celTo_succ (gs : List Nd) (vs : List Int) (k : Nat) : celTo gs vs (k + 1) = if (gs.getD k default).k == 0 then celTo gs vs k else (celTo gs vs k).set k 0 := rfl
section
variable {P : Program} {w : World}
theorem run_append_zero (base : Nat) (t ty e : TypeId) (i : TypeInfo) (size : Nat) (ht : P.underlying t = some (.slice e)) (hi : P.info? e = some i) (v : Value) (n : Nat) (xs : List Value) (hown : w.ownsRow base e size v n xs) (A : Option Addr) (c : Nat) :
    (Builtin.append_ #[t, t] ty #[v, .slice A 0 c]).run P w = .ok v w := by
  rcases hown.2 with ⟨rfl, rfl⟩ | ⟨g, cap, cur, rfl, _, _, hnc, _⟩
  · cases A <;> simp [Builtin.append_, run_underlying ht, sizeOf, typeInfo, hi, Builtin.lenOf, Builtin.firstCells, loadCells, loadCellsFrom, storeCells, Result.andThen]
  · cases A <;> simp [Builtin.append_, run_underlying ht, sizeOf, typeInfo, hi, Builtin.lenOf, Builtin.firstCells, hnc, loadCells, loadCellsFrom, storeCells, Result.andThen]
theorem wpList_append_zero {ops : Array Oper} {rest : List Oper} {o : Oper} {a : Act} {Q : Exit → Act → World → Prop} (hgd : o.guard = none) (s x : Operand) (t : TypeId)
    (ho : o.op = .call { callee := .builtin .append, args := #[s, x], argTypes := #[t, t] })
    (base : Nat) (e : TypeId) (i : TypeInfo) (size : Nat) (ht : P.underlying t = some (.slice e)) (hi : P.info? e = some i)
    (v : Value) (n : Nat) (xs : List Value) (hs : a.eval s = v) (hown : w.ownsRow base e size v n xs) (A : Option Addr) (c : Nat) (hx : a.eval x = .slice A 0 c)
    (h : wpList P ops Q rest (a.put o.dst v) w) : wpList P ops Q (o :: rest) a w := by
  refine wpList_plain hgd fun K hK => ?_
  have hrun := run_append_zero (P := P) (w := w) base t o.type e i size ht hi v n xs hown A c
  unfold Oper.wp
  simp [execOp, ho, resolve, invoke, builtin, hs, hx, hrun, Result.andThen]
  exact hK _ _ h
end
set_option maxHeartbeats 800000 in
theorem spec_copyIntsA (A : Option Addr) (n c : Nat) (xs : List Int) (w : World) (B : Nat) (hB : B ≤ w.heap.size) (hn : n = xs.length) (h : IS w B A xs) (hs : n ≤ 2000000) :
    Calls Try.prog 31 #[.slice A n c] w fun e w' => ∃ g cap, e = .returned (.slice (some ⟨g, 0, none⟩) n cap) ∧ w'.ownsRow w.heap.size 3 1 (.slice (some ⟨g, 0, none⟩) n cap) n (xs.map (Value.int .i64)) ∧ Below w.heap.size w w' := by
  by_cases hp : 0 < n
  · exact spec_copyInts A n c xs w B hB hn h hs hp
  · obtain rfl : n = 0 := by omega
    have hx : xs = [] := List.eq_nil_of_length_eq_zero hn.symm
    subst hx
    obtain ⟨i0, hi, hz0, hz1, hz2⟩ := info_parts info_int
    have hnew := World.ownsRow_lit (e := 3) (size := 1) (base := w.heap.size) w #[] 0 (Nat.le_refl _) (by unfold maxLen; omega) (by simp)
    have HNEW := Lib.hid hnew
    clear hnew hn h
    go_enter Try.func31, Try.ntmps31
    go_wp2_with (at_builtin; refine wpList_append_zero rfl _ _ 26 rfl w.heap.size 3 i0 1 Try.underlying26 hi _ 0 _ rfl HNEW.out A c rfl ?_)
    go_ret
    exact ⟨_, _, rfl, by simpa using HNEW.out, (Below.refl _ _).alloc (Nat.le_refl _) _⟩
end Go.Proofs.Ytbnioefhfpahcaa

namespace Go.Proofs.Ytbnioefhfpahcaa
set_option linter.unusedSimpArgs false
set_option linter.unusedVariables false
/-- No number comes twice. -/
def apartL (l : List Int) : Bool := decide (∀ i, i < l.length → ¬ l.getD i 0 ∈ l.take i)
/-- All numbers are in a list. -/
def inL (l b : List Int) : Bool := l.all fun x => decide (x ∈ b)
/-- All nodes of a list are clean. -/
def cleanR (cs l : List Int) : Bool := l.all fun x => cs.getD x.toNat 0 == 0
/-- The number at i is in b, and not ahead of i. -/
def difB (l b : List Int) (i : Nat) : Bool := decide (l.getD i 0 ∈ b) && !decide (l.getD i 0 ∈ l.take i)
theorem dif_bad (l b : List Int) (i : Nat) (hi : i < l.length) (h : difB l b i = false) : (apartL l && inL l b) = false := by
  rw [Bool.eq_false_iff]
  intro hh
  rw [Bool.and_eq_true] at hh
  have h1 := of_decide_eq_true hh.1 i hi
  have h2 := (List.all_eq_true.1 hh.2) (l.getD i 0) (by simp [List.getD, hi])
  unfold difB at h
  rw [h2, decide_eq_false h1] at h
  cases h
theorem dif_fin (l b : List Int) (h : ∀ i, i < l.length → difB l b i = true) : (apartL l && inL l b) = true := by
  rw [Bool.and_eq_true]
  refine ⟨decide_eq_true fun i hi => ?_, List.all_eq_true.2 fun x hx => ?_⟩
  · have := h i hi
    unfold difB at this
    rw [Bool.and_eq_true] at this
    simpa using this.2
  · obtain ⟨i, hi, rfl⟩ := List.mem_iff_getElem.1 hx
    have := h i hi
    unfold difB at this
    rw [Bool.and_eq_true] at this
    simpa [List.getD, hi] using this.1
theorem cleanR_bad (cs l : List Int) (k : Nat) (hk : k < l.length) (h : (cs.getD (l.getD k 0).toNat 0 == 0) = false) : cleanR cs l = false := all_bad l _ k hk h
theorem cleanR_fin (cs l : List Int) (h : ∀ k, k < l.length → (cs.getD (l.getD k 0).toNat 0 == 0) = true) : cleanR cs l = true := all_good l _ h
/-- A node is as if it had run. -/
def asRun (gs : List Nd) (st : Lz) (i : Nat) : Bool := (valE gs st.vs i == st.vs.getD i 0) && decide (depF gs st.vs i = st.rs.getD i [])
def colOK (gs : List Nd) (st : Lz) (i : Nat) : Bool :=
  if (gs.getD i default).k == 0 then (st.cs.getD i 0 == 0) && decide ((st.rs.getD i []).length = 0)
  else if st.cs.getD i 0 == 2 then apartL (st.rs.getD i []) && inL (st.rs.getD i []) (mayR (gs.getD i default).ps)
  else if st.cs.getD i 0 == 0 then asRun gs st i && cleanR st.cs (st.rs.getD i [])
  else asRun gs st i
def allL (gs : List Nd) (st : Lz) : Bool := decide (∀ i, i < gs.length → colOK gs st i = true)
def validL (gs : List Nd) (st : Lz) : Bool := validG gs && (decide (st.vs.length = gs.length) && (decide (st.rs.length = gs.length) && (decide (st.cs.length = gs.length) && (allR st.vs 0 999 && (allR st.cs 0 2 && allL gs st)))))
theorem allL_bad (gs : List Nd) (st : Lz) (i : Nat) (hi : i < gs.length) (h : colOK gs st i = false) : allL gs st = false := by
  unfold allL
  rw [decide_eq_false_iff_not]
  intro hh
  rw [hh i hi] at h
  cases h
theorem allL_fin (gs : List Nd) (st : Lz) (h : ∀ i, i < gs.length → colOK gs st i = true) : allL gs st = true := by
  unfold allL
  exact decide_eq_true h
theorem validL_parts (gs : List Nd) (st : Lz) (h : validL gs st = true) : validG gs = true ∧ st.vs.length = gs.length ∧ st.rs.length = gs.length ∧ st.cs.length = gs.length ∧ allR st.vs 0 999 = true ∧ allR st.cs 0 2 = true ∧ ∀ i, i < gs.length → colOK gs st i = true := by
  unfold validL allL at h
  simp only [Bool.and_eq_true, decide_eq_true_eq] at h
  exact ⟨h.1, h.2.1, h.2.2.1, h.2.2.2.1, h.2.2.2.2.1, h.2.2.2.2.2.1, h.2.2.2.2.2.2⟩
/-- What a run reads are nodes ahead. -/
theorem depF_range (gs : List Nd) (vs : List Int) (hg : validG gs = true) (hl : vs.length = gs.length) (i : Nat) (hi : i < gs.length) (j : Nat) (hj : j < (depF gs vs i).length) : ∃ q : Nat, q < gs.length ∧ (depF gs vs i).getD j 0 = (q : Int) := by
  have hmem : (depF gs vs i).getD j 0 ∈ depF gs vs i := by simp [List.getD, hj]
  unfold depF at hmem ⊢
  cases hk : ((gs.getD i default).k == 0)
  · rw [hk] at hmem
    simp only [Bool.false_eq_true, if_false] at hmem ⊢
    have hv := (nodeOK_formula gs i ((validG_parts gs hg).2 i hi) hk).1
    have hok := whole_ok _ vs.length hv (by rw [hl]; exact each_ahead gs i gs.length hg hi hk (by omega))
    obtain ⟨q, hq, e⟩ := rds_lt _ _ _ hok _ ((firsts_mem _ _).1 hmem)
    exact ⟨q, by omega, e⟩
  · rw [hk] at hmem
    simp at hmem
end Go.Proofs.Ytbnioefhfpahcaa

namespace Go.Proofs.Ytbnioefhfpahcaa
set_option linter.unusedSimpArgs false
set_option linter.unusedVariables false
open Go.RowKit
-- WANT spec_validGraph spec_validCells impl_ValidCells spec_copyIntsA impl_copyOf OwL RetL nil join of_apart LB of_small okC okC_parts validG_parts validG validC Rw OwSS snoc nil setCell OwnI at_ form OwR of_own start keep mono step SSk put grown ne lt row apart GS IS at_ nodes below alloc more As mean_len box4_start RetI noCtx info_ints1 info_int info_parts own_form own_below own_mono cell_one_new made_rows cpTo lists blocks_ne ints_ne_int Tch Below bcell own_heap Bx3 other set0 set1 set2 box3_start loc SB SB2 rowsL lsz startF GB validC_parts okC_len colOK own_keep own_ncap drew
def colOf (d : Nd) : Int := if d.k == 0 then 0 else 2
def colsTo (gs : List Nd) (k : Nat) : List Int := (gs.take k).map colOf
theorem colsTo_succ (gs : List Nd) (k : Nat) (h : k < gs.length) : colsTo gs (k + 1) = colsTo gs k ++ [colOf (gs.getD k default)] := by
  unfold colsTo
  rw [take_succ_getD gs k h, List.map_append]
  rfl
theorem colsTo_len (gs : List Nd) (k : Nat) (h : k ≤ gs.length) : (colsTo gs k).length = k := by unfold colsTo; simp; omega
def noReads (n : Nat) : List (List Int) := List.replicate n []
theorem noReads_len (n j : Nat) : lenOf (noReads n) j = 0 := by
  unfold lenOf noReads
  simp only [List.getD, List.getElem?_replicate]
  split <;> rfl
theorem noReads_row (n j : Nat) : rowOf (noReads n) j = [] := by
  unfold rowOf noReads
  simp only [List.getD, List.getElem?_replicate]
  split <;> rfl
def lazyOfL (gs : List Nd) (xs : List Int) : Lz := ⟨xs, noReads gs.length, colsTo gs gs.length⟩
/-- The state before a node ran. -/
def startL (gs : List Nd) (xs : List Int) : Lz := if okC gs xs then lazyOfL gs xs else ⟨[], [], []⟩
theorem okC_lens {gs : List Nd} {xs : List Int} (h : okC gs xs = true) : gs.length ≤ 10 ∧ xs.length = gs.length := by
  obtain ⟨h1, h2⟩ := okC_parts gs xs h
  refine ⟨(validG_parts gs h1).1, Classical.byContradiction fun e => ?_⟩
  rw [validC_len gs xs e] at h2
  cases h2
theorem noReads_sum (n : Nat) : ((noReads n).map List.length).sum = 0 := by
  unfold noReads; simp
theorem startL_LB (gs : List Nd) (xs : List Int) : LB (startL gs xs) := by
  unfold startL
  cases h : okC gs xs
  · exact LB.of_small _ (by simp) ⟨by simp, fun j => by simp [List.getD]⟩ (by simp) (by simp)
  · obtain ⟨h1, h2⟩ := okC_lens h
    simp only [if_true]
    refine LB.of_small _ (by show xs.length ≤ 1000; omega) (SB.of_sum (by show (noReads gs.length).length ≤ 1048576; unfold noReads; simp; omega) (by show ((noReads gs.length).map List.length).sum ≤ 1048576; rw [noReads_sum]; omega)) (by show ((noReads gs.length).map List.length).sum ≤ 1000; rw [noReads_sum]; omega) (by show (colsTo gs gs.length).length ≤ 1000; rw [colsTo_len _ _ (Nat.le_refl _)]; omega)
theorem Bx3.set2 {b : Nat} {x y z u : Value} {w : World} (h : Bx3 b x y z w) : Bx3 b x y u (w.setCell ⟨b, 2, none⟩ u) :=
  ⟨by simpa [World.setCell] using h.lt, (World.cell?_setCell_other _ _ _ _ (by simp)).trans h.c0, (World.cell?_setCell_other _ _ _ _ (by simp)).trans h.c1, World.cell?_setCell_same _ _ _ h.c2, fun i => (World.frozen?_setCell _ _ _ _).trans (h.f i)⟩
/-- Reads and colours that grow side by side. -/
structure LzI (lo hi : Nat) (gs : List Nd) (v u : Value) (k : Nat) (us : List Value) (w : World) : Prop where
  rd : OwR lo hi 26 1 v k us w
  co : OwR lo hi 3 1 u k ((colsTo gs k).map (Value.int .i64)) w
  ss : SSk lo hi us (fun _ => 0) (fun _ => []) w
  ap : ∀ (j : Nat) (x : Value) (q : Nat), us[j]? = some x → u.ownBlock = some q → x.ownBlock ≠ some q
theorem LzI.keep {lo hi k : Nat} {gs : List Nd} {v u : Value} {us : List Value} {w w' : World} (h : LzI lo hi gs v u k us w) (hk : ∀ k, lo ≤ k → k < hi → w'.heap[k]? = w.heap[k]?) : LzI lo hi gs v u k us w' :=
  ⟨h.rd.keep hk, h.co.keep hk, h.ss.keep hk, h.ap⟩
theorem LzI.mono {lo hi hi' k : Nat} {gs : List Nd} {v u : Value} {us : List Value} {w : World} (h : LzI lo hi gs v u k us w) (hh : hi ≤ hi') : LzI lo hi' gs v u k us w :=
  ⟨h.rd.mono (Nat.le_refl _) hh, h.co.mono (Nat.le_refl _) hh, h.ss.mono (Nat.le_refl _) hh, h.ap⟩
theorem LzI.setCell {lo hi k : Nat} {gs : List Nd} {v u : Value} {us : List Value} {w : World} (h : LzI lo hi gs v u k us w) {a : Addr} (ha : a.block < lo) (x : Value) : LzI lo hi gs v u k us (w.setCell a x) :=
  h.keep fun k hk _ => Below.heap_setCell _ _ _ _ (by omega)
/-- One more, empty, list of reads. -/
theorem LzI.read {lo k : Nat} {gs : List Nd} {v v' u : Value} {us : List Value} {wr w w' : World} (h : LzI lo wr.heap.size gs v u k us wr) (hlo : lo ≤ wr.heap.size) (hb : Below wr.heap.size wr w) (hE : w.ownsRow wr.heap.size 3 1 (.slice (some ⟨wr.heap.size, 0, none⟩) 0 0) 0 []) (hz : wr.heap.size < w.heap.size)
    (hg : w.grownBy w' v.ownBlock) (hv : w'.ownsRow lo 26 1 v' (k + 1) (us ++ [.slice (some ⟨wr.heap.size, 0, none⟩) 0 0])) :
    OwR lo w'.heap.size 26 1 v' (k + 1) (us ++ [.slice (some ⟨wr.heap.size, 0, none⟩) 0 0]) w' ∧ OwR lo w'.heap.size 3 1 u k ((colsTo gs k).map (Value.int .i64)) w' ∧ SSk lo w'.heap.size (us ++ [.slice (some ⟨wr.heap.size, 0, none⟩) 0 0]) (fun _ => 0) (fun _ => []) w' ∧
      ∀ (j : Nat) (x : Value) (q : Nat), (us ++ [.slice (some ⟨wr.heap.size, 0, none⟩) 0 0])[j]? = some x → u.ownBlock = some q → x.ownBlock ≠ some q := by
  have hw := h.keep (w' := w) fun q _ hq => hb.block q hq
  have hsz := hg.size
  have hz' : wr.heap.size + 1 ≤ w'.heap.size := by omega
  have hul : us.length = k := by have := h.rd.1.1; omega
  have hs1 := hw.ss.grown hg (hw.ss.ne hw.rd.1 ints_ne_int)
  have hE' := hE.kept hg (blocks_ne hE hw.rd.1 ints_ne_int)
  refine ⟨OwR.start hv, ⟨hw.co.1.kept hg (blocks_ne hw.co.1 hw.rd.1 ints_ne_int), fun q hq => Nat.lt_of_lt_of_le (hw.co.2 q hq) (by omega)⟩, ?_, fun j x q hx hq => ?_⟩
  · have p := hs1.put (hi' := wr.heap.size + 1) (vs' := us ++ [.slice (some ⟨wr.heap.size, 0, none⟩) 0 0]) (lens' := fun _ => 0) (cont' := fun _ => []) (A := some ⟨wr.heap.size, 0, none⟩) (m := 0) (c := 0) k (by rw [List.getElem?_append_right (by omega), hul]; simp) (fun j hj => by
        rcases Nat.lt_or_ge j k with h2 | h2
        · rw [List.getElem?_append_left (by omega)]
        · rw [List.getElem?_eq_none (by simp; omega), List.getElem?_eq_none (by omega)]) (fun j hj h2 => by simp at hj; omega) rfl (fun j hj => ⟨rfl, rfl⟩) ⟨hE', fun q hq => by cases hq; exact Nat.lt_succ_self _⟩ hlo (Nat.le_succ _)
    exact p.mono (Nat.le_refl _) (by omega)
  · rcases Nat.lt_or_ge j k with h2 | h2
    · rw [List.getElem?_append_left (by omega)] at hx
      exact h.ap j x q hx hq
    · rcases Nat.lt_or_ge k j with h3 | h3
      · rw [List.getElem?_eq_none (by simp; omega)] at hx; cases hx
      · obtain rfl : j = k := by omega
        rw [List.getElem?_append_right (by omega), hul] at hx
        simp at hx
        subst hx
        have := h.co.2 q hq
        simp only [Value.ownBlock, ne_eq, Option.some.injEq]
        omega
/-- One more colour. -/
theorem LzI.colour {lo k : Nat} {gs : List Nd} {v u u' : Value} {us : List Value} {w w' : World} {hi : Nat} (hr : OwR lo hi 26 1 v (k + 1) us w) (hc : OwR lo hi 3 1 u k ((colsTo gs k).map (Value.int .i64)) w) (hs : SSk lo hi us (fun _ => 0) (fun _ => []) w)
    (ha : ∀ (j : Nat) (x : Value) (q : Nat), us[j]? = some x → u.ownBlock = some q → x.ownBlock ≠ some q) (hle : hi ≤ w.heap.size) (hk : k < gs.length) (hg : w.grownBy w' u.ownBlock) (hv : w'.ownsRow lo 3 1 u' (k + 1) ((colsTo gs k).map (Value.int .i64) ++ [.int .i64 (colOf (gs.getD k default))]))
    (hb : u'.ownBlock = u.ownBlock ∨ u'.ownBlock = some w.heap.size) : LzI lo w'.heap.size gs v u' (k + 1) us w' := by
  have hsz := hg.size
  refine ⟨⟨hr.1.kept hg (blocks_ne hr.1 hc.1 ints_ne_int.symm), fun q hq => by have := hr.2 q hq; omega⟩, OwR.start (by rw [colsTo_succ gs k hk, List.map_append]; exact hv), ?_, fun j x q hx hq => ?_⟩
  · refine (hs.grown hg fun j x hx => ?_).mono (Nat.le_refl _) (by omega)
    cases hxb : x.ownBlock with
    | none => exact .inl rfl
    | some q => exact .inr fun e => ha j x q hx e.symm hxb
  · intro hxq
    rcases hb with hb | hb
    · rw [hb] at hq; exact ha j x q hx hq hxq
    · rw [hb] at hq
      simp only [Option.some.injEq] at hq
      have := (hs.lt j x q hx hxq).2
      omega
set_option maxRecDepth 100000 in
set_option maxHeartbeats 3200000 in
theorem spec_startLazy (A A' : Option Addr) (n c m c' : Nat) (gs : List Nd) (xs : List Int) (w : World) (B : Nat) (hB : B ≤ w.heap.size) (hn : n = gs.length) (hm : m = xs.length) (h : GS w B A gs) (h' : IS w B A' xs) (hok : okC gs xs = true) :
    Calls Try.prog 20 #[.agg #[.slice A n c], .slice A' m c'] w fun e w' => RetL w (lazyOfL gs xs) e w' := by
  obtain ⟨i1, hi, hz0, hz1, hz2⟩ := info_parts info_ints1
  obtain ⟨i2, hj, hy0, hy1, hy2⟩ := info_parts info_int
  obtain ⟨hl1, hl2⟩ := okC_lens hok
  have hn10 : n ≤ 10 := by omega
  have HCI := Lib.hid fun (w' : World) (hB : B ≤ w'.heap.size) (h : IS w' B A' xs) => spec_copyIntsA A' m c' xs w' B hB hm h (by omega)
  have H := Lib.hid h
  have HX := Lib.hid h'
  have HN := Lib.hid hn
  have HM := Lib.hid hm
  have hmn : m ≤ 10 := by omega
  clear h h' hn hm hok hl1 hl2
  go_enter Try.func20, Try.ntmps20
  go_wp2_with fail
  refine (HCI.out _ (by simp; omega) ((HX.out.alloc hB _).alloc (by simp; omega) _)).mono ?_
  rintro e w1 ⟨g1, cap1, rfl, ho, hb⟩
  have q1 : w1.cell? ⟨w.heap.size, 0, none⟩ = some (.slice A n c) := (hb.cell (p := ⟨w.heap.size, 0, none⟩) (by simp; omega)).trans (by go_simp)
  have XR := Lib.hid ((box3_start (w.alloc (.cells #[.slice A n c] 25)) (.slice none 0 0) (.slice none 0 0) (.slice none 0 0) 31).step hb (by simp))
  simp only [World.size_alloc] at XR ho
  have hB1 : Below w.heap.size w w1 := (((Below.refl _ _).alloc (Nat.le_refl _) _).alloc (by simp) _).trans (hb.mono (by simp; omega))
  have hl1 : w.heap.size + 2 ≤ w1.heap.size := by have := hb.size; simp at this; omega
  have hg1 := ho.lt g1 rfl
  have HO := Lib.hid ho
  have HG1 := Lib.hid ((H.out.below hB1 hB).more (B' := w1.heap.size) (by omega))
  have HB1 := Lib.hid hB1
  clear hb ho H HX HCI hB1
  have X0 := Lib.hid (box3_start w1 (.slice (some ⟨g1, 0, none⟩) m cap1) (.slice none 0 0) (.slice none 0 0) 31)
  go_wp2
  go_loopw [6, 7] (fun i col wr => ∃ (k : Nat) (v u : Value) (us : List Value), k ≤ n ∧ i = .int .i64 k ∧ Hid (Bx3 w1.heap.size (.slice (some ⟨g1, 0, none⟩) m cap1) v u wr) ∧ Hid (LzI (w1.heap.size + 1) wr.heap.size gs v u k us wr) ∧ Hid (Below w1.heap.size w1 wr) ∧ w1.heap.size + 1 ≤ wr.heap.size) (fun i _ _ => n - (intOf i).toNat)
  case atStart => exact ⟨0, .slice none 0 0, .slice none 0 0, [], Nat.zero_le _, rfl, X0.out, ⟨OwR.nil _ _ _ _ _, by simpa [colsTo] using OwR.nil _ _ _ _ _, ⟨fun j hj => by simp at hj, fun i j v u k _ h1 => by simp at h1⟩, fun j x q hx => by simp at hx⟩, (Below.refl _ _).alloc (Nat.le_refl _) _, by simp⟩
  case round =>
    obtain ⟨k, v, u, us, hk, rfl, X, HI, HB, hwr⟩ := hrel
    have q2 := (HB.out.cell (p := ⟨w.heap.size, 0, none⟩) (by show w.heap.size < w1.heap.size; omega)).trans q1
    by_cases hlt : k < n
    · obtain ⟨b, off, rfl, hbB, hc⟩ := HG1.out (by have := HN.out; omega)
      obtain ⟨d0, -⟩ := hc k (by have := HN.out; omega)
      have e0 := (HB.out.cell (p := ⟨b, off + k * 2, none⟩) hbB).trans d0
      have hco : colOf (gs.getD k default) = if (gs.getD k default).k == 0 then 0 else 2 := rfl
      have hkd : k < gs.length := by have := HN.out; omega
      have HKD := Lib.hid hkd
      generalize (gs.getD k default).k = kd at *
      have hcl : (colsTo gs k).length ≤ 10 := by rw [colsTo_len _ _ (by omega)]; omega
      have x1 := X.out.c1
      have x2 := X.out.c2
      have y1 := X.out.f 1
      have y2 := X.out.f 2
      have xl := X.out.lt
      clear hc d0 hkd
      cases hkz : (kd == 0)
      · rw [hkz] at hco
        simp only [Bool.false_eq_true, if_false] at hco
        go_upto_region 8 with fail
        obtain ⟨w3, hw3⟩ : ∃ W : World, W = (wr.alloc (.cells #[] 3)).alloc (.cells #[.slice (some ⟨wr.heap.size, 0, none⟩) 0 0] 26) := ⟨_, rfl⟩
        have hb3 : Below wr.heap.size wr w3 := by rw [hw3]; exact ((Below.refl _ _).alloc (Nat.le_refl _) _).alloc (by simp) _
        have hz3 : wr.heap.size + 2 ≤ w3.heap.size := by rw [hw3]; simp
        have hE : w3.ownsRow wr.heap.size 3 1 (.slice (some ⟨wr.heap.size, 0, none⟩) 0 0) 0 [] := by
          rw [hw3]
          have := World.ownsRow_lit (e := 3) (size := 1) (base := wr.heap.size) wr #[] 0 (Nat.le_refl _) (by unfold maxLen; omega) rfl
          exact (by simpa using this : (wr.alloc (.cells #[] 3)).ownsRow wr.heap.size 3 1 (.slice (some ⟨wr.heap.size, 0, none⟩) 0 0) 0 []).alloc _
        have hR3 : w3.ownsRow (w1.heap.size + 1) 26 1 v k us := by rw [hw3]; exact (HI.out.rd.1.alloc _).alloc _
        have hnews : ∀ j y, [Value.slice (some ⟨wr.heap.size, 0, none⟩) 0 0][j]? = some y → w3.cell? ((⟨wr.heap.size + 1, 0, none⟩ : Addr).add j) = some y := by
          rw [hw3]
          have := cell_one_new (wr.alloc (.cells #[] 3)) (.slice (some ⟨wr.heap.size, 0, none⟩) 0 0) 26
          simpa only [World.size_alloc] using this
        have HE := Lib.hid hE
        have HB3 := Lib.hid hb3
        have HR3 := Lib.hid hR3
        have HNW := Lib.hid hnews
        clear hE hb3 hR3 hnews
        go_wp2_with (at_builtin; rw [← hw3]; refine wpList_append_own_at _ rfl _ _ 29 rfl (w1.heap.size + 1) 26 i1 (.slice none 0 0) 1 24 Try.underlying29 hi hz0 hz1 hz2 rfl (by decide) _ _ _ rfl HR3.out ⟨wr.heap.size + 1, 0, none⟩ 1 1 [.slice (some ⟨wr.heap.size, 0, none⟩) 0 0] rfl rfl HNW.out ?c2 ?c3 ?c4 ?c5 ?_)
        case c2 => first | rfl | (intro y hy; simp at hy; subst hy; rfl)
        case c3 => unfold maxLen; omega
        case c4 => omega
        case c5 => first | omega | (simp; omega)
        intro v' w4 hown' hgrow _ hblk
        rw [← hw3] at hgrow
        obtain ⟨Av4, cv4, rfl⟩ := own_form hown'
        have hpos := HR3.out.lt
        have hrd := HI.out.read hwr HB3.out HE.out (by omega) hgrow hown'
        have hz4 := hgrow.size
        have hb4 : Below (w1.heap.size + 1) wr w4 := (HB3.out.mono hwr).grown hgrow (by omega) (fun q hq => (hpos q hq).1)
        have X4 := Lib.hid (X.out.step hb4 (by omega))
        have hs4 : w1.heap.size + 1 ≤ w4.heap.size := by omega
        have HRD := Lib.hid hrd
        have HB4 := Lib.hid hb4
        clear hown' hgrow hblk hpos hrd hb4 hw3 HE HB3 HR3 HNW x1 y1 x2 y2 e0 q2
        have x1 := X4.out.c1
        have y1 := X4.out.f 1
        go_upto_region 9 with fail
        obtain ⟨W5, hW5⟩ : ∃ W : World, W = w4.setCell ⟨w1.heap.size, 1, none⟩ (.slice Av4 (k + 1) cv4) := ⟨_, rfl⟩
        have hs5 : W5.heap.size = w4.heap.size := by rw [hW5]; simp [World.setCell]
        have X5 := Lib.hid (show Bx3 _ _ (.slice Av4 (k + 1) cv4) u W5 from by rw [hW5]; exact X4.out.set1)
        have k5 : ∀ q, w1.heap.size + 1 ≤ q → q < w4.heap.size → W5.heap[q]? = w4.heap[q]? := fun q hq _ => by rw [hW5]; exact Below.heap_setCell _ _ _ _ (by show q ≠ w1.heap.size; omega)
        have R5 := Lib.hid (HRD.out.1.keep k5)
        have C5 := Lib.hid (HRD.out.2.1.keep k5)
        have S5 := Lib.hid (HRD.out.2.2.1.keep k5)
        have A5 := Lib.hid HRD.out.2.2.2
        have HB5 : Hid (Below w1.heap.size w1 W5) := by rw [hW5]; exact (HB.out.trans (HB4.out.mono (by omega))).setCell (Nat.le_refl _) _
        rw [← hW5]
        clear hW5 k5 HRD HB4 X4 x1 y1
        have x2 := X5.out.c2
        have y2 := X5.out.f 2
        have hz5 : w4.heap.size ≤ W5.heap.size := by omega
        have hz5' : w1.heap.size + 1 ≤ W5.heap.size := by omega
        clear hs5
        go_wp2_with (at_builtin; refine wpList_append_own_at _ rfl _ _ 26 rfl (w1.heap.size + 1) 3 i2 (.int .i64 0) 1 8 Try.underlying26 hj hy0 hy1 hy2 rfl (by decide) _ _ _ rfl (C5.out.1.alloc _) ⟨_, 0, none⟩ 1 1 [.int .i64 2] rfl rfl (cell_one_new _ _ _) ?c2 ?c3 ?c4 ?c5 ?_)
        case c2 => first | rfl | (intro y hy; simp at hy; subst hy; rfl)
        case c3 => unfold maxLen; omega
        case c4 => omega
        case c5 => first | omega | (simp; omega)
        intro u' w6 hown2 hgrow2 _ hblk2
        obtain ⟨Au6, cu6, rfl⟩ := own_form hown2
        have hpos2 := (C5.out.1.alloc (.cells #[.int .i64 2] 3)).lt
        have ka : ∀ q, w1.heap.size + 1 ≤ q → q < w4.heap.size → (W5.alloc (.cells #[.int .i64 2] 3)).heap[q]? = W5.heap[q]? := fun q _ hq => ((Below.refl W5.heap.size W5).alloc (Nat.le_refl _) _).block q (by omega)
        have hnew := LzI.colour (w := W5.alloc (.cells #[.int .i64 2] 3)) (R5.out.keep ka) (C5.out.keep ka) (S5.out.keep ka) A5.out (by simp; omega) HKD.out hgrow2 (by rw [hco]; exact hown2) (by rw [World.size_alloc]; exact hblk2)
        have hb6 : Below (w1.heap.size + 1) W5 w6 := ((Below.refl (w1.heap.size + 1) W5).alloc hz5' (.cells #[.int .i64 2] 3)).grown hgrow2 (by simp; omega) (fun q hq => (hpos2 q hq).1)
        have X6 := Lib.hid (X5.out.step hb6 (by omega))
        have HNEW := Lib.hid hnew
        have HB6 := Lib.hid (HB5.out.trans (hb6.mono (by omega)))
        have hs6 : w1.heap.size + 1 ≤ w6.heap.size := by have := hb6.size; omega
        clear hown2 hgrow2 hblk2 hpos2 hnew hb6 ka R5 C5 S5 A5 X5 HB5 x2 y2
        have x2 := X6.out.c2
        have y2 := X6.out.f 2
        go_wp2
        go_roundw
        case rel =>
          refine ⟨k + 1, (.slice Av4 (k + 1) cv4), (.slice Au6 (k + 1) cu6), us ++ [.slice (some ⟨wr.heap.size, 0, none⟩) 0 0], by omega, by go_num, X6.out.set2, ?_, HB6.out.setCell (Nat.le_refl _) _, by simpa [World.setCell] using hs6⟩
          have := HNEW.out.setCell (a := ⟨w1.heap.size, 2, none⟩) (by simp) (.slice Au6 (k + 1) cu6)
          simpa [World.setCell, Hid] using this
        case measure => simp [intOf]; omega
      · rw [hkz] at hco
        simp only [if_true] at hco
        go_upto_region 8 with fail
        obtain ⟨w3, hw3⟩ : ∃ W : World, W = (wr.alloc (.cells #[] 3)).alloc (.cells #[.slice (some ⟨wr.heap.size, 0, none⟩) 0 0] 26) := ⟨_, rfl⟩
        have hb3 : Below wr.heap.size wr w3 := by rw [hw3]; exact ((Below.refl _ _).alloc (Nat.le_refl _) _).alloc (by simp) _
        have hz3 : wr.heap.size + 2 ≤ w3.heap.size := by rw [hw3]; simp
        have hE : w3.ownsRow wr.heap.size 3 1 (.slice (some ⟨wr.heap.size, 0, none⟩) 0 0) 0 [] := by
          rw [hw3]
          have := World.ownsRow_lit (e := 3) (size := 1) (base := wr.heap.size) wr #[] 0 (Nat.le_refl _) (by unfold maxLen; omega) rfl
          exact (by simpa using this : (wr.alloc (.cells #[] 3)).ownsRow wr.heap.size 3 1 (.slice (some ⟨wr.heap.size, 0, none⟩) 0 0) 0 []).alloc _
        have hR3 : w3.ownsRow (w1.heap.size + 1) 26 1 v k us := by rw [hw3]; exact (HI.out.rd.1.alloc _).alloc _
        have hnews : ∀ j y, [Value.slice (some ⟨wr.heap.size, 0, none⟩) 0 0][j]? = some y → w3.cell? ((⟨wr.heap.size + 1, 0, none⟩ : Addr).add j) = some y := by
          rw [hw3]
          have := cell_one_new (wr.alloc (.cells #[] 3)) (.slice (some ⟨wr.heap.size, 0, none⟩) 0 0) 26
          simpa only [World.size_alloc] using this
        have HE := Lib.hid hE
        have HB3 := Lib.hid hb3
        have HR3 := Lib.hid hR3
        have HNW := Lib.hid hnews
        clear hE hb3 hR3 hnews
        go_wp2_with (at_builtin; rw [← hw3]; refine wpList_append_own_at _ rfl _ _ 29 rfl (w1.heap.size + 1) 26 i1 (.slice none 0 0) 1 24 Try.underlying29 hi hz0 hz1 hz2 rfl (by decide) _ _ _ rfl HR3.out ⟨wr.heap.size + 1, 0, none⟩ 1 1 [.slice (some ⟨wr.heap.size, 0, none⟩) 0 0] rfl rfl HNW.out ?c2 ?c3 ?c4 ?c5 ?_)
        case c2 => first | rfl | (intro y hy; simp at hy; subst hy; rfl)
        case c3 => unfold maxLen; omega
        case c4 => omega
        case c5 => first | omega | (simp; omega)
        intro v' w4 hown' hgrow _ hblk
        rw [← hw3] at hgrow
        obtain ⟨Av4, cv4, rfl⟩ := own_form hown'
        have hpos := HR3.out.lt
        have hrd := HI.out.read hwr HB3.out HE.out (by omega) hgrow hown'
        have hz4 := hgrow.size
        have hb4 : Below (w1.heap.size + 1) wr w4 := (HB3.out.mono hwr).grown hgrow (by omega) (fun q hq => (hpos q hq).1)
        have X4 := Lib.hid (X.out.step hb4 (by omega))
        have hs4 : w1.heap.size + 1 ≤ w4.heap.size := by omega
        have HRD := Lib.hid hrd
        have HB4 := Lib.hid hb4
        clear hown' hgrow hblk hpos hrd hb4 hw3 HE HB3 HR3 HNW x1 y1 x2 y2 e0 q2
        have x1 := X4.out.c1
        have y1 := X4.out.f 1
        go_upto_region 9 with fail
        obtain ⟨W5, hW5⟩ : ∃ W : World, W = w4.setCell ⟨w1.heap.size, 1, none⟩ (.slice Av4 (k + 1) cv4) := ⟨_, rfl⟩
        have hs5 : W5.heap.size = w4.heap.size := by rw [hW5]; simp [World.setCell]
        have X5 := Lib.hid (show Bx3 _ _ (.slice Av4 (k + 1) cv4) u W5 from by rw [hW5]; exact X4.out.set1)
        have k5 : ∀ q, w1.heap.size + 1 ≤ q → q < w4.heap.size → W5.heap[q]? = w4.heap[q]? := fun q hq _ => by rw [hW5]; exact Below.heap_setCell _ _ _ _ (by show q ≠ w1.heap.size; omega)
        have R5 := Lib.hid (HRD.out.1.keep k5)
        have C5 := Lib.hid (HRD.out.2.1.keep k5)
        have S5 := Lib.hid (HRD.out.2.2.1.keep k5)
        have A5 := Lib.hid HRD.out.2.2.2
        have HB5 : Hid (Below w1.heap.size w1 W5) := by rw [hW5]; exact (HB.out.trans (HB4.out.mono (by omega))).setCell (Nat.le_refl _) _
        rw [← hW5]
        clear hW5 k5 HRD HB4 X4 x1 y1
        have x2 := X5.out.c2
        have y2 := X5.out.f 2
        have hz5 : w4.heap.size ≤ W5.heap.size := by omega
        have hz5' : w1.heap.size + 1 ≤ W5.heap.size := by omega
        clear hs5
        go_wp2_with (at_builtin; refine wpList_append_own_at _ rfl _ _ 26 rfl (w1.heap.size + 1) 3 i2 (.int .i64 0) 1 8 Try.underlying26 hj hy0 hy1 hy2 rfl (by decide) _ _ _ rfl (C5.out.1.alloc _) ⟨_, 0, none⟩ 1 1 [.int .i64 0] rfl rfl (cell_one_new _ _ _) ?c2 ?c3 ?c4 ?c5 ?_)
        case c2 => first | rfl | (intro y hy; simp at hy; subst hy; rfl)
        case c3 => unfold maxLen; omega
        case c4 => omega
        case c5 => first | omega | (simp; omega)
        intro u' w6 hown2 hgrow2 _ hblk2
        obtain ⟨Au6, cu6, rfl⟩ := own_form hown2
        have hpos2 := (C5.out.1.alloc (.cells #[.int .i64 0] 3)).lt
        have ka : ∀ q, w1.heap.size + 1 ≤ q → q < w4.heap.size → (W5.alloc (.cells #[.int .i64 0] 3)).heap[q]? = W5.heap[q]? := fun q _ hq => ((Below.refl W5.heap.size W5).alloc (Nat.le_refl _) _).block q (by omega)
        have hnew := LzI.colour (w := W5.alloc (.cells #[.int .i64 0] 3)) (R5.out.keep ka) (C5.out.keep ka) (S5.out.keep ka) A5.out (by simp; omega) HKD.out hgrow2 (by rw [hco]; exact hown2) (by rw [World.size_alloc]; exact hblk2)
        have hb6 : Below (w1.heap.size + 1) W5 w6 := ((Below.refl (w1.heap.size + 1) W5).alloc hz5' (.cells #[.int .i64 0] 3)).grown hgrow2 (by simp; omega) (fun q hq => (hpos2 q hq).1)
        have X6 := Lib.hid (X5.out.step hb6 (by omega))
        have HNEW := Lib.hid hnew
        have HB6 := Lib.hid (HB5.out.trans (hb6.mono (by omega)))
        have hs6 : w1.heap.size + 1 ≤ w6.heap.size := by have := hb6.size; omega
        clear hown2 hgrow2 hblk2 hpos2 hnew hb6 ka R5 C5 S5 A5 X5 HB5 x2 y2
        have x2 := X6.out.c2
        have y2 := X6.out.f 2
        go_wp2
        go_roundw
        case rel =>
          refine ⟨k + 1, (.slice Av4 (k + 1) cv4), (.slice Au6 (k + 1) cu6), us ++ [.slice (some ⟨wr.heap.size, 0, none⟩) 0 0], by omega, by go_num, X6.out.set2, ?_, HB6.out.setCell (Nat.le_refl _) _, by simpa [World.setCell] using hs6⟩
          have := HNEW.out.setCell (a := ⟨w1.heap.size, 2, none⟩) (by simp) (.slice Au6 (k + 1) cu6)
          simpa [World.setCell, Hid] using this
        case measure => simp [intOf]; omega
    · obtain rfl : k = n := by omega
      obtain ⟨Av, cv, rfl⟩ := own_form HI.out.rd.1
      obtain ⟨Au, cu, rfl⟩ := own_form HI.out.co.1
      have XW := Lib.hid (XR.out.step HB.out (by omega))
      have e0 := XW.out.c0
      have e1 := XW.out.c1
      have e2 := XW.out.c2
      have g0 := XW.out.f 0
      have g1' := XW.out.f 1
      have g2 := XW.out.f 2
      have x0 := X.out.c0
      have x1 := X.out.c1
      have x2 := X.out.c2
      have xl := X.out.lt
      have hr0 : OwR (w.heap.size + 1 + 1) w1.heap.size 3 1 (.slice (some ⟨g1, 0, none⟩) m cap1) m (xs.map (Value.int .i64)) wr := ⟨(own_below HO.out HB.out), fun q hq => by cases hq; exact hg1.2⟩
      have hoe : OwL (w.heap.size + 1 + 1) wr.heap.size (some ⟨g1, 0, none⟩) m cap1 Av k cv Au k cu (lazyOfL gs xs) wr := by
        refine OwL.of_apart (us := us) (hr0.mono (Nat.le_refl _) (by omega)) HM.out (by rw [HN.out]; simp [lazyOfL, noReads]) (HI.out.rd.mono (by omega) (Nat.le_refl _)) ?_ ?_ (by rw [HN.out]; exact (colsTo_len gs _ (Nat.le_refl _)).symm) (fun j x q hx hq hxq => ?_) HI.out.ap (fun q hq hq' => ?_)
        · have := HI.out.ss.mono (lo' := w.heap.size + 1 + 1) (by omega) (Nat.le_refl _)
          have e3 : lenOf (noReads gs.length) = fun _ => 0 := funext fun j => noReads_len _ j
          have e4 : rowOf (noReads gs.length) = fun _ => [] := funext fun j => noReads_row _ j
          show SSk _ _ us (lenOf (noReads gs.length)) (rowOf (noReads gs.length)) wr
          rw [e3, e4]
          exact this
        · have := HI.out.co.mono (lo' := w.heap.size + 1 + 1) (by omega) (Nat.le_refl _)
          show OwR _ _ _ _ _ _ ((colsTo gs gs.length).map _) _
          rw [← HN.out]
          exact this
        · have a1 := hr0.2 q hq
          have a2 := (HI.out.ss.lt j x q hx hxq).1
          omega
        · have a1 := hr0.2 q hq
          have a2 := (HI.out.co.1.lt q hq').1
          omega
      have HOE := Lib.hid hoe
      clear hoe hr0
      go_wp2
      refine bodyPost_ret (v := .agg #[.slice (some ⟨g1, 0, none⟩) m cap1, .slice Av k cv, .slice Au k cu]) (by simp [results, Try.results20, go_sem, e0, e1, e2]) rfl ?_
      have o1 := HOE.out.setCell (a := ⟨w.heap.size + 1, 0, none⟩) (by simp) (.slice (some ⟨g1, 0, none⟩) m cap1)
      have o2 := o1.setCell (a := ⟨w.heap.size + 1, 1, none⟩) (by simp) (.slice Av k cv)
      have o3 := o2.setCell (a := ⟨w.heap.size + 1, 2, none⟩) (by simp) (.slice Au k cu)
      refine ⟨_, _, _, _, _, _, _, _, _, rfl, ?_, (((HB1.out.trans (HB.out.mono (by omega))).setCell (by simp) _).setCell (by simp) _).setCell (by simp) _⟩
      have o4 := o3.mono (lo' := w.heap.size) (hi' := wr.heap.size) (by omega) (Nat.le_refl _)
      simpa [World.setCell] using o4
set_option maxRecDepth 100000 in
set_option maxHeartbeats 3200000 in
theorem top_spec_StartLazy (gs : List Nd) (xs : List Int) (hG : GB gs) (hL : xs.length ≤ 1048576) : ∀ (A : Option Addr) (n c : Nat) (A' : Option Addr) (m c' : Nat) (w : World), n = gs.length → n ≤ c → GS w w.heap.size A gs → m = xs.length → IS w w.heap.size A' xs →
    Calls Try.prog 7 #[.agg #[.slice A n c], .slice A' m c'] w fun e w' => RetL w (startL gs xs) e w' := by
  intro A n c A' m c' w hn _ h hm h'
  have H := Lib.hid h
  have HI := Lib.hid h'
  have HC := Lib.hid fun (w' : World) (hB : w.heap.size ≤ w'.heap.size) (h : GS w' w.heap.size A gs) => spec_validGraph A n c gs w' w.heap.size hB hn h hG
  have HD := Lib.hid fun (w' : World) (hB : w.heap.size ≤ w'.heap.size) (h : GS w' w.heap.size A gs) (h' : IS w' w.heap.size A' xs) => spec_validCells A A' n c m c' gs xs w' w.heap.size hB hn hm h h' (by have := hG.1; omega) (by omega)
  have HE := Lib.hid fun (w' : World) (hB : w.heap.size ≤ w'.heap.size) (h : GS w' w.heap.size A gs) (h' : IS w' w.heap.size A' xs) (hok : okC gs xs = true) => spec_startLazy A A' n c m c' gs xs w' w.heap.size hB hn hm h h' hok
  have hf : startL gs xs = if okC gs xs then lazyOfL gs xs else ⟨[], [], []⟩ := rfl
  have hok : okC gs xs = (validG gs && validC gs xs) := rfl
  rw [hf]
  clear hf
  generalize okC gs xs = o at *
  generalize validG gs = r at *
  generalize validC gs xs = s at *
  generalize lazyOfL gs xs = M at *
  subst hok
  clear h h' hn hm hG
  have HGA := Lib.hid ((H.out.alloc (Nat.le_refl _) (.cells #[.slice A n c] 25)).alloc (by simp) (.cells #[.slice none 0 0, .slice none 0 0, .slice none 0 0] 31))
  have HIA := Lib.hid ((HI.out.alloc (Nat.le_refl _) (.cells #[.slice A n c] 25)).alloc (by simp) (.cells #[.slice none 0 0, .slice none 0 0, .slice none 0 0] 31))
  have X0 := Lib.hid (box3_start (w.alloc (.cells #[.slice A n c] 25)) (.slice none 0 0) (.slice none 0 0) (.slice none 0 0) 31)
  simp only [World.size_alloc] at X0
  cases r
  · go_enter Try.func7, Try.ntmps7
    go_wp2_with fail
    refine (HC.out _ (by simp; omega) HGA.out).mono ?_
    rintro e w1 ⟨rfl, hb⟩
    have X1 := Lib.hid (X0.out.step hb (by simp))
    have k0 := X1.out.c0
    have k1 := X1.out.c1
    have k2 := X1.out.c2
    have f0 := X1.out.f 0
    have f1 := X1.out.f 1
    have f2 := X1.out.f 2
    have hB1 : Below w.heap.size w w1 := (((Below.refl _ _).alloc (Nat.le_refl _) _).alloc (by simp) _).trans (hb.mono (by simp; omega))
    go_wp2
    refine bodyPost_ret (v := .agg #[.slice none 0 0, .slice none 0 0, .slice none 0 0]) (by simp [results, Try.results7, go_sem, k0, k1, k2]) rfl (RetL.nil ?_)
    exact ((hB1.setCell (by simp) _).setCell (by simp) _).setCell (by simp) _
  · go_enter Try.func7, Try.ntmps7
    go_wp2_with fail
    refine (HC.out _ (by simp; omega) HGA.out).mono ?_
    rintro e w1 ⟨rfl, hb⟩
    have q0 : w1.cell? ⟨w.heap.size, 0, none⟩ = some (.slice A n c) := (hb.cell (p := ⟨w.heap.size, 0, none⟩) (by simp; omega)).trans (by go_simp)
    have X1 := Lib.hid (X0.out.step hb (by simp))
    have hB1 : Below w.heap.size w w1 := (((Below.refl _ _).alloc (Nat.le_refl _) _).alloc (by simp) _).trans (hb.mono (by simp; omega))
    have hl1 : w.heap.size + 2 ≤ w1.heap.size := by have := hb.size; simp at this; omega
    have HG1 := Lib.hid (HGA.out.below hb (by simp; omega))
    have HI1 := Lib.hid (HIA.out.below hb (by simp; omega))
    clear hb
    go_wp2_with fail
    refine (HD.out _ (by omega) HG1.out HI1.out).mono ?_
    rintro e w2 ⟨rfl, hb2⟩
    have r0 := (hb2.cell (p := ⟨w.heap.size, 0, none⟩) (by show w.heap.size < w1.heap.size; omega)).trans q0
    have X2 := Lib.hid (X1.out.step hb2 (by omega))
    have hB2 := hB1.trans (hb2.mono (by omega))
    have hl2 : w.heap.size + 2 ≤ w2.heap.size := Nat.le_trans hl1 hb2.size
    have HG2 := Lib.hid (HG1.out.below hb2 (by omega))
    have HI2 := Lib.hid (HI1.out.below hb2 (by omega))
    clear hb2 q0 X1
    cases s
    · have k0 := X2.out.c0
      have k1 := X2.out.c1
      have k2 := X2.out.c2
      have f0 := X2.out.f 0
      have f1 := X2.out.f 1
      have f2 := X2.out.f 2
      go_wp2
      refine bodyPost_ret (v := .agg #[.slice none 0 0, .slice none 0 0, .slice none 0 0]) (by simp [results, Try.results7, go_sem, k0, k1, k2]) rfl (RetL.nil ?_)
      exact ((hB2.setCell (by simp) _).setCell (by simp) _).setCell (by simp) _
    · go_wp2_with fail
      refine (HE.out _ (by omega) HG2.out HI2.out rfl).mono ?_
      rintro e w3 ⟨A3, n3, c3, E3, en3, ec3, C3, m3, d3, rfl, ho, hb3⟩
      have X3 := Lib.hid (X2.out.step hb3 (by omega))
      have k0 := X3.out.c0
      have k1 := X3.out.c1
      have k2 := X3.out.c2
      have f0 := X3.out.f 0
      have f1 := X3.out.f 1
      have f2 := X3.out.f 2
      have HO := Lib.hid ho
      have HB3 := Lib.hid (hB2.trans (hb3.mono (by omega)))
      clear ho hb3
      go_wp2
      refine bodyPost_ret (v := .agg #[.slice A3 n3 c3, .slice E3 en3 ec3, .slice C3 m3 d3]) (by simp [results, Try.results7, go_sem, k0, k1, k2]) rfl ?_
      have o1 := HO.out.setCell (a := ⟨w.heap.size + 1, 0, none⟩) (by simp; omega) (.slice A3 n3 c3)
      have o2 := o1.setCell (a := ⟨w.heap.size + 1, 1, none⟩) (by simp; omega) (.slice E3 en3 ec3)
      have o3 := o2.setCell (a := ⟨w.heap.size + 1, 2, none⟩) (by simp; omega) (.slice C3 m3 d3)
      refine ⟨_, _, _, _, _, _, _, _, _, rfl, ?_, ((HB3.out.setCell (by simp) _).setCell (by simp) _).setCell (by simp) _⟩
      have o4 := o3.mono (lo' := w.heap.size) (hi' := w3.heap.size) (by omega) (Nat.le_refl _)
      simpa [World.setCell] using o4
end Go.Proofs.Ytbnioefhfpahcaa

namespace Go.Proofs.Ytbnioefhfpahcaa
set_option linter.unusedSimpArgs false
set_option linter.unusedVariables false
def fitF (gs : List Nd) (st : Lz) (i : Nat) : Bool :=
  if st.cs.getD i 0 == 0 then asRun gs st i && cleanR st.cs (st.rs.getD i [])
  else if st.cs.getD i 0 == 1 then !((gs.getD i default).k == 0) && asRun gs st i
  else if st.cs.getD i 0 == 2 then !((gs.getD i default).k == 0) && (apartL (st.rs.getD i []) && inL (st.rs.getD i []) (mayF (gs.getD i default).ps))
  else false
def allF (gs : List Nd) (st : Lz) : Bool := decide (∀ i, i < gs.length → fitF gs st i = true)
theorem allF_bad (gs : List Nd) (st : Lz) (i : Nat) (hi : i < gs.length) (h : fitF gs st i = false) : allF gs st = false := by
  unfold allF
  rw [decide_eq_false_iff_not]
  intro hh
  rw [hh i hi] at h
  cases h
theorem allF_fin (gs : List Nd) (st : Lz) (h : ∀ i, i < gs.length → fitF gs st i = true) : allF gs st = true := by
  unfold allF
  exact decide_eq_true h
theorem fitF_col (gs : List Nd) (st : Lz) (i : Nat) (hg : validG gs = true) (hi : i < gs.length) : fitF gs st i = (rng (st.cs.getD i 0) 0 2 && colOK gs st i) := by
  have hn := (validG_parts gs hg).2 i hi
  unfold fitF colOK
  cases hk : ((gs.getD i default).k == 0)
  · have hmf : mayF (gs.getD i default).ps = mayR (gs.getD i default).ps := by
      unfold mayF
      rw [(nodeOK_formula gs i hn hk).1]; rfl
    rw [hmf]
    by_cases h0 : st.cs.getD i 0 = 0
    · rw [h0]; simp [rng]
    · by_cases h1 : st.cs.getD i 0 = 1
      · rw [h1]; simp [rng]
      · by_cases h2 : st.cs.getD i 0 = 2
        · rw [h2]; simp [rng]
        · have hr : rng (st.cs.getD i 0) 0 2 = false := by
            unfold rng
            rw [decide_eq_false_iff_not]; omega
          have e0 : (st.cs.getD i 0 == 0) = false := by simpa using h0
          have e1 : (st.cs.getD i 0 == 1) = false := by simpa using h1
          have e2 : (st.cs.getD i 0 == 2) = false := by simpa using h2
          rw [hr, e0, e1, e2]; simp
  · have ha : asRun gs st i = decide ((st.rs.getD i []).length = 0) := by
      unfold asRun valE depF
      rw [hk]
      simp only [if_true, beq_self_eq_true, Bool.true_and]
      rw [decide_eq_decide]
      constructor
      · intro e; rw [← e]; rfl
      · intro e; exact (List.eq_nil_of_length_eq_zero e).symm
    rw [ha]
    simp only [if_true]
    by_cases h0 : st.cs.getD i 0 = 0
    · rw [h0]
      by_cases hl : (st.rs.getD i []).length = 0
      · rw [List.eq_nil_of_length_eq_zero hl]; simp [rng, cleanR]
      · rw [decide_eq_false hl]; simp
    · have e0 : (st.cs.getD i 0 == 0) = false := by simpa using h0
      rw [e0]; simp
theorem allF_eq (gs : List Nd) (st : Lz) (hg : validG gs = true) (hl : st.cs.length = gs.length) : allF gs st = (allR st.cs 0 2 && allL gs st) := by
  by_cases h : ∀ i, i < gs.length → fitF gs st i = true
  · rw [allF_fin gs st h]
    have hh : ∀ i, i < gs.length → rng (st.cs.getD i 0) 0 2 = true ∧ colOK gs st i = true := fun i hi => by
      have := h i hi
      rw [fitF_col gs st i hg hi, Bool.and_eq_true] at this
      exact this
    rw [allR_true st.cs 0 2 fun k hk => (hh k (by omega)).1, allL_fin gs st fun i hi => (hh i hi).2]; rfl
  · have : ∃ i, i < gs.length ∧ fitF gs st i = false := by
      apply Classical.byContradiction
      intro hc
      apply h
      intro i hi
      cases hf : fitF gs st i
      · exact absurd ⟨i, hi, hf⟩ hc
      · rfl
    obtain ⟨i, hi, hf⟩ := this
    rw [allF_bad gs st i hi hf]
    rw [fitF_col gs st i hg hi, Bool.and_eq_false_iff] at hf
    rcases hf with hf | hf
    · have : allR st.cs 0 2 = false := by
        unfold allR
        exact all_bad st.cs _ i (by omega) hf
      rw [this]; rfl
    · rw [allL_bad gs st i hi hf, Bool.and_false]
/-- What a node reads is what its run reads, if it is as if it had run. -/
theorem asRun_reads (gs : List Nd) (st : Lz) (i : Nat) (h : asRun gs st i = true) : st.rs.getD i [] = depF gs st.vs i := by
  unfold asRun at h
  rw [Bool.and_eq_true] at h
  exact (of_decide_eq_true h.2).symm
end Go.Proofs.Ytbnioefhfpahcaa

namespace Go.Proofs.Ytbnioefhfpahcaa
set_option linter.unusedSimpArgs false
set_option linter.unusedVariables false
open Go.RowKit
set_option maxRecDepth 100000 in
set_option maxHeartbeats 1600000 in
theorem impl_areDifferentOf (A A' : Option Addr) (n c m c' : Nat) (a b : List Int) (w : World) (B : Nat) (hB : B ≤ w.heap.size) (hn : n = a.length) (hm : m = b.length) (h : IS w B A a) (h' : IS w B A' b) (hs : n ≤ 2000000) (hs' : m ≤ 2000000) (hcap : m ≤ c') :
    Calls Try.prog 36 #[.slice A n c, .slice A' m c'] w fun e w' => e = .returned (.bool (apartL b && inL b a)) ∧ w = w' := by
  have H := Lib.hid h
  have H' := Lib.hid h'
  have HN := Lib.hid hn
  have HM := Lib.hid hm
  have HBAD := Lib.hid (dif_bad b a)
  have HFIN := Lib.hid (dif_fin b a)
  clear hn h hm h'
  go_enter Try.func36, Try.ntmps36
  go_wp2
  go_loop [9] (fun i => ∃ k : Nat, k ≤ m ∧ i = .int .i64 k ∧ Hid (∀ i, i < k → difB b a i = true)) (fun i => m - (intOf i).toNat)
  case atStart => exact ⟨0, Nat.zero_le _, rfl, fun i hi => by omega⟩
  case round =>
    obtain ⟨k, hk, rfl, HT⟩ := hrel
    by_cases hlt : k < m
    · obtain ⟨b1, off1, rfl, hb1, hc1⟩ := H'.out (by have := HM.out; omega)
      have c1 := hc1 k (by have := HM.out; omega)
      have HTK := Lib.hid (show IS w B (some ⟨b1, off1, none⟩) (b.take k) from fun hn => ⟨b1, off1, rfl, hb1, fun j hj => by
        rw [List.length_take] at hj
        rw [show (b.take k).getD j 0 = b.getD j 0 by simp only [List.getD, List.getElem?_take, if_pos (show j < k by omega)]]
        exact hc1 j (by omega)⟩)
      clear hc1
      have hd : difB b a k = (decide (b.getD k 0 ∈ a) && !decide (b.getD k 0 ∈ b.take k)) := rfl
      have HBK := Lib.hid (HBAD.out k (by have := HM.out; omega))
      have HNT : Hid (difB b a k = true → ∀ i, i < k + 1 → difB b a i = true) := fun hh j hj => by
        rcases Nat.lt_or_ge j k with h1 | h1
        · exact HT.out j h1
        · obtain rfl : j = k := by omega
          exact hh
      have HC1 := Lib.hid (slices_Contains A n c a (b.getD k 0) w B hB HN.out H.out hs)
      have HC2 := Lib.hid (slices_Contains (some ⟨b1, off1, none⟩) k c' (b.take k) (b.getD k 0) w B hB (by rw [List.length_take]; have := HM.out; omega) HTK.out (by omega))
      have hkc : k ≤ c' := by omega
      generalize b.getD k 0 = x at *
      generalize decide (x ∈ a) = r1 at *
      generalize decide (x ∈ b.take k) = r2 at *
      clear HTK
      cases r1
      · have HF := Lib.hid (HBK.out (by rw [hd]; rfl))
        clear hd
        go_wp2_with fail
        refine HC1.out.mono ?_
        rintro e w' ⟨rfl, rfl⟩
        go_wp2
        go_ret
        exact ⟨ret_b HF.out.symm, rfl⟩
      · cases r2
        · have HF := Lib.hid (HNT.out (by rw [hd]; rfl))
          clear hd
          go_wp2_with fail
          refine HC1.out.mono ?_
          rintro e w' ⟨rfl, rfl⟩
          go_wp2_with fail
          refine HC2.out.mono ?_
          rintro e w' ⟨rfl, rfl⟩
          go_wp2
          go_round
          case rel => exact ⟨k + 1, by omega, by go_num, HF.out⟩
          case measure => simp [intOf]; omega
        · have HF := Lib.hid (HBK.out (by rw [hd]; rfl))
          clear hd
          go_wp2_with fail
          refine HC1.out.mono ?_
          rintro e w' ⟨rfl, rfl⟩
          go_wp2_with fail
          refine HC2.out.mono ?_
          rintro e w' ⟨rfl, rfl⟩
          go_wp2
          go_ret
          exact ⟨ret_b HF.out.symm, rfl⟩
    · obtain rfl : k = m := by omega
      go_wp2
      go_ret
      exact ⟨ret_b (HFIN.out fun i hi => HT.out i (by have := HM.out; omega)).symm, rfl⟩
set_option maxRecDepth 100000 in
set_option maxHeartbeats 1600000 in
theorem impl_hasCleanReads (A E C : Option Addr) (n c en ec m d : Nat) (st : Lz) (i : Nat) (w : World) (B : Nat) (hB : B ≤ w.heap.size) (he : en = st.rs.length) (hm : m = st.cs.length) (h : LS3 w B A E C st) (hi : i < en) (hs : (st.rs.getD i []).length ≤ 2000000) (hr : ∀ j, j < (st.rs.getD i []).length → ∃ q : Nat, q < m ∧ (st.rs.getD i []).getD j 0 = (q : Int)) :
    Calls Try.prog 35 #[.agg #[.slice A n c, .slice E en ec, .slice C m d], .int .i64 i] w fun e w' => e = .returned (.bool (cleanR st.cs (st.rs.getD i []))) ∧ Below w.heap.size w w' := by
  obtain ⟨b3, off3, rfl, hbB3, A3, n3, c3, d1, hn3, hls⟩ := h.2.1.at_ i (by omega)
  have HLS := Lib.hid (hls.alloc hB (.cells #[.slice A n c, .slice (some ⟨b3, off3, none⟩) en ec, .slice C m d] 31))
  have HCS := Lib.hid (h.2.2.alloc hB (.cells #[.slice A n c, .slice (some ⟨b3, off3, none⟩) en ec, .slice C m d] 31))
  have HN3 := Lib.hid hn3
  have HM := Lib.hid hm
  have HR := Lib.hid hr
  have HBAD := Lib.hid (cleanR_bad st.cs (st.rs.getD i []))
  have HFIN := Lib.hid (cleanR_fin st.cs (st.rs.getD i []))
  have hn3b : n3 ≤ 2000000 := by omega
  have z3 : b3 < w.heap.size := by omega
  clear h hls he hm hr hs hn3
  generalize st.rs.getD i [] = L at *
  generalize st.cs = cs at *
  go_enter Try.func35, Try.ntmps35
  go_wp2
  go_loop [13] (fun u => ∃ k : Nat, k ≤ n3 ∧ u = .int .i64 k ∧ Hid (∀ j, j < k → (cs.getD (L.getD j 0).toNat 0 == 0) = true)) (fun u => n3 - (intOf u).toNat)
  case atStart => exact ⟨0, Nat.zero_le _, rfl, fun i hi => by omega⟩
  case round =>
    obtain ⟨k, hk, rfl, HT⟩ := hrel
    by_cases hlt : k < n3
    · obtain ⟨b1, off1, rfl, hb1, hc1⟩ := HLS.out (by have := HN3.out; omega)
      have c1 := hc1 k (by have := HN3.out; omega)
      obtain ⟨q, hq, hqe⟩ := HR.out k (by have := HN3.out; omega)
      obtain ⟨b2, off2, rfl, hb2, hc2⟩ := HCS.out (by have := HM.out; omega)
      have c2 := hc2 q (by have := HM.out; omega)
      have HBK := Lib.hid (HBAD.out k (by have := HN3.out; omega))
      have HNT : Hid ((cs.getD (L.getD k 0).toNat 0 == 0) = true → ∀ j, j < k + 1 → (cs.getD (L.getD j 0).toNat 0 == 0) = true) := fun hh j hj => by
        rcases Nat.lt_or_ge j k with h1 | h1
        · exact HT.out j h1
        · obtain rfl : j = k := by omega
          exact hh
      rw [hqe, Int.toNat_natCast] at HBK HNT
      rw [hqe] at c1
      clear hqe hc1 hc2
      generalize cs.getD q 0 = y at *
      cases hy : (y == 0)
      · have hy' : (y != 0) = true := by simp [bne, hy]
        have HF := Lib.hid (HBK.out hy)
        clear hy
        go_wp2
        go_ret
        exact ⟨ret_b HF.out.symm, (Below.refl _ _).alloc (Nat.le_refl _) _⟩
      · have hy' : (y != 0) = false := by simp [bne, hy]
        have HF := Lib.hid (HNT.out hy)
        clear hy
        go_wp2
        go_round
        case rel => exact ⟨k + 1, by omega, by go_num, HF.out⟩
        case measure => simp [intOf]; omega
    · obtain rfl : k = n3 := by omega
      go_wp2
      go_ret
      exact ⟨ret_b (HFIN.out fun i hi => HT.out i (by have := HN3.out; omega)).symm, (Below.refl _ _).alloc (Nat.le_refl _) _⟩
set_option maxRecDepth 100000 in
set_option maxHeartbeats 1600000 in
theorem impl_isAsRun (A A' E C : Option Addr) (n c m c' en ec q qc : Nat) (gs : List Nd) (st : Lz) (i : Nat) (w : World) (B : Nat) (hB : B ≤ w.heap.size) (hn : n = gs.length) (hm : m = st.vs.length) (he : en = st.rs.length) (h : GS w B A gs) (h' : LS3 w B A' E C st) (hvg : validG gs = true) (hl : st.vs.length = gs.length) (hl2 : st.rs.length = gs.length) (hr : allR st.vs 0 999 = true) (hi : i < n) (hs : (st.rs.getD i []).length ≤ 2000000) :
    Calls Try.prog 34 #[.agg #[.slice A n c], .agg #[.slice A' m c', .slice E en ec, .slice C q qc], .int .i64 i] w fun e w' => e = .returned (.bool (asRun gs st i)) ∧ Below w.heap.size w w' := by
  have HB0 := Lib.hid (((Below.refl w.heap.size w).alloc (Nat.le_refl _) (.cells #[.slice A n c] 25)).alloc (by simp) (.cells #[.slice A' m c', .slice E en ec, .slice C q qc] 31))
  have hB2 : w.heap.size + 2 ≤ ((w.alloc (.cells #[.slice A n c] 25)).alloc (.cells #[.slice A' m c', .slice E en ec, .slice C q qc] 31)).heap.size := by simp
  have HRUN := Lib.hid (impl_runOf A A' n c m c' gs st.vs i _ B (by omega) hn hm (h.below HB0.out hB) (h'.1.below HB0.out hB) hvg hl hr hi)
  have hfb := eager_depF_bd gs st.vs hvg hl i (by omega)
  obtain ⟨b2, off2, rfl, hbB2, hcx⟩ := h'.1 (by omega)
  have d0 := hcx i (by omega)
  obtain ⟨b3, off3, rfl, hbB3, A3, n3, c3, d1, hn3, hls⟩ := h'.2.1.at_ i (by omega)
  have har : asRun gs st i = ((valE gs st.vs i == st.vs.getD i 0) && decide (depF gs st.vs i = st.rs.getD i [])) := rfl
  have HLS := Lib.hid (hls.below HB0.out hB)
  have HN3 := Lib.hid hn3
  have hn3b : n3 ≤ 2000000 := by omega
  have him : i < m := by omega
  have hie : i < en := by omega
  clear h h' hcx hls hn hm he hvg hl hl2 hr hs hn3
  generalize asRun gs st i = r at *
  generalize valE gs st.vs i = X at *
  generalize depF gs st.vs i = F at *
  generalize st.vs.getD i 0 = x at *
  generalize st.rs.getD i [] = L at *
  go_enter Try.func34, Try.ntmps34
  go_wp2_with fail
  refine HRUN.out.mono ?_
  rintro e w5 ⟨v5, rfl, ho, hb5⟩
  obtain ⟨A5, c5, rfl, hI5⟩ := ho.form
  have hs5 := Nat.le_trans hB2 hb5.size
  have u1 := (hb5.cell (p := ⟨w.heap.size + 1, 0, none⟩) (by simp)).trans (show _ = some (Value.slice (some ⟨b2, off2, none⟩) m c') by go_simp)
  have u2 := (hb5.cell (p := ⟨w.heap.size + 1, 1, none⟩) (by simp)).trans (show _ = some (Value.slice (some ⟨b3, off3, none⟩) en ec) by go_simp)
  have HB5 := Lib.hid (HB0.out.trans (hb5.mono (by omega)))
  have u3 := (HB5.out.cell (p := ⟨b2, off2 + i, none⟩) (by show b2 < w.heap.size; omega)).trans d0
  have u4 := (HB5.out.cell (p := ⟨b3, off3 + i, none⟩) (by show b3 < w.heap.size; omega)).trans d1
  have HLS5 := Lib.hid ((HLS.out.below hb5 (by omega)).more (B' := w5.heap.size) (by omega))
  have HSI := Lib.hid (slices_Equal A3 A5 n3 F.length c3 c5 L F w5 w5.heap.size (Nat.le_refl _) HN3.out rfl HLS5.out hI5 (by omega) (by omega))
  generalize F.length = fl at *
  clear ho hb5 d0 d1 hI5 HRUN hB2
  cases hx : (X == x)
  · have hx' : (x == X) = false := by simp at hx ⊢; exact fun e => hx e.symm
    have HNF := Lib.hid (show r = false by rw [har, hx]; rfl)
    clear hx har
    go_wp2
    go_ret
    exact ⟨ret_b HNF.out.symm, HB5.out⟩
  · have hx' : (x == X) = true := by simp at hx ⊢; exact hx.symm
    rw [hx, Bool.true_and] at har
    have hsy : decide (F = L) = decide (L = F) := decide_eq_decide.mpr ⟨Eq.symm, Eq.symm⟩
    rw [hsy] at har
    rw [← har] at HSI
    clear hx har hsy
    go_wp2_with fail
    refine HSI.out.mono ?_
    rintro e w6 ⟨rfl, hb6⟩
    go_wp2
    go_ret
    exact ⟨rfl, HB5.out.trans (hb6.mono (by omega))⟩
end Go.Proofs.Ytbnioefhfpahcaa

namespace Go.Proofs.Ytbnioefhfpahcaa
set_option linter.unusedSimpArgs false
set_option linter.unusedVariables false
open Go.RowKit
theorem ne_cases (n m p q : Nat) (h : ¬ (m = n ∧ p = n ∧ q = n)) : (((m : Int) != (n : Int)) = true) ∨ (((m : Int) != (n : Int)) = false ∧ ((p : Int) != (n : Int)) = true) ∨ (((m : Int) != (n : Int)) = false ∧ ((p : Int) != (n : Int)) = false ∧ ((q : Int) != (n : Int)) = true) := by
  by_cases h1 : m = n
  · by_cases h2 : p = n
    · exact .inr (.inr ⟨by simp [h1], by simp [h2], by simp; omega⟩)
    · exact .inr (.inl ⟨by simp [h1], by simp; omega⟩)
  · exact .inl (by simp; omega)
end Go.Proofs.Ytbnioefhfpahcaa
