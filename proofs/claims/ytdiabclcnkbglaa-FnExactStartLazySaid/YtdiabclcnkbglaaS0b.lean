/- Words and contracts for memory that the texts behind use. -/
import Derived.Test.YtdiabclcnkbglaaS0a
import Derived.WalkKit
import Derived.Laws.OwnMore
import Derived.Deep.Draws
import Derived.Test.YtdiabclcnkbglaaProg
import Derived.WalkSpells
import Derived.WalkLawsBesides
import Derived.Outline
import Derived.Lib.Hide
import Derived.BigQuiet
import Derived.Deep.QuietTactic
import Derived.StillTailTactics
import Derived.Deep.LoopGhost
import Derived.Laws.MakeOwn
import Derived.WalkSmall
import Derived.RegionTactic
import Derived.BigRegion
import Derived.Deep.RegionWith
import Derived.Deep.RegionHeld3
import Derived.Maps.AppendAt
import Derived.Laws.CopyOwn
import Derived.Deep.AppendLies
import Derived.Test.YtdiabclcnkbglaaRows
import Derived.ProofKit
import Derived.OpenShut
import Derived.ShutString
import Derived.ChangeOld
import Derived.Below
import Derived.Deep.Slices
import Derived.Deep.Fields

namespace Go.Proofs.Ytdiabclcnkbglaa
set_option linter.unusedSimpArgs false
set_option linter.unusedVariables false
open Go.RowKit
/-- The counts stand in the block. -/
def Cnt (w : World) (base g n : Nat) (L : List Int) : Prop :=
  ∃ us : List Int, w.ownsRow base 3 1 (.slice (some ⟨g, 0, none⟩) n n) n (us.map (Value.int .i64)) ∧ us.length = n ∧ ∀ j, j < n → us.getD j 0 = (L.count (j : Int) : Int)
theorem Cnt.at_ {w : World} {base g n : Nat} {L : List Int} (h : Cnt w base g n L) (t : Nat) (ht : t < n) : w.cell? ⟨g, t, none⟩ = some (.int .i64 (L.count (t : Int) : Int)) ∧ w.frozen? ⟨g, t, none⟩ = false := by
  obtain ⟨us, h1, h2, h3⟩ := h
  refine ⟨?_, h1.frozenAt t⟩
  rw [h1.cellAt t (by omega), ← h3 t ht]
  simp [List.getD, h2, ht]
theorem Cnt.step {w : World} {base g n : Nat} {L L' : List Int} (h : Cnt w base g n L) (t : Nat) (ht : t < n) (x : Int) (hx : x = (L'.count (t : Int) : Int)) (hL : ∀ j : Nat, (L'.count (j : Int) : Int) = (L.count (j : Int) : Int) + if j = t then 1 else 0) : Cnt (w.setCell ⟨g, t, none⟩ (.int .i64 x)) base g n L' := by
  obtain ⟨us, h1, h2, h3⟩ := h
  refine ⟨us.set t x, ?_, by simpa using h2, fun j hj => ?_⟩
  · have := (h1.stored t (.int .i64 x)).1
    rwa [← List.map_set] at this
  · by_cases e : j = t
    · subst e; simp [List.getD, h2, ht, hx]
    · have := h3 j hj
      rw [hL j, if_neg e]
      simp [List.getD, List.getElem?_set, show ¬ t = j by omega] at this ⊢
      exact this
theorem Cnt.drew {w : World} {base g n : Nat} {L : List Int} (h : Cnt w base g n L) : Cnt w.drew base g n L := h
theorem Cnt.lt {w : World} {base g n : Nat} {L : List Int} (h : Cnt w base g n L) : g < w.heap.size := by
  obtain ⟨us, h1, _⟩ := h
  exact (h1.lt g rfl).2
set_option maxRecDepth 100000 in
set_option maxHeartbeats 1600000 in
theorem spec_validFormula (A : Option Addr) (n c : Nat) (ps : List Pt) (w : World) (B : Nat) (hB : B ≤ w.heap.size) (hn : n = ps.length) (h : PS w B A ps) (hs : n ≤ 2000000) :
    Calls Try.prog 30 #[.agg #[.slice A n c]] w fun e w' => e = .returned (.bool (validF ps)) ∧ Below w.heap.size w w' := by
  obtain ⟨i0, hi, hz0, hz1, hz2⟩ := info_parts info_int
  obtain ⟨w0, hmk, hown0, hgr0⟩ := run_make_full (P := Try.prog) (w.alloc (.cells #[.slice A n c] 49)) (w.heap.size + 1) 25 3 i0 _ 1 Try.underlying25 hi hz0 hz1 .i64 .i64 n (by rw [hz2]; omega) (by unfold maxLen; omega) (by simp)
  simp only [World.size_alloc] at hmk hown0
  have hcn : Cnt w0 (w.heap.size + 1) (w.heap.size + 1) n [] := by
    refine ⟨List.replicate n 0, ?_, by simp, fun j hj => by simp [List.getD, hj]⟩
    simpa [Value.cells, toList_madeCells_one] using hown0
  have hb0 : Below (w.heap.size + 1) (w.alloc (.cells #[.slice A n c] 49)) w0 := ⟨hgr0.os, hgr0.tape, hgr0.output, hgr0.size, fun k hk => hgr0.block k (by simpa using hk) (by simp)⟩
  have H := Lib.hid h
  have HN := Lib.hid hn
  have HC := Lib.hid hcn
  clear hn h hown0 hcn hgr0 hi hz0 hz1 hz2
  go_enter Try.func30, Try.ntmps30
  go_wp2
  go_loopw [4] (fun i wr => ∃ k : Nat, k ≤ n ∧ i = .int .i64 k ∧ Hid (Cnt wr (w.heap.size + 1) (w.heap.size + 1) n ((ps.take k).flatMap bel)) ∧ Hid (∀ j, j < k → goodPt (ps.getD j default) j = true) ∧ Below (w.heap.size + 1) (w.alloc (.cells #[.slice A n c] 49)) wr) (fun i _ => n - (intOf i).toNat)
  case atStart => exact ⟨0, Nat.zero_le _, rfl, HC.out, by intro j hj; omega, hb0⟩
  case round =>
    obtain ⟨k, hk, rfl, HU, HG, hb⟩ := hrel
    clear hmk hb0 HC
    have hbox : wr.cell? ⟨w.heap.size, 0, none⟩ = some (.slice A n c) := (hb.cell (p := ⟨w.heap.size, 0, none⟩) (by simp)).trans (by go_simp)
    have hwr : w.heap.size + 1 ≤ wr.heap.size := by have := hb.size; simpa using this
    by_cases hlt : k < n
    · obtain ⟨b, off, rfl, hbB, hc⟩ := H.out (by have := HN.out; omega)
      obtain ⟨c0, c1, c2, c3, c4⟩ := hc k (by have := HN.out; omega)
      clear hc
      have hbw : b < w.heap.size := by omega
      have b0 := ((hb.cell (p := ⟨b, off + k * 5, none⟩) (by simp; omega)).trans (World.cell?_alloc_lt _ _ _ (by simpa using hbw))).trans c0
      have b1 := ((hb.cell (p := ⟨b, off + k * 5 + 1, none⟩) (by simp; omega)).trans (World.cell?_alloc_lt _ _ _ (by simpa using hbw))).trans c1
      have b2 := ((hb.cell (p := ⟨b, off + k * 5 + 2, none⟩) (by simp; omega)).trans (World.cell?_alloc_lt _ _ _ (by simpa using hbw))).trans c2
      have b3 := ((hb.cell (p := ⟨b, off + k * 5 + 3, none⟩) (by simp; omega)).trans (World.cell?_alloc_lt _ _ _ (by simpa using hbw))).trans c3
      have b4 := ((hb.cell (p := ⟨b, off + k * 5 + 4, none⟩) (by simp; omega)).trans (World.cell?_alloc_lt _ _ _ (by simpa using hbw))).trans c4
      clear c0 c1 c2 c3 c4 H
      generalize hp : ps.getD k default = p at *
      have HP := Lib.hid hp
      clear hp
      have hws : w.heap.size < wr.heap.size := by omega
      have hbr : b < wr.heap.size := by omega
      clear hwr
      cases hg : goodPt p k
      · go_wp2_with (go_at_call 40; refine (spec_goodPart p k (by omega) _).mono ?_; rintro e w1 ⟨rfl, hb1⟩)
        go_ret
        refine ⟨ret_b ?_, ((Below.refl _ _).alloc (Nat.le_refl _) _).trans ((hb.trans (hb1.mono (by omega))).mono (by omega))⟩
        simp [validF_bad ps k (by have := HN.out; omega) (by rw [HP.out]; exact hg)]
      · go_wp2_with (first | (go_at_call 40; refine (spec_goodPart p k (by omega) _).mono ?_; rintro e w1 ⟨rfl, hb1⟩; obtain ⟨hc1, hf1⟩ := bcell hb1) | (go_at_call 41; refine (spec_below p _).mono ?_; rintro e w2 ⟨v, rfl, hown, hb2⟩; obtain ⟨A2, c2, rfl, hI⟩ := hown.form))
        have hG1 := Lib.hid hg
        clear hc1 hf1 hg hbox b0 b1 b2 b3 b4
        have hb12 : Below wr.heap.size wr w2 := hb1.trans (hb2.mono hb1.size)
        have hbw2 := hb.trans (hb12.mono (by omega))
        have HU2 : Hid (Cnt w2 (w.heap.size + 1) (w.heap.size + 1) n ((ps.take k).flatMap bel ++ (bel p).take 0)) := by
          obtain ⟨us, h1, h2, h3⟩ := HU.out
          exact ⟨us, own_below h1 hb12, h2, by simpa using h3⟩
        have hwg : w.heap.size + 1 < w1.heap.size := by have := HU.out.lt; have := hb1.size; omega
        have HO := Lib.hid hown
        clear hI hb1 hb2 hb12 HU hb hws hbr hown
        generalize hL : (bel p).length = L at *
        have HL := Lib.hid hL
        have hL3 : L ≤ 3 := by rw [← hL]; exact bel_len p
        clear hL
        go_wp2
        go_loopw [6] (fun i wi => ∃ m : Nat, m ≤ L ∧ i = .int .i64 m ∧ Hid (Cnt wi (w.heap.size + 1) (w.heap.size + 1) n ((ps.take k).flatMap bel ++ (bel p).take m)) ∧ Hid (wi.ownsRow w1.heap.size 3 1 (.slice A2 L c2) L ((bel p).map (Value.int .i64))) ∧ Hid (Below (w.heap.size + 1) w2 wi)) (fun i _ => L - (intOf i).toNat)
        case atStart => exact ⟨0, Nat.zero_le _, rfl, HU2.out, by have := HO.out; rw [OwnI, HL.out] at this; exact this, Below.refl _ _⟩
        case round =>
          clear HU2 HO
          obtain ⟨m, hm, rfl, HU, HO, HB⟩ := hrel
          by_cases hml : m < L
          · obtain ⟨b2, off2, rfl, hb2, hc2⟩ := (IS.of_own HO.out) (by have := HL.out; omega)
            have hx := hc2 m (by have := HL.out; omega)
            clear hc2
            obtain ⟨t, ht⟩ : ∃ t : Nat, (bel p).getD m 0 = (t : Int) ∧ t < n := by
              have hmem : (bel p).getD m 0 ∈ bel p := by
                have hl : m < (bel p).length := by have := HL.out; omega
                simp [List.getD, hl]
              have := good_bel p k hG1.out _ hmem
              exact ⟨((bel p).getD m 0).toNat, by omega, by omega⟩
            obtain ⟨ht1, ht2⟩ := ht
            rw [ht1] at hx
            have HT := Lib.hid ht1
            clear ht1
            obtain ⟨hu1, hu2⟩ := HU.out.at_ t ht2
            have hcl := count_le ps (bel p) m k (by omega) (by have := HL.out; omega) (t : Int)
            generalize hcn : (((ps.take k).flatMap bel ++ (bel p).take m).count (t : Int)) = cn at *
            have HCN := Lib.hid hcn
            clear hcn
            go_wp2
            go_region
            go_wp2
            go_roundw
            case rel =>
              have hst := count_step ((ps.take k).flatMap bel) (bel p) m t (by have := HL.out; omega) HT.out
              have hn1 := (HU.out.step t ht2 ((cn : Int) + 1) (by rw [hst t, if_pos rfl, HCN.out]) hst).drew
              have hn2 : (wr.setCell ⟨w.heap.size + 1, t, none⟩ (.int .i64 ((cn : Int) + 1))).drew.ownsRow w1.heap.size 3 1 (.slice (some ⟨b2, off2, none⟩) L c2) L ((bel p).map (Value.int .i64)) :=
                ownsRow_setCell_below HO.out (a := ⟨w.heap.size + 1, t, none⟩) (by simpa using hwg) _
              exact ⟨m + 1, by omega, by go_num, hn1, hn2, (HB.out.setCell (p := ⟨w.heap.size + 1, t, none⟩) (by simp) _).drew⟩
            case measure => simp [intOf]; omega
          · go_wp2
            go_roundw
            case rel =>
              have hkl : k < ps.length := by have := HN.out; omega
              have hf := take_flat ps k hkl
              rw [HP.out] at hf
              have hU : Cnt wr (w.heap.size + 1) (w.heap.size + 1) n ((ps.take (k + 1)).flatMap bel) := by
                rw [hf]
                have := HU.out
                rwa [show (bel p).take m = bel p from List.take_of_length_le (by have := HL.out; omega)] at this
              exact ⟨k + 1, by omega, by go_num, hU, fun j hj => by
                rcases Nat.lt_or_ge j k with h1 | h1
                · exact HG.out j h1
                · obtain rfl : j = k := by omega
                  rw [HP.out]; exact hG1.out, hbw2.trans HB.out⟩
            case measure => simp [intOf]; omega
    · obtain rfl : k = n := by omega
      rw [List.take_of_length_le (by have := HN.out; omega)] at HU
      clear hlt hk H
      go_wp2
      go_loopw [7] (fun i wi => ∃ m : Nat, m ≤ k ∧ i = .int .i64 m ∧ Hid (∀ j, j < m → j + 1 < k → (ps.flatMap bel).count (j : Int) = 1) ∧ wi = wr) (fun i _ => k - (intOf i).toNat)
      case atStart => exact ⟨0, Nat.zero_le _, rfl, by intro j hj; omega, rfl⟩
      case round =>
        obtain ⟨m, hm, rfl, HQ, rfl⟩ := hrel
        by_cases hmk : m + 1 < k
        · obtain ⟨hu1, _⟩ := HU.out.at_ m (by omega)
          cases hcn : ((ps.flatMap bel).count (m : Int) == 1)
          · have hne : (((ps.flatMap bel).count (m : Int) : Int) != 1) = true := by simp at hcn ⊢; omega
            have HNE := Lib.hid hcn
            clear hcn
            go_wp2
            go_ret
            refine ⟨ret_b ?_, ((Below.refl _ _).alloc (Nat.le_refl _) _).trans (hb.mono (by omega))⟩
            have := validF_cnt ps m (by have := HN.out; omega) (by have := HNE.out; simpa using this)
            simp [this]
          · have hne : (((ps.flatMap bel).count (m : Int) : Int) != 1) = false := by simp at hcn ⊢; omega
            have HNE := Lib.hid hcn
            clear hcn
            go_wp2
            go_roundw
            case rel =>
              exact ⟨m + 1, by omega, by go_num, fun j hj hjk => by
                rcases Nat.lt_or_ge j m with h1 | h1
                · exact HQ.out j h1 hjk
                · obtain rfl : j = m := by omega
                  have := HNE.out
                  simpa using this, by first | rfl | trivial⟩
            case measure => simp [intOf]; omega
        · go_wp2_with (go_at_call 32; refine (spec_inRange _ _ _ _).mono ?_; rintro e w' ⟨rfl, rfl⟩)
          go_ret
          refine ⟨ret_b ?_, ((Below.refl _ _).alloc (Nat.le_refl _) _).trans (hb.mono (by omega))⟩
          have hkn := HN.out
          have := validF_fin ps (fun i hi => HG.out i (by omega)) (fun i hi => HQ.out i (by omega) (by omega))
          rw [this, ← hkn]
          try simp
end Go.Proofs.Ytdiabclcnkbglaa

namespace Go.Proofs.Ytdiabclcnkbglaa
set_option linter.unusedSimpArgs false
set_option linter.unusedVariables false
open Go.RowKit
def Tm.deep : Tm → Nat
  | .num _ => 1
  | .rd _ => 1
  | .pr _ l r => max l.deep r.deep + 1
  | .ch t a b => max (max t.deep a.deep) b.deep + 1
theorem own_form {w : World} {base e size n : Nat} {v : Value} {xs : List Value} (h : w.ownsRow base e size v n xs) : ∃ A c, v = .slice A n c := by
  rcases h.2 with ⟨hv, h0⟩ | ⟨g, cap, cur, hv, _⟩
  · exact ⟨none, 0, by rw [hv, h0]⟩
  · exact ⟨_, _, hv⟩
theorem validF_good (ps : List Pt) (h : validF ps = true) : AllGood ps ∧ 1 ≤ ps.length ∧ ps.length ≤ 12 := by
  unfold validF rng at h
  simp only [Bool.and_eq_true, decide_eq_true_eq] at h
  exact ⟨h.1.1, by omega, by omega⟩
end Go.Proofs.Ytdiabclcnkbglaa

namespace Go.Proofs.Ytdiabclcnkbglaa
set_option linter.unusedSimpArgs false
set_option linter.unusedVariables false
open Go.RowKit
theorem mem_mayR (ps : List Pt) (x : Int) : x ∈ mayR ps ↔ ∃ m : Nat, m < 10 ∧ hasNode ps m = true ∧ x = m := by
  unfold mayR
  simp only [List.mem_map, List.mem_filter, List.mem_range]
  constructor
  · rintro ⟨m, ⟨h1, h2⟩, rfl⟩; exact ⟨m, h1, h2, rfl⟩
  · rintro ⟨m, h1, h2, rfl⟩; exact ⟨m, ⟨h1, h2⟩, rfl⟩
/-- The whole of a formula as a term. -/
def whole (ps : List Pt) : Tm := tmAt ps ps.length (ps.length - 1)
end Go.Proofs.Ytdiabclcnkbglaa

namespace Go.Proofs.Ytdiabclcnkbglaa
set_option linter.unusedSimpArgs false
set_option linter.unusedVariables false
open Go.RowKit
theorem PS.step {A : Option Addr} {ps : List Pt} {wk wl : World} (h : PS wk wk.heap.size A ps) (hb : Below wk.heap.size wk wl) : PS wl wl.heap.size A ps := (h.below hb (Nat.le_refl _)).more hb.size
theorem IS.step {A : Option Addr} {xs : List Int} {wk wl : World} (h : IS wk wk.heap.size A xs) (hb : Below wk.heap.size wk wl) : IS wl wl.heap.size A xs := (h.below hb (Nat.le_refl _)).more hb.size
theorem below_new (wk : World) (o : Obj) : Below wk.heap.size wk (wk.alloc o) := (Below.refl _ _).alloc (Nat.le_refl _) o
end Go.Proofs.Ytdiabclcnkbglaa

namespace Go.Proofs.Ytdiabclcnkbglaa
set_option linter.unusedSimpArgs false
set_option linter.unusedVariables false
open Go.RowKit
/-- A row of numbers from k on. -/
def mks (k : Int) (m : Nat) : List Value := (List.range m).map fun j : Nat => Value.int .i64 (k + j)
theorem mks_get (k : Int) (m j : Nat) (h : j < m) : (mks k m)[j]? = some (.int .i64 (k + j)) := by simp [mks, h]
theorem mks_succ (k : Int) (m : Nat) : mks k (m + 1) = mks k m ++ [.int .i64 (k + m)] := by simp [mks, List.range_succ]
theorem mks_five (k : Int) (m : Nat) : mks k (m + 5) = mks k m ++ (⟨k + m, k + m + 1, k + m + 2, k + m + 3, k + m + 4⟩ : Pt).cells := by
  rw [mks_succ k (m + 4), mks_succ k (m + 3), mks_succ k (m + 2), mks_succ k (m + 1), mks_succ k m]
  simp [Pt.cells]
  omega
theorem mks_five' (k k5 : Int) (m : Nat) (h : k5 = k + m) : mks k (m + 5) = mks k m ++ (⟨k5, k5 + 1, k5 + 1 + 1, k5 + 1 + 1 + 1, k5 + 1 + 1 + 1 + 1⟩ : Pt).cells := by
  have e : (⟨k5, k5 + 1, k5 + 1 + 1, k5 + 1 + 1 + 1, k5 + 1 + 1 + 1 + 1⟩ : Pt) = ⟨k + m, k + m + 1, k + m + 2, k + m + 3, k + m + 4⟩ := by subst h; congr 1; omega; omega; omega
  rw [mks_five, e]
theorem grown_tr {a b c : World} {row : Option Nat} (h : a.grownBy b row) (k : b.grownBy c row) : a.grownBy c row :=
  ⟨k.os.trans h.os, k.tape.trans h.tape, k.output.trans h.output, Nat.le_trans h.size k.size, fun i hi hr => (k.block i (Nat.lt_of_lt_of_le hi h.size) hr).trans (h.block i hi hr)⟩
theorem grown_refl (a : World) (row : Option Nat) : a.grownBy a row := ⟨rfl, rfl, rfl, Nat.le_refl _, fun _ _ _ => rfl⟩
/-- What a mark leaves. -/
def Marked (w : World) (base : Nat) (e : TypeId) (size : Nat) (v : Value) (n : Nat) (k : Int) (r : Ending) (w' : World) : Prop :=
  r = .returned (.int .i64 (k + ((n * size : Nat) : Int))) ∧ w'.ownsRow base e size v n (mks k (n * size)) ∧ w.grownBy w' v.ownBlock
set_option maxHeartbeats 800000 in
theorem laws_markIntS (base n : Nat) (v : Value) (xs : List Value) (k : Int) (w : World) (h : w.ownsRow base 3 1 v n xs) (hk : 0 ≤ k) (hk' : k ≤ 1125899906842624) (hs : n ≤ 2000000) :
    Calls Try.prog 13 #[v, .int .i64 k] w fun e w' => Marked w base 3 1 v n k e w' := by
  rcases h.2 with ⟨rfl, rfl⟩ | ⟨g, cap, _, rfl, hbg, hgh, _⟩
  · clear h
    go_enter Try.func13, Try.ntmps13
    go_wp2
    go_loopw [5, 1] (fun i u wr => i = .int .i64 0 ∧ u = .int .i64 k ∧ wr = w) (fun i _ _ => 0)
    case atStart => exact ⟨rfl, rfl, rfl⟩
    case round =>
      obtain ⟨rfl, rfl, rfl⟩ := hrel
      go_wp2
      go_ret
      exact ⟨by simp, World.ownsRow_nil _ _ _ _, grown_refl _ _⟩
  · have HO := Lib.hid h
    have hgl : g < w.heap.size := (h.lt g rfl).2
    clear h hgh
    go_enter Try.func13, Try.ntmps13
    go_wp2
    go_loopw [5, 1] (fun i u wr => ∃ (j : Nat) (ys : List Value), j ≤ n ∧ i = .int .i64 j ∧ u = .int .i64 (k + j) ∧ Hid (wr.ownsRow base 3 1 (.slice (some ⟨g, 0, none⟩) n cap) n ys) ∧ Hid (ys.take j = mks k j) ∧ Hid (w.grownBy wr (some g))) (fun i _ _ => n - (intOf i).toNat)
    case atStart => exact ⟨0, xs, by omega, rfl, by simp, HO.out, by simp [Hid, mks], grown_refl _ _⟩
    case round =>
      obtain ⟨j, ys, hj, rfl, rfl, HY, HT, HGR⟩ := hrel
      by_cases hlt : j < n
      · have hl : ys.length = n * 1 := HY.out.1
        have u0 := HY.out.cellAt j (by omega)
        rw [List.getElem?_eq_getElem (by omega)] at u0
        have f0 := HY.out.frozenAt j
        generalize ys[j]'(by omega) = v0 at u0
        have HL := Lib.hid hl
        clear hl
        go_wp2
        all_goals try (go_region; go_wp2)
        all_goals go_roundw
        case rel =>
          have ho := HY.out.stored j (.int .i64 (k + j))
          refine ⟨j + 1, _, by omega, by go_num, by go_num, by first | exact ho.1 | exact ho.1.drew, ?_, by first | exact grown_tr HGR.out ho.2 | exact grown_tr HGR.out ⟨ho.2.os, ho.2.tape, ho.2.output, ho.2.size, ho.2.block⟩⟩
          rw [mks_succ, ← HT.out]
          exact take_set1 ys j _ (by have := HL.out; omega)
        case measure => simp [intOf]; omega
      · obtain rfl : j = n := by omega
        go_wp2
        go_ret
        refine ⟨by simp, ?_, HGR.out⟩
        have h1 := HT.out
        have h2 : ys.length = j * 1 := HY.out.1
        rw [List.take_of_length_le (by omega)] at h1
        rw [Nat.mul_one, ← h1]
        exact HY.out
set_option maxHeartbeats 800000 in
theorem laws_heldIntS (base n : Nat) (v : Value) (k : Int) (w : World) (h : w.ownsRow base 3 1 v n (mks k n)) (hk : 0 ≤ k) (hk' : k ≤ 1125899906842624) (hs : n ≤ 2000000) :
    Calls Try.prog 27 #[v, .int .i64 k] w fun e w' => e = .returned (.int .i64 (k + n)) ∧ Below w.heap.size w w' := by
  obtain ⟨A, c, rfl⟩ := own_form h
  rcases h.2 with ⟨hv, rfl⟩ | ⟨g, cap, _, hv, hbg, hgh, _⟩
  · clear h hv
    go_enter Try.func27, Try.ntmps27
    go_wp2
    go_loop [5, 1] (fun i u => i = .int .i64 0 ∧ u = .int .i64 k) (fun i _ => 0)
    case atStart => exact ⟨rfl, rfl⟩
    case round =>
      obtain ⟨rfl, rfl⟩ := hrel
      go_wp2
      go_ret
      exact ⟨by simp, Below.refl _ _⟩
  · cases hv
    have HO := Lib.hid h
    clear h hgh
    go_enter Try.func27, Try.ntmps27
    go_wp2
    go_loopw [5, 1] (fun i u wr => ∃ j : Nat, j ≤ n ∧ i = .int .i64 j ∧ u = .int .i64 (k + j) ∧ Below w.heap.size w wr) (fun i _ _ => n - (intOf i).toNat)
    case atStart => exact ⟨0, by omega, rfl, by simp, Below.refl _ _⟩
    case round =>
      obtain ⟨j, hj, rfl, rfl, hB⟩ := hrel
      by_cases hlt : j < n
      · have u0 := (own_below HO.out hB).cellAt j (by omega)
        rw [mks_get k n j hlt] at u0
        go_wp2
        go_roundw
        case rel => exact ⟨j + 1, by omega, by go_num, by go_num, hB⟩
        case measure => simp [intOf]; omega
      · obtain rfl : j = n := by omega
        go_wp2
        go_ret
        exact ⟨by simp, hB⟩
set_option maxRecDepth 100000 in
set_option maxHeartbeats 1600000 in
theorem laws_markPartS (base n : Nat) (v : Value) (xs : List Value) (k : Int) (w : World) (h : w.ownsRow base 72 5 v n xs) (hk : 0 ≤ k) (hk' : k ≤ 1125899906842624) (hs : n ≤ 2000000) :
    Calls Try.prog 38 #[v, .int .i64 k] w fun e w' => Marked w base 72 5 v n k e w' := by
  rcases h.2 with ⟨rfl, rfl⟩ | ⟨g, cap, _, rfl, hbg, hgh, _⟩
  · clear h
    go_enter Try.func38, Try.ntmps38
    go_wp2
    go_loopw [5, 1] (fun i u wr => i = .int .i64 0 ∧ u = .int .i64 k ∧ wr = w) (fun i _ _ => 0)
    case atStart => exact ⟨rfl, rfl, rfl⟩
    case round =>
      obtain ⟨rfl, rfl, rfl⟩ := hrel
      go_wp2
      go_ret
      exact ⟨by simp, World.ownsRow_nil _ _ _ _, grown_refl _ _⟩
  · have HO := Lib.hid h
    have hgl : g < w.heap.size := (h.lt g rfl).2
    clear h hgh
    go_enter Try.func38, Try.ntmps38
    go_wp2
    go_loopw [5, 1] (fun i u wr => ∃ (j : Nat) (ys : List Value), j ≤ n ∧ i = .int .i64 j ∧ u = .int .i64 (k + ((j * 5 : Nat) : Int)) ∧ Hid (wr.ownsRow base 72 5 (.slice (some ⟨g, 0, none⟩) n cap) n ys) ∧ Hid (ys.take (j * 5) = mks k (j * 5)) ∧ Hid (w.grownBy wr (some g))) (fun i _ _ => n - (intOf i).toNat)
    case atStart => exact ⟨0, xs, by omega, rfl, by simp, HO.out, by simp [Hid, mks], grown_refl _ _⟩
    case round =>
      obtain ⟨j, ys, hj, rfl, rfl, HY, HT, HGR⟩ := hrel
      by_cases hlt : j < n
      · have hl : ys.length = n * 5 := HY.out.1
        have u0 := HY.out.cellAt (j * 5) (by omega)
        have u1 := HY.out.cellAt (j * 5 + 1) (by omega)
        have u2 := HY.out.cellAt (j * 5 + 2) (by omega)
        have u3 := HY.out.cellAt (j * 5 + 3) (by omega)
        have u4 := HY.out.cellAt (j * 5 + 4) (by omega)
        rw [List.getElem?_eq_getElem (by omega)] at u0 u1 u2 u3 u4
        have f0 := HY.out.frozenAt (j * 5)
        have f1 := HY.out.frozenAt (j * 5 + 1)
        have f2 := HY.out.frozenAt (j * 5 + 2)
        have f3 := HY.out.frozenAt (j * 5 + 3)
        have f4 := HY.out.frozenAt (j * 5 + 4)
        generalize ys[j * 5]'(by omega) = v0 at u0
        generalize ys[j * 5 + 1]'(by omega) = v1 at u1
        generalize ys[j * 5 + 2]'(by omega) = v2 at u2
        generalize ys[j * 5 + 3]'(by omega) = v3 at u3
        generalize ys[j * 5 + 4]'(by omega) = v4 at u4
        have HL := Lib.hid hl
        clear hl
        obtain ⟨k5, hk5⟩ : ∃ k5 : Int, k5 = k + ((j * 5 : Nat) : Int) := ⟨_, rfl⟩
        have hk0 : 0 ≤ k5 := by omega
        have hk1 : k5 ≤ 1125899916842624 := by omega
        rw [← hk5]
        have HK := Lib.hid hk5
        clear hk5
        go_wp2
        go_roundw
        case rel =>
          refine ⟨j + 1, _, by omega, by go_num, by have := HK.out; go_num, own_set5 HY.out (j * 5) ⟨k5, k5 + 1, k5 + 1 + 1, k5 + 1 + 1 + 1, k5 + 1 + 1 + 1 + 1⟩, ?_, ?_⟩
          · rw [show (j + 1) * 5 = j * 5 + 5 by omega, take_set5 ys (j * 5) _ (by have := HL.out; omega), HT.out, mks_five' k k5 _ HK.out]
            exact Lib.hid rfl
          · have a0 := HY.out.stored (j * 5) (.int .i64 k5)
            have a1 := a0.1.stored (j * 5 + 1) (.int .i64 (k5 + 1))
            have a2 := a1.1.stored (j * 5 + 2) (.int .i64 (k5 + 1 + 1))
            have a3 := a2.1.stored (j * 5 + 3) (.int .i64 (k5 + 1 + 1 + 1))
            have a4 := a3.1.stored (j * 5 + 4) (.int .i64 (k5 + 1 + 1 + 1 + 1))
            exact grown_tr HGR.out (grown_tr a0.2 (grown_tr a1.2 (grown_tr a2.2 (grown_tr a3.2 a4.2))))
        case measure => simp [intOf]; omega
      · obtain rfl : j = n := by omega
        go_wp2
        go_ret
        refine ⟨by simp, ?_, HGR.out⟩
        have h1 := HT.out
        have h2 : ys.length = j * 5 := HY.out.1
        rw [List.take_of_length_le (by omega)] at h1
        rw [← h1]
        exact HY.out
end Go.Proofs.Ytdiabclcnkbglaa

namespace Go.Proofs.Ytdiabclcnkbglaa
set_option linter.unusedSimpArgs false
set_option linter.unusedVariables false
open Go.RowKit
/-- Only blocks from a to b - 1 have turned, of those that were there. -/
structure Tch (a b : Nat) (w w' : World) : Prop where
  os : w'.os = w.os
  tape : w'.tape = w.tape
  output : w'.output = w.output
  size : w.heap.size ≤ w'.heap.size
  block : ∀ k, k < w.heap.size → (k < a ∨ b ≤ k) → w'.heap[k]? = w.heap[k]?
theorem Tch.refl (a b : Nat) (w : World) : Tch a b w w := ⟨rfl, rfl, rfl, Nat.le_refl _, fun _ _ _ => rfl⟩
theorem Tch.trans {a b : Nat} {w w1 w2 : World} (h : Tch a b w w1) (k : Tch a b w1 w2) : Tch a b w w2 :=
  ⟨k.os.trans h.os, k.tape.trans h.tape, k.output.trans h.output, Nat.le_trans h.size k.size, fun i hi hr => (k.block i (Nat.lt_of_lt_of_le hi h.size) hr).trans (h.block i hi hr)⟩
theorem Tch.of_below {a b : Nat} {w w' : World} (h : Below w.heap.size w w') : Tch a b w w' := ⟨h.os, h.tape, h.output, h.size, fun k hk _ => h.block k hk⟩
theorem Tch.of_grown {a b : Nat} {w w' : World} {row : Option Nat} (h : w.grownBy w' row) (hr : ∀ k, row = some k → a ≤ k ∧ k < b) : Tch a b w w' :=
  ⟨h.os, h.tape, h.output, h.size, fun k hk ho => h.block k hk fun e => by have := hr k e.symm; omega⟩
theorem Tch.below {a b B : Nat} {w w' : World} (h : Tch a b w w') (hB : B ≤ a) (hs : B ≤ w.heap.size) : Below B w w' :=
  ⟨h.os, h.tape, h.output, h.size, fun k hk => h.block k (by omega) (by omega)⟩
theorem Tch.mono {a b a' b' : Nat} {w w' : World} (h : Tch a b w w') (ha : a' ≤ a) (hb : b ≤ b') : Tch a' b' w w' :=
  ⟨h.os, h.tape, h.output, h.size, fun k hk ho => h.block k hk (by omega)⟩
theorem Tch.drew {a b : Nat} {w w' : World} (h : Tch a b w w') : Tch a b w w'.drew := ⟨h.os, h.tape, h.output, h.size, h.block⟩
/-- P speaks of blocks lo to hi - 1 alone. -/
def Loc (lo hi : Nat) (P : World → Prop) : Prop := ∀ w w' : World, P w → (∀ k, lo ≤ k → k < hi → w'.heap[k]? = w.heap[k]?) → P w'
/-- P holds, of blocks lo to hi - 1. -/
structure As (lo hi : Nat) (P : World → Prop) (w : World) : Prop where
  it : P w
  le : hi ≤ w.heap.size
  loc : Loc lo hi P
section
variable {lo hi a b : Nat} {P : World → Prop} {w w' : World}
theorem As.step (h : As lo hi P w) (hb : Below w.heap.size w w') : As lo hi P w' :=
  ⟨h.loc _ _ h.it fun k _ hk => hb.block k (Nat.lt_of_lt_of_le hk h.le), Nat.le_trans h.le hb.size, h.loc⟩
theorem As.turn (h : As lo hi P w) (ht : Tch a b w w') (hd : b ≤ lo ∨ hi ≤ a) : As lo hi P w' :=
  ⟨h.loc _ _ h.it fun k hl hk => ht.block k (Nat.lt_of_lt_of_le hk h.le) (by omega), Nat.le_trans h.le ht.size, h.loc⟩
theorem As.alloc (h : As lo hi P w) (o : Obj) : As lo hi P (w.alloc o) := h.step ((Below.refl _ _).alloc (Nat.le_refl _) o)
theorem As.keep (h : As lo hi P w) (hk : ∀ k, lo ≤ k → k < hi → w'.heap[k]? = w.heap[k]?) (hs : w.heap.size ≤ w'.heap.size) : As lo hi P w' :=
  ⟨h.loc _ _ h.it hk, Nat.le_trans h.le hs, h.loc⟩
end
theorem Loc.and {lo hi : Nat} {P Q : World → Prop} (hP : Loc lo hi P) (hQ : Loc lo hi Q) : Loc lo hi fun w => P w ∧ Q w :=
  fun w w' h hk => ⟨hP w w' h.1 hk, hQ w w' h.2 hk⟩
theorem Loc.mono {lo hi lo' hi' : Nat} {P : World → Prop} (h : Loc lo hi P) (h1 : lo' ≤ lo) (h2 : hi ≤ hi') : Loc lo' hi' P :=
  fun w w' hp hk => h w w' hp fun k a b => hk k (by omega) (by omega)
theorem IS.loc (B : Nat) (A : Option Addr) (xs : List Int) : Loc 0 B fun w => IS w B A xs :=
  fun w w' h hk => h.keep fun p hp => World.cell?_of_block (hk p.block (Nat.zero_le _) hp)
theorem PS.loc (B : Nat) (A : Option Addr) (ps : List Pt) : Loc 0 B fun w => PS w B A ps :=
  fun w w' h hk => h.keep fun p hp => World.cell?_of_block (hk p.block (Nat.zero_le _) hp)
/-- A box of the call's own. -/
theorem box_loc (g : Nat) (v : Value) : Loc g (g + 1) fun w => w.cell? ⟨g, 0, none⟩ = some v :=
  fun w w' h hk => (World.cell?_of_block (a := ⟨g, 0, none⟩) (hk g (Nat.le_refl _) (Nat.lt_succ_self _))).trans h
theorem box_new (w : World) (v : Value) (t : TypeId) : As w.heap.size (w.heap.size + 1) (fun w' => w'.cell? ⟨w.heap.size, 0, none⟩ = some v) (w.alloc (.cells #[v] t)) :=
  ⟨by go_simp, by simp, box_loc _ _⟩
theorem box3_loc (g : Nat) (v u x : Value) : Loc g (g + 1) fun w => w.cell? ⟨g, 0, none⟩ = some v ∧ w.cell? ⟨g, 1, none⟩ = some u ∧ w.cell? ⟨g, 2, none⟩ = some x :=
  fun w w' h hk => ⟨(World.cell?_of_block (a := ⟨g, 0, none⟩) (hk g (Nat.le_refl _) (Nat.lt_succ_self _))).trans h.1, (World.cell?_of_block (a := ⟨g, 1, none⟩) (hk g (Nat.le_refl _) (Nat.lt_succ_self _))).trans h.2.1, (World.cell?_of_block (a := ⟨g, 2, none⟩) (hk g (Nat.le_refl _) (Nat.lt_succ_self _))).trans h.2.2⟩
theorem box3_new (w : World) (v u x : Value) (t : TypeId) : As w.heap.size (w.heap.size + 1) (fun w' => w'.cell? ⟨w.heap.size, 0, none⟩ = some v ∧ w'.cell? ⟨w.heap.size, 1, none⟩ = some u ∧ w'.cell? ⟨w.heap.size, 2, none⟩ = some x) (w.alloc (.cells #[v, u, x] t)) :=
  ⟨⟨by go_simp, by go_simp, by go_simp⟩, by simp, box3_loc _ _ _ _⟩
/-- A row of the call's own in blocks lo to hi - 1. -/
def OwR (lo hi : Nat) (e : TypeId) (size : Nat) (v : Value) (n : Nat) (xs : List Value) (w : World) : Prop :=
  w.ownsRow lo e size v n xs ∧ ∀ k, v.ownBlock = some k → k < hi
section
variable {lo hi lo' hi' : Nat} {e : TypeId} {size n : Nat} {v : Value} {xs : List Value} {w w' : World}
theorem OwR.start (h : w.ownsRow lo e size v n xs) : OwR lo w.heap.size e size v n xs w := ⟨h, fun k hk => (h.lt k hk).2⟩
theorem OwR.mono (h : OwR lo hi e size v n xs w) (h1 : lo' ≤ lo) (h2 : hi ≤ hi') : OwR lo' hi' e size v n xs w := ⟨own_mono h.1 h1, fun k hk => Nat.lt_of_lt_of_le (h.2 k hk) h2⟩
theorem OwR.keep (h : OwR lo hi e size v n xs w) (hk : ∀ k, lo ≤ k → k < hi → w'.heap[k]? = w.heap[k]?) : OwR lo hi e size v n xs w' := by
  refine ⟨⟨h.1.1, ?_⟩, h.2⟩
  rcases h.1.2 with hn | ⟨g, cap, cur, rfl, hb, hg, r⟩
  · exact .inl hn
  · exact .inr ⟨g, cap, cur, rfl, hb, by rw [hk g hb (h.2 g rfl)]; exact hg, r⟩
theorem OwR.loc (lo hi : Nat) (e : TypeId) (size : Nat) (v : Value) (n : Nat) (xs : List Value) : Loc lo hi (OwR lo hi e size v n xs) := fun w w' h hk => h.keep hk
theorem OwR.nil (lo hi : Nat) (e : TypeId) (size : Nat) (w : World) : OwR lo hi e size (.slice none 0 0) 0 [] w := ⟨World.ownsRow_nil _ _ _ _, fun k hk => by simp [Value.ownBlock] at hk⟩
theorem OwR.step (h : OwR lo hi e size v n xs w) (hb : Below w.heap.size w w') : OwR lo hi e size v n xs w' := by
  refine ⟨own_below h.1 hb, h.2⟩
end
section
variable {lo hi : Nat} {n c : Nat} {A : Option Addr} {ps : List Pt} {xs : List Int} {w : World}
theorem OwR.ints (h : OwR lo hi 3 1 (.slice A n c) n (xs.map (Value.int .i64)) w) : IS w hi A xs := by
  intro hn
  obtain ⟨b, off, rfl, _, hc⟩ := IS.of_own h.1 hn
  exact ⟨b, off, rfl, h.2 b rfl, hc⟩
theorem OwR.parts (h : OwR lo hi 72 5 (.slice A n c) n (ps.flatMap Pt.cells) w) : PS w hi A ps := by
  intro hn
  obtain ⟨b, off, rfl, _, hc⟩ := PS.of_own h.1 hn
  exact ⟨b, off, rfl, h.2 b rfl, hc⟩
end
/-- A row whose content does not matter. -/
def Rw (lo hi : Nat) (e : TypeId) (size : Nat) (v : Value) (n : Nat) (w : World) : Prop := ∃ xs, OwR lo hi e size v n xs w
theorem Rw.of {lo hi : Nat} {e : TypeId} {size : Nat} {v : Value} {n : Nat} {xs : List Value} {w : World} (h : OwR lo hi e size v n xs w) : Rw lo hi e size v n w := ⟨xs, h⟩
theorem Rw.keep {lo hi : Nat} {e : TypeId} {size : Nat} {v : Value} {n : Nat} {w w' : World} (h : Rw lo hi e size v n w) (hk : ∀ k, lo ≤ k → k < hi → w'.heap[k]? = w.heap[k]?) : Rw lo hi e size v n w' := h.imp fun _ h => h.keep hk
/-- A row of the same kind was written to: whether it is this one or another one, this is still a row. -/
theorem Rw.after {lo hi lo' : Nat} {e e' : TypeId} {size size' n n' : Nat} {v u : Value} {w w' : World} {ys ys' : List Value} (h : Rw lo hi e size v n w) (hu : w.ownsRow lo' e' size' u n' ys) (hu' : w'.ownsRow lo' e' size' u n' ys') (hg : w.grownBy w' u.ownBlock) (hs : 0 < size) : Rw lo hi e size v n w' := by
  obtain ⟨xs, h⟩ := h
  by_cases hb : v.ownBlock = none ∨ v.ownBlock ≠ u.ownBlock
  · exact ⟨xs, h.1.kept hg hb, h.2⟩
  · have hv : v.ownBlock ≠ none := fun e => hb (.inl e)
    have hvu : v.ownBlock = u.ownBlock := Classical.byContradiction fun e => hb (.inr e)
    rcases h.1.2 with ⟨rfl, _⟩ | ⟨g, cap, cur, rfl, hlo, hh, h1, h2, h3, h4⟩
    · exact absurd rfl hv
    · rcases hu.2 with ⟨rfl, _⟩ | ⟨g', cap', cur', rfl, hlo', hh', k1, k2, k3, k4⟩
      · simp [Value.ownBlock] at hvu
      · simp [Value.ownBlock] at hvu
        subst hvu
        rw [hh] at hh'
        simp only [Option.some.injEq, Obj.cells.injEq] at hh'
        obtain ⟨rfl, rfl, _⟩ := hh'
        rcases hu'.2 with ⟨hx, _⟩ | ⟨g2, cap2, cur2, hx, _, hh2, m1, m2, m3, m4⟩
        · simp at hx
        · simp only [Value.slice.injEq, Option.some.injEq, Addr.mk.injEq, and_true, true_and] at hx
          obtain ⟨rfl, rfl⟩ := hx
          refine ⟨cur2.toList.take (n * size), ⟨?_, .inr ⟨g, cap, cur2, rfl, hlo, hh2, h1, h2, ?_, rfl⟩⟩, h.2⟩
          · rw [List.length_take, Array.length_toList, m3, ← k3, h3]
            have := Nat.mul_le_mul_right size h1
            omega
          · rw [m3, ← k3, h3]
end Go.Proofs.Ytdiabclcnkbglaa

namespace Go.Proofs.Ytdiabclcnkbglaa
set_option linter.unusedSimpArgs false
set_option linter.unusedVariables false
open Go.RowKit
/-- A node of a graph: its kind, the parts of its formula. -/
structure Nd where
  k : Int
  ps : List Pt
deriving DecidableEq, Inhabited
/-- The two cells at b, off read as a node. -/
def NdS (w : World) (B b off : Nat) (d : Nd) : Prop :=
  w.cell? ⟨b, off, none⟩ = some (.int .i64 d.k) ∧ ∃ A n c, w.cell? ⟨b, off + 1, none⟩ = some (.slice A n c) ∧ n = d.ps.length ∧ PS w B A d.ps
/-- The slice at A reads as the nodes gs; all of it lies below block B. -/
def GS (w : World) (B : Nat) (A : Option Addr) (gs : List Nd) : Prop :=
  0 < gs.length → ∃ b off, A = some ⟨b, off, none⟩ ∧ b < B ∧ ∀ j, j < gs.length → NdS w B b (off + j * 2) (gs.getD j default)
theorem NdS.keep {w w' : World} {B b off : Nat} {d : Nd} (h : NdS w B b off d) (hb : b < B) (hk : ∀ p : Addr, p.block < B → w'.cell? p = w.cell? p) : NdS w' B b off d := by
  obtain ⟨h1, A, n, c, h2, h3, h4⟩ := h
  exact ⟨(hk _ hb).trans h1, A, n, c, (hk _ hb).trans h2, h3, h4.keep hk⟩
theorem NdS.more {w : World} {B B' b off : Nat} {d : Nd} (h : NdS w B b off d) (hB : B ≤ B') : NdS w B' b off d := by
  obtain ⟨h1, A, n, c, h2, h3, h4⟩ := h
  exact ⟨h1, A, n, c, h2, h3, h4.more hB⟩
section
variable {w w' : World} {B B' C : Nat} {A : Option Addr} {gs : List Nd}
theorem GS.keep (h : GS w B A gs) (hk : ∀ p : Addr, p.block < B → w'.cell? p = w.cell? p) : GS w' B A gs := by
  intro hn
  obtain ⟨b, off, e, hb, hc⟩ := h hn
  exact ⟨b, off, e, hb, fun j hj => (hc j hj).keep hb hk⟩
theorem GS.more (h : GS w B A gs) (hB : B ≤ B') : GS w B' A gs := by
  intro hn
  obtain ⟨b, off, e, hb, hc⟩ := h hn
  exact ⟨b, off, e, by omega, fun j hj => (hc j hj).more hB⟩
theorem GS.below (h : GS w B A gs) (hb : Below C w w') (hC : B ≤ C) : GS w' B A gs := h.keep fun _ hp => hb.cell (Nat.lt_of_lt_of_le hp hC)
theorem GS.alloc (h : GS w B A gs) (hB : B ≤ w.heap.size) (o : Obj) : GS (w.alloc o) B A gs := h.keep fun p hp => World.cell?_alloc_lt w o p (by omega)
theorem GS.nil (w : World) (B : Nat) (A : Option Addr) : GS w B A [] := fun h => absurd h (by simp)
theorem GS.step {A : Option Addr} {gs : List Nd} {wk wl : World} (h : GS wk wk.heap.size A gs) (hb : Below wk.heap.size wk wl) : GS wl wl.heap.size A gs := (h.below hb (Nat.le_refl _)).more hb.size
end
theorem GS.loc (B : Nat) (A : Option Addr) (gs : List Nd) : Loc 0 B fun w => GS w B A gs :=
  fun w w' h hk => h.keep fun p hp => World.cell?_of_block (hk p.block (Nat.zero_le _) hp)
/-- No more nodes, and no node with more parts, than a million. -/
def GB (gs : List Nd) : Prop := gs.length ≤ 1048576 ∧ ∀ j, (gs.getD j default).ps.length ≤ 1048576
def gsz (gs : List Nd) : Nat := gs.length + (gs.map fun d => d.ps.length).sum
theorem sum_getD (l : List Nat) (j : Nat) : l.getD j 0 ≤ l.sum := by
  induction l generalizing j with
  | nil => simp
  | cons x l ih =>
    cases j with
    | zero => simp
    | succ j => have := ih j; simp only [List.getD_cons_succ, List.sum_cons]; omega
theorem GB.of_gsz {gs : List Nd} (h : gsz gs ≤ 1048576) : GB gs := by
  unfold gsz at h
  refine ⟨by omega, fun j => ?_⟩
  have := sum_getD (gs.map fun d => d.ps.length) j
  have e : (gs.map fun d => d.ps.length).getD j 0 = (gs.getD j default).ps.length := by
    by_cases hj : j < gs.length
    · simp [List.getD, hj]
    · simp [List.getD, List.getElem?_eq_none (show gs.length ≤ j by omega)]; rfl
  omega
theorem sum_take_succ (gs : List Nd) (k : Nat) (h : k < gs.length) : ((gs.take (k + 1)).map fun d => d.ps.length).sum = ((gs.take k).map fun d => d.ps.length).sum + (gs.getD k default).ps.length := by
  rw [take_succ_getD gs k h, List.map_append, List.sum_append]; simp
theorem sum_take_le (gs : List Nd) (k : Nat) : ((gs.take k).map fun d => d.ps.length).sum ≤ (gs.map fun d => d.ps.length).sum := by
  have : (gs.map fun d => d.ps.length).sum = ((gs.take k).map fun d => d.ps.length).sum + ((gs.drop k).map fun d => d.ps.length).sum := by
    rw [← List.sum_append, ← List.map_append, List.take_append_drop]
  omega
/-- The two values are a node of the call's own. -/
def NdO (lo hi : Nat) (d : Nd) (x y : Value) (w : World) : Prop :=
  x = .int .i64 d.k ∧ ∃ A n c, y = .slice A n c ∧ n = d.ps.length ∧ OwR lo hi 72 5 y n (d.ps.flatMap Pt.cells) w
/-- A row of nodes of the call's own. -/
def OwG (lo hi : Nat) (v : Value) (n : Nat) (gs : List Nd) (w : World) : Prop :=
  n = gs.length ∧ ∃ xs, OwR lo hi 51 2 v n xs w ∧ ∀ j, j < n → ∃ x y, xs[j * 2]? = some x ∧ xs[j * 2 + 1]? = some y ∧ NdO lo hi (gs.getD j default) x y w
theorem NdO.keep {lo hi : Nat} {d : Nd} {x y : Value} {w w' : World} (h : NdO lo hi d x y w) (hk : ∀ k, lo ≤ k → k < hi → w'.heap[k]? = w.heap[k]?) : NdO lo hi d x y w' := by
  obtain ⟨h1, A, n, c, h2, h3, h4⟩ := h
  exact ⟨h1, A, n, c, h2, h3, h4.keep hk⟩
theorem NdO.mono {lo hi lo' hi' : Nat} {d : Nd} {x y : Value} {w : World} (h : NdO lo hi d x y w) (h1 : lo' ≤ lo) (h2 : hi ≤ hi') : NdO lo' hi' d x y w := by
  obtain ⟨e1, A, n, c, e2, e3, h4⟩ := h
  exact ⟨e1, A, n, c, e2, e3, h4.mono h1 h2⟩
theorem OwG.loc (lo hi : Nat) (v : Value) (n : Nat) (gs : List Nd) : Loc lo hi (OwG lo hi v n gs) := by
  rintro w w' ⟨h0, xs, h1, h2⟩ hk
  exact ⟨h0, xs, h1.keep hk, fun j hj => by obtain ⟨x, y, hx, hy, h⟩ := h2 j hj; exact ⟨x, y, hx, hy, h.keep hk⟩⟩
theorem OwG.mono {lo hi lo' hi' n : Nat} {v : Value} {gs : List Nd} {w : World} (h : OwG lo hi v n gs w) (h1 : lo' ≤ lo) (h2 : hi ≤ hi') : OwG lo' hi' v n gs w := by
  obtain ⟨h0, xs, e1, e2⟩ := h
  exact ⟨h0, xs, e1.mono h1 h2, fun j hj => by obtain ⟨x, y, hx, hy, h⟩ := e2 j hj; exact ⟨x, y, hx, hy, h.mono h1 h2⟩⟩
theorem OwG.form {lo hi n : Nat} {v : Value} {gs : List Nd} {w : World} (h : OwG lo hi v n gs w) : ∃ A c, v = .slice A n c := by
  obtain ⟨_, xs, h1, _⟩ := h
  exact own_form h1.1
theorem OwG.nodes {lo hi n c : Nat} {A : Option Addr} {gs : List Nd} {w : World} (h : OwG lo hi (.slice A n c) n gs w) : GS w hi A gs := by
  obtain ⟨h0, xs, h1, h2⟩ := h
  intro hn
  rcases h1.1.2 with ⟨_, hz⟩ | ⟨g, cap, cur, hv, _⟩
  · omega
  · have hg := h1.2 g (by rw [hv]; rfl)
    simp only [Value.slice.injEq] at hv
    obtain ⟨rfl, _, rfl⟩ := hv
    refine ⟨g, 0, rfl, hg, fun j hj => ?_⟩
    obtain ⟨x, y, hx, hy, e1, A', n', c', e2, e3, e4⟩ := h2 j (by omega)
    refine ⟨?_, A', n', c', ?_, e3, ?_⟩
    · rw [h1.1.cellAt _ (by omega), ← e1]; simpa using hx
    · rw [h1.1.cellAt _ (by omega), ← e2]; simpa using hy
    · subst e2
      exact e4.parts
/-- A row of nodes whose content does not matter. -/
def WkG (lo hi : Nat) (v : Value) (n : Nat) (w : World) : Prop :=
  ∃ xs, OwR lo hi 51 2 v n xs w ∧ ∀ j, j < n → ∃ q A m c, xs[j * 2]? = some (.int .i64 q) ∧ xs[j * 2 + 1]? = some (.slice A m c) ∧ m ≤ 1048576 ∧ Rw lo hi 72 5 (.slice A m c) m w
theorem OwG.weak {lo hi n : Nat} {v : Value} {gs : List Nd} {w : World} (h : OwG lo hi v n gs w) (hb : GB gs) : WkG lo hi v n w := by
  obtain ⟨h0, xs, h1, h2⟩ := h
  refine ⟨xs, h1, fun j hj => ?_⟩
  obtain ⟨x, y, hx, hy, e1, A, m, c, e2, e3, e4⟩ := h2 j hj
  refine ⟨_, A, m, c, by rw [hx, e1], by rw [hy, e2], by rw [e3]; exact hb.2 j, _, by rw [← e2]; exact e4⟩
theorem WkG.keep {lo hi n : Nat} {v : Value} {w w' : World} (h : WkG lo hi v n w) (hk : ∀ k, lo ≤ k → k < hi → w'.heap[k]? = w.heap[k]?) : WkG lo hi v n w' := by
  obtain ⟨xs, h1, h2⟩ := h
  refine ⟨xs, h1.keep hk, fun j hj => ?_⟩
  obtain ⟨q, A, m, c, hx, hy, hm, hr⟩ := h2 j hj
  exact ⟨q, A, m, c, hx, hy, hm, hr.keep hk⟩
theorem WkG.step {lo hi n : Nat} {v : Value} {w w' : World} (h : WkG lo hi v n w) (hb : Below w.heap.size w w') (hs : hi ≤ w.heap.size) : WkG lo hi v n w' :=
  h.keep fun k _ hk => hb.block k (by omega)
/-- The block of a row of one kind is not that of a row of another kind. -/
theorem blocks_ne {w : World} {b1 b2 : Nat} {e1 e2 : TypeId} {s1 s2 n1 n2 : Nat} {v u : Value} {xs ys : List Value} (h : w.ownsRow b1 e1 s1 v n1 xs) (h' : w.ownsRow b2 e2 s2 u n2 ys) (he : e1 ≠ e2) : v.ownBlock = none ∨ v.ownBlock ≠ u.ownBlock := by
  rcases h.2 with ⟨rfl, _⟩ | ⟨g, cap, cur, rfl, _, hh, _⟩
  · exact .inl rfl
  · right
    rcases h'.2 with ⟨rfl, _⟩ | ⟨g', cap', cur', rfl, _, hh', _⟩
    · simp [Value.ownBlock]
    · simp only [Value.ownBlock, ne_eq, Option.some.injEq]
      rintro rfl
      rw [hh] at hh'
      simp only [Option.some.injEq, Obj.cells.injEq] at hh'
      exact he hh'.2.1
theorem node_ne_part : (51 : TypeId) ≠ 72 := by decide
/-- The parts of one node were marked: still a row of nodes. -/
theorem WkG.marked {lo hi n m : Nat} {v u : Value} {w w' : World} {k : Int} {e : Ending} (h : WkG lo hi v n w) (hu : ∃ ys, w.ownsRow lo 72 5 u m ys) (hm : Marked w lo 72 5 u m k e w') : WkG lo hi v n w' := by
  obtain ⟨xs, h1, h2⟩ := h
  obtain ⟨ys, hu⟩ := hu
  refine ⟨xs, ⟨h1.1.kept hm.2.2 (blocks_ne h1.1 hu node_ne_part), h1.2⟩, fun j hj => ?_⟩
  obtain ⟨q, A, m', c, hx, hy, hm', hr⟩ := h2 j hj
  exact ⟨q, A, m', c, hx, hy, hm', hr.after hu hm.2.1 hm.2.2 (by decide)⟩
/-- The kind of one node was written. -/
theorem WkG.kind {lo hi n g cap : Nat} {w : World} (h : WkG lo hi (.slice (some ⟨g, 0, none⟩) n cap) n w) (j : Nat) (hj : j < n) (q : Int) : WkG lo hi (.slice (some ⟨g, 0, none⟩) n cap) n (w.setCell ⟨g, j * 2, none⟩ (.int .i64 q)) := by
  obtain ⟨xs, h1, h2⟩ := h
  have hl : xs.length = n * 2 := h1.1.1
  have hst := h1.1.stored (j * 2) (.int .i64 q)
  refine ⟨_, ⟨hst.1, h1.2⟩, fun i hlt => ?_⟩
  obtain ⟨q', A, m, c, hx, hy, hm, ys, hr⟩ := h2 i hlt
  have e : ∃ ys, OwR lo hi 72 5 (.slice A m c) m ys (w.setCell ⟨g, j * 2, none⟩ (.int .i64 q)) := ⟨ys, hr.1.kept hst.2 (blocks_ne hr.1 h1.1 node_ne_part.symm), hr.2⟩
  by_cases e' : i = j
  · subst e'
    refine ⟨q, A, m, c, ?_, ?_, hm, e⟩
    · rw [List.getElem?_set]; simp; omega
    · rw [List.getElem?_set]; simpa using hy
  · refine ⟨q', A, m, c, ?_, ?_, hm, e⟩
    · rw [List.getElem?_set, if_neg (by omega)]; exact hx
    · rw [List.getElem?_set, if_neg (by omega)]; exact hy
end Go.Proofs.Ytdiabclcnkbglaa

namespace Go.Proofs.Ytdiabclcnkbglaa
set_option linter.unusedSimpArgs false
set_option linter.unusedVariables false
open Go.RowKit
theorem all_bad (l : List Int) (p : Int → Bool) (k : Nat) (h : k < l.length) (hp : p (l.getD k 0) = false) : l.all p = false := by
  rw [List.all_eq_false]
  exact ⟨l.getD k 0, by simp [List.getD, h], by rw [hp]; simp⟩
theorem all_good (l : List Int) (p : Int → Bool) (h : ∀ k, k < l.length → p (l.getD k 0) = true) : l.all p = true := by
  rw [List.all_eq_true]
  intro x hx
  obtain ⟨k, hk, rfl⟩ := List.mem_iff_getElem.1 hx
  have := h k hk
  simpa [List.getD, hk] using this
/-- A node ahead of the one at i that is no effect. -/
def rdOK (gs : List Nd) (i : Nat) (x : Int) : Bool := decide (x < (i : Int)) && !((gs.getD x.toNat default).k == 2)
def goodRd (gs : List Nd) (i : Nat) : Bool := (mayR (gs.getD i default).ps).all (rdOK gs i)
def nodeOK (gs : List Nd) (i : Nat) : Bool :=
  if (gs.getD i default).k == 0 then decide ((gs.getD i default).ps.length = 0)
  else if (gs.getD i default).k == 1 then validF (gs.getD i default).ps && goodRd gs i
  else if (gs.getD i default).k == 2 then validF (gs.getD i default).ps && goodRd gs i
  else false
def validG (gs : List Nd) : Bool := decide (∀ i, i < gs.length → nodeOK gs i = true) && decide (gs.length ≤ 10)
theorem validG_bad (gs : List Nd) (k : Nat) (h : k < gs.length) (hg : nodeOK gs k = false) : validG gs = false := by
  unfold validG
  rw [decide_eq_false]
  · rfl
  · intro H; rw [H k h] at hg; cases hg
theorem validG_long (gs : List Nd) (h : 10 < gs.length) : validG gs = false := by
  unfold validG
  rw [decide_eq_false (p := gs.length ≤ 10) (by omega), Bool.and_false]
theorem validG_fin (gs : List Nd) (h : ∀ i, i < gs.length → nodeOK gs i = true) : validG gs = decide (gs.length ≤ 10) := by
  unfold validG
  rw [decide_eq_true h, Bool.true_and]
theorem validG_parts (gs : List Nd) (h : validG gs = true) : gs.length ≤ 10 ∧ ∀ i, i < gs.length → nodeOK gs i = true := by
  unfold validG at h
  simp only [Bool.and_eq_true, decide_eq_true_eq] at h
  exact ⟨h.2, h.1⟩
theorem mem_mayR_bd (ps : List Pt) (x : Int) (h : x ∈ mayR ps) : 0 ≤ x ∧ x < 10 := by
  obtain ⟨m, hm, _, rfl⟩ := (mem_mayR ps x).1 h
  omega
theorem mayR_getD_bd (ps : List Pt) (j : Nat) (h : j < (mayR ps).length) : 0 ≤ (mayR ps).getD j 0 ∧ (mayR ps).getD j 0 < 10 :=
  mem_mayR_bd ps _ (by simp [List.getD, h])
/-- A cell is a value, 0 if its node is no cell. -/
def cellOK (gs : List Nd) (cs : List Int) (i : Nat) : Bool := rng (cs.getD i 0) 0 999 && ((gs.getD i default).k == 0 || cs.getD i 0 == 0)
def validC (gs : List Nd) (cs : List Int) : Bool := decide (cs.length = gs.length) && decide (∀ i, i < gs.length → cellOK gs cs i = true)
def okC (gs : List Nd) (cs : List Int) : Bool := validG gs && validC gs cs
theorem validC_len (gs : List Nd) (cs : List Int) (h : cs.length ≠ gs.length) : validC gs cs = false := by
  unfold validC; rw [decide_eq_false h]; rfl
theorem validC_bad (gs : List Nd) (cs : List Int) (k : Nat) (h : k < gs.length) (hc : cellOK gs cs k = false) : validC gs cs = false := by
  unfold validC
  rw [decide_eq_false (p := ∀ i, i < gs.length → cellOK gs cs i = true) (by intro H; rw [H k h] at hc; cases hc), Bool.and_false]
theorem validC_fin (gs : List Nd) (cs : List Int) (hl : cs.length = gs.length) (h : ∀ i, i < gs.length → cellOK gs cs i = true) : validC gs cs = true := by
  unfold validC
  rw [decide_eq_true hl, decide_eq_true h]; rfl
theorem validC_parts (gs : List Nd) (cs : List Int) (h : validC gs cs = true) : cs.length = gs.length ∧ ∀ i, i < gs.length → cellOK gs cs i = true := by
  unfold validC at h
  simpa only [Bool.and_eq_true, decide_eq_true_eq] using h
theorem cellOK_bd (gs : List Nd) (cs : List Int) (i : Nat) (h : cellOK gs cs i = true) : 0 ≤ cs.getD i 0 ∧ cs.getD i 0 ≤ 999 := by
  unfold cellOK rng at h
  simp only [Bool.and_eq_true, decide_eq_true_eq] at h
  exact h.1
theorem validC_VOK (gs : List Nd) (cs : List Int) (h : validC gs cs = true) : VOK cs := by
  obtain ⟨hl, hc⟩ := validC_parts gs cs h
  intro j hj
  exact cellOK_bd gs cs j (hc j (by omega))
theorem validC_allR (gs : List Nd) (cs : List Int) (h : validC gs cs = true) : allR cs 0 999 = true := by
  refine allR_true _ _ _ fun k hk => ?_
  have := validC_VOK gs cs h k hk
  unfold rng
  simpa using this
theorem validC_range (gs : List Nd) (cs : List Int) (h : allR cs 0 999 = false) : validC gs cs = false := by
  cases hv : validC gs cs
  · rfl
  · rw [validC_allR gs cs hv] at h; cases h
/-- The values of the first nodes. -/
def meanTo (gs : List Nd) (cs : List Int) : Nat → List Int
  | 0 => []
  | i + 1 => meanTo gs cs i ++ [if (gs.getD i default).k == 0 then cs.getD i 0 else (whole (gs.getD i default).ps).ev (meanTo gs cs i)]
def mean (gs : List Nd) (cs : List Int) : List Int := meanTo gs cs gs.length
theorem meanTo_len (gs : List Nd) (cs : List Int) (i : Nat) : (meanTo gs cs i).length = i := by
  induction i with
  | zero => rfl
  | succ i ih => simp [meanTo, ih]
theorem okC_parts (gs : List Nd) (cs : List Int) (h : okC gs cs = true) : validG gs = true ∧ validC gs cs = true := by
  unfold okC at h
  simpa only [Bool.and_eq_true] using h
end Go.Proofs.Ytdiabclcnkbglaa

namespace Go.Proofs.Ytdiabclcnkbglaa
set_option linter.unusedSimpArgs false
set_option linter.unusedVariables false
open Go.RowKit
/-- What MayRead answers. -/
def mayF (ps : List Pt) : List Int := if validF ps then mayR ps else []
/-- Ten marks: which nodes the first parts have. -/
def Mrk10 (w : World) (g : Nat) (ps : List Pt) : Prop :=
  g < w.heap.size ∧ ∀ t : Nat, t < 10 → w.cell? ⟨g, t, none⟩ = some (.bool (hasNode ps t)) ∧ w.frozen? ⟨g, t, none⟩ = false
theorem Mrk10.below {w w' : World} {g : Nat} {ps : List Pt} (h : Mrk10 w g ps) (hb : Below w.heap.size w w') : Mrk10 w' g ps :=
  ⟨Nat.lt_of_lt_of_le h.1 hb.size, fun t ht => ⟨(hb.cell (p := ⟨g, t, none⟩) h.1).trans (h.2 t ht).1, (hb.frozen (p := ⟨g, t, none⟩) h.1).trans (h.2 t ht).2⟩⟩
theorem hasNode_append (ps : List Pt) (p : Pt) (t : Nat) : hasNode (ps ++ [p]) t = (hasNode ps t || (p.k == 1 && p.n == (t : Int))) := by
  simp [hasNode, List.any_append]
theorem Mrk10.keep {w : World} {g : Nat} {ps : List Pt} {p : Pt} (h : Mrk10 w g ps) (hp : (p.k == 1) = false) : Mrk10 w g (ps ++ [p]) :=
  ⟨h.1, fun t ht => by rw [hasNode_append, hp]; simpa using h.2 t ht⟩
theorem Mrk10.set {w : World} {g : Nat} {ps : List Pt} {p : Pt} (h : Mrk10 w g ps) (q : Nat) (hq : q < 10) (hk : (p.k == 1) = true) (hn : p.n = (q : Int)) : Mrk10 (w.setCell ⟨g, q, none⟩ (.bool true)) g (ps ++ [p]) := by
  refine ⟨by simpa [World.setCell] using h.1, fun j hj => ?_⟩
  obtain ⟨h1, h2⟩ := h.2 j hj
  rw [hasNode_append, hk, hn]
  by_cases e : j = q
  · subst e
    refine ⟨?_, by simpa using h2⟩
    rw [World.cell?_setCell_same _ _ _ h1]; simp
  · refine ⟨?_, by simpa using h2⟩
    rw [World.cell?_setCell_other _ _ _ _ (by intro e'; simp at e'; try omega), h1]
    have : ((q : Int) == (j : Int)) = false := by simp; omega
    simp [this]
theorem mayR_below (ps : List Pt) : (((List.range 10).filter (hasNode ps)).map fun m : Nat => (m : Int)) = mayR ps := rfl
set_option maxRecDepth 100000 in
set_option maxHeartbeats 1600000 in
theorem impl_MayRead (A : Option Addr) (n c : Nat) (ps : List Pt) (w : World) (B : Nat) (hB : B ≤ w.heap.size) (hn : n = ps.length) (h : PS w B A ps) (hs : n ≤ 1999999) :
    Calls Try.prog 52 #[.agg #[.slice A n c]] w fun e w' => RetI w (mayF ps) e w' := by
  obtain ⟨i0, hi, hz0, hz1, hz2⟩ := info_parts info_int
  have H := Lib.hid h
  have HN := Lib.hid hn
  clear h hn
  cases hv : validF ps
  · have hd : mayF ps = [] := by simp [mayF, hv]
    rw [hd]
    have HV := Lib.hid hv
    clear hd hv
    go_enter Try.func52, Try.ntmps52
    go_wp2_with fail
    refine (impl_ValidFormula _ _ _ ps _ B (by simp; omega) HN.out (H.out.alloc hB _) (by omega)).mono ?_
    rintro e w1 ⟨rfl, hb⟩
    rw [HV.out]
    go_wp2
    go_ret
    exact ⟨_, rfl, World.ownsRow_nil _ _ _ _, ((Below.refl _ _).alloc (Nat.le_refl _) _).trans (hb.mono (by simp))⟩
  · have hd : mayF ps = mayR ps := by simp [mayF, hv]
    rw [hd]
    obtain ⟨hg, h1, h12⟩ := validF_good ps hv
    have HV := Lib.hid hv
    have HG := Lib.hid hg
    clear hd hv hg h1 h12
    go_enter Try.func52, Try.ntmps52
    go_wp2_with fail
    refine (impl_ValidFormula _ _ _ ps _ B (by simp; omega) HN.out (H.out.alloc hB _) (by omega)).mono ?_
    rintro e w1 ⟨rfl, hb⟩
    rw [HV.out]
    have hbox : w1.cell? ⟨w.heap.size, 0, none⟩ = some (.slice A n c) := (hb.cell (p := ⟨w.heap.size, 0, none⟩) (by simp)).trans (by go_simp)
    have HW := Lib.hid ((H.out.alloc hB _).below hb (by simp; omega))
    have hw1 : w.heap.size + 1 ≤ w1.heap.size := by have := hb.size; simpa using this
    have hB1 : Below w.heap.size w w1 := ((Below.refl _ _).alloc (Nat.le_refl _) _).trans (hb.mono (by simp))
    have hws : w.heap.size < w1.heap.size := by omega
    clear hb H
    go_wp2
    go_loopw [14] (fun i wr => ∃ k : Nat, k ≤ n ∧ i = .int .i64 k ∧ Hid (Mrk10 wr w1.heap.size (ps.take k)) ∧ Hid (Below w1.heap.size w1 wr)) (fun i _ => n - (intOf i).toNat)
    case atStart =>
      refine ⟨0, Nat.zero_le _, rfl, ⟨by simp, fun t ht => ?_⟩, below_new w1 _⟩
      have ht' : t = 0 ∨ t = 1 ∨ t = 2 ∨ t = 3 ∨ t = 4 ∨ t = 5 ∨ t = 6 ∨ t = 7 ∨ t = 8 ∨ t = 9 := by omega
      rcases ht' with rfl | rfl | rfl | rfl | rfl | rfl | rfl | rfl | rfl | rfl <;> exact ⟨by go_simp; rfl, by go_simp⟩
    case round =>
      obtain ⟨k, hk, rfl, HM, HB⟩ := hrel
      have hwr : w1.heap.size < wr.heap.size := HM.out.1
      by_cases hlt : k < n
      · obtain ⟨b, off, rfl, hbB, hc⟩ := HW.out (by have := HN.out; omega)
        obtain ⟨c0, c1, c2, c3, c4⟩ := hc k (by have := HN.out; omega)
        clear hc
        have hbw : b < w1.heap.size := by omega
        have b0 := (HB.out.cell (p := ⟨b, off + k * 5, none⟩) hbw).trans c0
        have b1 := (HB.out.cell (p := ⟨b, off + k * 5 + 1, none⟩) hbw).trans c1
        have b2 := (HB.out.cell (p := ⟨b, off + k * 5 + 2, none⟩) hbw).trans c2
        have b3 := (HB.out.cell (p := ⟨b, off + k * 5 + 3, none⟩) hbw).trans c3
        have b4 := (HB.out.cell (p := ⟨b, off + k * 5 + 4, none⟩) hbw).trans c4
        clear c0 c1 c2 c3 c4
        have hgk := HG.out k (by have := HN.out; omega)
        have HTS := Lib.hid (take_succ_getD ps k (by have := HN.out; omega))
        generalize ps.getD k default = p at *
        cases h1 : (p.k == 1)
        · have H1 := Lib.hid h1
          go_wp2
          go_roundw
          case rel => exact ⟨k + 1, by omega, by go_num, by rw [HTS.out]; exact (HM.out.below (below_new wr _)).keep H1.out, HB.out.alloc (by omega) _⟩
          case measure => simp [intOf]; omega
        · obtain ⟨q, hq⟩ : ∃ q : Nat, p.n = (q : Int) := by
            have := (good_num p k hgk).2 (by simpa using h1)
            exact ⟨p.n.toNat, by omega⟩
          have hq10 : q < 10 := by
            have := (good_num p k hgk).2 (by simpa using h1)
            omega
          have HMa := Lib.hid (HM.out.below (below_new wr (.cells #[.int .i64 p.k, .int .i64 p.a, .int .i64 p.b, .int .i64 p.c, .int .i64 p.n] 72)))
          rw [hq] at b4 HMa
          obtain ⟨hm1, hm2⟩ := HMa.out.2 q hq10
          have H1 := Lib.hid h1
          have HQ := Lib.hid hq
          clear hgk hq
          go_wp2
          go_roundw
          case rel => exact ⟨k + 1, by omega, by go_num, by rw [HTS.out]; exact (HM.out.set q hq10 H1.out HQ.out).below (below_new _ _), (HB.out.setCell (p := ⟨w1.heap.size, q, none⟩) (Nat.le_refl _) _).alloc (by simp [World.setCell]; omega) _⟩
          case measure => simp [intOf]; omega
      · obtain rfl : k = n := by omega
        rw [List.take_of_length_le (by have := HN.out; omega)] at HM
        clear hlt hk
        go_wp2
        go_loopw [6, 25] (fun v i wi => ∃ m : Nat, m ≤ 10 ∧ i = .int .i64 m ∧ Hid (OwnI wi (w1.heap.size + 1) v (((List.range m).filter (hasNode ps)).map fun m : Nat => (m : Int))) ∧ Hid (Below (w1.heap.size + 1) wr wi)) (fun _ i _ => 10 - (intOf i).toNat)
        case atStart => exact ⟨0, by omega, rfl, World.ownsRow_nil _ _ _ _, Below.refl _ _⟩
        case round =>
          obtain ⟨m, hm, rfl, HO, HBi⟩ := hrel
          by_cases hm10 : m < 10
          · have hc := (HBi.out.cell (p := ⟨w1.heap.size, m, none⟩) (by simp)).trans (HM.out.2 m hm10).1
            have HST := Lib.hid (mayR_step ps m)
            have hml := mayR_len ps m
            generalize hF : (((List.range m).filter (hasNode ps)).map fun m : Nat => (m : Int)) = F at *
            clear hF
            cases hh : hasNode ps m
            · rw [hh] at hc
              have HH := Lib.hid hh
              clear hh
              go_wp2
              go_roundw
              case rel => exact ⟨m + 1, by omega, by go_num, by rw [HST.out, HH.out]; simpa [Hid] using HO.out, HBi.out⟩
              case measure => simp [intOf]; omega
            · rw [hh] at hc
              have HH := Lib.hid hh
              clear hh
              obtain ⟨wi, hwi⟩ : ∃ wi : World, wi = wr := ⟨_, rfl⟩
              have hsz : w1.heap.size + 1 ≤ wi.heap.size := by have := HBi.out.size; rw [hwi]; omega
              rw [hwi] at hsz
              clear hwi
              go_wp2_with (at_builtin; refine wpList_append_own _ rfl _ _ 25 rfl (w1.heap.size + 1) 3 i0 (.int .i64 0) 1 8 Try.underlying25 hi hz0 hz1 hz2 rfl (by decide) _ _ _ rfl (HO.out.alloc _) ⟨_, 0, none⟩ 1 1 [.int .i64 m] rfl rfl (cell_one_new _ _ _) ?c2 ?c3 ?c4 ?c5 ?_)
              case c2 => intro u hu; simp at hu; subst hu; rfl
              case c3 => unfold maxLen; omega
              case c4 => omega
              case c5 => simp; omega
              intro v' w3 hown' hgrow _
              have hpos := (HO.out.alloc (.cells #[.int .i64 m] 3)).lt
              have HO' : Hid (OwnI w3 (w1.heap.size + 1) v' (((List.range (m + 1)).filter (hasNode ps)).map fun m : Nat => (m : Int))) := by
                rw [HST.out, HH.out]
                simpa [OwnI, Hid] using hown'
              have HB' := Lib.hid ((HBi.out.alloc hsz (.cells #[.int .i64 m] 3)).grown hgrow (by simp; omega) (fun q hq => (hpos q hq).1))
              clear hown' hgrow hpos
              go_wp2
              go_roundw
              case rel => exact ⟨m + 1, by omega, by go_num, HO'.out, HB'.out⟩
              case measure => simp [intOf]; omega
          · obtain rfl : m = 10 := by omega
            rw [mayR_below] at HO
            go_wp2
            go_ret
            exact ⟨_, rfl, own_mono HO.out (by omega), hB1.trans ((HB.out.trans (HBi.out.mono (by omega))).mono (by omega))⟩
end Go.Proofs.Ytdiabclcnkbglaa

namespace Go.Proofs.Ytdiabclcnkbglaa
set_option linter.unusedSimpArgs false
set_option linter.unusedVariables false
open Go.RowKit
theorem GS.at_ {w : World} {B : Nat} {A : Option Addr} {gs : List Nd} (h : GS w B A gs) (j : Nat) (hj : j < gs.length) : ∃ b off, A = some ⟨b, off, none⟩ ∧ b < B ∧ NdS w B b (off + j * 2) (gs.getD j default) := by
  obtain ⟨b, off, e, hb, hc⟩ := h (by omega)
  exact ⟨b, off, e, hb, hc j hj⟩
theorem drewN_below {B n : Nat} {a w : World} (h : Below B a w) : Below B a (w.drewN n) := ⟨h.os, h.tape, h.output, h.size, h.block⟩
set_option maxRecDepth 100000 in
set_option maxHeartbeats 1600000 in
theorem spec_goodReads (A : Option Addr) (n c : Nat) (gs : List Nd) (i : Nat) (w : World) (B : Nat) (hB : B ≤ w.heap.size) (hn : n = gs.length) (h : GS w B A gs) (hs : GB gs) (hi : i < n) :
    Calls Try.prog 31 #[.agg #[.slice A n c], .int .i64 i] w fun e w' => e = .returned (.bool (goodRd gs i)) ∧ Below w.heap.size w w' := by
  have hn1 : n ≤ 1048576 := by rw [hn]; exact hs.1
  have hs1 := hs.2 i
  obtain ⟨b, off, rfl, hbB, hd⟩ := h.at_ i (by omega)
  obtain ⟨c0, A1, n1, c1, c2, hn1', hps⟩ := hd
  have hgr : goodRd gs i = (mayR (gs.getD i default).ps).all (rdOK gs i) := rfl
  rw [hgr]
  have hbd := mayR_getD_bd (gs.getD i default).ps
  generalize hp : gs.getD i default = d at *
  have hy1 : n1 ≤ 1999999 := by omega
  have H := Lib.hid h
  have HN := Lib.hid hn
  have HN1 := Lib.hid hn1'
  have HPS := Lib.hid hps
  have HBD := Lib.hid hbd
  have hbw : b < w.heap.size := by omega
  have HM := Lib.hid fun (w : World) (hB : B ≤ w.heap.size) (h : PS w B A1 d.ps) => spec_mayRead A1 n1 c1 d.ps w B hB hn1' h (by omega)
  have hml := mayR_len d.ps 10
  rw [mayR_below] at hml
  generalize mayR d.ps = L at *
  generalize hl : L.length = l at *
  have HL := Lib.hid hl
  clear h hn hn1' hps hp hgr hs hs1 hbd hl
  go_enter Try.func31, Try.ntmps31
  go_wp2_with fail
  refine (HM.out _ (by simp; omega) (HPS.out.alloc hB _)).mono ?_
  rintro e w1 ⟨v1, rfl, hown, hb1⟩
  obtain ⟨g, cL, hgv, hbg, hgw⟩ := hown.form
  rw [HL.out] at hgv
  subst hgv
  have hsz1 : w.heap.size < w1.heap.size := by simp at hbg; omega
  have hI : IS w1 w1.heap.size (some ⟨g, 0, none⟩) L := by have := hown.1; rw [HL.out] at this; exact IS.of_own this
  have HI := Lib.hid hI
  have HG := Lib.hid ((H.out.alloc hB (.cells #[.slice (some ⟨b, off, none⟩) n c] 33)).below hb1 (by simp; omega))
  have hbox : w1.cell? ⟨w.heap.size, 0, none⟩ = some (.slice (some ⟨b, off, none⟩) n c) := (hb1.cell (p := ⟨w.heap.size, 0, none⟩) (by simp)).trans (by go_simp)
  have hB1 : Below w.heap.size w w1 := ((Below.refl _ _).alloc (Nat.le_refl _) _).trans (hb1.mono (by simp))
  clear hown hb1 H HPS HM hI
  go_wp2
  go_loopw [6] (fun u wr => ∃ k : Nat, k ≤ l ∧ u = .int .i64 k ∧ Hid (∀ j, j < k → rdOK gs i (L.getD j 0) = true) ∧ Below w1.heap.size w1 wr) (fun u _ => l - (intOf u).toNat)
  case atStart => exact ⟨0, by omega, rfl, by intro j hj; omega, Below.refl _ _⟩
  case round =>
    obtain ⟨k, hk, rfl, HK, hbr⟩ := hrel
    by_cases hlt : k < l
    · obtain ⟨b', off', e', _, hc⟩ := HI.out (by have := HL.out; omega)
      cases e'
      have hx := hc k (by have := HL.out; omega)
      obtain ⟨hx0, hx1⟩ := HBD.out k (by have := HL.out; omega)
      clear hc
      generalize hxx : L.getD k 0 = x at *
      have HX := Lib.hid hxx
      clear hxx
      obtain ⟨t, rfl⟩ : ∃ t : Nat, x = (t : Int) := ⟨x.toNat, by omega⟩
      have e1 : wr.cell? ⟨g, 0 + k, none⟩ = some (.int .i64 t) := (hbr.cell (p := ⟨g, 0 + k, none⟩) hgw).trans hx
      rw [Nat.zero_add] at e1
      have e2 : wr.cell? ⟨w.heap.size, 0, none⟩ = some (.slice (some ⟨b, off, none⟩) n c) := (hbr.cell (p := ⟨w.heap.size, 0, none⟩) hsz1).trans hbox
      by_cases hti : t < i
      · obtain ⟨b', off', e', _, c3, _⟩ := HG.out.at_ t (by have := HN.out; omega)
        cases e'
        have e3 : wr.cell? ⟨b, off + t * 2, none⟩ = some (.int .i64 (gs.getD t default).k) := (hbr.cell (p := ⟨b, off + t * 2, none⟩) (by show b < w1.heap.size; omega)).trans c3
        have hro : rdOK gs i (t : Int) = !((gs.getD t default).k == 2) := by unfold rdOK; rw [decide_eq_true (by omega)]; simp
        clear c3
        generalize gs.getD t default = q at *
        have hd1 : decide ((i : Int) ≤ (t : Int)) = false := by simp; omega
        have htn : t < n := by omega
        cases hq : (q.k == 2)
        all_goals
          have HR := Lib.hid hro
          have HQ := Lib.hid hq
          clear hro
          go_wp2
          go_quiet (fail)
          go_wp2
        · go_roundw
          case rel => exact ⟨k + 1, by omega, by go_num, fun j hj => by
            rcases Nat.lt_or_ge j k with h1 | h1
            · exact HK.out j h1
            · obtain rfl : j = k := by omega
              rw [HX.out, HR.out, HQ.out]; rfl, drewN_below hbr⟩
          case measure => simp [intOf]; omega
        · go_ret
          refine ⟨ret_b ?_, hB1.trans ((drewN_below hbr).mono (by omega))⟩
          exact (all_bad L (rdOK gs i) k (by have := HL.out; omega) (by rw [HX.out, HR.out, HQ.out]; rfl)).symm
      · have hro : rdOK gs i (t : Int) = false := by unfold rdOK; rw [decide_eq_false (by omega)]; rfl
        have HR := Lib.hid hro
        have hd1 : decide ((i : Int) ≤ (t : Int)) = true := by simp; omega
        clear hro
        go_wp2
        go_quiet (fail)
        go_wp2
        go_ret
        refine ⟨ret_b ?_, hB1.trans ((drewN_below hbr).mono (by omega))⟩
        exact (all_bad L (rdOK gs i) k (by have := HL.out; omega) (by rw [HX.out, HR.out])).symm
    · go_wp2
      go_ret
      refine ⟨ret_b ?_, hB1.trans (hbr.mono (by omega))⟩
      exact (all_good L (rdOK gs i) fun j hj => HK.out j (by have := HL.out; omega)).symm
set_option maxRecDepth 100000 in
set_option maxHeartbeats 3200000 in
theorem spec_validGraph (A : Option Addr) (n c : Nat) (gs : List Nd) (w : World) (B : Nat) (hB : B ≤ w.heap.size) (hn : n = gs.length) (h : GS w B A gs) (hs : GB gs) :
    Calls Try.prog 17 #[.agg #[.slice A n c]] w fun e w' => e = .returned (.bool (validG gs)) ∧ Below w.heap.size w w' := by
  have hn1 : n ≤ 1048576 := by rw [hn]; exact hs.1
  have H := Lib.hid h
  have HN := Lib.hid hn
  have HS := Lib.hid hs
  clear h hn hs
  go_enter Try.func17, Try.ntmps17
  go_wp2
  go_loopw [3] (fun u wr => ∃ k : Nat, k ≤ n ∧ u = .int .i64 k ∧ Hid (∀ j, j < k → nodeOK gs j = true) ∧ Below (w.heap.size + 1) (w.alloc (.cells #[.slice A n c] 33)) wr) (fun u _ => n - (intOf u).toNat)
  case atStart => exact ⟨0, by omega, rfl, by intro j hj; omega, Below.refl _ _⟩
  case round =>
    obtain ⟨k, hk, rfl, HK, hbr⟩ := hrel
    have hbox : wr.cell? ⟨w.heap.size, 0, none⟩ = some (.slice A n c) := (hbr.cell (p := ⟨w.heap.size, 0, none⟩) (by simp)).trans (by go_simp)
    have hwr : w.heap.size + 1 ≤ wr.heap.size := by have := hbr.size; simpa using this
    by_cases hlt : k < n
    · obtain ⟨b, off, rfl, hbB, c0, A1, n1, c1, c2, hn1', hps⟩ := H.out.at_ k (by have := HN.out; omega)
      have hx := HS.out.2 k
      have b0 : wr.cell? ⟨b, off + k * 2, none⟩ = _ := ((hbr.cell (p := ⟨b, off + k * 2, none⟩) (by simp; omega)).trans (World.cell?_alloc_lt _ _ _ (by simp; omega))).trans c0
      have b1 : wr.cell? ⟨b, off + k * 2 + 1, none⟩ = _ := ((hbr.cell (p := ⟨b, off + k * 2 + 1, none⟩) (by simp; omega)).trans (World.cell?_alloc_lt _ _ _ (by simp; omega))).trans c2
      have HPS := Lib.hid ((hps.alloc hB (.cells #[.slice (some ⟨b, off, none⟩) n c] 33)).below hbr (by omega))
      have HGS := Lib.hid ((H.out.alloc hB (.cells #[.slice (some ⟨b, off, none⟩) n c] 33)).below hbr (by omega))
      have hok : nodeOK gs k = if (gs.getD k default).k == 0 then decide ((gs.getD k default).ps.length = 0) else if (gs.getD k default).k == 1 then validF (gs.getD k default).ps && goodRd gs k else if (gs.getD k default).k == 2 then validF (gs.getD k default).ps && goodRd gs k else false := rfl
      clear c0 c2 hps
      generalize gs.getD k default = d at *
      have hy1 : n1 ≤ 1999999 := by omega
      have HN1 := Lib.hid hn1'
      have HGR := Lib.hid fun (w : World) (hB : B ≤ w.heap.size) (h : GS w B (some ⟨b, off, none⟩) gs) => spec_goodReads (some ⟨b, off, none⟩) n c gs k w B hB HN.out h HS.out hlt
      have HVF := Lib.hid fun (w : World) (hB : B ≤ w.heap.size) (h : PS w B A1 d.ps) => spec_validFormula A1 n1 c1 d.ps w B hB HN1.out h (by omega)
      generalize goodRd gs k = r at *
      generalize validF d.ps = f at *
      have HOK := Lib.hid hok
      clear hok hx
      cases h0 : (d.k == 0)
      · cases h1 : (d.k == 1)
        · cases h2 : (d.k == 2)
          · clear hn1'
            have H0 := Lib.hid h0
            have H1 := Lib.hid h1
            have H2 := Lib.hid h2
            go_wp2
            go_ret
            refine ⟨ret_b ?_, ((Below.refl _ _).alloc (Nat.le_refl _) _).trans ((hbr.alloc (by omega) _).mono (by omega))⟩
            exact (validG_bad gs k (by have := HN.out; omega) (by rw [HOK.out, H0.out, H1.out, H2.out]; rfl)).symm
          · clear hn1'
            have H0 := Lib.hid h0
            have H1 := Lib.hid h1
            have H2 := Lib.hid h2
            cases f
            · go_wp2_with fail
              refine (HVF.out _ (by simp; omega) (HPS.out.alloc (by omega) _)).mono ?_
              rintro e w1 ⟨rfl, hb1⟩
              have HG1 := Lib.hid ((HGS.out.alloc (by omega) (.cells #[.int .i64 d.k, .slice A1 n1 c1] 51)).below hb1 (by simp; omega))
              have hz1 : w.heap.size + 1 < w1.heap.size := by have := hb1.size; simp at this; omega
              have hB1 := (hbr.alloc (by omega) (.cells #[.int .i64 d.k, .slice A1 n1 c1] 51)).trans (hb1.mono (by simp; omega))
              have hbox1 : w1.cell? ⟨w.heap.size, 0, none⟩ = some (.slice (some ⟨b, off, none⟩) n c) := (hB1.cell (p := ⟨w.heap.size, 0, none⟩) (by simp)).trans (by go_simp)
              go_wp2
              go_ret
              refine ⟨ret_b ?_, ((Below.refl _ _).alloc (Nat.le_refl _) _).trans (hB1.mono (by omega))⟩
              exact (validG_bad gs k (by have := HN.out; omega) (by rw [HOK.out, H0.out, H1.out, H2.out]; rfl)).symm
            · cases r
              · go_wp2_with fail
                refine (HVF.out _ (by simp; omega) (HPS.out.alloc (by omega) _)).mono ?_
                rintro e w1 ⟨rfl, hb1⟩
                have HG1 := Lib.hid ((HGS.out.alloc (by omega) (.cells #[.int .i64 d.k, .slice A1 n1 c1] 51)).below hb1 (by simp; omega))
                have hz1 : w.heap.size + 1 < w1.heap.size := by have := hb1.size; simp at this; omega
                have hB1 := (hbr.alloc (by omega) (.cells #[.int .i64 d.k, .slice A1 n1 c1] 51)).trans (hb1.mono (by simp; omega))
                have hbox1 : w1.cell? ⟨w.heap.size, 0, none⟩ = some (.slice (some ⟨b, off, none⟩) n c) := (hB1.cell (p := ⟨w.heap.size, 0, none⟩) (by simp)).trans (by go_simp)
                go_wp2_with fail
                refine (HGR.out _ (by omega) HG1.out).mono ?_
                rintro e w2 ⟨rfl, hb2⟩
                have hB2 := hB1.trans (hb2.mono (by omega))
                go_wp2
                go_ret
                refine ⟨ret_b ?_, ((Below.refl _ _).alloc (Nat.le_refl _) _).trans (hB2.mono (by omega))⟩
                exact (validG_bad gs k (by have := HN.out; omega) (by rw [HOK.out, H0.out, H1.out, H2.out]; rfl)).symm
              · go_wp2_with fail
                refine (HVF.out _ (by simp; omega) (HPS.out.alloc (by omega) _)).mono ?_
                rintro e w1 ⟨rfl, hb1⟩
                have HG1 := Lib.hid ((HGS.out.alloc (by omega) (.cells #[.int .i64 d.k, .slice A1 n1 c1] 51)).below hb1 (by simp; omega))
                have hz1 : w.heap.size + 1 < w1.heap.size := by have := hb1.size; simp at this; omega
                have hB1 := (hbr.alloc (by omega) (.cells #[.int .i64 d.k, .slice A1 n1 c1] 51)).trans (hb1.mono (by simp; omega))
                have hbox1 : w1.cell? ⟨w.heap.size, 0, none⟩ = some (.slice (some ⟨b, off, none⟩) n c) := (hB1.cell (p := ⟨w.heap.size, 0, none⟩) (by simp)).trans (by go_simp)
                go_wp2_with fail
                refine (HGR.out _ (by omega) HG1.out).mono ?_
                rintro e w2 ⟨rfl, hb2⟩
                have hB2 := hB1.trans (hb2.mono (by omega))
                go_wp2
                go_roundw
                case rel => exact ⟨k + 1, by omega, by go_num, fun j hj => by
                  rcases Nat.lt_or_ge j k with h1 | h1
                  · exact HK.out j h1
                  · obtain rfl : j = k := by omega
                    rw [HOK.out, H0.out, H1.out, H2.out]; rfl, hB2⟩
                case measure => simp [intOf]; omega
        · clear hn1'
          have H0 := Lib.hid h0
          have H1 := Lib.hid h1
          cases f
          · go_wp2_with fail
            refine (HVF.out _ (by simp; omega) (HPS.out.alloc (by omega) _)).mono ?_
            rintro e w1 ⟨rfl, hb1⟩
            have HG1 := Lib.hid ((HGS.out.alloc (by omega) (.cells #[.int .i64 d.k, .slice A1 n1 c1] 51)).below hb1 (by simp; omega))
            have hz1 : w.heap.size + 1 < w1.heap.size := by have := hb1.size; simp at this; omega
            have hB1 := (hbr.alloc (by omega) (.cells #[.int .i64 d.k, .slice A1 n1 c1] 51)).trans (hb1.mono (by simp; omega))
            have hbox1 : w1.cell? ⟨w.heap.size, 0, none⟩ = some (.slice (some ⟨b, off, none⟩) n c) := (hB1.cell (p := ⟨w.heap.size, 0, none⟩) (by simp)).trans (by go_simp)
            go_wp2
            go_ret
            refine ⟨ret_b ?_, ((Below.refl _ _).alloc (Nat.le_refl _) _).trans (hB1.mono (by omega))⟩
            exact (validG_bad gs k (by have := HN.out; omega) (by rw [HOK.out, H0.out, H1.out]; rfl)).symm
          · cases r
            · go_wp2_with fail
              refine (HVF.out _ (by simp; omega) (HPS.out.alloc (by omega) _)).mono ?_
              rintro e w1 ⟨rfl, hb1⟩
              have HG1 := Lib.hid ((HGS.out.alloc (by omega) (.cells #[.int .i64 d.k, .slice A1 n1 c1] 51)).below hb1 (by simp; omega))
              have hz1 : w.heap.size + 1 < w1.heap.size := by have := hb1.size; simp at this; omega
              have hB1 := (hbr.alloc (by omega) (.cells #[.int .i64 d.k, .slice A1 n1 c1] 51)).trans (hb1.mono (by simp; omega))
              have hbox1 : w1.cell? ⟨w.heap.size, 0, none⟩ = some (.slice (some ⟨b, off, none⟩) n c) := (hB1.cell (p := ⟨w.heap.size, 0, none⟩) (by simp)).trans (by go_simp)
              go_wp2_with fail
              refine (HGR.out _ (by omega) HG1.out).mono ?_
              rintro e w2 ⟨rfl, hb2⟩
              have hB2 := hB1.trans (hb2.mono (by omega))
              go_wp2
              go_ret
              refine ⟨ret_b ?_, ((Below.refl _ _).alloc (Nat.le_refl _) _).trans (hB2.mono (by omega))⟩
              exact (validG_bad gs k (by have := HN.out; omega) (by rw [HOK.out, H0.out, H1.out]; rfl)).symm
            · go_wp2_with fail
              refine (HVF.out _ (by simp; omega) (HPS.out.alloc (by omega) _)).mono ?_
              rintro e w1 ⟨rfl, hb1⟩
              have HG1 := Lib.hid ((HGS.out.alloc (by omega) (.cells #[.int .i64 d.k, .slice A1 n1 c1] 51)).below hb1 (by simp; omega))
              have hz1 : w.heap.size + 1 < w1.heap.size := by have := hb1.size; simp at this; omega
              have hB1 := (hbr.alloc (by omega) (.cells #[.int .i64 d.k, .slice A1 n1 c1] 51)).trans (hb1.mono (by simp; omega))
              have hbox1 : w1.cell? ⟨w.heap.size, 0, none⟩ = some (.slice (some ⟨b, off, none⟩) n c) := (hB1.cell (p := ⟨w.heap.size, 0, none⟩) (by simp)).trans (by go_simp)
              go_wp2_with fail
              refine (HGR.out _ (by omega) HG1.out).mono ?_
              rintro e w2 ⟨rfl, hb2⟩
              have hB2 := hB1.trans (hb2.mono (by omega))
              go_wp2
              go_roundw
              case rel => exact ⟨k + 1, by omega, by go_num, fun j hj => by
                rcases Nat.lt_or_ge j k with h1 | h1
                · exact HK.out j h1
                · obtain rfl : j = k := by omega
                  rw [HOK.out, H0.out, H1.out]; rfl, hB2⟩
              case measure => simp [intOf]; omega
      · have H0 := Lib.hid h0
        by_cases hz : 0 < n1
        · clear hn1'
          go_wp2
          go_ret
          refine ⟨ret_b ?_, ((Below.refl _ _).alloc (Nat.le_refl _) _).trans ((hbr.alloc (by omega) _).mono (by omega))⟩
          exact (validG_bad gs k (by have := HN.out; omega) (by rw [HOK.out, H0.out]; exact decide_eq_false (by have := HN1.out; omega))).symm
        · obtain rfl : n1 = 0 := by omega
          clear hn1'
          go_wp2
          go_roundw
          case rel => exact ⟨k + 1, by omega, by go_num, fun j hj => by
            rcases Nat.lt_or_ge j k with h1 | h1
            · exact HK.out j h1
            · obtain rfl : j = k := by omega
              rw [HOK.out, H0.out]; exact decide_eq_true (by have := HN1.out; omega), hbr.alloc (by omega) _⟩
          case measure => simp [intOf]; omega
    · go_wp2
      go_ret
      refine ⟨ret_b ?_, ((Below.refl _ _).alloc (Nat.le_refl _) _).trans (hbr.mono (by omega))⟩
      rw [validG_fin gs fun j hj => HK.out j (by have := HN.out; omega)]
      have := HN.out
      simp
      omega
end Go.Proofs.Ytdiabclcnkbglaa
