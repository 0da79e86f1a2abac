/- Words and contracts for memory that the texts behind use. -/
import Derived.Test.YtlliomnfbgdpfaaS0
import Derived.Test.YtlliomnfbgdpfaaS1
import Derived.Test.YtlliomnfbgdpfaaS2
import Derived.Test.YtlliomnfbgdpfaaS3
import Derived.Test.YtlliomnfbgdpfaaS4
import Derived.Test.YtlliomnfbgdpfaaS5
import Derived.Test.YtlliomnfbgdpfaaS6
import Derived.WalkKit
import Derived.Laws.OwnMore
import Derived.Deep.Draws
import Derived.Test.YtlliomnfbgdpfaaProg
import Derived.WalkSpells
import Derived.WalkLawsBesides
import Derived.Outline
import Derived.Lib.Hide
import Derived.BigQuiet
import Derived.Deep.QuietTactic
import Derived.StillTailTactics
import Derived.Deep.LoopGhost
import Derived.Laws.MakeOwn
import Derived.WalkSmall
import Derived.RegionTactic
import Derived.BigRegion
import Derived.Deep.RegionWith
import Derived.Deep.RegionHeld3
import Derived.Maps.AppendAt
import Derived.Laws.CopyOwn
import Derived.Laws.Entries
import Derived.Laws.Bits64
import Derived.IntWalk
import Derived.Deep.RegionLaw
import Derived.Deep.AppendLies
import Derived.Deep.Cut
import Derived.Deep.DeepCutAuto

namespace Go.Proofs.Ytlliomnfbgdpfaa
set_option linter.unusedSimpArgs false
set_option linter.unusedVariables false
open Go.RowKit
/-- The first index of a number, -1 if it is not there. -/
def plc (l : List Int) (x : Int) : Int := if x ∈ l then (l.idxOf x : Int) else -1
theorem plc_lt (l : List Int) (x : Int) : decide (plc l x < 0) = !decide (x ∈ l) := by
  unfold plc
  by_cases h : x ∈ l
  · simp [h]
  · simp [h]
theorem plc_at (l : List Int) (x : Int) (k : Nat) (h : k < l.length) (hx : l.getD k 0 = x) (hn : ∀ j, j < k → l.getD j 0 ≠ x) : plc l x = k := by
  unfold plc
  have hm : x ∈ l := by rw [← hx]; simp [List.getD, h]
  rw [if_pos hm]
  congr 1
  apply Nat.le_antisymm
  · rcases Nat.lt_or_ge k (l.idxOf x) with h1 | h1
    · exfalso
      have h2 := List.not_of_lt_findIdx (p := (· == x)) (xs := l) (i := k) h1
      simp [List.getD, h] at hx
      simp [hx] at h2
    · exact h1
  · rcases Nat.lt_or_ge (l.idxOf x) k with h1 | h1
    · exfalso
      have h2 := List.getElem_idxOf (List.idxOf_lt_length_of_mem hm)
      have h3 := hn _ h1
      simp [List.getD, List.idxOf_lt_length_of_mem hm] at h3
    · exact h1
theorem plc_none (l : List Int) (x : Int) (hn : ∀ j, j < l.length → l.getD j 0 ≠ x) : plc l x = -1 := by
  unfold plc
  rw [if_neg]
  intro hm
  obtain ⟨k, hk, e⟩ := List.mem_iff_getElem.1 hm
  exact hn k hk (by simp [List.getD, hk, e])
set_option maxHeartbeats 400000 in
theorem spec_placeIn (A : Option Addr) (n c : Nat) (xs : List Int) (x : Int) (w : World) (B : Nat) (hB : B ≤ w.heap.size) (hn : n = xs.length) (h : IS w B A xs) (hs : n ≤ 2000000) :
    Calls Try.prog 54 #[.slice A n c, .int .i64 x] w fun e w' => e = .returned (.int .i64 (plc xs x)) ∧ w = w' := by
  have H := Lib.hid h
  have HN := Lib.hid hn
  clear hn h
  go_enter Try.func54, Try.ntmps54
  go_wp2
  go_loop [5] (fun i => ∃ k : Nat, k ≤ n ∧ i = .int .i64 k ∧ Hid (∀ j, j < k → xs.getD j 0 ≠ x)) (fun i => n - (intOf i).toNat)
  case atStart => exact ⟨0, Nat.zero_le _, rfl, fun j hj => by omega⟩
  case round =>
    obtain ⟨k, hk, rfl, HA⟩ := hrel
    by_cases hlt : k < n
    · obtain ⟨b, off, rfl, hbB, hc⟩ := H.out (by have := HN.out; omega)
      have c0 := hc k (by have := HN.out; omega)
      clear hc H
      generalize hp : xs.getD k 0 = p at *
      have HP := Lib.hid hp
      clear hp
      cases hr : (p == x)
      · have HR := Lib.hid hr
        go_wp2
        go_round
        case rel => exact ⟨k + 1, by omega, by go_num, fun j hj => by
          rcases Nat.lt_or_ge j k with h1 | h1
          · exact HA.out j h1
          · obtain rfl : j = k := by omega
            rw [HP.out]; simpa using HR.out⟩
        case measure => simp [intOf]; omega
      · have HR := Lib.hid hr
        go_wp2
        go_ret
        refine ⟨ret_i ?_, rfl⟩
        exact (plc_at xs x k (by have := HN.out; omega) (by rw [HP.out]; simpa using HR.out) HA.out).symm
    · go_wp2
      go_ret
      refine ⟨ret_i ?_, rfl⟩
      exact (plc_none xs x fun j hj => HA.out j (by have := HN.out; omega)).symm
/-- Numbers without those that came before. -/
def firsts (l : List Int) : List Int := l.foldl (fun acc x => if x ∈ acc then acc else acc ++ [x]) []
theorem firsts_step (l : List Int) (k : Nat) (x : Int) (h : k < l.length) (hx : l.getD k 0 = x) : firsts (l.take (k + 1)) = if x ∈ firsts (l.take k) then firsts (l.take k) else firsts (l.take k) ++ [x] := by
  rw [take_succ_int l k x h hx]
  unfold firsts
  rw [List.foldl_append]
  rfl
theorem firsts_len (l : List Int) : (firsts l).length ≤ l.length := by
  have : ∀ (l acc : List Int), (l.foldl (fun acc x => if x ∈ acc then acc else acc ++ [x]) acc).length ≤ acc.length + l.length := by
    intro l
    induction l with
    | nil => intro acc; simp
    | cons y l ih =>
      intro acc
      rw [List.foldl_cons]
      split
      · have := ih acc; simp only [List.length_cons]; omega
      · have := ih (acc ++ [y]); simp only [List.length_cons, List.length_append, List.length_nil] at this ⊢; omega
  have h := this l []
  unfold firsts
  simpa using h
set_option maxRecDepth 100000 in
set_option maxHeartbeats 1600000 in
theorem spec_firstOnly (A : Option Addr) (n c : Nat) (xs : List Int) (w : World) (B : Nat) (hB : B ≤ w.heap.size) (hn : n = xs.length) (h : IS w B A xs) (hs : n ≤ 2000000) :
    Calls Try.prog 87 #[.slice A n c] w fun e w' => RetN w (firsts xs) e w' := by
  obtain ⟨i0, hi, hz0, hz1, hz2⟩ := info_parts info_int
  have H := Lib.hid h
  have HN := Lib.hid hn
  clear hn h
  go_enter Try.func87, Try.ntmps87
  go_wp2
  go_loopw [3, 4] (fun v i wr => ∃ k : Nat, k ≤ n ∧ i = .int .i64 k ∧ Hid (OwnN wr w.heap.size v (firsts (xs.take k))) ∧ Below w.heap.size w wr) (fun _ i _ => n - (intOf i).toNat)
  case atStart =>
    refine ⟨0, Nat.zero_le _, rfl, ⟨?_, by simp⟩, (Below.refl _ _).alloc (Nat.le_refl _) _⟩
    exact World.ownsRow_lit (e := 3) (size := 1) w #[] 0 (Nat.le_refl _) (by unfold maxLen; omega) rfl
  case round =>
    obtain ⟨k, hk, rfl, HO, hb⟩ := hrel
    by_cases hlt : k < n
    · obtain ⟨b, off, rfl, hbB, hc⟩ := H.out (by have := HN.out; omega)
      have c0 := hc k (by have := HN.out; omega)
      clear hc
      have b0 := (hb.cell (p := ⟨b, off + k, none⟩) (by simp; omega)).trans c0
      clear c0
      generalize hp : xs.getD k 0 = p at *
      have HST := Lib.hid (firsts_step xs k p (by have := HN.out; omega) hp)
      have hfl := firsts_len (xs.take k)
      have hfk : (xs.take k).length ≤ k := List.length_take_le _ _
      generalize hF : firsts (xs.take k) = F at *
      clear hp hF
      obtain ⟨g, cc, rfl, hbg, hgs⟩ := HO.out.form
      have HI := Lib.hid (IS.of_own HO.out.1)
      have hwr : w.heap.size ≤ wr.heap.size := hb.size
      generalize hFL : F.length = fl at *
      have HFL := Lib.hid hFL
      clear hFL
      cases hin : decide (p ∈ F)
      · have hd : decide (plc F p < 0) = true := by rw [plc_lt, hin]; rfl
        have HIN := Lib.hid hin
        clear hin
        go_wp2_with (first | (go_at_call 54; refine (spec_placeIn _ _ _ F _ _ wr.heap.size (Nat.le_refl _) HFL.out.symm HI.out (by omega)).mono ?_; rintro e w' ⟨rfl, rfl⟩) | (at_builtin; refine wpList_append_own _ rfl _ _ 40 rfl w.heap.size 3 i0 (.int .i64 0) 1 8 Try.underlying40 hi hz0 hz1 hz2 rfl (by decide) _ _ _ rfl (HO.out.1.alloc _) ⟨wr.heap.size, 0, none⟩ 1 1 [.int .i64 p] rfl rfl (cell_one_new _ _ _) ?c2 ?c3 ?c4 ?c5 ?_))
        case c2 => intro u hu; simp at hu; subst hu; rfl
        case c3 => have := HFL.out; unfold maxLen; omega
        case c4 => have := HFL.out; omega
        case c5 => simp; omega
        intro v' w1 hown' hgrow hnil
        have HO' : Hid (OwnN w1 w.heap.size v' (firsts (xs.take (k + 1)))) := by
          have hst := HST.out
          have hnin : ¬ p ∈ F := of_decide_eq_false HIN.out
          rw [if_neg hnin] at hst
          rw [hst]
          refine ⟨?_, by first | exact hnil | (intro e; simp [e] at hnil)⟩
          simpa using hown'
        have hb' : Below w.heap.size w w1 := (hb.alloc hwr _).grown hgrow (by simp; omega) (by intro q hq; simp [Value.ownBlock] at hq; omega)
        clear hown' hgrow hnil
        go_wp2
        go_roundw
        case rel => exact ⟨k + 1, by omega, by go_num, HO'.out, hb'⟩
        case measure => simp [intOf]; omega
      · have hd : decide (plc F p < 0) = false := by rw [plc_lt, hin]; rfl
        have HIN := Lib.hid hin
        clear hin
        go_wp2_with (go_at_call 54; refine (spec_placeIn _ _ _ F _ _ wr.heap.size (Nat.le_refl _) HFL.out.symm HI.out (by omega)).mono ?_; rintro e w' ⟨rfl, rfl⟩)
        go_roundw
        case rel =>
          have hst := HST.out
          rw [if_pos (of_decide_eq_true HIN.out)] at hst
          exact ⟨k + 1, by omega, by go_num, by rw [hst]; exact HO.out, hb⟩
        case measure => simp [intOf]; omega
    · go_wp2
      go_ret
      have hkn : k = n := by omega
      refine ⟨_, rfl, ?_, hb⟩
      rw [hkn, List.take_of_length_le (by have := HN.out; omega)] at HO
      simpa using HO.out
end Go.Proofs.Ytlliomnfbgdpfaa

namespace Go.Proofs.Ytlliomnfbgdpfaa
set_option linter.unusedSimpArgs false
set_option linter.unusedVariables false
open Go.RowKit
inductive Tm where
  | num (v : Int)
  | rd (v : Int)
  | pr (k : Int) (l r : Tm)
  | ch (t a b : Tm)
def Tm.val : Tm → Value
  | .num v => .iface 121 (.agg #[.int .i64 v])
  | .rd v => .iface 123 (.agg #[.int .i64 v])
  | .pr k l r => .iface 125 (.agg #[.int .i64 k, l.val, r.val])
  | .ch t a b => .iface 127 (.agg #[t.val, a.val, b.val])
theorem Tm.val_form (t : Tm) : ∃ T x, t.val = .iface T x := by
  cases t <;> exact ⟨_, _, rfl⟩
/-- The term of the part at an index; the number bounds how deep one goes. -/
def tmAt (ps : List Pt) : Nat → Nat → Tm
  | 0, _ => .num 0
  | f + 1, i =>
    let p := ps.getD i default
    if p.k == 0 then .num p.n
    else if p.k == 1 then .rd p.n
    else if p.k == 8 then .ch (tmAt ps f p.a.toNat) (tmAt ps f p.b.toNat) (tmAt ps f p.c.toNat)
    else .pr p.k (tmAt ps f p.a.toNat) (tmAt ps f p.b.toNat)
/-- Returns a term. -/
def RetT (w : World) (t : Tm) (e : Ending) (w' : World) : Prop := ∃ T x, e = .returned (.iface T x) ∧ Tm.val t = .iface T x ∧ Below w.heap.size w w'
theorem good_bel_nat (p : Pt) (i : Nat) (h : goodPt p i = true) : (2 ≤ p.k ∧ p.k ≤ 7 → ∃ a b : Nat, p.a = a ∧ p.b = b ∧ a < i ∧ b < i) ∧ (p.k = 8 → ∃ a b c : Nat, p.a = a ∧ p.b = b ∧ p.c = c ∧ a < i ∧ b < i ∧ c < i) := by
  have hb := good_bel p i h
  constructor
  · intro hk
    have h2 : ar p.k = 2 := by unfold ar; rw [if_neg (by omega), if_pos hk]
    have h1 : bel p = [p.a, p.b] := by simp [bel, h2]
    rw [h1] at hb
    have ha := hb p.a (by simp)
    have hb' := hb p.b (by simp)
    exact ⟨p.a.toNat, p.b.toNat, by omega, by omega, by omega, by omega⟩
  · intro hk
    have h2 : ar p.k = 3 := by unfold ar; rw [if_neg (by omega), if_neg (by omega), if_pos hk]
    have h1 : bel p = [p.a, p.b, p.c] := by simp [bel, h2]
    rw [h1] at hb
    have ha := hb p.a (by simp)
    have hb' := hb p.b (by simp)
    have hc := hb p.c (by simp)
    exact ⟨p.a.toNat, p.b.toNat, p.c.toNat, by omega, by omega, by omega, by omega, by omega, by omega⟩
theorem good_kind (p : Pt) (i : Int) (h : goodPt p i = true) : p.k = 0 ∨ p.k = 1 ∨ (2 ≤ p.k ∧ p.k ≤ 7) ∨ p.k = 8 := by
  rcases ar_cases p.k with h1 | h1 | h1 | h1 | h1 | h1 | h1 | h1 | h1 | h1
  all_goals try omega
  exfalso
  have ha : ar p.k = -1 := by unfold ar; rw [if_neg (by omega), if_neg (by omega), if_neg (by omega)]
  simp [goodPt, ha] at h
set_option maxRecDepth 100000 in
set_option maxHeartbeats 3200000 in
theorem impl_termAt (A : Option Addr) (n c : Nat) (ps : List Pt) (B : Nat) (hn : n = ps.length) (hg : AllGood ps) (hs : n ≤ 2000000) (f : Nat) :
    ∀ (i : Nat) (w : World), i < f → i < n → B ≤ w.heap.size → PS w B A ps →
    Calls Try.prog 103 #[.slice A n c, .int .i64 i] w fun e w' => RetT w (tmAt ps f i) e w' := by
  induction f with
  | zero => intro i w hi; omega
  | succ f ih =>
    intro i w hif hin hB h
    obtain ⟨b, off, rfl, hbB, hc⟩ := h (by omega)
    obtain ⟨c0, c1, c2, c3, c4⟩ := hc i (by omega)
    clear hc
    have hgi := hg i (by omega)
    have H := Lib.hid h
    have IH := Lib.hid ih
    have HG := Lib.hid hg
    have HN := Lib.hid hn
    clear h ih hg hn
    generalize hp : ps.getD i default = p at *
    have HP := Lib.hid hp
    clear hp
    rcases good_kind p i hgi with h0 | h1 | h2 | h8
    · have k0 : (p.k == 0) = true := by simp [h0]
      have hr : tmAt ps (f + 1) i = .num p.n := by simp only [tmAt, HP.out, k0, if_true]
      rw [hr]
      clear hr h0 hgi
      go_enter Try.func103, Try.ntmps103
      go_wp2
      go_ret
      exact ⟨_, _, rfl, rfl, (Below.refl _ _).alloc (Nat.le_refl _) _⟩
    · have k0 : (p.k == 0) = false := by simp [h1]
      have k1 : (p.k == 1) = true := by simp [h1]
      have hr : tmAt ps (f + 1) i = .rd p.n := by simp only [tmAt, HP.out, k0, k1, if_true, if_false, Bool.false_eq_true]
      rw [hr]
      clear hr h1 hgi
      go_enter Try.func103, Try.ntmps103
      go_wp2
      go_ret
      exact ⟨_, _, rfl, rfl, (Below.refl _ _).alloc (Nat.le_refl _) _⟩
    · have k0 : (p.k == 0) = false := by simp; omega
      have k1 : (p.k == 1) = false := by simp; omega
      have k8 : (p.k == 8) = false := by simp; omega
      have hr : tmAt ps (f + 1) i = .pr p.k (tmAt ps f p.a.toNat) (tmAt ps f p.b.toNat) := by simp only [tmAt, HP.out, k0, k1, k8, if_false, Bool.false_eq_true]
      rw [hr]
      obtain ⟨ta, tb, ea, eb, la, lb⟩ := (good_bel_nat p i hgi).1 h2
      rw [ea, eb]
      rw [ea] at c1
      rw [eb] at c2
      simp only [Int.toNat_natCast]
      clear hr h2 hgi ea eb
      go_enter Try.func103, Try.ntmps103
      go_wp2_with fail
      have q0 : (w.alloc (.cells #[.int .i64 p.k, .int .i64 ta, .int .i64 tb, .int .i64 p.c, .int .i64 p.n] 103)).cell? ⟨w.heap.size, 0, none⟩ = some (.int .i64 p.k) := by go_simp
      have q1 : (w.alloc (.cells #[.int .i64 p.k, .int .i64 ta, .int .i64 tb, .int .i64 p.c, .int .i64 p.n] 103)).cell? ⟨w.heap.size, 1, none⟩ = some (.int .i64 ta) := by go_simp
      have q2 : (w.alloc (.cells #[.int .i64 p.k, .int .i64 ta, .int .i64 tb, .int .i64 p.c, .int .i64 p.n] 103)).cell? ⟨w.heap.size, 2, none⟩ = some (.int .i64 tb) := by go_simp
      have hB0 := (Below.refl w.heap.size w).alloc (Nat.le_refl _) (.cells #[.int .i64 p.k, .int .i64 ta, .int .i64 tb, .int .i64 p.c, .int .i64 p.n] 103)
      have hz : w.heap.size < (w.alloc (.cells #[.int .i64 p.k, .int .i64 ta, .int .i64 tb, .int .i64 p.c, .int .i64 p.n] 103)).heap.size := by simp
      have HW := Lib.hid (H.out.alloc hB (.cells #[.int .i64 p.k, .int .i64 ta, .int .i64 tb, .int .i64 p.c, .int .i64 p.n] 103))
      clear c0 c1 c2 c3 c4 H
      generalize w.alloc (.cells #[.int .i64 p.k, .int .i64 ta, .int .i64 tb, .int .i64 p.c, .int .i64 p.n] 103) = W at *
      go_region_held3 (fun w' => w'.cell? ⟨w.heap.size, 0, none⟩ = some (.int .i64 p.k) ∧ w'.cell? ⟨w.heap.size, 1, none⟩ = some (.int .i64 ta) ∧ w'.cell? ⟨w.heap.size, 2, none⟩ = some (.int .i64 tb)) (first | exact ⟨q0, q1, q2⟩ | exact ⟨q0', q1', q2'⟩ | exact ⟨q0'', q1'', q2''⟩)
        (first
          | (go_at_call_of 103 (Value.int IntKind.i64 ta); refine (IH.out ta _ (by omega) (by omega) ?_ ?_).mono ?_; (have := hB; show B ≤ W.heap.size; omega); exact HW.out; rintro e w1 ⟨T1, x1, rfl, hT1, hb1'⟩; have hb1 : Below W.heap.size W w1 := below_of_drew hb1'; have HT1 := Lib.hid hT1; clear hT1 hb1'; have q0' := (hb1.cell (p := ⟨w.heap.size, 0, none⟩) hz).trans q0; have q1' := (hb1.cell (p := ⟨w.heap.size, 1, none⟩) hz).trans q1; have q2' := (hb1.cell (p := ⟨w.heap.size, 2, none⟩) hz).trans q2)
          | (go_at_call_of 103 (Value.int IntKind.i64 tb); refine (IH.out tb _ (by omega) (by omega) ?_ ?_).mono ?_; (have := hb1.size; omega); exact HW.out.below hb1 (by omega); rintro e w2 ⟨T2, x2, rfl, hT2, hb2⟩; have HT2 := Lib.hid hT2; clear hT2; have q0'' := (hb2.cell (p := ⟨w.heap.size, 0, none⟩) (by have := hb1.size; show w.heap.size < w1.heap.size; omega)).trans q0'; have q1'' := (hb2.cell (p := ⟨w.heap.size, 1, none⟩) (by have := hb1.size; show w.heap.size < w1.heap.size; omega)).trans q1'; have q2'' := (hb2.cell (p := ⟨w.heap.size, 2, none⟩) (by have := hb1.size; show w.heap.size < w1.heap.size; omega)).trans q2'))
      go_wp2
      go_ret
      refine ⟨_, _, rfl, ?_, hB0.trans ((hb1.trans (hb2.mono hb1.size)).mono (by omega))⟩
      have e1 := HT1.out
      have e2 := HT2.out
      simp [Tm.val, e1, e2]
    · have k0 : (p.k == 0) = false := by simp; omega
      have k1 : (p.k == 1) = false := by simp; omega
      have k8 : (p.k == 8) = true := by simp; omega
      have hr : tmAt ps (f + 1) i = .ch (tmAt ps f p.a.toNat) (tmAt ps f p.b.toNat) (tmAt ps f p.c.toNat) := by simp only [tmAt, HP.out, k0, k1, k8, if_true, if_false, Bool.false_eq_true]
      rw [hr]
      obtain ⟨ta, tb, tc, ea, eb, ec, la, lb, lc⟩ := (good_bel_nat p i hgi).2 h8
      rw [ea, eb, ec]
      rw [ea] at c1
      rw [eb] at c2
      rw [ec] at c3
      simp only [Int.toNat_natCast]
      clear hr h8 hgi ea eb ec
      go_enter Try.func103, Try.ntmps103
      go_wp2_with fail
      have q1 : (w.alloc (.cells #[.int .i64 p.k, .int .i64 ta, .int .i64 tb, .int .i64 tc, .int .i64 p.n] 103)).cell? ⟨w.heap.size, 1, none⟩ = some (.int .i64 ta) := by go_simp
      have q2 : (w.alloc (.cells #[.int .i64 p.k, .int .i64 ta, .int .i64 tb, .int .i64 tc, .int .i64 p.n] 103)).cell? ⟨w.heap.size, 2, none⟩ = some (.int .i64 tb) := by go_simp
      have q3 : (w.alloc (.cells #[.int .i64 p.k, .int .i64 ta, .int .i64 tb, .int .i64 tc, .int .i64 p.n] 103)).cell? ⟨w.heap.size, 3, none⟩ = some (.int .i64 tc) := by go_simp
      have hB0 := (Below.refl w.heap.size w).alloc (Nat.le_refl _) (.cells #[.int .i64 p.k, .int .i64 ta, .int .i64 tb, .int .i64 tc, .int .i64 p.n] 103)
      have hz : w.heap.size < (w.alloc (.cells #[.int .i64 p.k, .int .i64 ta, .int .i64 tb, .int .i64 tc, .int .i64 p.n] 103)).heap.size := by simp
      have HW := Lib.hid (H.out.alloc hB (.cells #[.int .i64 p.k, .int .i64 ta, .int .i64 tb, .int .i64 tc, .int .i64 p.n] 103))
      clear c0 c1 c2 c3 c4 H
      generalize w.alloc (.cells #[.int .i64 p.k, .int .i64 ta, .int .i64 tb, .int .i64 tc, .int .i64 p.n] 103) = W at *
      go_region_held3 (fun w' => w'.cell? ⟨w.heap.size, 1, none⟩ = some (.int .i64 ta) ∧ w'.cell? ⟨w.heap.size, 2, none⟩ = some (.int .i64 tb) ∧ w'.cell? ⟨w.heap.size, 3, none⟩ = some (.int .i64 tc)) (first | exact ⟨q1, q2, q3⟩ | exact ⟨q1', q2', q3'⟩ | exact ⟨q1'', q2'', q3''⟩ | exact ⟨q1''', q2''', q3'''⟩)
        (first
          | (go_at_call_of 103 (Value.int IntKind.i64 ta); refine (IH.out ta _ (by omega) (by omega) ?_ ?_).mono ?_; (have := hB; show B ≤ W.heap.size; omega); exact HW.out; rintro e w1 ⟨T1, x1, rfl, hT1, hb1'⟩; have hb1 : Below W.heap.size W w1 := below_of_drew hb1'; have HT1 := Lib.hid hT1; clear hT1 hb1'; have hz1 : w.heap.size < w1.heap.size := Nat.lt_of_lt_of_le hz hb1.size; have HW1 := Lib.hid (HW.out.below hb1 (by omega)); have q1' := (hb1.cell (p := ⟨w.heap.size, 1, none⟩) hz).trans q1; have q2' := (hb1.cell (p := ⟨w.heap.size, 2, none⟩) hz).trans q2; have q3' := (hb1.cell (p := ⟨w.heap.size, 3, none⟩) hz).trans q3)
          | (go_at_call_of 103 (Value.int IntKind.i64 tb); refine (IH.out tb _ (by omega) (by omega) ?_ ?_).mono ?_; (omega); exact HW1.out; rintro e w2 ⟨T2, x2, rfl, hT2, hb2⟩; have HT2 := Lib.hid hT2; clear hT2; have hz2 : w.heap.size < w2.heap.size := Nat.lt_of_lt_of_le hz1 hb2.size; have HW2 := Lib.hid (HW1.out.below hb2 (by omega)); have q1'' := (hb2.cell (p := ⟨w.heap.size, 1, none⟩) (by first | exact hz | (have := hz1; show w.heap.size < w1.heap.size; omega))).trans q1'; have q2'' := (hb2.cell (p := ⟨w.heap.size, 2, none⟩) (by first | exact hz | (have := hz1; show w.heap.size < w1.heap.size; omega))).trans q2'; have q3'' := (hb2.cell (p := ⟨w.heap.size, 3, none⟩) (by first | exact hz | (have := hz1; show w.heap.size < w1.heap.size; omega))).trans q3')
          | (go_at_call_of 103 (Value.int IntKind.i64 tc); refine (IH.out tc _ (by omega) (by omega) ?_ ?_).mono ?_; (omega); exact HW2.out; rintro e w3 ⟨T3, x3, rfl, hT3, hb3⟩; have HT3 := Lib.hid hT3; clear hT3; have hz3 : w.heap.size < w3.heap.size := Nat.lt_of_lt_of_le hz2 hb3.size; have HW3 := Lib.hid (HW2.out.below hb3 (by omega)); have q1''' := (hb3.cell (p := ⟨w.heap.size, 1, none⟩) (by first | exact hz | (have := hz2; show w.heap.size < w2.heap.size; omega))).trans q1''; have q2''' := (hb3.cell (p := ⟨w.heap.size, 2, none⟩) (by first | exact hz | (have := hz2; show w.heap.size < w2.heap.size; omega))).trans q2''; have q3''' := (hb3.cell (p := ⟨w.heap.size, 3, none⟩) (by first | exact hz | (have := hz2; show w.heap.size < w2.heap.size; omega))).trans q3''))
      go_wp2
      go_ret
      refine ⟨_, _, rfl, ?_, hB0.trans ((hb1.trans ((hb2.trans (hb3.mono hb2.size)).mono hb1.size)).mono (by omega))⟩
      have e1 := HT1.out
      have e2 := HT2.out
      have e3 := HT3.out
      simp [Tm.val, e1, e2, e3]
end Go.Proofs.Ytlliomnfbgdpfaa

namespace Go.Proofs.Ytlliomnfbgdpfaa
set_option linter.unusedSimpArgs false
set_option linter.unusedVariables false
open Go.RowKit
/-- What a part of two makes of two values. -/
def jn (k x y : Int) : Int :=
  if k == 2 then (x + y) % 1000
  else if k == 3 then (x - y + 1000) % 1000
  else if k == 4 then x * y % 1000
  else if k == 5 then min x y
  else if k == 6 then max x y
  else if x < y then 1 else 0
theorem mul_bd (x y : Int) (hx : 0 ≤ x) (hx' : x ≤ 999) (hy : 0 ≤ y) (hy' : y ≤ 999) : 0 ≤ x * y ∧ x * y ≤ 998001 :=
  ⟨Int.mul_nonneg hx hy, by
    have h1 : x * y ≤ 999 * y := Int.mul_le_mul_of_nonneg_right hx' hy
    omega⟩
theorem jn_bd (k x y : Int) (hx : 0 ≤ x) (hx' : x ≤ 999) (hy : 0 ≤ y) (hy' : y ≤ 999) : 0 ≤ jn k x y ∧ jn k x y ≤ 999 := by
  have := mul_bd x y hx hx' hy hy'
  unfold jn
  (repeat' split) <;> omega
theorem getD_mem' {α : Type} [Inhabited α] (l : List α) (m : Nat) (h : m < l.length) : l.getD m default ∈ l := by
  simp [List.getD, h]
set_option maxHeartbeats 800000 in
theorem impl_combine (k x y : Int) (hx : 0 ≤ x) (hx' : x ≤ 999) (hy : 0 ≤ y) (hy' : y ≤ 999) (w : World) :
    Calls Try.prog 102 #[.int .i64 k, .int .i64 x, .int .i64 y] w fun e w' => e = .returned (.int .i64 (jn k x y)) ∧ w = w' := by
  obtain ⟨hm0, hm1⟩ := mul_bd x y hx hx' hy hy'
  have hs : 0 ≤ x - y + 1000 := by omega
  go_enter Try.func102, Try.ntmps102
  go_wp2
  all_goals
    go_ret
    refine ⟨ret_i ?_, rfl⟩
    simp_all [jn]
    try omega
set_option maxHeartbeats 800000 in
theorem spec_joined (k x y : Int) (hx : 0 ≤ x) (hx' : x ≤ 999) (hy : 0 ≤ y) (hy' : y ≤ 999) (w : World) :
    Calls Try.prog 100 #[.int .i64 k, .int .i64 x, .int .i64 y] w fun e w' => e = .returned (.int .i64 (jn k x y)) ∧ w = w' := by
  obtain ⟨hm0, hm1⟩ := mul_bd x y hx hx' hy hy'
  have hs : 0 ≤ x - y + 1000 := by omega
  go_enter Try.func100, Try.ntmps100
  go_wp2
  all_goals
    go_ret
    refine ⟨ret_i ?_, rfl⟩
    simp_all [jn]
    try omega
/-- There is a value for each node of the formula. -/
def eachOK (ps : List Pt) (n : Nat) : Bool := ps.all fun p => !(p.k == 1 && decide ((n : Int) ≤ p.n))
set_option maxRecDepth 100000 in
set_option maxHeartbeats 800000 in
theorem impl_hasEach (A A' : Option Addr) (n c m c' : Nat) (ps : List Pt) (w : World) (B : Nat) (hB : B ≤ w.heap.size) (hn : n = ps.length) (h : PS w B A ps) (hs : n ≤ 2000000) (hm : m ≤ 2000000) :
    Calls Try.prog 101 #[.agg #[.slice A n c], .slice A' m c'] w fun e w' => e = .returned (.bool (eachOK ps m)) ∧ Below w.heap.size w w' := by
  have H := Lib.hid h
  have HN := Lib.hid hn
  clear hn h
  go_enter Try.func101, Try.ntmps101
  go_wp2
  go_loopw [10] (fun i wr => ∃ k : Nat, k ≤ n ∧ i = .int .i64 k ∧ Hid (∀ j, j < k → ((ps.getD j default).k == 1 && decide ((m : Int) ≤ (ps.getD j default).n)) = false) ∧ Below w.heap.size w wr) (fun i _ => n - (intOf i).toNat)
  case atStart => exact ⟨0, Nat.zero_le _, rfl, by intro j hj; omega, (Below.refl _ _).alloc (Nat.le_refl _) _⟩
  case round =>
    obtain ⟨k, hk, rfl, HA, hb⟩ := hrel
    have hwr : w.heap.size ≤ wr.heap.size := hb.size
    by_cases hlt : k < n
    · obtain ⟨b, off, rfl, hbB, hc⟩ := H.out (by have := HN.out; omega)
      obtain ⟨c0, c1, c2, c3, c4⟩ := hc k (by have := HN.out; omega)
      clear hc
      have b0 := (hb.cell (p := ⟨b, off + k * 5, none⟩) (by simp; omega)).trans c0
      have b1 := (hb.cell (p := ⟨b, off + k * 5 + 1, none⟩) (by simp; omega)).trans c1
      have b2 := (hb.cell (p := ⟨b, off + k * 5 + 2, none⟩) (by simp; omega)).trans c2
      have b3 := (hb.cell (p := ⟨b, off + k * 5 + 3, none⟩) (by simp; omega)).trans c3
      have b4 := (hb.cell (p := ⟨b, off + k * 5 + 4, none⟩) (by simp; omega)).trans c4
      clear c0 c1 c2 c3 c4
      generalize hp : ps.getD k default = p at *
      have HP := Lib.hid hp
      clear hp
      cases h1 : (p.k == 1)
      · have H1 := Lib.hid h1
        go_wp2
        go_roundw
        case rel => exact ⟨k + 1, by omega, by go_num, fun j hj => by
          rcases Nat.lt_or_ge j k with h2 | h2
          · exact HA.out j h2
          · obtain rfl : j = k := by omega
            rw [HP.out, H1.out]; rfl, hb.alloc hwr _⟩
        case measure => simp [intOf]; omega
      · have H1 := Lib.hid h1
        by_cases h2 : (m : Int) ≤ p.n
        · have H2 := Lib.hid h2
          go_wp2
          go_ret
          refine ⟨ret_b ?_, hb.alloc hwr _⟩
          have hf : eachOK ps m = false := by
            unfold eachOK
            rw [List.all_eq_false]
            refine ⟨ps.getD k default, getD_mem' ps k (by have := HN.out; omega), ?_⟩
            rw [HP.out, H1.out, decide_eq_true H2.out]; simp
          rw [hf]; try rfl
        · have H2 := Lib.hid h2
          go_wp2
          go_roundw
          case rel => exact ⟨k + 1, by omega, by go_num, fun j hj => by
            rcases Nat.lt_or_ge j k with h3 | h3
            · exact HA.out j h3
            · obtain rfl : j = k := by omega
              rw [HP.out, H1.out, decide_eq_false H2.out]; rfl, hb.alloc hwr _⟩
          case measure => simp [intOf]; omega
    · go_wp2
      go_ret
      refine ⟨ret_b ?_, hb⟩
      have hf : eachOK ps m = true := by
        unfold eachOK
        rw [List.all_eq_true]
        intro x hx
        obtain ⟨j, hj, rfl⟩ := List.mem_iff_getElem.1 hx
        have := HA.out j (by have := HN.out; omega)
        rw [show ps.getD j default = ps[j] by simp [List.getD, hj]] at this
        rw [this]; rfl
      rw [hf]; try rfl
/-- The values serve the formula, as impl reckons it. -/
def canEv (ps : List Pt) (vs : List Int) : Bool := validF ps && ((decide (vs.length ≤ 10) && allR vs 0 999) && eachOK ps vs.length)
set_option maxHeartbeats 800000 in
theorem impl_canEvaluate (A A' : Option Addr) (n c m c' : Nat) (ps : List Pt) (vs : List Int) (w : World) (B : Nat) (hB : B ≤ w.heap.size) (hn : n = ps.length) (hm : m = vs.length) (h : PS w B A ps) (h' : IS w B A' vs) (hs : n ≤ 2000000) (hs' : m ≤ 2000000) :
    Calls Try.prog 88 #[.agg #[.slice A n c], .slice A' m c'] w fun e w' => e = .returned (.bool (canEv ps vs)) ∧ Below w.heap.size w w' := by
  have H := Lib.hid h
  have HN := Lib.hid hn
  have H' := Lib.hid h'
  have HM := Lib.hid hm
  clear hn h hm h'
  cases hv : validF ps
  · have hr : canEv ps vs = false := by simp [canEv, hv]
    rw [hr]
    have HV := Lib.hid hv
    clear hr hv
    go_enter Try.func88, Try.ntmps88
    go_wp2_with fail
    refine (impl_ValidFormula _ _ _ ps _ B (by simp; omega) HN.out (H.out.alloc hB _) hs).mono ?_
    rintro e w1 ⟨rfl, hb⟩
    rw [HV.out]
    go_wp2
    go_ret
    exact ⟨rfl, ((Below.refl _ _).alloc (Nat.le_refl _) _).trans (hb.mono (by simp))⟩
  · cases hr2 : (decide (vs.length ≤ 10) && allR vs 0 999)
    · have hr : canEv ps vs = false := by simp only [canEv, hr2]; simp
      rw [hr]
      have HV := Lib.hid hv
      have HR2 := Lib.hid hr2
      clear hr hv hr2
      go_enter Try.func88, Try.ntmps88
      go_wp2_with fail
      refine (impl_ValidFormula _ _ _ ps _ B (by simp; omega) HN.out (H.out.alloc hB _) hs).mono ?_
      rintro e w1 ⟨rfl, hb⟩
      rw [HV.out]
      have hz : w.heap.size + 1 ≤ w1.heap.size := by have := hb.size; simpa using this
      have HI1 := Lib.hid ((H'.out.alloc hB _).below hb (by simp; omega))
      go_wp2_with fail
      refine (impl_allInRange _ _ _ vs _ _ B (by omega) HM.out HI1.out hs').mono ?_
      rintro e w2 ⟨rfl, rfl⟩
      rw [HR2.out]
      go_wp2
      go_ret
      exact ⟨rfl, ((Below.refl _ _).alloc (Nat.le_refl _) _).trans (hb.mono (by simp))⟩
    · have hr : canEv ps vs = eachOK ps m := by rw [HM.out]; simp only [canEv, hr2, hv]; simp
      rw [hr]
      have HV := Lib.hid hv
      have HR2 := Lib.hid hr2
      clear hr hv hr2
      go_enter Try.func88, Try.ntmps88
      go_wp2_with fail
      refine (impl_ValidFormula _ _ _ ps _ B (by simp; omega) HN.out (H.out.alloc hB _) hs).mono ?_
      rintro e w1 ⟨rfl, hb⟩
      rw [HV.out]
      have hz : w.heap.size + 1 ≤ w1.heap.size := by have := hb.size; simpa using this
      have hbox : w1.cell? ⟨w.heap.size, 0, none⟩ = some (.slice A n c) := (hb.cell (p := ⟨w.heap.size, 0, none⟩) (by simp)).trans (by go_simp)
      have HI1 := Lib.hid ((H'.out.alloc hB _).below hb (by simp; omega))
      have HP1 := Lib.hid ((H.out.alloc hB _).below hb (by simp; omega))
      go_wp2_with fail
      refine (impl_allInRange _ _ _ vs _ _ B (by omega) HM.out HI1.out hs').mono ?_
      rintro e w2 ⟨rfl, rfl⟩
      rw [HR2.out]
      go_wp2_with fail
      refine (impl_hasEach _ _ _ _ _ _ ps _ B (by omega) HN.out HP1.out hs hs').mono ?_
      rintro e w3 ⟨rfl, hb3⟩
      go_wp2
      go_ret
      exact ⟨by simp, ((Below.refl _ _).alloc (Nat.le_refl _) _).trans ((hb.trans (hb3.mono (by simp; omega))).mono (by simp))⟩
end Go.Proofs.Ytlliomnfbgdpfaa

namespace Go.Proofs.Ytlliomnfbgdpfaa
set_option linter.unusedSimpArgs false
set_option linter.unusedVariables false
open Go.RowKit
def Tm.ev (vs : List Int) : Tm → Int
  | .num v => v
  | .rd v => vs.getD v.toNat 0
  | .pr k l r => jn k (l.ev vs) (r.ev vs)
  | .ch t a b => if t.ev vs == 0 then b.ev vs else a.ev vs
def Tm.rds (vs : List Int) : Tm → List Int
  | .num _ => []
  | .rd v => [v]
  | .pr _ l r => l.rds vs ++ r.rds vs
  | .ch t a b => t.rds vs ++ (if t.ev vs == 0 then b.rds vs else a.rds vs)
def Tm.ok (m : Nat) : Tm → Prop
  | .num v => 0 ≤ v ∧ v ≤ 99
  | .rd v => 0 ≤ v ∧ v < (m : Int)
  | .pr _ l r => l.ok m ∧ r.ok m
  | .ch t a b => t.ok m ∧ a.ok m ∧ b.ok m
theorem Tm.ev_bd (vs : List Int) (hv : VOK vs) (t : Tm) (h : t.ok vs.length) : 0 ≤ t.ev vs ∧ t.ev vs ≤ 999 := by
  induction t with
  | num v => simp only [Tm.ok] at h; simp only [Tm.ev]; omega
  | rd v => simp only [Tm.ok] at h; exact hv _ (by omega)
  | pr k l r hl hr =>
    simp only [Tm.ok] at h
    obtain ⟨a1, a2⟩ := hl h.1
    obtain ⟨b1, b2⟩ := hr h.2
    exact jn_bd _ _ _ a1 a2 b1 b2
  | ch t a b ht ha hb =>
    simp only [Tm.ok] at h
    simp only [Tm.ev]
    split
    · exact hb h.2.2
    · exact ha h.2.1
theorem tmAt_eq (ps : List Pt) (f i : Nat) : tmAt ps (f + 1) i = (if (ps.getD i default).k == 0 then .num (ps.getD i default).n else if (ps.getD i default).k == 1 then .rd (ps.getD i default).n
    else if (ps.getD i default).k == 8 then .ch (tmAt ps f (ps.getD i default).a.toNat) (tmAt ps f (ps.getD i default).b.toNat) (tmAt ps f (ps.getD i default).c.toNat)
    else .pr (ps.getD i default).k (tmAt ps f (ps.getD i default).a.toNat) (tmAt ps f (ps.getD i default).b.toNat)) := rfl
theorem tmAt_ok (ps : List Pt) (m : Nat) (hg : AllGood ps) (he : eachOK ps m = true) (f : Nat) : ∀ i, i < f → i < ps.length → (tmAt ps f i).ok m := by
  induction f with
  | zero => intro i hi; omega
  | succ f ih =>
    intro i hif hin
    have hgi := hg i hin
    have hei : ((ps.getD i default).k == 1 && decide ((m : Int) ≤ (ps.getD i default).n)) = false := by
      unfold eachOK at he
      rw [List.all_eq_true] at he
      have := he (ps.getD i default) (getD_mem' ps i hin)
      cases hq : ((ps.getD i default).k == 1 && decide ((m : Int) ≤ (ps.getD i default).n))
      · rfl
      · rw [hq] at this; cases this
    rw [tmAt_eq]
    generalize ps.getD i default = p at *
    rcases good_kind _ _ hgi with h0 | h1 | h2 | h8
    · have := (good_num p i hgi).1 h0
      simp [h0, Tm.ok, this]
    · have := (good_num p i hgi).2 h1
      simp [h1] at hei
      simp [h1, Tm.ok, this, hei]
    · obtain ⟨a, b, ea, eb, la, lb⟩ := (good_bel_nat p i hgi).1 h2
      have k0 : (p.k == 0) = false := by simp only [beq_eq_false_iff_ne, ne_eq]; omega
      have k1 : (p.k == 1) = false := by simp only [beq_eq_false_iff_ne, ne_eq]; omega
      have k8 : (p.k == 8) = false := by simp only [beq_eq_false_iff_ne, ne_eq]; omega
      simp only [k0, k1, k8, Bool.false_eq_true, if_false, Tm.ok]
      exact ⟨ih _ (by omega) (by omega), ih _ (by omega) (by omega)⟩
    · obtain ⟨a, b, c, ea, eb, ec, la, lb, lc⟩ := (good_bel_nat p i hgi).2 h8
      simp only [h8, Tm.ok]
      exact ⟨ih _ (by omega) (by omega), ih _ (by omega) (by omega), ih _ (by omega) (by omega)⟩
theorem rds_len (ps : List Pt) (vs : List Int) (f i : Nat) : ((tmAt ps f i).rds vs).length ≤ 3 ^ f := by
  induction f generalizing i with
  | zero => simp [tmAt, Tm.rds]
  | succ f ih =>
    have hp : 0 < 3 ^ f := Nat.pow_pos (by omega)
    rw [tmAt_eq, Nat.pow_succ]
    generalize ps.getD i default = p
    have ha := ih p.a.toNat
    have hb := ih p.b.toNat
    have hc := ih p.c.toNat
    split
    · simp [Tm.rds]
    · split
      · simp only [Tm.rds, List.length_cons, List.length_nil]; omega
      · split
        · simp only [Tm.rds, List.length_append]
          split <;> omega
        · simp only [Tm.rds, List.length_append]; omega
/-- Returns a value and a fresh slice of numbers that is not nil. -/
def RetVN (w : World) (x : Int) (xs : List Int) (e : Ending) (w' : World) : Prop := ∃ v, e = .returned (.tuple #[.int .i64 x, v]) ∧ OwnN w' w.heap.size v xs ∧ Below w.heap.size w w'
theorem retVN_lit {w w1 : World} (hb : Below w.heap.size w w1) (x : Int) (xs : List Int) (cs : Array Value) (n : Nat) (hn : n = xs.length) (hm : n ≤ maxLen) (hc : cs.toList = xs.map (Value.int .i64)) (e : Ending)
    (he : e = .returned (.tuple #[.int .i64 x, .slice (some ⟨w1.heap.size, 0, none⟩) n n])) : RetVN w x xs e (w1.alloc (.cells cs 3)) := by
  subst hn
  refine ⟨_, he, ⟨?_, by simp⟩, hb.alloc hb.size _⟩
  have h := World.ownsRow_lit (e := 3) (size := 1) w1 cs xs.length hb.size hm (by rw [← Array.length_toList, hc]; simp)
  rw [hc] at h
  exact h
theorem RetVN.drew {w w' : World} {x : Int} {xs : List Int} {e : Ending} (h : RetVN w x xs e w') : RetVN w x xs e w'.drew := by
  obtain ⟨v, he, ho, hb⟩ := h
  exact ⟨v, he, ho, hb.drew⟩
set_option maxRecDepth 100000 in
set_option maxHeartbeats 3200000 in
theorem spec_reckoned (A A' : Option Addr) (n c m c' : Nat) (ps : List Pt) (vs : List Int) (B : Nat) (hn : n = ps.length) (hm : m = vs.length) (hg : AllGood ps) (he : eachOK ps m = true) (hv : VOK vs) (hs : n ≤ 2000000) (hs' : m ≤ 2000000) (f : Nat) (hf : f ≤ 12) :
    ∀ (i : Nat) (w : World), i < f → i < n → B ≤ w.heap.size → PS w B A ps → IS w B A' vs →
    Calls Try.prog 86 #[.agg #[.slice A n c], .slice A' m c', .int .i64 i] w fun e w' => RetVN w ((tmAt ps f i).ev vs) ((tmAt ps f i).rds vs) e w' := by
  obtain ⟨i0, hi, hz0, hz1, hz2⟩ := info_parts info_int
  induction f with
  | zero => intro i w hi; omega
  | succ f ih =>
    intro i w hif hin hB h h'
    obtain ⟨b, off, rfl, hbB, hc⟩ := h (by omega)
    obtain ⟨c0, c1, c2, c3, c4⟩ := hc i (by omega)
    clear hc
    have hgi := hg i (by omega)
    have hok := tmAt_ok ps m hg he (f + 1) i hif (by omega)
    have hbw : b < w.heap.size := by omega
    have hsub : ∀ j, j < i → 0 ≤ (tmAt ps f j).ev vs ∧ (tmAt ps f j).ev vs ≤ 999 := fun j hj => Tm.ev_bd vs hv _ (by rw [← hm]; exact tmAt_ok ps m hg he f j (by omega) (by omega))
    have hlen : ∀ j, ((tmAt ps f j).rds vs).length ≤ 531441 := fun j => Nat.le_trans (rds_len ps vs f j) (Nat.pow_le_pow_right (by omega) (show f ≤ 12 by omega))
    have HE := Lib.hid (tmAt_eq ps f i)
    have H := Lib.hid h
    have H' := Lib.hid h'
    have IH := Lib.hid (ih (by omega))
    have HN := Lib.hid hn
    have HM := Lib.hid hm
    have HV := Lib.hid hv
    have HSUB := Lib.hid hsub
    have HLEN := Lib.hid hlen
    clear h h' ih hn hm hg he hv hsub hlen
    generalize hp : ps.getD i default = p at *
    generalize tmAt ps (f + 1) i = t at *
    clear hp
    rcases good_kind p i hgi with h0 | h1 | h2 | h8
    · have k0 : (p.k == 0) = true := by simp [h0]
      have ht : t = .num p.n := by rw [HE.out, k0]; rfl
      rw [ht]
      clear HE ht h0 hgi hok
      go_enter Try.func86, Try.ntmps86
      go_wp2
      go_ret2
      exact retVN_lit (((Below.refl _ _).alloc (Nat.le_refl _) _).alloc (by simp) _) _ _ _ 0 rfl (by unfold maxLen; omega) rfl _ (by simp [Tm.ev])
    · have k0 : (p.k == 0) = false := by simp [h1]
      have k1 : (p.k == 1) = true := by simp [h1]
      have ht : t = .rd p.n := by rw [HE.out, k0, k1]; rfl
      rw [ht] at hok ⊢
      simp only [Tm.ok] at hok
      obtain ⟨q, hq⟩ : ∃ q : Nat, p.n = (q : Int) := ⟨p.n.toNat, by omega⟩
      have hqm : q < m := by omega
      rw [hq] at c4
      obtain ⟨b2, off2, rfl, hb2, hc2⟩ := H'.out (by have := HM.out; omega)
      have d0 := hc2 q (by have := HM.out; omega)
      have hb2w : b2 < w.heap.size := by omega
      have hb2w1 : b2 < w.heap.size + 1 := by omega
      have hb2w2 : b2 < w.heap.size + 1 + 1 := by omega
      have hev : (Tm.rd p.n).ev vs = vs.getD q 0 := by rw [hq]; simp [Tm.ev]
      have hrd : (Tm.rd p.n).rds vs = [(q : Int)] := by rw [hq]; rfl
      rw [hev, hrd]
      generalize vs.getD q 0 = x at *
      clear HE ht h1 hgi hok hc2 hq hev hrd
      go_enter Try.func86, Try.ntmps86
      go_wp2
      go_region
      go_wp2
      go_ret2
      exact (retVN_lit (((Below.refl _ _).alloc (Nat.le_refl _) _).alloc (by simp) _) _ _ _ 1 rfl (by unfold maxLen; omega) rfl _ (by simp)).drew
    · obtain ⟨ta, tb, ea, eb, la, lb⟩ := (good_bel_nat p i hgi).1 h2
      have k0 : (p.k == 0) = false := by simp only [beq_eq_false_iff_ne, ne_eq]; omega
      have k1 : (p.k == 1) = false := by simp only [beq_eq_false_iff_ne, ne_eq]; omega
      have k8 : (p.k == 8) = false := by simp only [beq_eq_false_iff_ne, ne_eq]; omega
      have ht : t = .pr p.k (tmAt ps f ta) (tmAt ps f tb) := by rw [HE.out, k0, k1, k8, ea, eb]; simp
      rw [ht]
      rw [ea] at c1
      rw [eb] at c2
      obtain ⟨va1, va2⟩ := HSUB.out ta la
      obtain ⟨vb1, vb2⟩ := HSUB.out tb lb
      have la1 := HLEN.out ta
      have lb1 := HLEN.out tb
      have hev : (Tm.pr p.k (tmAt ps f ta) (tmAt ps f tb)).ev vs = jn p.k ((tmAt ps f ta).ev vs) ((tmAt ps f tb).ev vs) := rfl
      have hrd : (Tm.pr p.k (tmAt ps f ta) (tmAt ps f tb)).rds vs = (tmAt ps f ta).rds vs ++ (tmAt ps f tb).rds vs := rfl
      rw [hev, hrd]
      have HIA := Lib.hid (IH.out ta)
      have HIB := Lib.hid (IH.out tb)
      generalize (tmAt ps f ta).ev vs = xa at *
      generalize (tmAt ps f tb).ev vs = xb at *
      generalize (tmAt ps f ta).rds vs = ra at *
      generalize (tmAt ps f tb).rds vs = rb at *
      clear HE ht h2 hgi hok hev hrd ea eb HSUB HLEN IH
      go_enter Try.func86, Try.ntmps86
      go_wp2_with fail
      refine (HIA.out _ (by omega) (by omega) (by simp; omega) ((H.out.alloc hB _).alloc (by simp; omega) _) ((H'.out.alloc hB _).alloc (by simp; omega) _)).mono ?_
      rintro e w1 ⟨v1, rfl, hown1, hb1⟩
      have hw1 : w.heap.size + 1 + 1 ≤ w1.heap.size := by have := hb1.size; simpa using this
      have q0 : w1.cell? ⟨w.heap.size, 0, none⟩ = some (.slice (some ⟨b, off, none⟩) n c) := (hb1.cell (p := ⟨w.heap.size, 0, none⟩) (by simp; try omega)).trans (by go_simp)
      have q1 : w1.cell? ⟨w.heap.size + 1, 0, none⟩ = some (.int .i64 p.k) := (hb1.cell (p := ⟨w.heap.size + 1, 0, none⟩) (by simp; try omega)).trans (by go_simp)
      have q2 : w1.cell? ⟨w.heap.size + 1, 2, none⟩ = some (.int .i64 tb) := (hb1.cell (p := ⟨w.heap.size + 1, 2, none⟩) (by simp; try omega)).trans (by go_simp)
      have HP1 := Lib.hid (((H.out.alloc hB (.cells #[.slice (some ⟨b, off, none⟩) n c] 73)).alloc (by simp; omega) (.cells #[.int .i64 p.k, .int .i64 ta, .int .i64 tb, .int .i64 p.c, .int .i64 p.n] 103)).below hb1 (by simp; omega))
      have HI1 := Lib.hid (((H'.out.alloc hB (.cells #[.slice (some ⟨b, off, none⟩) n c] 73)).alloc (by simp; omega) (.cells #[.int .i64 p.k, .int .i64 ta, .int .i64 tb, .int .i64 p.c, .int .i64 p.n] 103)).below hb1 (by simp; omega))
      have hB1 : Below w.heap.size w w1 := (((Below.refl _ _).alloc (Nat.le_refl _) _).alloc (by simp) _).trans (hb1.mono (by simp; omega))
      obtain ⟨g1, d1, rfl, hg1, hg1'⟩ := hown1.form
      simp only [World.size_alloc] at hg1
      have HO1 := Lib.hid hown1
      clear hb1 hown1 c0 c1 c2 c3 c4
      go_wp2_with fail
      refine (HIB.out _ (by omega) (by omega) (by omega) HP1.out HI1.out).mono ?_
      rintro e w2 ⟨v2, rfl, hown2, hb2⟩
      have hw2 : w1.heap.size ≤ w2.heap.size := hb2.size
      have q1' := (hb2.cell (p := ⟨w.heap.size + 1, 0, none⟩) (by show w.heap.size + 1 < w1.heap.size; omega)).trans q1
      have hB2 : Below w.heap.size w w2 := hB1.trans (hb2.mono (by omega))
      obtain ⟨g2, d2, rfl, hg2, hg2'⟩ := hown2.form
      have HO2 := Lib.hid hown2
      have HO1' : Hid (OwnN w2 w.heap.size (.slice (some ⟨g1, 0, none⟩) ra.length d1) ra) := ⟨own_below (own_mono HO1.out.1 (by simp; omega)) hb2, by simp⟩
      clear hb2 hown2 q0 q1 q2 HO1
      generalize hla : ra.length = na at *
      generalize hlb : rb.length = nb at *
      have HLA := Lib.hid hla
      have HLB := Lib.hid hlb
      clear hla hlb
      have hnews : ∀ j u, (rb.map (Value.int .i64))[j]? = some u → w2.cell? ((⟨g2, 0, none⟩ : Addr).add j) = some u := fun j u hu => HO2.out.1.cells (g := g2) rfl j u hu
      have HNW := Lib.hid hnews
      clear hnews
      go_wp2_with (first
        | (go_at_call 100; refine (spec_joined p.k xa xb (by omega) (by omega) (by omega) (by omega) _).mono ?_; rintro e w3 ⟨rfl, rfl⟩)
        | (at_builtin; refine wpList_append_own _ rfl _ _ 40 rfl w.heap.size 3 i0 (.int .i64 0) 1 8 Try.underlying40 hi hz0 hz1 hz2 rfl (by decide) _ _ _ rfl (by have := HO1'.out.1; rw [HLA.out] at this; exact this) ⟨g2, 0, none⟩ nb d2 (rb.map (Value.int .i64)) rfl ?c1 HNW.out (ints_oneCell _ _) ?c3 ?c4 ?c5 ?_))
      case c1 => have := HLB.out; simp; omega
      case c3 => unfold maxLen; omega
      case c4 => omega
      case c5 => exact hB2.size
      intro v' w4 hown' hgrow hnil
      have hB4 : Below w.heap.size w w4 := hB2.grown hgrow hB2.size (by intro q hq; simp [Value.ownBlock] at hq; omega)
      have HF : Hid (OwnN w4 w.heap.size v' (ra ++ rb)) := by
        refine ⟨?_, by first | exact hnil | (intro e; simp [e] at hnil)⟩
        have h1 := HLA.out
        have h2 := HLB.out
        rw [List.length_append, List.map_append, h1, h2]
        exact hown'
      clear hown' hgrow hnil
      go_wp2
      go_ret2
      exact ⟨v', by simp, HF.out, hB4⟩
    · obtain ⟨ta, tb, tc, ea, eb, ec, la, lb, lc⟩ := (good_bel_nat p i hgi).2 h8
      have k0 : (p.k == 0) = false := by simp only [beq_eq_false_iff_ne, ne_eq]; omega
      have k1 : (p.k == 1) = false := by simp only [beq_eq_false_iff_ne, ne_eq]; omega
      have k8 : (p.k == 8) = true := by simp only [beq_iff_eq]; omega
      have ht : t = .ch (tmAt ps f ta) (tmAt ps f tb) (tmAt ps f tc) := by rw [HE.out, k0, k1, k8, ea, eb, ec]; simp
      rw [ht]
      cases hz : ((tmAt ps f ta).ev vs == 0)
      · rw [ea] at c1
        rw [eb] at c2
        rw [ec] at c3
        obtain ⟨va1, va2⟩ := HSUB.out ta la
        have la1 := HLEN.out ta
        have lb1 := HLEN.out tb
        have hev : (Tm.ch (tmAt ps f ta) (tmAt ps f tb) (tmAt ps f tc)).ev vs = (tmAt ps f tb).ev vs := by simp only [Tm.ev, hz]; rfl
        have hrd : (Tm.ch (tmAt ps f ta) (tmAt ps f tb) (tmAt ps f tc)).rds vs = (tmAt ps f ta).rds vs ++ (tmAt ps f tb).rds vs := by simp only [Tm.rds, hz]; rfl
        rw [hev, hrd]
        have HIA := Lib.hid (IH.out ta)
        have HIB := Lib.hid (IH.out tb)
        generalize (tmAt ps f ta).ev vs = xa at *
        generalize (tmAt ps f tb).ev vs = xb at *
        generalize (tmAt ps f ta).rds vs = ra at *
        generalize (tmAt ps f tb).rds vs = rb at *
        clear HE ht h8 hgi hok hev hrd ea eb ec HSUB HLEN IH
        go_enter Try.func86, Try.ntmps86
        go_wp2_with fail
        refine (HIA.out _ (by omega) (by omega) (by simp; omega) ((H.out.alloc hB _).alloc (by simp; omega) _) ((H'.out.alloc hB _).alloc (by simp; omega) _)).mono ?_
        rintro e w1 ⟨v1, rfl, hown1, hb1⟩
        have hw1 : w.heap.size + 1 + 1 ≤ w1.heap.size := by have := hb1.size; simpa using this
        have q0 : w1.cell? ⟨w.heap.size, 0, none⟩ = some (.slice (some ⟨b, off, none⟩) n c) := (hb1.cell (p := ⟨w.heap.size, 0, none⟩) (by simp; try omega)).trans (by go_simp)
        have q1 : w1.cell? ⟨w.heap.size + 1, 0, none⟩ = some (.int .i64 p.k) := (hb1.cell (p := ⟨w.heap.size + 1, 0, none⟩) (by simp; try omega)).trans (by go_simp)
        have q3 : w1.cell? ⟨w.heap.size + 1, 3, none⟩ = some (.int .i64 tc) := (hb1.cell (p := ⟨w.heap.size + 1, 3, none⟩) (by simp; try omega)).trans (by go_simp)
        have q2 : w1.cell? ⟨w.heap.size + 1, 2, none⟩ = some (.int .i64 tb) := (hb1.cell (p := ⟨w.heap.size + 1, 2, none⟩) (by simp; try omega)).trans (by go_simp)
        have HP1 := Lib.hid (((H.out.alloc hB (.cells #[.slice (some ⟨b, off, none⟩) n c] 73)).alloc (by simp; omega) (.cells #[.int .i64 p.k, .int .i64 ta, .int .i64 tb, .int .i64 tc, .int .i64 p.n] 103)).below hb1 (by simp; omega))
        have HI1 := Lib.hid (((H'.out.alloc hB (.cells #[.slice (some ⟨b, off, none⟩) n c] 73)).alloc (by simp; omega) (.cells #[.int .i64 p.k, .int .i64 ta, .int .i64 tb, .int .i64 tc, .int .i64 p.n] 103)).below hb1 (by simp; omega))
        have hB1 : Below w.heap.size w w1 := (((Below.refl _ _).alloc (Nat.le_refl _) _).alloc (by simp) _).trans (hb1.mono (by simp; omega))
        obtain ⟨g1, d1, rfl, hg1, hg1'⟩ := hown1.form
        simp only [World.size_alloc] at hg1
        have HO1 := Lib.hid hown1
        clear hb1 hown1 c0 c1 c2 c3 c4
        go_wp2_with fail
        refine (HIB.out _ (by omega) (by omega) (by omega) HP1.out HI1.out).mono ?_
        rintro e w2 ⟨v2, rfl, hown2, hb2⟩
        have hw2 : w1.heap.size ≤ w2.heap.size := hb2.size
        have q1' := (hb2.cell (p := ⟨w.heap.size + 1, 0, none⟩) (by show w.heap.size + 1 < w1.heap.size; omega)).trans q1
        have hB2 : Below w.heap.size w w2 := hB1.trans (hb2.mono (by omega))
        obtain ⟨g2, d2, rfl, hg2, hg2'⟩ := hown2.form
        have HO2 := Lib.hid hown2
        have HO1' : Hid (OwnN w2 w.heap.size (.slice (some ⟨g1, 0, none⟩) ra.length d1) ra) := ⟨own_below (own_mono HO1.out.1 (by simp; omega)) hb2, by simp⟩
        clear hb2 hown2 q0 q1 q2 q3 HO1
        generalize hla : ra.length = na at *
        generalize hlb : rb.length = nb at *
        have HLA := Lib.hid hla
        have HLB := Lib.hid hlb
        clear hla hlb
        have hnews : ∀ j u, (rb.map (Value.int .i64))[j]? = some u → w2.cell? ((⟨g2, 0, none⟩ : Addr).add j) = some u := fun j u hu => HO2.out.1.cells (g := g2) rfl j u hu
        have HNW := Lib.hid hnews
        clear hnews
        go_wp2_with ((at_builtin; refine wpList_append_own _ rfl _ _ 40 rfl w.heap.size 3 i0 (.int .i64 0) 1 8 Try.underlying40 hi hz0 hz1 hz2 rfl (by decide) _ _ _ rfl (by have := HO1'.out.1; rw [HLA.out] at this; exact this) ⟨g2, 0, none⟩ nb d2 (rb.map (Value.int .i64)) rfl ?c1 HNW.out (ints_oneCell _ _) ?c3 ?c4 ?c5 ?_))
        case c1 => have := HLB.out; simp; omega
        case c3 => unfold maxLen; omega
        case c4 => omega
        case c5 => exact hB2.size
        intro v' w4 hown' hgrow hnil
        have hB4 : Below w.heap.size w w4 := hB2.grown hgrow hB2.size (by intro q hq; simp [Value.ownBlock] at hq; omega)
        have HF : Hid (OwnN w4 w.heap.size v' (ra ++ rb)) := by
          refine ⟨?_, by first | exact hnil | (intro e; simp [e] at hnil)⟩
          have h1 := HLA.out
          have h2 := HLB.out
          rw [List.length_append, List.map_append, h1, h2]
          exact hown'
        clear hown' hgrow hnil
        go_wp2
        go_ret2
        exact ⟨v', by simp, HF.out, hB4⟩
      · rw [ea] at c1
        rw [eb] at c2
        rw [ec] at c3
        obtain ⟨va1, va2⟩ := HSUB.out ta la
        have la1 := HLEN.out ta
        have lb1 := HLEN.out tc
        have hev : (Tm.ch (tmAt ps f ta) (tmAt ps f tb) (tmAt ps f tc)).ev vs = (tmAt ps f tc).ev vs := by simp only [Tm.ev, hz]; rfl
        have hrd : (Tm.ch (tmAt ps f ta) (tmAt ps f tb) (tmAt ps f tc)).rds vs = (tmAt ps f ta).rds vs ++ (tmAt ps f tc).rds vs := by simp only [Tm.rds, hz]; rfl
        rw [hev, hrd]
        have HIA := Lib.hid (IH.out ta)
        have HIB := Lib.hid (IH.out tc)
        generalize (tmAt ps f ta).ev vs = xa at *
        generalize (tmAt ps f tc).ev vs = xb at *
        generalize (tmAt ps f ta).rds vs = ra at *
        generalize (tmAt ps f tc).rds vs = rb at *
        clear HE ht h8 hgi hok hev hrd ea eb ec HSUB HLEN IH
        go_enter Try.func86, Try.ntmps86
        go_wp2_with fail
        refine (HIA.out _ (by omega) (by omega) (by simp; omega) ((H.out.alloc hB _).alloc (by simp; omega) _) ((H'.out.alloc hB _).alloc (by simp; omega) _)).mono ?_
        rintro e w1 ⟨v1, rfl, hown1, hb1⟩
        have hw1 : w.heap.size + 1 + 1 ≤ w1.heap.size := by have := hb1.size; simpa using this
        have q0 : w1.cell? ⟨w.heap.size, 0, none⟩ = some (.slice (some ⟨b, off, none⟩) n c) := (hb1.cell (p := ⟨w.heap.size, 0, none⟩) (by simp; try omega)).trans (by go_simp)
        have q1 : w1.cell? ⟨w.heap.size + 1, 0, none⟩ = some (.int .i64 p.k) := (hb1.cell (p := ⟨w.heap.size + 1, 0, none⟩) (by simp; try omega)).trans (by go_simp)
        have q3 : w1.cell? ⟨w.heap.size + 1, 3, none⟩ = some (.int .i64 tc) := (hb1.cell (p := ⟨w.heap.size + 1, 3, none⟩) (by simp; try omega)).trans (by go_simp)
        have q2 : w1.cell? ⟨w.heap.size + 1, 2, none⟩ = some (.int .i64 tb) := (hb1.cell (p := ⟨w.heap.size + 1, 2, none⟩) (by simp; try omega)).trans (by go_simp)
        have HP1 := Lib.hid (((H.out.alloc hB (.cells #[.slice (some ⟨b, off, none⟩) n c] 73)).alloc (by simp; omega) (.cells #[.int .i64 p.k, .int .i64 ta, .int .i64 tb, .int .i64 tc, .int .i64 p.n] 103)).below hb1 (by simp; omega))
        have HI1 := Lib.hid (((H'.out.alloc hB (.cells #[.slice (some ⟨b, off, none⟩) n c] 73)).alloc (by simp; omega) (.cells #[.int .i64 p.k, .int .i64 ta, .int .i64 tb, .int .i64 tc, .int .i64 p.n] 103)).below hb1 (by simp; omega))
        have hB1 : Below w.heap.size w w1 := (((Below.refl _ _).alloc (Nat.le_refl _) _).alloc (by simp) _).trans (hb1.mono (by simp; omega))
        obtain ⟨g1, d1, rfl, hg1, hg1'⟩ := hown1.form
        simp only [World.size_alloc] at hg1
        have HO1 := Lib.hid hown1
        clear hb1 hown1 c0 c1 c2 c3 c4
        go_wp2_with fail
        refine (HIB.out _ (by omega) (by omega) (by omega) HP1.out HI1.out).mono ?_
        rintro e w2 ⟨v2, rfl, hown2, hb2⟩
        have hw2 : w1.heap.size ≤ w2.heap.size := hb2.size
        have q1' := (hb2.cell (p := ⟨w.heap.size + 1, 0, none⟩) (by show w.heap.size + 1 < w1.heap.size; omega)).trans q1
        have hB2 : Below w.heap.size w w2 := hB1.trans (hb2.mono (by omega))
        obtain ⟨g2, d2, rfl, hg2, hg2'⟩ := hown2.form
        have HO2 := Lib.hid hown2
        have HO1' : Hid (OwnN w2 w.heap.size (.slice (some ⟨g1, 0, none⟩) ra.length d1) ra) := ⟨own_below (own_mono HO1.out.1 (by simp; omega)) hb2, by simp⟩
        clear hb2 hown2 q0 q1 q2 q3 HO1
        generalize hla : ra.length = na at *
        generalize hlb : rb.length = nb at *
        have HLA := Lib.hid hla
        have HLB := Lib.hid hlb
        clear hla hlb
        have hnews : ∀ j u, (rb.map (Value.int .i64))[j]? = some u → w2.cell? ((⟨g2, 0, none⟩ : Addr).add j) = some u := fun j u hu => HO2.out.1.cells (g := g2) rfl j u hu
        have HNW := Lib.hid hnews
        clear hnews
        go_wp2_with ((at_builtin; refine wpList_append_own _ rfl _ _ 40 rfl w.heap.size 3 i0 (.int .i64 0) 1 8 Try.underlying40 hi hz0 hz1 hz2 rfl (by decide) _ _ _ rfl (by have := HO1'.out.1; rw [HLA.out] at this; exact this) ⟨g2, 0, none⟩ nb d2 (rb.map (Value.int .i64)) rfl ?c1 HNW.out (ints_oneCell _ _) ?c3 ?c4 ?c5 ?_))
        case c1 => have := HLB.out; simp; omega
        case c3 => unfold maxLen; omega
        case c4 => omega
        case c5 => exact hB2.size
        intro v' w4 hown' hgrow hnil
        have hB4 : Below w.heap.size w w4 := hB2.grown hgrow hB2.size (by intro q hq; simp [Value.ownBlock] at hq; omega)
        have HF : Hid (OwnN w4 w.heap.size v' (ra ++ rb)) := by
          refine ⟨?_, by first | exact hnil | (intro e; simp [e] at hnil)⟩
          have h1 := HLA.out
          have h2 := HLB.out
          rw [List.length_append, List.map_append, h1, h2]
          exact hown'
        clear hown' hgrow hnil
        go_wp2
        go_ret2
        exact ⟨v', by simp, HF.out, hB4⟩
end Go.Proofs.Ytlliomnfbgdpfaa

namespace Go.Proofs.Ytlliomnfbgdpfaa
set_option linter.unusedSimpArgs false
set_option linter.unusedVariables false
open Go.RowKit
def Tm.deep : Tm → Nat
  | .num _ => 1
  | .rd _ => 1
  | .pr _ l r => max l.deep r.deep + 1
  | .ch t a b => max (max t.deep a.deep) b.deep + 1
set_option maxHeartbeats 400000 in
theorem impl_wholeOf (A : Option Addr) (n c : Nat) (ps : List Pt) (B : Nat) (hn : n = ps.length) (hg : AllGood ps) (hs : n ≤ 2000000) (h1 : 1 ≤ n) (w : World) (hB : B ≤ w.heap.size) (h : PS w B A ps) :
    Calls Try.prog 90 #[.agg #[.slice A n c]] w fun e w' => RetT w (tmAt ps n (n - 1)) e w' := by
  have H := Lib.hid h
  have HN := Lib.hid hn
  have HG := Lib.hid hg
  clear h hn hg
  obtain ⟨m, rfl⟩ : ∃ m, n = m + 1 := ⟨n - 1, by omega⟩
  go_enter Try.func90, Try.ntmps90
  go_wp2_with fail
  refine (impl_termAt A (m + 1) c ps B HN.out HG.out hs (m + 1) m _ (by omega) (by omega) (by simp; omega) (H.out.alloc hB _)).mono ?_
  rintro e w1 ⟨T, x, rfl, hT, hb⟩
  have HT := Lib.hid hT
  clear hT
  go_wp2
  go_ret
  exact ⟨T, x, by simp, HT.out, ((Below.refl _ _).alloc (Nat.le_refl _) _).trans (hb.mono (by simp))⟩
end Go.Proofs.Ytlliomnfbgdpfaa

namespace Go.Proofs.Ytlliomnfbgdpfaa
set_option linter.unusedSimpArgs false
set_option linter.unusedVariables false
open Go.RowKit
theorem ta_NN (x : Value) (w : World) : (Instr.typeAssert (.iface 121 x) 112 121 true).run Try.prog w = .ok (.tuple #[x, .bool true]) w := by kernel_rfl
theorem ta_RN (x : Value) (w : World) : (Instr.typeAssert (.iface 123 x) 112 121 true).run Try.prog w = .ok (.tuple #[.agg #[.int .i64 0], .bool false]) w := by kernel_rfl
theorem ta_RR (x : Value) (w : World) : (Instr.typeAssert (.iface 123 x) 112 123 true).run Try.prog w = .ok (.tuple #[x, .bool true]) w := by kernel_rfl
theorem ta_PN (x : Value) (w : World) : (Instr.typeAssert (.iface 125 x) 112 121 true).run Try.prog w = .ok (.tuple #[.agg #[.int .i64 0], .bool false]) w := by kernel_rfl
theorem ta_PR (x : Value) (w : World) : (Instr.typeAssert (.iface 125 x) 112 123 true).run Try.prog w = .ok (.tuple #[.agg #[.int .i64 0], .bool false]) w := by kernel_rfl
theorem ta_PP (x : Value) (w : World) : (Instr.typeAssert (.iface 125 x) 112 125 true).run Try.prog w = .ok (.tuple #[x, .bool true]) w := by kernel_rfl
theorem ta_CN (x : Value) (w : World) : (Instr.typeAssert (.iface 127 x) 112 121 true).run Try.prog w = .ok (.tuple #[.agg #[.int .i64 0], .bool false]) w := by kernel_rfl
theorem ta_CR (x : Value) (w : World) : (Instr.typeAssert (.iface 127 x) 112 123 true).run Try.prog w = .ok (.tuple #[.agg #[.int .i64 0], .bool false]) w := by kernel_rfl
theorem ta_CP (x : Value) (w : World) : (Instr.typeAssert (.iface 127 x) 112 125 true).run Try.prog w = .ok (.tuple #[.agg #[.int .i64 0, .nilIface, .nilIface], .bool false]) w := by kernel_rfl
theorem ta_CC (x : Value) (w : World) : (Instr.typeAssert (.iface 127 x) 112 127 true).run Try.prog w = .ok (.tuple #[x, .bool true]) w := by kernel_rfl
/-- From w to w' only blocks of the footprint have turned; the footprint has got new blocks alone. -/
structure Fr (foot : World → Nat → Prop) (w w' : World) : Prop where
  size : w.heap.size ≤ w'.heap.size
  block : ∀ k, k < w.heap.size → ¬ foot w k → w'.heap[k]? = w.heap[k]?
  foot : ∀ k, foot w' k → foot w k ∨ w.heap.size ≤ k
theorem Fr.tr {foot : World → Nat → Prop} {a b c : World} (h : Fr foot a b) (k : Fr foot b c) : Fr foot a c :=
  ⟨Nat.le_trans h.size k.size, fun i hi hn => (k.block i (Nat.lt_of_lt_of_le hi h.size) fun hb => by
    rcases h.foot i hb with h1 | h1
    · exact hn h1
    · omega).trans (h.block i hi hn), fun i hi => by
    rcases k.foot i hi with h1 | h1
    · exact h.foot i h1
    · exact .inr (Nat.le_trans h.size h1)⟩
theorem Fr.cell {foot : World → Nat → Prop} {w w' : World} (h : Fr foot w w') {a : Addr} {v : Value} (hl : a.block < w.heap.size) (hn : ¬ foot w a.block) (hc : w.cell? a = some v) : w'.cell? a = some v :=
  (World.cell?_of_block (h.block a.block hl hn)).trans hc
theorem Fr.of_below {foot : World → Nat → Prop} {w w' : World} (h : Below w.heap.size w w') (hf : ∀ k, foot w' k → foot w k) : Fr foot w w' :=
  ⟨h.size, fun k hk _ => h.block k hk, fun k hk => .inl (hf k hk)⟩
set_option maxRecDepth 100000 in
set_option maxHeartbeats 3200000 in
theorem impl_evaluate1 (K : FuncId) (cap : Value) (vs : List Int) (hv : VOK vs) (foot : World → Nat → Prop) (I : List Int → World → Prop) (hG : ∀ acc w k, I acc w → foot w k → k < w.heap.size) (hI : ∀ acc w w', I acc w → Below w.heap.size w w' → I acc w' ∧ ∀ k, foot w' k → foot w k)
    (hcf : ∀ (q : Nat) (w : World), (callFunc K #[.int .i64 q, cap]).run Try.prog w = .ok (.enter K #[.int .i64 q, cap]) w)
    (hlook : ∀ (q : Nat) acc w, q < vs.length → I acc w → Calls Try.prog K #[.int .i64 q, cap] w fun e w' => e = .returned (.int .i64 (vs.getD q 0)) ∧ I (acc ++ [(q : Int)]) w' ∧ Fr foot w w') (t : Tm) :
    ∀ (acc : List Int) (w : World), t.ok vs.length → I acc w →
    Calls Try.prog 89 #[t.val, .func (.func K) #[] #[cap]] w fun e w' => e = .returned (.int .i64 (t.ev vs)) ∧ I (acc ++ t.rds vs) w' ∧ Fr foot w w' := by
  have HI := Lib.hid hI
  have HL := Lib.hid hlook
  have HV := Lib.hid hv
  have HG := Lib.hid hG
  have HCF := Lib.hid hcf
  clear hI hlook hv hG hcf
  induction t with
  | num v =>
    intro acc w hok h
    have H := Lib.hid h
    clear h hok
    show Calls _ _ #[.iface 121 (.agg #[.int .i64 v]), _] _ _
    have t1 := fun w => ta_NN (.agg #[.int .i64 v]) w
    go_enter Try.func89, Try.ntmps89
    go_wp2
    go_ret
    refine ⟨by simp [Tm.ev], ?_, Fr.of_below ((Below.refl w.heap.size w).alloc (Nat.le_refl _) _) (HI.out _ _ _ H.out ((Below.refl w.heap.size w).alloc (Nat.le_refl _) _)).2⟩
    have h1 := (HI.out _ _ _ H.out ((Below.refl w.heap.size w).alloc (Nat.le_refl _) (.cells #[.int .i64 v] 121))).1
    simpa [Tm.rds] using h1
  | rd v =>
    intro acc w hok h
    simp only [Tm.ok] at hok
    obtain ⟨q, rfl⟩ : ∃ q : Nat, v = (q : Int) := ⟨v.toNat, by omega⟩
    have hq : q < vs.length := by omega
    have HW0 := HI.out _ _ _ h ((Below.refl w.heap.size w).alloc (Nat.le_refl _) (.cells #[.int .i64 q] 123))
    have HW := Lib.hid HW0.1
    have HFR := Lib.hid (Fr.of_below (foot := foot) ((Below.refl w.heap.size w).alloc (Nat.le_refl _) (.cells #[.int .i64 q] 123)) HW0.2)
    have HNF := Lib.hid (show ¬ foot _ w.heap.size from fun hf => Nat.lt_irrefl _ (HG.out _ _ w.heap.size h (HW0.2 _ hf)))
    clear HW0
    clear h hok
    show Calls _ _ #[.iface 123 (.agg #[.int .i64 q]), _] _ _
    have t1 := fun w => ta_RN (.agg #[.int .i64 q]) w
    have t2 := fun w => ta_RR (.agg #[.int .i64 q]) w
    have hc := HCF.out q
    go_enter Try.func89, Try.ntmps89
    go_wp2_with fail
    refine (HL.out q acc _ hq HW.out).mono ?_
    rintro e w1 ⟨rfl, hI1, hg1⟩
    have H1 := Lib.hid hI1
    have HG1 := Lib.hid hg1
    clear hI1 hg1
    go_wp2
    go_ret
    exact ⟨by simp [Tm.ev, hq], H1.out, HFR.out.tr HG1.out⟩
  | pr k l r hl hr =>
    intro acc w hok h
    simp only [Tm.ok] at hok
    obtain ⟨T1, x1, e1⟩ := l.val_form
    obtain ⟨T2, x2, e2⟩ := r.val_form
    have HW0 := HI.out _ _ _ h ((Below.refl w.heap.size w).alloc (Nat.le_refl _) (.cells #[.int .i64 k, .iface T1 x1, .iface T2 x2] 125))
    have HW := Lib.hid HW0.1
    have HFR := Lib.hid (Fr.of_below (foot := foot) ((Below.refl w.heap.size w).alloc (Nat.le_refl _) (.cells #[.int .i64 k, .iface T1 x1, .iface T2 x2] 125)) HW0.2)
    have HNF := Lib.hid (show ¬ foot _ w.heap.size from fun hf => Nat.lt_irrefl _ (HG.out _ _ w.heap.size h (HW0.2 _ hf)))
    clear HW0
    obtain ⟨ex1, ex2⟩ := Tm.ev_bd vs HV.out l hok.1
    obtain ⟨ey1, ey2⟩ := Tm.ev_bd vs HV.out r hok.2
    have HLC := Lib.hid (fun acc w => hl acc w hok.1)
    have HRC := Lib.hid (fun acc w => hr acc w hok.2)
    have hev : (Tm.pr k l r).ev vs = jn k (l.ev vs) (r.ev vs) := rfl
    have hrd : (Tm.pr k l r).rds vs = l.rds vs ++ r.rds vs := rfl
    rw [hev, hrd]
    show Calls _ _ #[.iface 125 (.agg #[.int .i64 k, l.val, r.val]), _] _ _
    rw [e1, e2]
    rw [e1] at HLC
    rw [e2] at HRC
    generalize l.ev vs = xa at *
    generalize r.ev vs = xb at *
    generalize l.rds vs = ra at *
    generalize r.rds vs = rb at *
    clear h hok hl hr hev hrd e1 e2
    have t1 := fun w => ta_PN (.agg #[.int .i64 k, .iface T1 x1, .iface T2 x2]) w
    have t2 := fun w => ta_PR (.agg #[.int .i64 k, .iface T1 x1, .iface T2 x2]) w
    have t3 := fun w => ta_PP (.agg #[.int .i64 k, .iface T1 x1, .iface T2 x2]) w
    go_enter Try.func89, Try.ntmps89
    go_wp2_with fail
    refine (HLC.out acc _ HW.out).mono ?_
    rintro e w1 ⟨rfl, hI1, hg1⟩
    have q0 : w1.cell? ⟨w.heap.size, 0, none⟩ = some (.int .i64 k) := hg1.cell (a := ⟨w.heap.size, 0, none⟩) (by simp) HNF.out (by go_simp)
    have q2 : w1.cell? ⟨w.heap.size, 2, none⟩ = some (.iface T2 x2) := hg1.cell (a := ⟨w.heap.size, 2, none⟩) (by simp) HNF.out (by go_simp)
    have H1 := Lib.hid hI1
    have HG1 := Lib.hid (HFR.out.tr hg1)
    have hs1 : w.heap.size < w1.heap.size := by have := hg1.size; simp at this; omega
    have HNF1 := Lib.hid (show ¬ foot w1 w.heap.size from fun hf => (hg1.foot w.heap.size hf).elim HNF.out (fun h9 => by simp at h9; try omega))
    clear hI1 hg1
    go_wp2_with fail
    refine (HRC.out _ _ H1.out).mono ?_
    rintro e w2 ⟨rfl, hI2, hg2⟩
    have q0' : w2.cell? ⟨w.heap.size, 0, none⟩ = some (.int .i64 k) := hg2.cell (a := ⟨w.heap.size, 0, none⟩) hs1 HNF1.out q0
    have H2 := Lib.hid hI2
    have HG2 := Lib.hid (HG1.out.tr hg2)
    clear hI2 hg2 q0 q2
    go_wp2_with (go_at_call 102; refine (impl_combine k xa xb (by omega) (by omega) (by omega) (by omega) _).mono ?_; rintro e w3 ⟨rfl, rfl⟩)
    go_ret
    exact ⟨by simp, by rw [← List.append_assoc]; exact H2.out, HG2.out⟩
  | ch t a b ht ha hb =>
    intro acc w hok h
    simp only [Tm.ok] at hok
    obtain ⟨T1, x1, e1⟩ := t.val_form
    obtain ⟨T2, x2, e2⟩ := a.val_form
    obtain ⟨T3, x3, e3⟩ := b.val_form
    have HW0 := HI.out _ _ _ h ((Below.refl w.heap.size w).alloc (Nat.le_refl _) (.cells #[.iface T1 x1, .iface T2 x2, .iface T3 x3] 127))
    have HW := Lib.hid HW0.1
    have HFR := Lib.hid (Fr.of_below (foot := foot) ((Below.refl w.heap.size w).alloc (Nat.le_refl _) (.cells #[.iface T1 x1, .iface T2 x2, .iface T3 x3] 127)) HW0.2)
    have HNF := Lib.hid (show ¬ foot _ w.heap.size from fun hf => Nat.lt_irrefl _ (HG.out _ _ w.heap.size h (HW0.2 _ hf)))
    clear HW0
    have HTC := Lib.hid (fun acc w => ht acc w hok.1)
    have HAC := Lib.hid (fun acc w => ha acc w hok.2.1)
    have HBC := Lib.hid (fun acc w => hb acc w hok.2.2)
    have hev : (Tm.ch t a b).ev vs = if t.ev vs == 0 then b.ev vs else a.ev vs := rfl
    have hrd : (Tm.ch t a b).rds vs = t.rds vs ++ (if t.ev vs == 0 then b.rds vs else a.rds vs) := rfl
    rw [hev, hrd]
    show Calls _ _ #[.iface 127 (.agg #[t.val, a.val, b.val]), _] _ _
    rw [e1, e2, e3]
    rw [e1] at HTC
    rw [e2] at HAC
    rw [e3] at HBC
    have t1 := fun w => ta_CN (.agg #[.iface T1 x1, .iface T2 x2, .iface T3 x3]) w
    have t2 := fun w => ta_CR (.agg #[.iface T1 x1, .iface T2 x2, .iface T3 x3]) w
    have t3 := fun w => ta_CP (.agg #[.iface T1 x1, .iface T2 x2, .iface T3 x3]) w
    have t4 := fun w => ta_CC (.agg #[.iface T1 x1, .iface T2 x2, .iface T3 x3]) w
    cases hz : (t.ev vs == 0)
    · have hz' : (t.ev vs != 0) = true := by simp [bne, hz]
      simp only [Bool.false_eq_true, if_false]
      generalize t.ev vs = xt at *
      generalize a.ev vs = xa at *
      generalize t.rds vs = rt at *
      generalize a.rds vs = ra at *
      clear h hok ht ha hb hev hrd e1 e2 e3 hz
      go_enter Try.func89, Try.ntmps89
      go_wp2_with fail
      refine (HTC.out acc _ HW.out).mono ?_
      rintro e w1 ⟨rfl, hI1, hg1⟩
      have q1 : w1.cell? ⟨w.heap.size, 1, none⟩ = some (.iface T2 x2) := hg1.cell (a := ⟨w.heap.size, 1, none⟩) (by simp) HNF.out (by go_simp)
      have H1 := Lib.hid hI1
      have HG1 := Lib.hid (HFR.out.tr hg1)
      clear hI1 hg1
      go_wp2_with fail
      refine (HAC.out _ _ H1.out).mono ?_
      rintro e w2 ⟨rfl, hI2, hg2⟩
      have H2 := Lib.hid hI2
      have HG2 := Lib.hid (HG1.out.tr hg2)
      clear hI2 hg2
      go_wp2
      go_ret
      exact ⟨by simp, by rw [← List.append_assoc]; exact H2.out, HG2.out⟩
    · have hz' : (t.ev vs != 0) = false := by simp [bne, hz]
      simp only [if_true]
      generalize t.ev vs = xt at *
      generalize b.ev vs = xb at *
      generalize t.rds vs = rt at *
      generalize b.rds vs = rb at *
      clear h hok ht ha hb hev hrd e1 e2 e3 hz
      go_enter Try.func89, Try.ntmps89
      go_wp2_with fail
      refine (HTC.out acc _ HW.out).mono ?_
      rintro e w1 ⟨rfl, hI1, hg1⟩
      have q1 : w1.cell? ⟨w.heap.size, 2, none⟩ = some (.iface T3 x3) := hg1.cell (a := ⟨w.heap.size, 2, none⟩) (by simp) HNF.out (by go_simp)
      have H1 := Lib.hid hI1
      have HG1 := Lib.hid (HFR.out.tr hg1)
      clear hI1 hg1
      go_wp2_with fail
      refine (HBC.out _ _ H1.out).mono ?_
      rintro e w2 ⟨rfl, hI2, hg2⟩
      have H2 := Lib.hid hI2
      have HG2 := Lib.hid (HG1.out.tr hg2)
      clear hI2 hg2
      go_wp2
      go_ret
      exact ⟨by simp, by rw [← List.append_assoc]; exact H2.out, HG2.out⟩
end Go.Proofs.Ytlliomnfbgdpfaa

namespace Go.Proofs.Ytlliomnfbgdpfaa
set_option linter.unusedSimpArgs false
set_option linter.unusedVariables false
open Go.RowKit
theorem allR_VOK (vs : List Int) (h : allR vs 0 999 = true) : VOK vs := by
  intro j hj
  unfold allR at h
  rw [List.all_eq_true] at h
  have := h (vs.getD j 0) (by simp [List.getD, hj])
  simpa [rng] using this
theorem canEv_parts (ps : List Pt) (vs : List Int) (h : canEv ps vs = true) : validF ps = true ∧ VOK vs ∧ vs.length ≤ 10 ∧ eachOK ps vs.length = true := by
  unfold canEv at h
  simp only [Bool.and_eq_true, decide_eq_true_eq] at h
  exact ⟨h.1, allR_VOK vs h.2.1.2, h.2.1.1, h.2.2⟩
/-- The whole of a formula as a term. -/
def whole (ps : List Pt) : Tm := tmAt ps ps.length (ps.length - 1)
set_option maxHeartbeats 800000 in
theorem spec_run (A A' : Option Addr) (n c m c' : Nat) (ps : List Pt) (vs : List Int) (B : Nat) (hn : n = ps.length) (hm : m = vs.length) (hg : AllGood ps) (he : eachOK ps m = true) (hv : VOK vs) (h1 : 1 ≤ n) (h12 : n ≤ 12) (hs' : m ≤ 2000000) (w : World) (hB : B ≤ w.heap.size) (h : PS w B A ps) (h' : IS w B A' vs) :
    Calls Try.prog 75 #[.agg #[.slice A n c], .slice A' m c'] w fun e w' => RetVN w ((whole ps).ev vs) (firsts ((whole ps).rds vs)) e w' := by
  have hwh : whole ps = tmAt ps n (n - 1) := by rw [hn]; rfl
  have hln := rds_len ps vs n (n - 1)
  have h3n : 3 ^ n ≤ 531441 := Nat.pow_le_pow_right (by omega) (show n ≤ 12 from h12)
  rw [← hwh] at hln
  have HW := Lib.hid hwh
  have H := Lib.hid h
  have H' := Lib.hid h'
  have HR := Lib.hid (fun (k : Nat) (hk : n = k + 1) (w : World) => spec_reckoned A A' n c m c' ps vs B hn hm hg he hv (by omega) hs' n h12 k w (by omega) (by omega))
  obtain ⟨k, rfl⟩ : ∃ k, n = k + 1 := ⟨n - 1, by omega⟩
  have HK := Lib.hid (HR.out k rfl)
  clear h h' hn hm hg he hv hwh HR
  rw [show tmAt ps (k + 1) k = whole ps from by have := HW.out; simpa using this.symm] at HK
  generalize hwe : whole ps = t at *
  clear HW hwe
  go_enter Try.func75, Try.ntmps75
  go_wp2_with fail
  refine (HK.out _ (by simp; omega) (H.out.alloc hB _) (H'.out.alloc hB _)).mono ?_
  rintro e w1 ⟨v, rfl, hown, hb⟩
  obtain ⟨g, d, rfl, hg1, hg2⟩ := hown.form
  have HI := Lib.hid (IS.of_own hown.1)
  generalize hl : (t.rds vs).length = l at *
  have HL := Lib.hid hl.symm
  clear hown hl
  go_wp2_with fail
  refine (spec_firstOnly _ _ _ _ _ w1.heap.size (Nat.le_refl _) HL.out HI.out (by omega)).mono ?_
  rintro e w2 ⟨v2, rfl, hown2, hb2⟩
  have hw1 : w.heap.size ≤ w1.heap.size := by have := hb.size; simp at this; omega
  go_wp2
  go_ret2
  exact ⟨v2, by simp, ⟨own_mono hown2.1 hw1, hown2.2⟩, ((Below.refl _ _).alloc (Nat.le_refl _) _).trans ((hb.trans (hb2.mono hb.size)).mono (by simp))⟩
/-- What ValueOf answers. -/
def valF (ps : List Pt) (vs : List Int) : Int := if canEv ps vs then (whole ps).ev vs else 0
end Go.Proofs.Ytlliomnfbgdpfaa

namespace Go.Proofs.Ytlliomnfbgdpfaa
set_option linter.unusedSimpArgs false
set_option linter.unusedVariables false
open Go.RowKit
theorem nodeOK_cell (gs : List Nd) (i : Nat) (h : nodeOK gs i = true) (hk : ((gs.getD i default).k == 0) = true) : (gs.getD i default).ps = [] := by
  unfold nodeOK at h
  rw [if_pos hk] at h
  exact List.eq_nil_of_length_eq_zero (by simpa using h)
theorem nodeOK_formula (gs : List Nd) (i : Nat) (h : nodeOK gs i = true) (hk : ((gs.getD i default).k == 0) = false) : validF (gs.getD i default).ps = true ∧ goodRd gs i = true := by
  unfold nodeOK at h
  rw [if_neg (by rw [hk]; decide)] at h
  cases h1 : ((gs.getD i default).k == 1)
  · rw [if_neg (by rw [h1]; decide)] at h
    cases h2 : ((gs.getD i default).k == 2)
    · rw [if_neg (by rw [h2]; decide)] at h; cases h
    · rw [if_pos h2] at h; simpa using h
  · rw [if_pos h1] at h; simpa using h
theorem mayR_nil : mayR [] = [] := by
  unfold mayR hasNode
  simp
/-- All nodes that a node of a valid graph may read are ahead of it. -/
theorem mayR_ahead (gs : List Nd) (i : Nat) (h : validG gs = true) (hi : i < gs.length) (x : Int) (hx : x ∈ mayR (gs.getD i default).ps) : 0 ≤ x ∧ x < (i : Int) := by
  obtain ⟨h10, hok⟩ := validG_parts gs h
  have hb := mem_mayR_bd _ _ hx
  cases hk : ((gs.getD i default).k == 0)
  · obtain ⟨_, hg⟩ := nodeOK_formula gs i (hok i hi) hk
    unfold goodRd at hg
    rw [List.all_eq_true] at hg
    have := hg x hx
    unfold rdOK at this
    simp only [Bool.and_eq_true, decide_eq_true_eq] at this
    omega
  · rw [nodeOK_cell gs i (hok i hi) hk, mayR_nil] at hx
    cases hx
/-- Values for all nodes ahead are enough for the formula of a node. -/
theorem each_ahead (gs : List Nd) (i m : Nat) (h : validG gs = true) (hi : i < gs.length) (hk : ((gs.getD i default).k == 0) = false) (hm : i ≤ m) : eachOK (gs.getD i default).ps m = true := by
  obtain ⟨h10, hok⟩ := validG_parts gs h
  obtain ⟨hv, hg⟩ := nodeOK_formula gs i (hok i hi) hk
  unfold eachOK
  rw [List.all_eq_true]
  intro p hp
  cases h1 : (p.k == 1)
  · simp
  · obtain ⟨j, hj, rfl⟩ := List.mem_iff_getElem.1 hp
    have hgd := (validF_good _ hv).1 j hj
    have hah := fun x hx => mayR_ahead gs i h hi x hx
    clear hg hok
    generalize gs.getD i default = d at *
    have e : d.ps.getD j default = d.ps[j] := by simp [List.getD, hj]
    rw [e] at hgd
    have hb := (good_num _ _ hgd).2 (by simpa using h1)
    have hx : (d.ps[j]).n ∈ mayR d.ps := by
      rw [mem_mayR]
      refine ⟨(d.ps[j]).n.toNat, by omega, ?_, by omega⟩
      unfold hasNode
      rw [List.any_eq_true]
      exact ⟨_, hp, by simp only [Bool.and_eq_true]; exact ⟨h1, by simp; omega⟩⟩
    have := hah _ hx
    simp
    omega
/-- The values of the first nodes. -/
def meanTo (gs : List Nd) (cs : List Int) : Nat → List Int
  | 0 => []
  | i + 1 => meanTo gs cs i ++ [if (gs.getD i default).k == 0 then cs.getD i 0 else (whole (gs.getD i default).ps).ev (meanTo gs cs i)]
def mean (gs : List Nd) (cs : List Int) : List Int := meanTo gs cs gs.length
def meanF (gs : List Nd) (cs : List Int) : List Int := if okC gs cs then mean gs cs else []
theorem meanTo_len (gs : List Nd) (cs : List Int) (i : Nat) : (meanTo gs cs i).length = i := by
  induction i with
  | zero => rfl
  | succ i ih => simp [meanTo, ih]
theorem whole_ok (ps : List Pt) (m : Nat) (hv : validF ps = true) (he : eachOK ps m = true) : (whole ps).ok m := by
  obtain ⟨hg, h1, h12⟩ := validF_good ps hv
  exact tmAt_ok ps m hg he ps.length (ps.length - 1) (by omega) (by omega)
theorem meanTo_VOK (gs : List Nd) (cs : List Int) (h : okC gs cs = true) (i : Nat) (hi : i ≤ gs.length) : VOK (meanTo gs cs i) := by
  unfold okC at h
  simp only [Bool.and_eq_true] at h
  obtain ⟨hg, hc⟩ := h
  induction i with
  | zero => intro j hj; simp [meanTo] at hj
  | succ i ih =>
    have ih := ih (by omega)
    have hl := meanTo_len gs cs i
    intro j hj
    rw [meanTo_len] at hj
    rcases Nat.lt_or_ge j i with h1 | h1
    · have := ih j (by omega)
      simpa [meanTo, List.getD, List.getElem?_append, hl, h1] using this
    · obtain rfl : j = i := by omega
      have e : (meanTo gs cs (j + 1)).getD j 0 = (if (gs.getD j default).k == 0 then cs.getD j 0 else (whole (gs.getD j default).ps).ev (meanTo gs cs j)) := by
        simp [meanTo, List.getD, List.getElem?_append, hl]
      rw [e]
      cases hk : ((gs.getD j default).k == 0)
      · simp only [Bool.false_eq_true, if_false]
        refine Tm.ev_bd _ ih _ ?_
        rw [hl]
        exact whole_ok _ _ (nodeOK_formula gs j ((validG_parts gs hg).2 j (by omega)) hk).1 (each_ahead gs j j hg (by omega) hk (Nat.le_refl _))
      · simp only [if_true]
        exact cellOK_bd gs cs j ((validC_parts gs cs hc).2 j (by omega))
theorem canEv_of (ps : List Pt) (vs : List Int) (hv : validF ps = true) (hl : vs.length ≤ 10) (hr : VOK vs) (he : eachOK ps vs.length = true) : canEv ps vs = true := by
  unfold canEv
  rw [hv, he, decide_eq_true hl]
  simp only [Bool.true_and, Bool.and_true]
  refine allR_true _ _ _ fun k hk => ?_
  have := hr k hk
  unfold rng
  simpa using this
/-- The formula of a node can be evaluated with the values of the nodes ahead. -/
theorem mean_canEv (gs : List Nd) (cs : List Int) (h : okC gs cs = true) (i : Nat) (hi : i < gs.length) (hk : ((gs.getD i default).k == 0) = false) : canEv (gs.getD i default).ps (meanTo gs cs i) = true := by
  have hv := meanTo_VOK gs cs h i (by omega)
  unfold okC at h
  simp only [Bool.and_eq_true] at h
  obtain ⟨hg, hc⟩ := h
  have hl := meanTo_len gs cs i
  have h10 := (validG_parts gs hg).1
  refine canEv_of _ _ (nodeOK_formula gs i ((validG_parts gs hg).2 i hi) hk).1 (by omega) hv ?_
  rw [hl]
  exact each_ahead gs i i hg hi hk (Nat.le_refl _)
/-- The indices at which two lists differ. -/
def diffTo (a b : List Int) (k : Nat) : List Int := ((List.range k).filter fun i => !(a.getD i 0 == b.getD i 0)).map fun i : Nat => (i : Int)
theorem diffTo_step (a b : List Int) (k : Nat) : diffTo a b (k + 1) = diffTo a b k ++ (if a.getD k 0 == b.getD k 0 then [] else [(k : Int)]) := by
  unfold diffTo
  rw [List.range_succ, List.filter_append, List.map_append]
  congr 1
  cases h : (a.getD k 0 == b.getD k 0) <;> simp [h, -List.getD_eq_getElem?_getD]
theorem diffTo_len (a b : List Int) (k : Nat) : (diffTo a b k).length ≤ k := by
  unfold diffTo
  rw [List.length_map]
  have := List.length_filter_le (fun i => !(a.getD i 0 == b.getD i 0)) (List.range k)
  simpa using this
end Go.Proofs.Ytlliomnfbgdpfaa

namespace Go.Proofs.Ytlliomnfbgdpfaa
set_option linter.unusedSimpArgs false
set_option linter.unusedVariables false
open Go.RowKit
set_option maxHeartbeats 400000 in
theorem look_value (A' : Option Addr) (m c' g q : Nat) (vs : List Int) (w : World) (B : Nat) (hm : m = vs.length) (hs' : m ≤ 2000000) (hq : q < vs.length) (hc : w.cell? ⟨g, 0, none⟩ = some (.slice A' m c')) (h : IS w B A' vs) :
    Calls Try.prog 99 #[.int .i64 q, .pointer (some ⟨g, 0, none⟩)] w fun e w' => e = .returned (.int .i64 (vs.getD q 0)) ∧ w = w' := by
  obtain ⟨b, off, rfl, hb, hcc⟩ := h (by omega)
  have hx := hcc q hq
  have hqm : q < m := by omega
  generalize vs.getD q 0 = x at *
  clear hcc h hm hq
  go_enter Try.func99, Try.ntmps99
  go_wp2
  go_ret
  exact ⟨rfl, rfl⟩
set_option maxHeartbeats 800000 in
theorem impl_ValueOf (A A' : Option Addr) (n c m c' : Nat) (ps : List Pt) (vs : List Int) (B : Nat) (hn : n = ps.length) (hm : m = vs.length) (hs : n ≤ 1999999) (hs' : m ≤ 2000000) (w : World) (hB : B ≤ w.heap.size) (h : PS w B A ps) (h' : IS w B A' vs) :
    Calls Try.prog 85 #[.agg #[.slice A n c], .slice A' m c'] w fun e w' => e = .returned (.tuple #[.int .i64 (valF ps vs), .bool (canEv ps vs)]) ∧ Below w.heap.size w w' := by
  have H := Lib.hid h
  have HN := Lib.hid hn
  have H' := Lib.hid h'
  have HM := Lib.hid hm
  clear hn h hm h'
  cases hc : canEv ps vs
  · have hr : valF ps vs = 0 := by simp [valF, hc]
    rw [hr]
    have HC := Lib.hid hc
    clear hr hc
    go_enter Try.func85, Try.ntmps85
    go_wp2_with fail
    refine (impl_canEvaluate _ _ _ _ _ _ ps vs _ B (by simp; omega) HN.out HM.out ((H.out.alloc hB _).alloc (by simp; omega) _) ((H'.out.alloc hB _).alloc (by simp; omega) _) (by omega) hs').mono ?_
    rintro e w1 ⟨rfl, hb⟩
    rw [HC.out]
    go_wp2
    go_ret2
    exact ⟨rfl, (((Below.refl _ _).alloc (Nat.le_refl _) _).alloc (by simp) _).trans (hb.mono (by simp; omega))⟩
  · have hr : valF ps vs = (whole ps).ev vs := by simp [valF, hc]
    rw [hr]
    obtain ⟨hv, hvo, hm10, hea⟩ := canEv_parts ps vs hc
    obtain ⟨hg, h1, h12⟩ := validF_good ps hv
    have hok : (whole ps).ok vs.length := tmAt_ok ps vs.length hg hea ps.length (ps.length - 1) (by omega) (by omega)
    have HWH := Lib.hid (fun (w : World) => impl_wholeOf A n c ps B HN.out hg (by omega) (by have := HN.out; omega) w)
    rw [show tmAt ps n (n - 1) = whole ps by rw [HN.out]; rfl] at HWH
    have HC := Lib.hid hc
    have HVO := Lib.hid hvo
    have HOK := Lib.hid hok
    clear hr hc hv hvo hea hg h1 h12 hok
    generalize whole ps = t at *
    go_enter Try.func85, Try.ntmps85
    go_wp2_with fail
    refine (impl_canEvaluate _ _ _ _ _ _ ps vs _ B (by simp; omega) HN.out HM.out ((H.out.alloc hB _).alloc (by simp; omega) _) ((H'.out.alloc hB _).alloc (by simp; omega) _) (by omega) hs').mono ?_
    rintro e w1 ⟨rfl, hb⟩
    rw [HC.out]
    have hz : w.heap.size + 1 + 1 ≤ w1.heap.size := by have := hb.size; simpa using this
    have hbox : w1.cell? ⟨w.heap.size, 0, none⟩ = some (.slice A n c) := (hb.cell (p := ⟨w.heap.size, 0, none⟩) (by simp; omega)).trans (by go_simp)
    have hbox2 : w1.cell? ⟨w.heap.size + 1, 0, none⟩ = some (.slice A' m c') := (hb.cell (p := ⟨w.heap.size + 1, 0, none⟩) (by simp)).trans (by go_simp)
    have HP1 := Lib.hid (((H.out.alloc hB (.cells #[.slice A n c] 73)).alloc (by simp; omega) (.cells #[.slice A' m c'] 40)).below hb (by simp; omega))
    have HI1 := Lib.hid (((H'.out.alloc hB (.cells #[.slice A n c] 73)).alloc (by simp; omega) (.cells #[.slice A' m c'] 40)).below hb (by simp; omega))
    have hB1 : Below w.heap.size w w1 := (((Below.refl _ _).alloc (Nat.le_refl _) _).alloc (by simp) _).trans (hb.mono (by simp; omega))
    clear hb
    go_wp2_with fail
    refine (HWH.out _ (by omega) HP1.out).mono ?_
    rintro e w2 ⟨T, x, rfl, hT, hb2⟩
    have HT := Lib.hid hT
    clear hT
    have hz2 : w.heap.size + 1 + 1 ≤ w2.heap.size := by have := hb2.size; omega
    have hbox3 : w2.cell? ⟨w.heap.size + 1, 0, none⟩ = some (.slice A' m c') := (hb2.cell (p := ⟨w.heap.size + 1, 0, none⟩) (by show w.heap.size + 1 < w1.heap.size; omega)).trans hbox2
    have HI2 := Lib.hid (HI1.out.below hb2 (by omega))
    have hB2 : Below w.heap.size w w2 := hB1.trans (hb2.mono (by omega))
    have HEV := Lib.hid (impl_evaluate1 99 (.pointer (some ⟨w.heap.size + 1, 0, none⟩)) vs HVO.out (fun _ _ => False) (fun _ w' => Below w2.heap.size w2 w')
      (fun acc w' k h hf => hf.elim) (fun acc wa wb h1 h2 => ⟨h1.trans (h2.mono h1.size), fun k hf => hf⟩) (fun q w => by kernel_rfl)
      (fun q acc wa hq h1 => (look_value A' m c' (w.heap.size + 1) q vs wa B HM.out hs' hq ((h1.cell (p := ⟨w.heap.size + 1, 0, none⟩) (by show w.heap.size + 1 < w2.heap.size; omega)).trans hbox3) (HI2.out.below h1 (by omega))).mono
        fun e wb ⟨he, hw⟩ => ⟨he, by rw [← hw]; exact h1, by rw [← hw]; exact Fr.of_below (Below.refl _ _) fun k hf => hf⟩) t)
    clear hb2
    go_wp2_with fail
    rw [← HT.out]
    refine (HEV.out [] _ HOK.out (Below.refl _ _)).mono ?_
    rintro e w3 ⟨rfl, hb3, _⟩
    go_wp2
    go_ret2
    exact ⟨by simp, hB2.trans (hb3.mono (by omega))⟩
end Go.Proofs.Ytlliomnfbgdpfaa

namespace Go.Proofs.Ytlliomnfbgdpfaa
set_option linter.unusedSimpArgs false
set_option linter.unusedVariables false
open Go.RowKit
theorem mean_step (gs : List Nd) (xs : List Int) (k : Nat) : meanTo gs xs (k + 1) = meanTo gs xs k ++ [if (gs.getD k default).k == 0 then xs.getD k 0 else (whole (gs.getD k default).ps).ev (meanTo gs xs k)] := rfl
set_option maxRecDepth 100000 in
set_option maxHeartbeats 3200000 in
theorem spec_meaning (A A' : Option Addr) (n c m c' : Nat) (gs : List Nd) (xs : List Int) (w : World) (B : Nat) (hB : B ≤ w.heap.size) (hn : n = gs.length) (hm : m = xs.length) (h : GS w B A gs) (h' : IS w B A' xs) (hok : okC gs xs = true) :
    Calls Try.prog 52 #[.agg #[.slice A n c], .slice A' m c'] w fun e w' => RetI w (mean gs xs) e w' := by
  obtain ⟨i0, hi, hz0, hz1, hz2⟩ := info_parts info_int
  obtain ⟨hvg, hvc⟩ := okC_parts gs xs hok
  have hmn : m = n := by have := (validC_parts gs xs hvc).1; omega
  have hn10 : n ≤ 10 := by have := (validG_parts gs hvg).1; omega
  have H := Lib.hid h
  have HI := Lib.hid h'
  have HN := Lib.hid hn
  have HM := Lib.hid hm
  have HMN := Lib.hid hmn
  have HOK := Lib.hid hok
  clear h h' hn hm hmn hok hvg hvc
  go_enter Try.func52, Try.ntmps52
  go_wp2
  go_loopw [5, 6] (fun v i wr => ∃ k : Nat, k ≤ n ∧ i = .int .i64 k ∧ Hid (OwnI wr (w.heap.size + 1) v (meanTo gs xs k)) ∧ Below (w.heap.size + 1) (w.alloc (.cells #[.slice A n c] 33)) wr) (fun _ i _ => n - (intOf i).toNat)
  case atStart =>
    refine ⟨0, Nat.zero_le _, rfl, ?_, (Below.refl _ _).alloc (by simp) _⟩
    have := World.ownsRow_lit (e := 3) (size := 1) (base := w.heap.size + 1) (w.alloc (.cells #[.slice A n c] 33)) #[] 0 (by simp) (by unfold maxLen; omega) rfl
    simpa [OwnI, Hid, meanTo] using this
  case round =>
    obtain ⟨k, hk, rfl, HO, hbr⟩ := hrel
    have hbox : wr.cell? ⟨w.heap.size, 0, none⟩ = some (.slice A n c) := (hbr.cell (p := ⟨w.heap.size, 0, none⟩) (by simp)).trans (by go_simp)
    have hwr : w.heap.size + 1 ≤ wr.heap.size := by have := hbr.size; simpa using this
    by_cases hlt : k < n
    · have hkm : k < m := by have := HMN.out; omega
      have hkg : k < gs.length := by have := HN.out; omega
      obtain ⟨b, off, rfl, hbB, c0, A1, n1, c1, c2, hn1', hps⟩ := H.out.at_ k hkg
      obtain ⟨b', off', rfl, hb', hc⟩ := HI.out (by have := HM.out; omega)
      have hx := hc k (by have := HM.out; omega)
      clear hc
      have e0 : wr.cell? ⟨b, off + k * 2, none⟩ = _ := ((hbr.cell (p := ⟨b, off + k * 2, none⟩) (by simp; omega)).trans (World.cell?_alloc_lt _ _ _ (by simp; omega))).trans c0
      have e1 : wr.cell? ⟨b, off + k * 2 + 1, none⟩ = _ := ((hbr.cell (p := ⟨b, off + k * 2 + 1, none⟩) (by simp; omega)).trans (World.cell?_alloc_lt _ _ _ (by simp; omega))).trans c2
      have e2 : wr.cell? ⟨b', off' + k, none⟩ = _ := ((hbr.cell (p := ⟨b', off' + k, none⟩) (by simp; omega)).trans (World.cell?_alloc_lt _ _ _ (by simp; omega))).trans hx
      have HPS := Lib.hid ((hps.alloc hB (.cells #[.slice (some ⟨b, off, none⟩) n c] 33)).below hbr (by omega))
      have HST := Lib.hid (mean_step gs xs k)
      have hml := meanTo_len gs xs k
      obtain ⟨hvg, hvc⟩ := okC_parts gs xs HOK.out
      have HND := Lib.hid ((validG_parts gs hvg).2 k hkg)
      have hcE : ((gs.getD k default).k == 0) = false → canEv (gs.getD k default).ps (meanTo gs xs k) = true := mean_canEv gs xs HOK.out k hkg
      clear c0 c2 hx hps hvg hvc
      generalize gs.getD k default = d at *
      generalize xs.getD k 0 = x at *
      generalize meanTo gs xs k = M at *
      obtain ⟨A3, c3, rfl, hI3⟩ := HO.out.at_ hml
      have HI3 := Lib.hid hI3
      have HML := Lib.hid hml
      clear hml hI3
      cases hd : (d.k == 0)
      · have hd' : (d.k != 0) = true := by simp [bne, hd]
        obtain ⟨hv1, hvo, hl10, hea⟩ := canEv_parts d.ps M (hcE hd)
        obtain ⟨hg, h1, h12⟩ := validF_good d.ps hv1
        have HRUN := Lib.hid fun (w' : World) (hB : wr.heap.size ≤ w'.heap.size) (h : PS w' wr.heap.size A1 d.ps) (h' : IS w' wr.heap.size A3 M) => spec_run A1 A3 n1 c1 k c3 d.ps M wr.heap.size hn1' HML.out.symm hg (by rw [← HML.out]; exact hea) hvo (by omega) (by omega) (by omega) w' hB h h'
        have HD := Lib.hid hd
        rw [hd] at HST
        generalize hE : (whole d.ps).ev M = E at *
        clear hE hcE hv1 hvo hl10 hea hg h1 h12 hd hn1'
        go_wp2_with fail
        refine (HRUN.out _ (Nat.le_refl _) (HPS.out.more (by omega)) HI3.out).mono ?_
        rintro e w2 ⟨v2, rfl, hown2, hb2⟩
        clear hown2
        have HO2 := Lib.hid (own_below HO.out hb2)
        have hbr2 := hbr.trans (hb2.mono hwr)
        have hw2 : w.heap.size + 1 ≤ w2.heap.size := by have := hb2.size; omega
        go_wp2_with (at_builtin; refine wpList_append_own _ rfl _ _ 40 rfl (w.heap.size + 1) 3 i0 (.int .i64 0) 1 8 Try.underlying40 hi hz0 hz1 hz2 rfl (by decide) _ _ _ rfl (HO2.out.alloc _) ⟨_, 0, none⟩ 1 1 [.int .i64 E] rfl rfl (cell_one_new _ _ _) ?c2 ?c3 ?c4 ?c5 ?_)
        case c2 => first | rfl | (intro u hu; simp at hu; subst hu; rfl)
        case c3 => have := HML.out; unfold maxLen; omega
        case c4 => have := HML.out; omega
        case c5 => first | omega | (simp; omega)
        intro v' w3 hown' hgrow _
        have hpos := (HO2.out.alloc (.cells #[.int .i64 E] 3)).lt
        have HO' : Hid (OwnI w3 (w.heap.size + 1) v' (meanTo gs xs (k + 1))) := by
          rw [HST.out]
          simpa [OwnI, Hid] using hown'
        have HB' := Lib.hid ((hbr2.alloc hw2 (.cells #[.int .i64 E] 3)).grown hgrow (by simp; omega) (fun q hq => (hpos q hq).1))
        clear hown' hgrow hpos
        go_wp2
        go_roundw
        case rel => exact ⟨k + 1, by omega, by go_num, HO'.out, HB'.out⟩
        case measure => simp [intOf]; omega
      · have hd' : (d.k != 0) = false := by simp [bne, hd]
        rw [hd] at HST
        clear hcE hd hn1'
        go_wp2_with (at_builtin; refine wpList_append_own _ rfl _ _ 40 rfl (w.heap.size + 1) 3 i0 (.int .i64 0) 1 8 Try.underlying40 hi hz0 hz1 hz2 rfl (by decide) _ _ _ rfl (HO.out.alloc _) ⟨_, 0, none⟩ 1 1 [.int .i64 x] rfl rfl (cell_one_new _ _ _) ?d2 ?d3 ?d4 ?d5 ?_)
        case d2 => first | rfl | (intro u hu; simp at hu; subst hu; rfl)
        case d3 => have := HML.out; unfold maxLen; omega
        case d4 => have := HML.out; omega
        case d5 => first | omega | (simp; omega)
        intro v' w3 hown' hgrow _
        have hpos := (HO.out.alloc (.cells #[.int .i64 x] 3)).lt
        have HO' : Hid (OwnI w3 (w.heap.size + 1) v' (meanTo gs xs (k + 1))) := by
          rw [HST.out]
          simpa [OwnI, Hid] using hown'
        have HB' := Lib.hid ((hbr.alloc hwr (.cells #[.int .i64 x] 3)).grown hgrow (by simp; omega) (fun q hq => (hpos q hq).1))
        clear hown' hgrow hpos
        go_wp2
        go_roundw
        case rel => exact ⟨k + 1, by omega, by go_num, HO'.out, HB'.out⟩
        case measure => simp [intOf]; omega
    · obtain rfl : k = n := by omega
      go_wp2
      go_ret
      refine ⟨_, rfl, ?_, ((Below.refl _ _).alloc (Nat.le_refl _) _).trans (hbr.mono (by omega))⟩
      have := HO.out
      rw [HN.out] at this
      exact own_mono this (by omega)
end Go.Proofs.Ytlliomnfbgdpfaa

namespace Go.Proofs.Ytlliomnfbgdpfaa
set_option linter.unusedSimpArgs false
set_option linter.unusedVariables false
open Go.RowKit
/-- The values of the first nodes, and the cells of the others. -/
def mixTo (gs : List Nd) (xs : List Int) (k : Nat) : List Int := meanTo gs xs k ++ xs.drop k
theorem mixTo_zero (gs : List Nd) (xs : List Int) : mixTo gs xs 0 = xs := by simp [mixTo, meanTo]
theorem mixTo_len (gs : List Nd) (xs : List Int) (k : Nat) (h : k ≤ xs.length) : (mixTo gs xs k).length = xs.length := by
  unfold mixTo; rw [List.length_append, meanTo_len, List.length_drop]; omega
theorem mixTo_all (gs : List Nd) (xs : List Int) (k : Nat) (h : k = xs.length) : mixTo gs xs k = meanTo gs xs k := by
  unfold mixTo; rw [h, List.drop_length]; simp
theorem mixTo_take (gs : List Nd) (xs : List Int) (k : Nat) : (mixTo gs xs k).take k = meanTo gs xs k := by
  unfold mixTo
  have := meanTo_len gs xs k
  rw [List.take_append_of_le_length (by omega), List.take_of_length_le (by omega)]
theorem mixTo_step (gs : List Nd) (xs : List Int) (k : Nat) (h : k < xs.length) : mixTo gs xs (k + 1) = if (gs.getD k default).k == 0 then mixTo gs xs k else (mixTo gs xs k).set k ((whole (gs.getD k default).ps).ev (meanTo gs xs k)) := by
  have hl := meanTo_len gs xs k
  have hd : xs.drop k = xs.getD k 0 :: xs.drop (k + 1) := by rw [List.drop_eq_getElem_cons h]; simp [List.getD, h]
  unfold mixTo
  rw [mean_step, hd]
  cases hk : ((gs.getD k default).k == 0)
  · simp only [Bool.false_eq_true, if_false]
    rw [List.set_append_right _ _ (by omega), hl, Nat.sub_self, List.set_cons_zero, List.append_assoc]
    rfl
  · simp only [if_true]
    rw [List.append_assoc]; rfl
set_option maxRecDepth 100000 in
set_option maxHeartbeats 3200000 in
theorem impl_MeaningOf (A A' : Option Addr) (n c m c' : Nat) (gs : List Nd) (xs : List Int) (w : World) (B : Nat) (hB : B ≤ w.heap.size) (hn : n = gs.length) (hnc : n ≤ c) (hm : m = xs.length) (h : GS w B A gs) (h' : IS w B A' xs) (hs : GB gs) (hs' : m ≤ 2000000) :
    Calls Try.prog 72 #[.agg #[.slice A n c], .slice A' m c'] w fun e w' => RetI w (meanF gs xs) e w' := by
  have HVC := Lib.hid fun (w' : World) (hB : B ≤ w'.heap.size) (h : GS w' B A gs) (h' : IS w' B A' xs) => impl_ValidCells A A' n c m c' gs xs w' B hB hn hnc hm h h' hs hs'
  have H := Lib.hid h
  have HI := Lib.hid h'
  have HN := Lib.hid hn
  have HM := Lib.hid hm
  clear h h' hn hm
  cases hok : okC gs xs
  · have hf : meanF gs xs = [] := by unfold meanF; rw [hok]; rfl
    rw [hf]
    rw [hok] at HVC
    clear hf hok hs
    go_enter Try.func72, Try.ntmps72
    go_wp2_with fail
    refine (HVC.out _ (by simp; omega) (H.out.alloc hB _) (HI.out.alloc hB _)).mono ?_
    rintro e w1 ⟨rfl, hb⟩
    go_wp2
    go_ret
    exact ⟨_, rfl, World.ownsRow_nil _ _ _ _, ((Below.refl _ _).alloc (Nat.le_refl _) _).trans (hb.mono (by simp))⟩
  have hf : meanF gs xs = mean gs xs := by unfold meanF; rw [hok]; rfl
  rw [hf]
  rw [hok] at HVC
  obtain ⟨hvg, hvc⟩ := okC_parts gs xs hok
  have hmn : m = n := by have := (validC_parts gs xs hvc).1; have := HN.out; have := HM.out; omega
  have hn10 : n ≤ 10 := by have := (validG_parts gs hvg).1; have := HN.out; omega
  have HOK := Lib.hid hok
  have HMN := Lib.hid hmn
  have hm10 : m ≤ 10 := by omega
  clear hf hok hvg hvc hmn hs
  go_enter Try.func72, Try.ntmps72
  go_wp2_with fail
  refine (HVC.out _ (by simp; omega) (H.out.alloc hB _) (HI.out.alloc hB _)).mono ?_
  rintro e w1 ⟨rfl, hb⟩
  have q : w1.cell? ⟨w.heap.size, 0, none⟩ = some (.slice A n c) := (hb.cell (p := ⟨w.heap.size, 0, none⟩) (by simp)).trans (by go_simp)
  have HI1 := Lib.hid ((HI.out.alloc hB (.cells #[.slice A n c] 33)).below hb (by simp; omega))
  have HG1 := Lib.hid ((H.out.alloc hB (.cells #[.slice A n c] 33)).below hb (by simp; omega))
  have hz : w.heap.size < w1.heap.size := by have := hb.size; simp at this; omega
  have hB1 : Below w.heap.size w w1 := ((Below.refl _ _).alloc (Nat.le_refl _) _).trans (hb.mono (by simp))
  clear hb H HI
  go_wp2_with fail
  refine (impl_copyOf A' m c' xs w1 B (by omega) HM.out HI1.out (by omega)).mono ?_
  rintro e w2 ⟨rfl, hown2, hb2⟩
  have q2 := (hb2.cell (p := ⟨w.heap.size, 0, none⟩) hz).trans q
  have HG2 := Lib.hid (HG1.out.below hb2 (by omega))
  have HO2 := Lib.hid hown2
  have hgl := (hown2.lt _ rfl).2
  have hB2 := hB1.trans (hb2.mono (by omega))
  clear hown2 hb2 q HG1 HI1 hB1
  go_wp2
  go_loopw [17] (fun u wr => ∃ k : Nat, k ≤ n ∧ u = .int .i64 k ∧ Hid (wr.ownsRow w1.heap.size 3 1 (.slice (some ⟨w1.heap.size, 0, none⟩) m m) m ((mixTo gs xs k).map (Value.int .i64))) ∧ Hid (Below w1.heap.size w2 wr) ∧ w2.heap.size ≤ wr.heap.size) (fun u _ => n - (intOf u).toNat)
  case atStart => exact ⟨0, Nat.zero_le _, rfl, by rw [mixTo_zero]; exact HO2.out, Below.refl _ _, Nat.le_refl _⟩
  case round =>
    obtain ⟨k, hk, rfl, HO, HBR, hwr⟩ := hrel
    by_cases hlt : k < n
    · have hkm : k < m := by have := HMN.out; omega
      have hkg : k < gs.length := by have := HN.out; omega
      have hkx : k < xs.length := by have := HM.out; omega
      obtain ⟨b, off, rfl, hbB, c0, A1, n1, c1, c2, hn1', hps⟩ := HG2.out.at_ k hkg
      have e0 := (HBR.out.cell (p := ⟨b, off + k * 2, none⟩) (by simp; omega)).trans c0
      have e1 := (HBR.out.cell (p := ⟨b, off + k * 2 + 1, none⟩) (by simp; omega)).trans c2
      have HPS := Lib.hid (hps.below HBR.out (by omega))
      have HST := Lib.hid (mixTo_step gs xs k hkx)
      have HIR := Lib.hid ((IS.of_own HO.out).take k)
      rw [mixTo_take] at HIR
      have hml := meanTo_len gs xs k
      have hcE : ((gs.getD k default).k == 0) = false → canEv (gs.getD k default).ps (meanTo gs xs k) = true := mean_canEv gs xs HOK.out k hkg
      clear c0 c2 hps
      generalize gs.getD k default = d at *
      generalize meanTo gs xs k = M at *
      cases hd : (d.k == 0)
      · have hd' : (d.k != 0) = true := by simp [bne, hd]
        have hce := hcE hd
        obtain ⟨hv1, hvo, hl10, hea⟩ := canEv_parts d.ps M hce
        obtain ⟨hg, h1, h12⟩ := validF_good d.ps hv1
        have hvf : valF d.ps M = (whole d.ps).ev M := by unfold valF; rw [hce]; rfl
        have HVAL := Lib.hid fun (w' : World) (B : Nat) (hB : B ≤ w'.heap.size) (h : PS w' B A1 d.ps) (h' : IS w' B (some ⟨w1.heap.size, 0, none⟩) M) => impl_ValueOf A1 (some ⟨w1.heap.size, 0, none⟩) n1 c1 k m d.ps M B hn1' hml.symm (by omega) (by omega) w' hB h h'
        rw [hvf, hce] at HVAL
        rw [hd] at HST
        generalize (whole d.ps).ev M = E at *
        have HD := Lib.hid hd
        clear hcE hce hv1 hvo hl10 hea hg h1 h12 hvf hd hn1' hml
        go_wp2
        obtain ⟨W2, hW2⟩ : ∃ W2, W2 = wr.alloc (.cells #[.int .i64 d.k, .slice A1 n1 c1] 75) := ⟨_, rfl⟩
        have q1 : W2.cell? ⟨wr.heap.size, 0, none⟩ = some (.int .i64 d.k) := by rw [hW2]; go_simp
        have q3 : W2.cell? ⟨wr.heap.size, 1, none⟩ = some (.slice A1 n1 c1) := by rw [hW2]; go_simp
        have HP2 : Hid (PS W2 W2.heap.size A1 d.ps) := by rw [hW2]; exact (HPS.out.alloc (by omega) _).more (by simp; omega)
        have HIR2 : Hid (IS W2 W2.heap.size (some ⟨w1.heap.size, 0, none⟩) M) := by rw [hW2]; exact (HIR.out.alloc (Nat.le_refl _) _).more (by simp)
        have HB2' : Hid (Below w1.heap.size w2 W2) := by rw [hW2]; exact HBR.out.alloc (by omega) _
        have HO2' : Hid (W2.ownsRow w1.heap.size 3 1 (.slice (some ⟨w1.heap.size, 0, none⟩) m m) m ((mixTo gs xs k).map (Value.int .i64))) := by rw [hW2]; exact HO.out.alloc _
        have hz2 : w2.heap.size ≤ W2.heap.size := by rw [hW2]; simp; omega
        rw [← hW2]
        clear hW2 HPS HIR e0 e1
        have hkm2 : k ≤ m := by omega
        have hmx : (mixTo gs xs k).length = m := by rw [mixTo_len gs xs k (by omega)]; have := HM.out; omega
        obtain ⟨y, hy⟩ : ∃ y : Int, (mixTo gs xs k)[k]? = some y := ⟨_, List.getElem?_eq_getElem (by omega)⟩
        have HY := Lib.hid hy
        clear hy hmx
        go_region_with (first | (go_at_call 85; refine (HVAL.out W2.drew W2.heap.size (Nat.le_refl _) HP2.out HIR2.out).mono ?_; rintro e w3 ⟨rfl, hb3⟩; have hgg : w1.heap.size < w3.heap.size := Nat.lt_of_lt_of_le (show w1.heap.size < W2.heap.size by omega) hb3.size; have HO3 := Lib.hid (own_below (w := W2.drew) HO2'.out hb3); have u3 : w3.cell? ⟨w1.heap.size, k, none⟩ = some (.int .i64 y) := (HO3.out.cellAt k (by omega)).trans (by simp [HY.out]); have f3 : w3.frozen? ⟨w1.heap.size, k, none⟩ = false := HO3.out.frozenAt k))
        have HO4 := HO3.out.stored k (.int .i64 E)
        rw [← List.map_set] at HO4
        rw [show (mixTo gs xs k).set k E = mixTo gs xs (k + 1) from HST.out.symm] at HO4
        have HO5 := Lib.hid HO4.1
        have HB5 := Lib.hid (((HB2'.out.drew.trans (hb3.mono (show w1.heap.size ≤ W2.heap.size by omega))).setCell (p := ⟨w1.heap.size, k, none⟩) (Nat.le_refl _) (.int .i64 E)))
        have hz3 : w2.heap.size ≤ w3.heap.size := Nat.le_trans hz2 hb3.size
        clear HO4
        go_wp2
        go_roundw
        case rel => exact ⟨k + 1, by omega, by go_num, HO5.out, HB5.out, by simp [World.setCell]; omega⟩
        case measure => simp [intOf]; omega
      · have hd' : (d.k != 0) = false := by simp [bne, hd]
        rw [hd] at HST
        clear hcE hd hn1' hml
        go_wp2
        go_roundw
        case rel => exact ⟨k + 1, by omega, by go_num, by rw [HST.out]; exact HO.out.alloc _, HBR.out.alloc (by omega) _, by simp; omega⟩
        case measure => simp [intOf]; omega
    · obtain rfl : k = n := by omega
      go_wp2
      go_ret
      have hkx : k = xs.length := by have := HMN.out; have := HM.out; omega
      have hkm : k = m := by have := HMN.out; omega
      have hml : (mean gs xs).length = m := by unfold mean; rw [meanTo_len]; have := HN.out; omega
      refine ⟨_, rfl, ?_, hB2.trans (HBR.out.mono (by omega))⟩
      have := HO.out
      rw [mixTo_all gs xs k hkx, HN.out] at this
      unfold OwnI
      rw [hml]
      exact own_mono this (by omega)
end Go.Proofs.Ytlliomnfbgdpfaa

namespace Go.Proofs.Ytlliomnfbgdpfaa
set_option linter.unusedSimpArgs false
set_option linter.unusedVariables false
open Go.RowKit
theorem mean_len (gs : List Nd) (xs : List Int) : (mean gs xs).length = gs.length := meanTo_len _ _ _
end Go.Proofs.Ytlliomnfbgdpfaa

namespace Go.Proofs.Ytlliomnfbgdpfaa
set_option linter.unusedSimpArgs false
set_option linter.unusedVariables false
open Go.RowKit
def chgB (gs : List Nd) (xs ys : List Int) : Bool := validG gs && validC gs xs && validC gs ys
def chgF (gs : List Nd) (xs ys : List Int) : List Int := if chgB gs xs ys then diffTo (mean gs xs) (mean gs ys) gs.length else []
theorem chgF_len (gs : List Nd) (xs ys : List Int) : (chgF gs xs ys).length ≤ 10 := by
  unfold chgF
  cases h : chgB gs xs ys
  · simp
  · simp only [if_true]
    unfold chgB at h
    simp only [Bool.and_eq_true] at h
    have := diffTo_len (mean gs xs) (mean gs ys) gs.length
    have := (validG_parts gs h.1.1).1
    omega
set_option maxRecDepth 100000 in
set_option maxHeartbeats 1600000 in
theorem spec_differing (A A' : Option Addr) (n c c' : Nat) (a b : List Int) (w : World) (B : Nat) (hB : B ≤ w.heap.size) (hn : n = a.length) (hm : n = b.length) (h : IS w B A a) (h' : IS w B A' b) (hs : n ≤ 2000000) :
    Calls Try.prog 53 #[.slice A n c, .slice A' n c'] w fun e w' => RetI w (diffTo a b n) e w' := by
  obtain ⟨i0, hi, hz0, hz1, hz2⟩ := info_parts info_int
  have H := Lib.hid h
  have H' := Lib.hid h'
  have HN := Lib.hid hn
  have HM := Lib.hid hm
  clear hn h hm h'
  go_enter Try.func53, Try.ntmps53
  go_wp2
  go_loopw [5, 6] (fun v i wr => ∃ k : Nat, k ≤ n ∧ i = .int .i64 k ∧ Hid (OwnI wr w.heap.size v (diffTo a b k)) ∧ Below w.heap.size w wr) (fun _ i _ => n - (intOf i).toNat)
  case atStart =>
    refine ⟨0, Nat.zero_le _, rfl, ?_, (Below.refl _ _).alloc (Nat.le_refl _) _⟩
    have := World.ownsRow_lit (e := 3) (size := 1) (base := w.heap.size) w #[] 0 (Nat.le_refl _) (by unfold maxLen; omega) rfl
    simpa [OwnI, Hid, diffTo] using this
  case round =>
    obtain ⟨k, hk, rfl, HO, hb⟩ := hrel
    by_cases hlt : k < n
    · obtain ⟨b1, off1, rfl, hb1, hc1⟩ := H.out (by have := HN.out; omega)
      obtain ⟨b2, off2, rfl, hb2, hc2⟩ := H'.out (by have := HM.out; omega)
      have c1 := (hb.cell (p := ⟨b1, off1 + k, none⟩) (by simp; omega)).trans (hc1 k (by have := HN.out; omega))
      have c2 := (hb.cell (p := ⟨b2, off2 + k, none⟩) (by simp; omega)).trans (hc2 k (by have := HM.out; omega))
      clear hc1 hc2
      have HST := Lib.hid (diffTo_step a b k)
      have hdl := diffTo_len a b k
      generalize a.getD k 0 = x at *
      generalize b.getD k 0 = y at *
      generalize diffTo a b k = D at *
      have hwr : w.heap.size ≤ wr.heap.size := hb.size
      cases hxy : (x == y)
      · have hne : (x != y) = true := by simp [bne, hxy]
        rw [hxy] at HST
        clear hxy
        go_wp2
        go_region
        go_wp2_with (at_builtin; refine wpList_append_own _ rfl _ _ 40 rfl w.heap.size 3 i0 (.int .i64 0) 1 8 Try.underlying40 hi hz0 hz1 hz2 rfl (by decide) _ _ _ rfl (HO.out.drew.alloc _) ⟨_, 0, none⟩ 1 1 [.int .i64 k] rfl rfl (cell_one_new _ _ _) ?c2 ?c3 ?c4 ?c5 ?_)
        case c2 => first | rfl | (intro u hu; simp at hu; subst hu; rfl)
        case c3 => unfold maxLen; omega
        case c4 => omega
        case c5 => first | omega | (simp; omega)
        intro v' w3 hown' hgrow _
        have hpos := (HO.out.drew.alloc (.cells #[.int .i64 k] 3)).lt
        have HO' : Hid (OwnI w3 w.heap.size v' (diffTo a b (k + 1))) := by
          rw [HST.out]
          simpa [OwnI, Hid] using hown'
        have HB' := Lib.hid ((hb.drew.alloc hwr (.cells #[.int .i64 k] 3)).grown hgrow (by first | (simp; omega) | omega) (fun q hq => (hpos q hq).1))
        clear hown' hgrow hpos
        go_wp2
        go_roundw
        case rel => exact ⟨k + 1, by omega, by go_num, HO'.out, HB'.out⟩
        case measure => simp [intOf]; omega
      · have hne : (x != y) = false := by simp [bne, hxy]
        rw [hxy] at HST
        clear hxy
        go_wp2
        go_region
        go_wp2
        go_roundw
        case rel => exact ⟨k + 1, by omega, by go_num, by rw [HST.out]; have := HO.out.drew; simpa [OwnI, Hid] using this, hb.drew⟩
        case measure => simp [intOf]; omega
    · obtain rfl : k = n := by omega
      go_wp2
      go_ret
      exact ⟨_, rfl, HO.out, hb⟩
/-- The first numbers for which something holds. -/
def nwTo (P : Nat → Bool) (n : Nat) : List Int := ((List.range n).filter P).map fun i : Nat => (i : Int)
theorem nwTo_step (P : Nat → Bool) (k : Nat) : nwTo P (k + 1) = nwTo P k ++ (if P k then [(k : Int)] else []) := by
  unfold nwTo
  rw [List.range_succ, List.filter_append, List.map_append]
  congr 1
  cases h : P k <;> simp [h]
theorem nwTo_len (P : Nat → Bool) (k : Nat) : (nwTo P k).length ≤ k := by
  unfold nwTo
  rw [List.length_map]
  have := List.length_filter_le P (List.range k)
  simpa using this
theorem nwTo_diff (a b : List Int) (k : Nat) : nwTo (fun i => !(a.getD i 0 == b.getD i 0)) k = diffTo a b k := rfl
set_option maxRecDepth 100000 in
set_option maxHeartbeats 1600000 in
theorem impl_nodesWhere2 (K : FuncId) (cap cap2 : Value) (P : Nat → Bool) (I : World → Prop) (A : Option Addr) (n c : Nat) (hs : n ≤ 2000000)
    (hI : ∀ w w' : World, I w → Below w.heap.size w w' → I w') (hcf : ∀ (q : Nat) (w : World), (callFunc K #[.int .i64 q, cap, cap2]).run Try.prog w = .ok (.enter K #[.int .i64 q, cap, cap2]) w)
    (hP : ∀ (q : Nat) (w : World), q < n → I w → Calls Try.prog K #[.int .i64 q, cap, cap2] w fun e w' => e = .returned (.bool (P q)) ∧ Below w.heap.size w w') (w : World) (h : I w) :
    Calls Try.prog 73 #[.agg #[.slice A n c], .func (.func K) #[] #[cap, cap2]] w fun e w' => RetI w (nwTo P n) e w' := by
  obtain ⟨i0, hi, hz0, hz1, hz2⟩ := info_parts info_int
  have HI := Lib.hid hI
  have HP := Lib.hid hP
  have H := Lib.hid h
  have HCF := Lib.hid hcf
  clear hI hP h hcf
  go_enter Try.func73, Try.ntmps73
  go_wp2
  go_loopw [5, 10] (fun v i wr => ∃ k : Nat, k ≤ n ∧ i = .int .i64 k ∧ Hid (OwnI wr (w.heap.size + 1) v (nwTo P k)) ∧ Below (w.heap.size + 1) (w.alloc (.cells #[.slice A n c] 33)) wr) (fun _ i _ => n - (intOf i).toNat)
  case atStart => exact ⟨0, Nat.zero_le _, rfl, World.ownsRow_nil _ _ _ _, Below.refl _ _⟩
  case round =>
    obtain ⟨k, hk, rfl, HO, hbr⟩ := hrel
    have hwr : w.heap.size + 1 ≤ wr.heap.size := by have := hbr.size; simpa using this
    by_cases hlt : k < n
    · have HST := Lib.hid (nwTo_step P k)
      have hdl := nwTo_len P k
      have HIR := Lib.hid (HI.out _ _ H.out (((Below.refl _ _).alloc (Nat.le_refl _) _).trans (hbr.mono (by omega))))
      have HPK := Lib.hid fun (w' : World) (h : I w') => HP.out k w' hlt h
      have hcf := HCF.out k
      generalize nwTo P k = D at *
      generalize P k = p at *
      cases p
      · go_wp2_with fail
        refine (HPK.out _ HIR.out).mono ?_
        rintro e w2 ⟨rfl, hb2⟩
        go_wp2
        go_roundw
        case rel => exact ⟨k + 1, by omega, by go_num, by rw [HST.out]; simpa [OwnI, Hid] using own_below HO.out hb2, hbr.trans (hb2.mono hwr)⟩
        case measure => simp [intOf]; omega
      · go_wp2_with fail
        refine (HPK.out _ HIR.out).mono ?_
        rintro e w2 ⟨rfl, hb2⟩
        have HO2 := Lib.hid (own_below HO.out hb2)
        have hbr2 := hbr.trans (hb2.mono hwr)
        have hw2 : w.heap.size + 1 ≤ w2.heap.size := by have := hb2.size; omega
        clear hcf
        go_wp2_with (at_builtin; refine wpList_append_own _ rfl _ _ 40 rfl (w.heap.size + 1) 3 i0 (.int .i64 0) 1 8 Try.underlying40 hi hz0 hz1 hz2 rfl (by decide) _ _ _ rfl (HO2.out.alloc _) ⟨_, 0, none⟩ 1 1 [.int .i64 k] rfl rfl (cell_one_new _ _ _) ?c2 ?c3 ?c4 ?c5 ?_)
        case c2 => first | rfl | (intro u hu; simp at hu; subst hu; rfl)
        case c3 => unfold maxLen; omega
        case c4 => omega
        case c5 => first | omega | (simp; omega)
        intro v' w3 hown' hgrow _
        have hpos := (HO2.out.alloc (.cells #[.int .i64 k] 3)).lt
        have HO' : Hid (OwnI w3 (w.heap.size + 1) v' (nwTo P (k + 1))) := by
          rw [HST.out]
          simpa [OwnI, Hid] using hown'
        have HB' := Lib.hid ((hbr2.alloc hw2 (.cells #[.int .i64 k] 3)).grown hgrow (by first | (simp; omega) | omega) (fun q hq => (hpos q hq).1))
        clear hown' hgrow hpos
        go_wp2
        go_roundw
        case rel => exact ⟨k + 1, by omega, by go_num, HO'.out, HB'.out⟩
        case measure => simp [intOf]; omega
    · obtain rfl : k = n := by omega
      go_wp2
      go_ret
      exact ⟨_, rfl, own_mono HO.out (by omega), ((Below.refl _ _).alloc (Nat.le_refl _) _).trans (hbr.mono (by omega))⟩
set_option maxHeartbeats 800000 in
theorem differ_at (g1 g2 : Nat) (A A' : Option Addr) (n c c' q : Nat) (a b : List Int) (w : World) (hn : n = a.length) (hm : n = b.length) (hq : q < n) (h1 : w.cell? ⟨g1, 0, none⟩ = some (.slice A n c)) (h2 : w.cell? ⟨g2, 0, none⟩ = some (.slice A' n c')) (h : IS w w.heap.size A a) (h' : IS w w.heap.size A' b) :
    Calls Try.prog 74 #[.int .i64 q, .pointer (some ⟨g1, 0, none⟩), .pointer (some ⟨g2, 0, none⟩)] w fun e w' => e = .returned (.bool (!(a.getD q 0 == b.getD q 0))) ∧ Below w.heap.size w w' := by
  obtain ⟨b1, off1, rfl, hb1, hc1⟩ := h (by omega)
  obtain ⟨b2, off2, rfl, hb2, hc2⟩ := h' (by omega)
  have e1 := hc1 q (by omega)
  have e2 := hc2 q (by omega)
  generalize a.getD q 0 = x at *
  generalize b.getD q 0 = y at *
  clear hc1 hc2 hn hm h h'
  go_enter Try.func74, Try.ntmps74
  go_wp2
  go_region
  go_wp2
  go_ret
  exact ⟨ret_b (by simp [bne]), (Below.refl _ _).drew⟩
set_option maxRecDepth 100000 in
set_option maxHeartbeats 3200000 in
theorem top_spec_ChangedBy (gs : List Nd) (xs ys : List Int) (hG : GB gs) (hL : xs.length ≤ 1048576) (hL2 : ys.length ≤ 1048576) : ∀ (A : Option Addr) (n c : Nat) (A1 : Option Addr) (m1 c1 : Nat) (A2 : Option Addr) (m2 c2 : Nat) (w : World), n = gs.length → n ≤ c → GS w w.heap.size A gs → m1 = xs.length → IS w w.heap.size A1 xs → m2 = ys.length → IS w w.heap.size A2 ys →
    Calls Try.prog 50 #[.agg #[.slice A n c], .slice A1 m1 c1, .slice A2 m2 c2] w fun e w' => RetI w (chgF gs xs ys) e w' := by
  intro A n c A1 m1 c1 A2 m2 c2 w hn hnc h hx h1 hy h2
  have hm1 : m1 ≤ 2000000 := by omega
  have hm2 : m2 ≤ 2000000 := by omega
  have hn1 : n ≤ 1048576 := by rw [hn]; exact hG.1
  have H := Lib.hid h
  have HX := Lib.hid h1
  have HY := Lib.hid h2
  have HN := Lib.hid hn
  have HC := Lib.hid fun (w' : World) (hB : w.heap.size ≤ w'.heap.size) (h : GS w' w.heap.size A gs) => spec_validGraph A n c gs w' w.heap.size hB hn h hG
  have HDX := Lib.hid fun (w' : World) (hB : w.heap.size ≤ w'.heap.size) (h : GS w' w.heap.size A gs) (h' : IS w' w.heap.size A1 xs) => spec_validCells A A1 n c m1 c1 gs xs w' w.heap.size hB hn hx h h' (by omega) hm1
  have HDY := Lib.hid fun (w' : World) (hB : w.heap.size ≤ w'.heap.size) (h : GS w' w.heap.size A gs) (h' : IS w' w.heap.size A2 ys) => spec_validCells A A2 n c m2 c2 gs ys w' w.heap.size hB hn hy h h' (by omega) hm2
  have HMX := Lib.hid fun (w' : World) (hB : w.heap.size ≤ w'.heap.size) (h : GS w' w.heap.size A gs) (h' : IS w' w.heap.size A1 xs) (hok : validG gs = true ∧ validC gs xs = true) => spec_meaning A A1 n c m1 c1 gs xs w' w.heap.size hB hn hx h h' (by unfold okC; rw [hok.1, hok.2]; rfl)
  have HMY := Lib.hid fun (w' : World) (hB : w.heap.size ≤ w'.heap.size) (h : GS w' w.heap.size A gs) (h' : IS w' w.heap.size A2 ys) (hok : validG gs = true ∧ validC gs ys = true) => spec_meaning A A2 n c m2 c2 gs ys w' w.heap.size hB hn hy h h' (by unfold okC; rw [hok.1, hok.2]; rfl)
  have hml1 := mean_len gs xs
  have hml2 := mean_len gs ys
  have hf : chgF gs xs ys = if validG gs && validC gs xs && validC gs ys then diffTo (mean gs xs) (mean gs ys) gs.length else [] := rfl
  rw [hf, ← hn]
  rw [← hn] at hml1 hml2
  have HL1 := Lib.hid hml1
  have HL2 := Lib.hid hml2
  clear hf h h1 h2 hn hx hy hG hml1 hml2
  generalize validG gs = b0 at *
  generalize validC gs xs = b1 at *
  generalize validC gs ys = b2 at *
  generalize mean gs xs = MX at *
  generalize mean gs ys = MY at *
  cases b0
  · go_enter Try.func50, Try.ntmps50
    go_wp2_with fail
    refine (HC.out _ (by simp) (H.out.alloc (Nat.le_refl _) _)).mono ?_
    rintro e w1 ⟨rfl, hb⟩
    have q1 : w1.cell? ⟨w.heap.size, 0, none⟩ = some (.slice A n c) := (hb.cell (p := ⟨w.heap.size, 0, none⟩) (by simp)).trans (by go_simp)
    have HG1 := Lib.hid ((H.out.alloc (Nat.le_refl _) (.cells #[.slice A n c] 33)).below hb (by simp))
    have HX1 := Lib.hid ((HX.out.alloc (Nat.le_refl _) (.cells #[.slice A n c] 33)).below hb (by simp))
    have HY1 := Lib.hid ((HY.out.alloc (Nat.le_refl _) (.cells #[.slice A n c] 33)).below hb (by simp))
    have hB1 : Below w.heap.size w w1 := ((Below.refl _ _).alloc (Nat.le_refl _) _).trans (hb.mono (by simp))
    have hl1 : w.heap.size < w1.heap.size := by have := hb.size; simp at this; omega
    clear hb
    go_wp2
    go_ret
    exact RetI.nil (hB1)
  · cases b1
    · go_enter Try.func50, Try.ntmps50
      go_wp2_with fail
      refine (HC.out _ (by simp) (H.out.alloc (Nat.le_refl _) _)).mono ?_
      rintro e w1 ⟨rfl, hb⟩
      have q1 : w1.cell? ⟨w.heap.size, 0, none⟩ = some (.slice A n c) := (hb.cell (p := ⟨w.heap.size, 0, none⟩) (by simp)).trans (by go_simp)
      have HG1 := Lib.hid ((H.out.alloc (Nat.le_refl _) (.cells #[.slice A n c] 33)).below hb (by simp))
      have HX1 := Lib.hid ((HX.out.alloc (Nat.le_refl _) (.cells #[.slice A n c] 33)).below hb (by simp))
      have HY1 := Lib.hid ((HY.out.alloc (Nat.le_refl _) (.cells #[.slice A n c] 33)).below hb (by simp))
      have hB1 : Below w.heap.size w w1 := ((Below.refl _ _).alloc (Nat.le_refl _) _).trans (hb.mono (by simp))
      have hl1 : w.heap.size < w1.heap.size := by have := hb.size; simp at this; omega
      clear hb
      go_wp2_with fail
      refine (HDX.out _ hB1.size HG1.out HX1.out).mono ?_
      rintro e w2 ⟨rfl, hb⟩
      have q2 := (hb.cell (p := ⟨w.heap.size, 0, none⟩) hl1).trans q1
      have HG2 := Lib.hid (HG1.out.below hb hB1.size)
      have HX2 := Lib.hid (HX1.out.below hb hB1.size)
      have HY2 := Lib.hid (HY1.out.below hb hB1.size)
      have hB2 := hB1.trans (hb.mono hB1.size)
      have hl2 : w.heap.size < w2.heap.size := Nat.lt_of_lt_of_le hl1 hb.size
      go_wp2
      go_ret
      exact RetI.nil (hB2)
    · cases b2
      · go_enter Try.func50, Try.ntmps50
        go_wp2_with fail
        refine (HC.out _ (by simp) (H.out.alloc (Nat.le_refl _) _)).mono ?_
        rintro e w1 ⟨rfl, hb⟩
        have q1 : w1.cell? ⟨w.heap.size, 0, none⟩ = some (.slice A n c) := (hb.cell (p := ⟨w.heap.size, 0, none⟩) (by simp)).trans (by go_simp)
        have HG1 := Lib.hid ((H.out.alloc (Nat.le_refl _) (.cells #[.slice A n c] 33)).below hb (by simp))
        have HX1 := Lib.hid ((HX.out.alloc (Nat.le_refl _) (.cells #[.slice A n c] 33)).below hb (by simp))
        have HY1 := Lib.hid ((HY.out.alloc (Nat.le_refl _) (.cells #[.slice A n c] 33)).below hb (by simp))
        have hB1 : Below w.heap.size w w1 := ((Below.refl _ _).alloc (Nat.le_refl _) _).trans (hb.mono (by simp))
        have hl1 : w.heap.size < w1.heap.size := by have := hb.size; simp at this; omega
        clear hb
        go_wp2_with fail
        refine (HDX.out _ hB1.size HG1.out HX1.out).mono ?_
        rintro e w2 ⟨rfl, hb⟩
        have q2 := (hb.cell (p := ⟨w.heap.size, 0, none⟩) hl1).trans q1
        have HG2 := Lib.hid (HG1.out.below hb hB1.size)
        have HX2 := Lib.hid (HX1.out.below hb hB1.size)
        have HY2 := Lib.hid (HY1.out.below hb hB1.size)
        have hB2 := hB1.trans (hb.mono hB1.size)
        have hl2 : w.heap.size < w2.heap.size := Nat.lt_of_lt_of_le hl1 hb.size
        clear hb
        go_wp2_with fail
        refine (HDY.out _ hB2.size HG2.out HY2.out).mono ?_
        rintro e w3 ⟨rfl, hb⟩
        have q3 := (hb.cell (p := ⟨w.heap.size, 0, none⟩) hl2).trans q2
        have HG3 := Lib.hid (HG2.out.below hb hB2.size)
        have HX3 := Lib.hid (HX2.out.below hb hB2.size)
        have HY3 := Lib.hid (HY2.out.below hb hB2.size)
        have hB3 := hB2.trans (hb.mono hB2.size)
        have hl3 : w.heap.size < w3.heap.size := Nat.lt_of_lt_of_le hl2 hb.size
        go_wp2
        go_ret
        exact RetI.nil (hB3)
      · go_enter Try.func50, Try.ntmps50
        go_wp2_with fail
        refine (HC.out _ (by simp) (H.out.alloc (Nat.le_refl _) _)).mono ?_
        rintro e w1 ⟨rfl, hb⟩
        have q1 : w1.cell? ⟨w.heap.size, 0, none⟩ = some (.slice A n c) := (hb.cell (p := ⟨w.heap.size, 0, none⟩) (by simp)).trans (by go_simp)
        have HG1 := Lib.hid ((H.out.alloc (Nat.le_refl _) (.cells #[.slice A n c] 33)).below hb (by simp))
        have HX1 := Lib.hid ((HX.out.alloc (Nat.le_refl _) (.cells #[.slice A n c] 33)).below hb (by simp))
        have HY1 := Lib.hid ((HY.out.alloc (Nat.le_refl _) (.cells #[.slice A n c] 33)).below hb (by simp))
        have hB1 : Below w.heap.size w w1 := ((Below.refl _ _).alloc (Nat.le_refl _) _).trans (hb.mono (by simp))
        have hl1 : w.heap.size < w1.heap.size := by have := hb.size; simp at this; omega
        clear hb
        go_wp2_with fail
        refine (HDX.out _ hB1.size HG1.out HX1.out).mono ?_
        rintro e w2 ⟨rfl, hb⟩
        have q2 := (hb.cell (p := ⟨w.heap.size, 0, none⟩) hl1).trans q1
        have HG2 := Lib.hid (HG1.out.below hb hB1.size)
        have HX2 := Lib.hid (HX1.out.below hb hB1.size)
        have HY2 := Lib.hid (HY1.out.below hb hB1.size)
        have hB2 := hB1.trans (hb.mono hB1.size)
        have hl2 : w.heap.size < w2.heap.size := Nat.lt_of_lt_of_le hl1 hb.size
        clear hb
        go_wp2_with fail
        refine (HDY.out _ hB2.size HG2.out HY2.out).mono ?_
        rintro e w3 ⟨rfl, hb⟩
        have q3 := (hb.cell (p := ⟨w.heap.size, 0, none⟩) hl2).trans q2
        have HG3 := Lib.hid (HG2.out.below hb hB2.size)
        have HX3 := Lib.hid (HX2.out.below hb hB2.size)
        have HY3 := Lib.hid (HY2.out.below hb hB2.size)
        have hB3 := hB2.trans (hb.mono hB2.size)
        have hl3 : w.heap.size < w3.heap.size := Nat.lt_of_lt_of_le hl2 hb.size
        clear hb
        clear q1 q2 HG1 HG2 HX1 HX2 HY1 HY2 hB1 hB2 hl1 hl2 HC HDX HDY
        go_wp2_with fail
        go_region_held3 (fun w' => w'.cell? ⟨w.heap.size, 0, none⟩ = some (.slice A n c)) (first | exact q3 | exact q4 | exact q5)
          (first
            | (go_at_call_of 52 (Value.slice A1 m1 c1); refine (HMX.out _ ?_ ?_ ?_ ?_).mono ?_; exact hB3.size; exact HG3.out; exact HX3.out; trivial; rintro e w4 ⟨v4, rfl, ho, hb'⟩; have hb4 : Below w3.heap.size w3 w4 := below_of_drew hb'; obtain ⟨A4, c4, rfl, hI4⟩ := OwnI.at_ ho HL1.out; have HI4 := Lib.hid hI4; have q4 := (hb4.cell (p := ⟨w.heap.size, 0, none⟩) hl3).trans q3; have HG4 := Lib.hid (HG3.out.below hb4 hB3.size); have HY4 := Lib.hid (HY3.out.below hb4 hB3.size); have hB4 := hB3.trans (hb4.mono hB3.size); have hl4 : w.heap.size < w4.heap.size := Nat.lt_of_lt_of_le hl3 hb4.size; clear ho hb' hI4)
            | (go_at_call_of 52 (Value.slice A2 m2 c2); refine (HMY.out _ ?_ ?_ ?_ ?_).mono ?_; exact hB4.size; exact HG4.out; exact HY4.out; trivial; rintro e w5 ⟨v5, rfl, ho, hb5⟩; obtain ⟨A5, c5, rfl, hI5⟩ := OwnI.at_ ho HL2.out; have HI5 := Lib.hid hI5; have q5 := (hb5.cell (p := ⟨w.heap.size, 0, none⟩) hl4).trans q4; have HI6 := Lib.hid ((HI4.out.below hb5 (Nat.le_refl _)).more (B' := w5.heap.size) hb5.size); have hB5 := hB4.trans (hb5.mono hB4.size); clear ho hI5)
            | (go_at_call 53; refine (spec_differing A4 A5 n c4 c5 MX MY w5 w5.heap.size ?_ HL1.out.symm HL2.out.symm ?_ ?_ ?_).mono ?_; exact Nat.le_refl _; exact HI6.out; exact HI5.out; omega; rintro e w6 ⟨v, rfl, ho, hb⟩; have q5 := (hb.cell (p := ⟨w.heap.size, 0, none⟩) (Nat.lt_of_lt_of_le hl4 hb5.size)).trans q5))
        go_wp2
        go_ret
        exact ⟨v, by simp, own_mono ho hB5.size, hB5.trans (hb.mono hB5.size)⟩
set_option maxRecDepth 100000 in
set_option maxHeartbeats 3200000 in
theorem top_impl_ChangedBy (gs : List Nd) (xs ys : List Int) (hG : GB gs) (hL : xs.length ≤ 1048576) (hL2 : ys.length ≤ 1048576) : ∀ (A : Option Addr) (n c : Nat) (A1 : Option Addr) (m1 c1 : Nat) (A2 : Option Addr) (m2 c2 : Nat) (w : World), n = gs.length → n ≤ c → GS w w.heap.size A gs → m1 = xs.length → IS w w.heap.size A1 xs → m2 = ys.length → IS w w.heap.size A2 ys →
    Calls Try.prog 51 #[.agg #[.slice A n c], .slice A1 m1 c1, .slice A2 m2 c2] w fun e w' => RetI w (chgF gs xs ys) e w' := by
  intro A n c A1 m1 c1 A2 m2 c2 w hn hnc h hx h1 hy h2
  have hm1 : m1 ≤ 2000000 := by omega
  have hm2 : m2 ≤ 2000000 := by omega
  have hn1 : n ≤ 1048576 := by rw [hn]; exact hG.1
  have H := Lib.hid h
  have HX := Lib.hid h1
  have HY := Lib.hid h2
  have HN := Lib.hid hn
  have HDX := Lib.hid fun (w' : World) (hB : w.heap.size ≤ w'.heap.size) (h : GS w' w.heap.size A gs) (h' : IS w' w.heap.size A1 xs) => impl_ValidCells A A1 n c m1 c1 gs xs w' w.heap.size hB hn hnc hx h h' hG hm1
  have HDY := Lib.hid fun (w' : World) (hB : w.heap.size ≤ w'.heap.size) (h : GS w' w.heap.size A gs) (h' : IS w' w.heap.size A2 ys) => impl_ValidCells A A2 n c m2 c2 gs ys w' w.heap.size hB hn hnc hy h h' hG hm2
  have HMX := Lib.hid fun (w' : World) (hB : w.heap.size ≤ w'.heap.size) (h : GS w' w.heap.size A gs) (h' : IS w' w.heap.size A1 xs) => impl_MeaningOf A A1 n c m1 c1 gs xs w' w.heap.size hB hn hnc hx h h' hG hm1
  have HMY := Lib.hid fun (w' : World) (hB : w.heap.size ≤ w'.heap.size) (h : GS w' w.heap.size A gs) (h' : IS w' w.heap.size A2 ys) => impl_MeaningOf A A2 n c m2 c2 gs ys w' w.heap.size hB hn hnc hy h h' hG hm2
  have hml1 := mean_len gs xs
  have hml2 := mean_len gs ys
  have hb12 : chgB gs xs ys = (okC gs xs && okC gs ys) := by unfold chgB okC; cases validG gs <;> cases validC gs xs <;> simp
  have hf : chgF gs xs ys = if okC gs xs && okC gs ys then diffTo (mean gs xs) (mean gs ys) n else [] := by unfold chgF; rw [hb12, hn]
  rw [hf]
  rw [← hn] at hml1 hml2
  have HL1 := Lib.hid hml1
  have HL2 := Lib.hid hml2
  have hmx : meanF gs xs = if okC gs xs then mean gs xs else [] := rfl
  have hmy : meanF gs ys = if okC gs ys then mean gs ys else [] := rfl
  rw [hmx] at HMX
  rw [hmy] at HMY
  clear hf h h1 h2 hn hx hy hG hml1 hml2 hb12 hmx hmy
  generalize okC gs xs = b1 at *
  generalize okC gs ys = b2 at *
  generalize mean gs xs = MX at *
  generalize mean gs ys = MY at *
  cases b1
  · go_enter Try.func51, Try.ntmps51
    go_wp2_with fail
    refine (HDX.out _ (by simp) (H.out.alloc (Nat.le_refl _) _) (HX.out.alloc (Nat.le_refl _) _)).mono ?_
    rintro e w1 ⟨rfl, hb⟩
    have q1 : w1.cell? ⟨w.heap.size, 0, none⟩ = some (.slice A n c) := (hb.cell (p := ⟨w.heap.size, 0, none⟩) (by simp)).trans (by go_simp)
    have HG1 := Lib.hid ((H.out.alloc (Nat.le_refl _) (.cells #[.slice A n c] 33)).below hb (by simp))
    have HX1 := Lib.hid ((HX.out.alloc (Nat.le_refl _) (.cells #[.slice A n c] 33)).below hb (by simp))
    have HY1 := Lib.hid ((HY.out.alloc (Nat.le_refl _) (.cells #[.slice A n c] 33)).below hb (by simp))
    have hB1 : Below w.heap.size w w1 := ((Below.refl _ _).alloc (Nat.le_refl _) _).trans (hb.mono (by simp))
    have hl1 : w.heap.size < w1.heap.size := by have := hb.size; simp at this; omega
    clear hb
    go_wp2
    go_ret
    exact RetI.nil (hB1)
  · cases b2
    · go_enter Try.func51, Try.ntmps51
      go_wp2_with fail
      refine (HDX.out _ (by simp) (H.out.alloc (Nat.le_refl _) _) (HX.out.alloc (Nat.le_refl _) _)).mono ?_
      rintro e w1 ⟨rfl, hb⟩
      have q1 : w1.cell? ⟨w.heap.size, 0, none⟩ = some (.slice A n c) := (hb.cell (p := ⟨w.heap.size, 0, none⟩) (by simp)).trans (by go_simp)
      have HG1 := Lib.hid ((H.out.alloc (Nat.le_refl _) (.cells #[.slice A n c] 33)).below hb (by simp))
      have HX1 := Lib.hid ((HX.out.alloc (Nat.le_refl _) (.cells #[.slice A n c] 33)).below hb (by simp))
      have HY1 := Lib.hid ((HY.out.alloc (Nat.le_refl _) (.cells #[.slice A n c] 33)).below hb (by simp))
      have hB1 : Below w.heap.size w w1 := ((Below.refl _ _).alloc (Nat.le_refl _) _).trans (hb.mono (by simp))
      have hl1 : w.heap.size < w1.heap.size := by have := hb.size; simp at this; omega
      clear hb
      go_wp2_with fail
      refine (HDY.out _ hB1.size HG1.out HY1.out).mono ?_
      rintro e w2 ⟨rfl, hb⟩
      have q2 := (hb.cell (p := ⟨w.heap.size, 0, none⟩) hl1).trans q1
      have HG2 := Lib.hid (HG1.out.below hb hB1.size)
      have HX2 := Lib.hid (HX1.out.below hb hB1.size)
      have HY2 := Lib.hid (HY1.out.below hb hB1.size)
      have hB2 := hB1.trans (hb.mono hB1.size)
      have hl2 : w.heap.size < w2.heap.size := Nat.lt_of_lt_of_le hl1 hb.size
      clear hb q1 HG1 HX1 HY1
      go_wp2
      go_ret
      exact RetI.nil (hB2)
    · go_enter Try.func51, Try.ntmps51
      go_wp2_with fail
      refine (HDX.out _ (by simp) (H.out.alloc (Nat.le_refl _) _) (HX.out.alloc (Nat.le_refl _) _)).mono ?_
      rintro e w1 ⟨rfl, hb⟩
      have q1 : w1.cell? ⟨w.heap.size, 0, none⟩ = some (.slice A n c) := (hb.cell (p := ⟨w.heap.size, 0, none⟩) (by simp)).trans (by go_simp)
      have HG1 := Lib.hid ((H.out.alloc (Nat.le_refl _) (.cells #[.slice A n c] 33)).below hb (by simp))
      have HX1 := Lib.hid ((HX.out.alloc (Nat.le_refl _) (.cells #[.slice A n c] 33)).below hb (by simp))
      have HY1 := Lib.hid ((HY.out.alloc (Nat.le_refl _) (.cells #[.slice A n c] 33)).below hb (by simp))
      have hB1 : Below w.heap.size w w1 := ((Below.refl _ _).alloc (Nat.le_refl _) _).trans (hb.mono (by simp))
      have hl1 : w.heap.size < w1.heap.size := by have := hb.size; simp at this; omega
      clear hb
      go_wp2_with fail
      refine (HDY.out _ hB1.size HG1.out HY1.out).mono ?_
      rintro e w2 ⟨rfl, hb⟩
      have q2 := (hb.cell (p := ⟨w.heap.size, 0, none⟩) hl1).trans q1
      have HG2 := Lib.hid (HG1.out.below hb hB1.size)
      have HX2 := Lib.hid (HX1.out.below hb hB1.size)
      have HY2 := Lib.hid (HY1.out.below hb hB1.size)
      have hB2 := hB1.trans (hb.mono hB1.size)
      have hl2 : w.heap.size < w2.heap.size := Nat.lt_of_lt_of_le hl1 hb.size
      clear hb q1 HG1 HX1 HY1
      go_wp2_with fail
      refine (HMX.out _ hB2.size HG2.out HX2.out).mono ?_
      rintro e w3 ⟨v3, rfl, ho, hb⟩
      obtain ⟨A3, c3, rfl, hI3⟩ := OwnI.at_ ho HL1.out
      have q3 := (hb.cell (p := ⟨w.heap.size, 0, none⟩) hl2).trans q2
      have HI3 := Lib.hid ((hI3.alloc (Nat.le_refl _) (.cells #[.slice A3 n c3] 40)))
      have HG3 := Lib.hid ((HG2.out.below hb hB2.size).alloc (Nat.le_trans hB2.size hb.size) (.cells #[.slice A3 n c3] 40))
      have HY3 := Lib.hid ((HY2.out.below hb hB2.size).alloc (Nat.le_trans hB2.size hb.size) (.cells #[.slice A3 n c3] 40))
      have hB3 := (hB2.trans (hb.mono hB2.size))
      have hl3 : w.heap.size < w3.heap.size := Nat.lt_of_lt_of_le hl2 hb.size
      clear hb q2 HG2 HX2 HY2 ho hI3
      go_wp2_with fail
      refine (HMY.out _ (by simp; omega) HG3.out HY3.out).mono ?_
      rintro e w4 ⟨v4, rfl, ho, hb⟩
      obtain ⟨A4, c4, rfl, hI4⟩ := OwnI.at_ ho HL2.out
      have hl4 : w3.heap.size + 1 ≤ w4.heap.size := by have := hb.size; simpa using this
      have q4 := (hb.cell (p := ⟨w.heap.size, 0, none⟩) (by simp; omega)).trans ((World.cell?_alloc_lt _ _ ⟨w.heap.size, 0, none⟩ hl3).trans q3)
      have p4 : w4.cell? ⟨w3.heap.size, 0, none⟩ = some (.slice A3 n c3) := (hb.cell (p := ⟨w3.heap.size, 0, none⟩) (by simp)).trans (by go_simp)
      have HI4 := Lib.hid (((HI3.out.below hb (by simp)).more (B' := w4.heap.size) (by omega)).alloc (Nat.le_refl _) (.cells #[.slice A4 n c4] 40))
      have HJ4 := Lib.hid (hI4.alloc (Nat.le_refl _) (.cells #[.slice A4 n c4] 40))
      have hB4 := ((hB3.alloc hB3.size (.cells #[.slice A3 n c3] 40)).trans (hb.mono (by simp; omega)))
      have hB5 := Lib.hid (hB4.alloc hB4.size (.cells #[.slice A4 n c4] 40))
      clear hb ho hI4 q3 HG3 HY3 HI3
      have HNW := Lib.hid (impl_nodesWhere2 74 (.pointer (some ⟨w3.heap.size, 0, none⟩)) (.pointer (some ⟨w4.heap.size, 0, none⟩)) (fun i => !(MX.getD i 0 == MY.getD i 0))
        (fun w' => w4.heap.size < w'.heap.size ∧ w'.cell? ⟨w3.heap.size, 0, none⟩ = some (.slice A3 n c3) ∧ w'.cell? ⟨w4.heap.size, 0, none⟩ = some (.slice A4 n c4) ∧ IS w' w'.heap.size A3 MX ∧ IS w' w'.heap.size A4 MY) A n c (by omega)
        (fun wa wb h hb => ⟨Nat.lt_of_lt_of_le h.1 hb.size, (hb.cell (p := ⟨w3.heap.size, 0, none⟩) (by have := h.1; show w3.heap.size < wa.heap.size; omega)).trans h.2.1, (hb.cell (p := ⟨w4.heap.size, 0, none⟩) h.1).trans h.2.2.1, h.2.2.2.1.step hb, h.2.2.2.2.step hb⟩)
        (fun q w => by kernel_rfl)
        (fun q wa hq h => differ_at w3.heap.size w4.heap.size A3 A4 n c3 c4 q MX MY wa HL1.out.symm HL2.out.symm hq h.2.1 h.2.2.1 h.2.2.2.1 h.2.2.2.2)
        (w4.alloc (.cells #[.slice A4 n c4] 40)) ⟨by simp, (World.cell?_alloc_lt _ _ ⟨w3.heap.size, 0, none⟩ (by show w3.heap.size < w4.heap.size; omega)).trans p4, by go_simp, HI4.out.more (by simp), HJ4.out.more (by simp)⟩)
      rw [nwTo_diff] at HNW
      have hlt4 : w.heap.size < w4.heap.size := by omega
      go_wp2_with fail
      refine HNW.out.mono ?_
      rintro e w6 ⟨v, rfl, ho, hb⟩
      go_wp2
      go_ret
      exact ⟨v, by simp, own_mono ho hB5.out.size, hB5.out.trans (hb.mono hB5.out.size)⟩
end Go.Proofs.Ytlliomnfbgdpfaa

namespace Go.Proofs.Ytlliomnfbgdpfaa
set_option linter.unusedSimpArgs false
set_option linter.unusedVariables false
def Tm.size : Tm → Nat
  | .num _ => 1
  | .rd _ => 1
  | .pr _ l r => l.size + r.size + 1
  | .ch t a b => t.size + a.size + b.size + 1
/-- The part of a term, for the parts below it at some indices. -/
def Tm.own : Tm → List Int → Pt
  | .num v, _ => ⟨0, -1, -1, -1, v⟩
  | .rd v, _ => ⟨1, -1, -1, -1, v⟩
  | .pr K _ _, at_ => ⟨K, at_.getD 0 0, at_.getD 1 0, -1, 0⟩
  | .ch _ _ _, at_ => ⟨8, at_.getD 0 0, at_.getD 1 0, at_.getD 2 0, 0⟩
end Go.Proofs.Ytlliomnfbgdpfaa
