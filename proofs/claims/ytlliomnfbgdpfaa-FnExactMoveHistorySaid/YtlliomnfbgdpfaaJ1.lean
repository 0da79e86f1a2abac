/- Histories (lists of cells, and where they are): words for memory; the laws' own copies, sizes, comparisons and marks. -/
import Derived.Test.YtlliomnfbgdpfaaS0

namespace Go.Proofs.Ytlliomnfbgdpfaa
set_option linter.unusedSimpArgs false
set_option linter.unusedVariables false
open Go.RowKit

structure Hi where
  ss : List (List Int)
  ix : Int
deriving DecidableEq, Inhabited

def hsz (e : Hi) : Nat := e.ss.length + (e.ss.map List.length).sum
/-- No more lists and numbers than a million. -/
def HiB (e : Hi) : Prop := e.ss.length ≤ 1048576 ∧ SB e.ss ∧ (e.ss.map List.length).sum ≤ 1048576

theorem HiB.of_hsz {e : Hi} (h : hsz e ≤ 1048576) : HiB e := by
  unfold hsz at h
  exact ⟨by omega, SB.of_sum (by omega) (by omega), by omega⟩

/-- The slice at A reads as the states of e; all of it lies below block B. -/
def HiS (w : World) (B : Nat) (A : Option Addr) (e : Hi) : Prop := SS w B A e.ss
theorem HiS.loc (B : Nat) (A : Option Addr) (e : Hi) : Loc 0 B fun w => HiS w B A e := SS.loc B A e.ss
theorem HiS.step {A : Option Addr} {e : Hi} {wk wl : World} (h : HiS wk wk.heap.size A e) (hb : Below wk.heap.size wk wl) : HiS wl wl.heap.size A e := SS.step h hb

/-- A history of the call's own. -/
def OwH (lo hi : Nat) (A : Option Addr) (n c : Nat) (st : Hi) (w : World) : Prop := OwSS lo hi (.slice A n c) n st.ss w
def MkH (lo hi : Nat) (A : Option Addr) (n c : Nat) (st : Hi) (k : Int) (w : World) : Prop := MkSS lo hi (.slice A n c) n st.ss k w
/-- Returns a history in fresh blocks. -/
def RetH (w : World) (st : Hi) (e : Ending) (w' : World) : Prop := ∃ A n c, e = .returned (.agg #[.slice A n c, .int .i64 st.ix]) ∧ OwH w.heap.size w'.heap.size A n c st w' ∧ Below w.heap.size w w'
theorem OwH.hist {lo hi n c : Nat} {A : Option Addr} {st : Hi} {w : World} (h : OwH lo hi A n c st w) : HiS w hi A st := OwSS.lists h
theorem hist_start {lo n c : Nat} {A : Option Addr} {st : Hi} {w : World} (h : OwH lo w.heap.size A n c st w) : As lo w.heap.size (OwH lo w.heap.size A n c st) w := ⟨h, Nat.le_refl _, OwSS.loc _ _ _ _ _⟩
theorem As.hist {lo hi n c : Nat} {A : Option Addr} {st : Hi} {w : World} (h : As lo hi (OwH lo hi A n c st) w) : HiS w w.heap.size A st := (OwH.hist h.it).more h.le
theorem OwH.nil (lo hi : Nat) (w : World) : OwH lo hi none 0 0 ⟨[], 0⟩ w := OwSS.nil _ _ _
theorem RetH.nil {w w' : World} (hb : Below w.heap.size w w') : RetH w ⟨[], 0⟩ (.returned (.agg #[.slice none 0 0, .int .i64 0])) w' := ⟨_, _, _, rfl, OwH.nil _ _ _, hb⟩
theorem OwSS.setCell {lo hi n : Nat} {v : Value} {xss : List (List Int)} {w : World} (h : OwSS lo hi v n xss w) {a : Addr} (ha : a.block < lo) (u : Value) : OwSS lo hi v n xss (w.setCell a u) :=
  OwSS.loc _ _ _ _ _ _ _ h fun k hk _ => Below.heap_setCell _ _ _ _ (by omega)

set_option maxRecDepth 100000 in
set_option maxHeartbeats 1600000 in
theorem laws_toHistory (A : Option Addr) (n c : Nat) (st : Hi) (w : World) (B : Nat) (hB : B ≤ w.heap.size) (hn : n = st.ss.length) (h : HiS w B A st) (hb : HiB st) :
    Calls Try.prog 12 #[.agg #[.slice A n c, .int .i64 st.ix]] w fun e w' => RetH w st e w' := by
  have H1 := Lib.hid h
  have HC1 := Lib.hid fun (w : World) (hB : B ≤ w.heap.size) (h : SS w B A st.ss) => laws_toIntSS A n c st.ss w B hB hn h hb.2.1
  have HN := Lib.hid hn
  obtain ⟨ss, ix⟩ := st
  clear hn h hb
  dsimp only at *
  go_enter Try.func12, Try.ntmps12
  go_wp2_with fail
  refine (HC1.out _ (by simp; omega) (((SS.alloc H1.out hB _).alloc (by simp; omega) _).alloc (by simp; omega) _)).mono ?_
  rintro e w1 ⟨v1, rfl, hown, hb⟩
  rw [← HN.out] at hown
  obtain ⟨A3, c3, rfl⟩ := hown.form
  obtain ⟨hc, hf⟩ := bcell hb
  have hw1 : w.heap.size + 3 ≤ w1.heap.size := by have := hb.size; simp at this; omega
  have p1 : w1.cell? ⟨w.heap.size, 1, none⟩ = some (.int .i64 ix) := by rw [hc _ _ (by simp; omega)]; go_simp
  have q1 : w1.cell? ⟨w.heap.size + 1, 0, none⟩ = some (.slice none 0 0) := by rw [hc _ _ (by simp)]; go_simp
  have q2 : w1.cell? ⟨w.heap.size + 1, 1, none⟩ = some (.int .i64 0) := by rw [hc _ _ (by simp)]; go_simp
  have q3 : w1.cell? ⟨w.heap.size + 1 + 1, 0, none⟩ = some (.slice none 0 0) := by rw [hc _ _ (by simp)]; go_simp
  have q4 : w1.cell? ⟨w.heap.size + 1 + 1, 1, none⟩ = some (.int .i64 0) := by rw [hc _ _ (by simp)]; go_simp
  have f1 : w1.frozen? ⟨w.heap.size + 1, 0, none⟩ = false := by rw [hf _ _ (by simp)]; go_simp
  have f2 : w1.frozen? ⟨w.heap.size + 1, 1, none⟩ = false := by rw [hf _ _ (by simp)]; go_simp
  have f3 : w1.frozen? ⟨w.heap.size + 1 + 1, 0, none⟩ = false := by rw [hf _ _ (by simp)]; go_simp
  have f4 : w1.frozen? ⟨w.heap.size + 1 + 1, 1, none⟩ = false := by rw [hf _ _ (by simp)]; go_simp
  have HO := Lib.hid (hown.mono (lo' := w.heap.size + 1 + 1 + 1) (by simp) (Nat.le_refl _))
  have HB1 := Lib.hid ((((Below.refl _ _).alloc (Nat.le_refl _) _).alloc (by simp) _).alloc (by simp; omega) _ |>.trans (hb.mono (by simp; omega)))
  clear hown hb hc hf
  go_wp2
  refine bodyPost_ret (v := .agg #[.slice A3 n c3, .int .i64 ix]) (by simp [results, Try.results12, go_sem, q1, q2, q3, q4]) rfl ?_
  have o1 := HO.out.setCell (a := ⟨w.heap.size + 1 + 1, 0, none⟩) (by simp) (.slice A3 n c3)
  have o2 := o1.setCell (a := ⟨w.heap.size + 1 + 1, 1, none⟩) (by simp) (.int .i64 ix)
  have o3 := o2.setCell (a := ⟨w.heap.size + 1, 0, none⟩) (by simp) (.slice A3 n c3)
  have o4 := o3.setCell (a := ⟨w.heap.size + 1, 1, none⟩) (by simp) (.int .i64 ix)
  refine ⟨_, _, _, rfl, ?_, (((HB1.out.setCell (by simp; omega) _).setCell (by simp; omega) _).setCell (by simp) _).setCell (by simp) _⟩
  have o5 := o4.mono (lo' := w.heap.size) (hi' := w1.heap.size) (by omega) (Nat.le_refl _)
  simpa [World.setCell, OwH] using o5

set_option maxRecDepth 100000 in
set_option maxHeartbeats 800000 in
theorem laws_szHistory (A : Option Addr) (n c : Nat) (st : Hi) (l : Int) (w : World) (B : Nat) (hB : B ≤ w.heap.size) (hn : n = st.ss.length) (h : HiS w B A st) (hl0 : 0 ≤ l) (hl : l ≤ 2000000) (hm : n ≤ 9223372036854775807) (hp : ∀ j, (st.ss.getD j []).length ≤ 9223372036854775807) :
    Calls Try.prog 9 #[.agg #[.slice A n c, .int .i64 st.ix], .int .i64 l] w fun e w' => e = .returned (.int .i64 (leftOf l (hsz st))) ∧ Below w.heap.size w w' := by
  have H := Lib.hid h
  have HC1 := Lib.hid fun (w : World) (hB : B ≤ w.heap.size) (h : SS w B A st.ss) => laws_szIntSS A n c st.ss l w B hB hn h hl0 hl hm hp
  have hL : leftOf l (hsz st) = leftOf l (st.ss.length + (st.ss.map List.length).sum) := rfl
  rw [hL]
  have hL2 : leftOf l (st.ss.length + (st.ss.map List.length).sum) = -1 ∨ 0 ≤ leftOf l (st.ss.length + (st.ss.map List.length).sum) := by unfold leftOf; split <;> omega
  generalize leftOf l (st.ss.length + (st.ss.map List.length).sum) = L at *
  clear h hn hp hL
  rcases hL2 with rfl | hL2
  all_goals
    go_enter Try.func9, Try.ntmps9
    go_wp2_with fail
    refine (HC1.out _ (by simp; omega) (SS.alloc H.out hB _)).mono ?_
    rintro e w1 ⟨rfl, hb⟩
    go_wp2
    go_ret
    exact ⟨rfl, ((Below.refl _ _).alloc (Nat.le_refl _) _).trans (hb.mono (by simp))⟩

set_option maxRecDepth 100000 in
set_option maxHeartbeats 800000 in
theorem laws_eqHistory (A A' : Option Addr) (n c n' c' : Nat) (st st' : Hi) (w : World) (B : Nat) (hB : B ≤ w.heap.size) (hn : n = st.ss.length) (hn' : n' = st'.ss.length) (h : HiS w B A st) (h' : HiS w B A' st') (hb1 : HiB st) (hb2 : HiB st') :
    Calls Try.prog 15 #[.agg #[.slice A n c, .int .i64 st.ix], .agg #[.slice A' n' c', .int .i64 st'.ix]] w fun e w' => e = .returned (.bool (decide (st = st'))) ∧ Below w.heap.size w w' := by
  have hd : decide (st = st') = (decide (st.ss = st'.ss) && !(st.ix != st'.ix)) := by
    obtain ⟨a, b⟩ := st
    obtain ⟨a', b'⟩ := st'
    by_cases h1 : a = a' <;> by_cases h2 : b = b' <;> simp [h1, h2]
  rw [hd]
  have HC1 := Lib.hid fun (w : World) (hB : B ≤ w.heap.size) (h : SS w B A st.ss) (h' : SS w B A' st'.ss) => laws_eqIntSS A A' n n' c c' st.ss st'.ss w B hB hn hn' h h' hb1.2.1 hb2.2.1
  have H1 := Lib.hid (show SS w B A st.ss from h)
  have H1' := Lib.hid (show SS w B A' st'.ss from h')
  generalize decide (st.ss = st'.ss) = b1 at *
  generalize st.ix = x at *
  generalize st'.ix = y at *
  have hB' := hB
  clear hd hn hn' h h' hb1 hb2
  generalize hxy : (x != y) = z at *
  cases b1
  · go_enter Try.func15, Try.ntmps15
    go_wp2_with fail
    refine (HC1.out _ (by simp; omega) ((H1.out.alloc hB _).alloc (by simp; omega) _) ((H1'.out.alloc hB _).alloc (by simp; omega) _)).mono ?_
    rintro e w1 ⟨rfl, hb⟩
    go_wp2
    go_ret
    exact ⟨rfl, (((Below.refl _ _).alloc (Nat.le_refl _) _).alloc (by simp) _).trans (hb.mono (by simp; omega))⟩
  · cases z
    all_goals
      go_enter Try.func15, Try.ntmps15
      go_wp2_with fail
      refine (HC1.out _ (by simp; omega) ((H1.out.alloc hB _).alloc (by simp; omega) _) ((H1'.out.alloc hB _).alloc (by simp; omega) _)).mono ?_
      rintro e w1 ⟨rfl, hb⟩
      have q1 : w1.cell? ⟨w.heap.size, 1, none⟩ = some (.int .i64 x) := (hb.cell (p := ⟨w.heap.size, 1, none⟩) (by simp; omega)).trans (by go_simp)
      have q2 : w1.cell? ⟨w.heap.size + 1, 1, none⟩ = some (.int .i64 y) := (hb.cell (p := ⟨w.heap.size + 1, 1, none⟩) (by simp)).trans (by go_simp)
      go_wp2
      go_ret
      exact ⟨rfl, (((Below.refl _ _).alloc (Nat.le_refl _) _).alloc (by simp) _).trans (hb.mono (by simp; omega))⟩

set_option maxRecDepth 100000 in
set_option maxHeartbeats 800000 in
theorem mark_hist (lo hi : Nat) (A : Option Addr) (n c : Nat) (st : Hi) (k : Int) (w : World) (h : As lo hi (OwH lo hi A n c st) w) (hb : HiB st) (hk : 0 ≤ k) (hk' : k ≤ 562949953421312) :
    Calls Try.prog 22 #[.agg #[.slice A n c, .int .i64 st.ix], .int .i64 k] w fun e w' => MkS lo hi (MkH lo hi A n c st k) w (k + ((st.ss.map List.length).sum : Nat)) e w' := by
  have h2 := h.alloc (.cells #[.slice A n c, .int .i64 st.ix] 35)
  have HC := Lib.hid (mark_lists lo hi n (.slice A n c) st.ss k _ h2 hb.2.1 hb.2.2 hk hk')
  have hT : Tch lo hi w (w.alloc (.cells #[.slice A n c, .int .i64 st.ix] 35)) := Tch.of_below ((Below.refl _ _).alloc (Nat.le_refl _) _)
  have HT := Lib.hid hT
  have hsm := hb.2.2
  generalize hT' : ((st.ss.map List.length).sum : Nat) = t at *
  have HTT := Lib.hid hT'
  clear h h2 hb hT hT'
  go_enter Try.func22, Try.ntmps22
  go_wp2_with fail
  refine HC.out.mono ?_
  rintro e w1 ⟨rfl, hg, ht⟩
  have HG := Lib.hid hg
  have HT1 := Lib.hid (HT.out.trans ht)
  clear hg ht HC
  go_wp2
  go_ret
  exact ⟨rfl, HG.out, HT1.out⟩

set_option maxRecDepth 100000 in
set_option maxHeartbeats 800000 in
theorem held_hist (lo hi : Nat) (A : Option Addr) (n c : Nat) (st : Hi) (k : Int) (w : World) (h : As lo hi (MkH lo hi A n c st k) w) (hb : HiB st) (hk : 0 ≤ k) (hk' : k ≤ 562949953421312) :
    Calls Try.prog 23 #[.agg #[.slice A n c, .int .i64 st.ix], .int .i64 k] w fun e w' => e = .returned (.int .i64 (k + ((st.ss.map List.length).sum : Nat))) ∧ Below w.heap.size w w' := by
  have h2 := h.alloc (.cells #[.slice A n c, .int .i64 st.ix] 35)
  have HC := Lib.hid (held_lists lo hi n (.slice A n c) st.ss k _ h2 hb.2.1 hb.2.2 hk hk')
  have hsm := hb.2.2
  generalize hT' : ((st.ss.map List.length).sum : Nat) = t at *
  have HTT := Lib.hid hT'
  clear h h2 hb hT'
  go_enter Try.func23, Try.ntmps23
  go_wp2_with fail
  refine HC.out.mono ?_
  rintro e w1 ⟨rfl, hb⟩
  have hpos : ¬ k + (t : Int) < 0 := by omega
  go_wp2
  go_ret
  exact ⟨rfl, ((Below.refl _ _).alloc (Nat.le_refl _) _).trans (hb.mono (by simp))⟩

theorem markw_hist (lo hi : Nat) (A : Option Addr) (n c : Nat) (st : Hi) (k : Int) (w : World) (h : As lo hi (OwH lo hi A n c st) w) (hb : HiB st) (hk : 0 ≤ k) (hk' : k ≤ 562949953421312) :
    Calls Try.prog 22 #[.agg #[.slice A n c, .int .i64 st.ix], .int .i64 k] w fun e w' => MkW lo hi w k (k + 6000000000000) e w' := by
  refine (mark_hist lo hi A n c st k w h hb hk hk').mono ?_
  rintro e w' ⟨he, _, ht⟩
  have := hb.2.2
  exact ⟨_, he, by omega, by omega, ht⟩
end Go.Proofs.Ytlliomnfbgdpfaa
