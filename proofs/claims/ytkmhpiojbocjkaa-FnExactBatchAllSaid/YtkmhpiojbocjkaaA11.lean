/- Places in lists, first occurrences, the nodes that a formula has; whether values serve a formula. -/
import Derived.Test.YtkmhpiojbocjkaaA10
import Derived.Test.YtkmhpiojbocjkaaM2
namespace Go.Proofs.Ytkmhpiojbocjkaa
set_option linter.unusedSimpArgs false
set_option linter.unusedVariables false
open Go.RowKit

/-- The first index of a number, -1 if it is not there. -/
def plc (l : List Int) (x : Int) : Int := if x ∈ l then (l.idxOf x : Int) else -1

theorem plc_lt (l : List Int) (x : Int) : decide (plc l x < 0) = !decide (x ∈ l) := by
  unfold plc
  by_cases h : x ∈ l
  · simp [h]
  · simp [h]

theorem plc_at (l : List Int) (x : Int) (k : Nat) (h : k < l.length) (hx : l.getD k 0 = x) (hn : ∀ j, j < k → l.getD j 0 ≠ x) : plc l x = k := by
  unfold plc
  have hm : x ∈ l := by rw [← hx]; simp [List.getD, h]
  rw [if_pos hm]
  congr 1
  apply Nat.le_antisymm
  · rcases Nat.lt_or_ge k (l.idxOf x) with h1 | h1
    · exfalso
      have h2 := List.not_of_lt_findIdx (p := (· == x)) (xs := l) (i := k) h1
      simp [List.getD, h] at hx
      simp [hx] at h2
    · exact h1
  · rcases Nat.lt_or_ge (l.idxOf x) k with h1 | h1
    · exfalso
      have h2 := List.getElem_idxOf (List.idxOf_lt_length_of_mem hm)
      have h3 := hn _ h1
      simp [List.getD, List.idxOf_lt_length_of_mem hm] at h3
    · exact h1

theorem plc_none (l : List Int) (x : Int) (hn : ∀ j, j < l.length → l.getD j 0 ≠ x) : plc l x = -1 := by
  unfold plc
  rw [if_neg]
  intro hm
  obtain ⟨k, hk, e⟩ := List.mem_iff_getElem.1 hm
  exact hn k hk (by simp [List.getD, hk, e])

/-- Numbers without those that came before. -/
def firsts (l : List Int) : List Int := l.foldl (fun acc x => if x ∈ acc then acc else acc ++ [x]) []

theorem firsts_step (l : List Int) (k : Nat) (x : Int) (h : k < l.length) (hx : l.getD k 0 = x) : firsts (l.take (k + 1)) = if x ∈ firsts (l.take k) then firsts (l.take k) else firsts (l.take k) ++ [x] := by
  rw [take_succ_int l k x h hx]
  unfold firsts
  rw [List.foldl_append]
  rfl

theorem firsts_len (l : List Int) : (firsts l).length ≤ l.length := by
  have : ∀ (l acc : List Int), (l.foldl (fun acc x => if x ∈ acc then acc else acc ++ [x]) acc).length ≤ acc.length + l.length := by
    intro l
    induction l with
    | nil => intro acc; simp
    | cons y l ih =>
      intro acc
      rw [List.foldl_cons]
      split
      · have := ih acc; simp only [List.length_cons]; omega
      · have := ih (acc ++ [y]); simp only [List.length_cons, List.length_append, List.length_nil] at this ⊢; omega
  have h := this l []
  unfold firsts
  simpa using h

/-- A slice of the call's own that is not nil. -/
def OwnN (w : World) (base : Nat) (v : Value) (xs : List Int) : Prop := w.ownsRow base 3 1 v xs.length (xs.map (Value.int .i64)) ∧ v ≠ .slice none 0 0

theorem OwnN.form {w : World} {base : Nat} {v : Value} {xs : List Int} (h : OwnN w base v xs) : ∃ g c, v = .slice (some ⟨g, 0, none⟩) xs.length c ∧ base ≤ g ∧ g < w.heap.size := by
  rcases h.1.2 with ⟨hv, _⟩ | ⟨g, cap, cur, hv, hb, hh, _⟩
  · exact absurd hv h.2
  · refine ⟨g, cap, hv, hb, ?_⟩
    rcases Nat.lt_or_ge g w.heap.size with hlt | hge
    · exact hlt
    · rw [Array.getElem?_eq_none hge] at hh; cases hh

/-- Returns a fresh slice of numbers that is not nil. -/
def RetN (w : World) (xs : List Int) (e : Ending) (w' : World) : Prop := ∃ v, e = .returned v ∧ OwnN w' w.heap.size v xs ∧ Below w.heap.size w w'

/-- The nodes that a formula has, ascending. -/
def hasNode (ps : List Pt) (m : Nat) : Bool := ps.any fun p => p.k == 1 && p.n == (m : Int)

def mayR (ps : List Pt) : List Int := ((List.range 10).filter (hasNode ps)).map fun m : Nat => (m : Int)

theorem mayR_step (ps : List Pt) (m : Nat) : (((List.range (m + 1)).filter (hasNode ps)).map fun m : Nat => (m : Int)) = (((List.range m).filter (hasNode ps)).map fun m : Nat => (m : Int)) ++ (if hasNode ps m then [(m : Int)] else []) := by
  rw [List.range_succ, List.filter_append, List.map_append]
  congr 1
  cases h : hasNode ps m <;> simp [h]

theorem mayR_len (ps : List Pt) (m : Nat) : (((List.range m).filter (hasNode ps)).map fun m : Nat => (m : Int)).length ≤ m := by
  rw [List.length_map]
  have := List.length_filter_le (hasNode ps) (List.range m)
  simpa using this

set_option maxRecDepth 100000 in
set_option maxHeartbeats 1600000 in
theorem spec_mayRead (A : Option Addr) (n c : Nat) (ps : List Pt) (w : World) (B : Nat) (hB : B ≤ w.heap.size) (hn : n = ps.length) (h : PS w B A ps) (hs : n ≤ 2000000) :
    Calls Try.prog 70 #[.agg #[.slice A n c]] w fun e w' => RetN w (mayR ps) e w' := by
  obtain ⟨i0, hi, hz0, hz1, hz2⟩ := info_parts info_int
  have H := Lib.hid h
  have HN := Lib.hid hn
  clear hn h
  go_enter Try.func70, Try.ntmps70
  go_wp2
  go_loopw [3, 4] (fun v i wr => ∃ m : Nat, m ≤ 10 ∧ i = .int .i64 m ∧ Hid (OwnN wr (w.heap.size + 1) v (((List.range m).filter (hasNode ps)).map fun m : Nat => (m : Int))) ∧ Below (w.heap.size + 1) (w.alloc (.cells #[.slice A n c] 83)) wr) (fun _ i _ => 10 - (intOf i).toNat)
  case atStart =>
    refine ⟨0, by omega, rfl, ⟨?_, by simp⟩, (Below.refl _ _).alloc (by simp) _⟩
    have := World.ownsRow_lit (e := 3) (size := 1) (base := w.heap.size + 1) (w.alloc (.cells #[.slice A n c] 83)) #[] 0 (by simp) (by unfold maxLen; omega) rfl
    simpa using this
  case round =>
    obtain ⟨m, hm, rfl, HO, hb⟩ := hrel
    have hbox : wr.cell? ⟨w.heap.size, 0, none⟩ = some (.slice A n c) := (hb.cell (p := ⟨w.heap.size, 0, none⟩) (by simp)).trans (by go_simp)
    have hwr : w.heap.size + 1 ≤ wr.heap.size := by have := hb.size; simpa using this
    by_cases hlt : m < 10
    · have HST := Lib.hid (mayR_step ps m)
      have hml := mayR_len ps m
      generalize hF : (((List.range m).filter (hasNode ps)).map fun m : Nat => (m : Int)) = F at *
      clear hF
      go_wp2
      obtain ⟨wo, hwo⟩ : ∃ wo : World, wo = wr := ⟨_, rfl⟩
      go_loopw [3, 5] (fun v j wi => ∃ k : Nat, k ≤ n ∧ j = .int .i64 k ∧ Hid (OwnN wi (w.heap.size + 1) v F) ∧ Hid ((ps.take k).any (fun p => p.k == 1 && p.n == (m : Int)) = false) ∧ Below (w.heap.size + 1) (w.alloc (.cells #[.slice A n c] 83)) wi) (fun _ j _ => n - (intOf j).toNat)
      case atStart => exact ⟨0, Nat.zero_le _, rfl, HO.out, by simp [Hid], hb⟩
      case round =>
        clear hb hbox hwr hwo HO
        obtain ⟨k, hk, rfl, HO, HA, hb⟩ := hrel
        have hbox : wr.cell? ⟨w.heap.size, 0, none⟩ = some (.slice A n c) := (hb.cell (p := ⟨w.heap.size, 0, none⟩) (by simp)).trans (by go_simp)
        have hwr : w.heap.size + 1 ≤ wr.heap.size := by have := hb.size; simpa using this
        by_cases hkn : k < n
        · obtain ⟨b, off, rfl, hbB, hc⟩ := H.out (by have := HN.out; omega)
          obtain ⟨c0, c1, c2, c3, c4⟩ := hc k (by have := HN.out; omega)
          clear hc
          have hbw : b < w.heap.size := by omega
          have b0 := ((hb.cell (p := ⟨b, off + k * 5, none⟩) (by simp; omega)).trans (World.cell?_alloc_lt _ _ _ (by simpa using hbw))).trans c0
          have b4 := ((hb.cell (p := ⟨b, off + k * 5 + 4, none⟩) (by simp; omega)).trans (World.cell?_alloc_lt _ _ _ (by simpa using hbw))).trans c4
          clear c0 c1 c2 c3 c4
          generalize hp : ps.getD k default = p at *
          have HP := Lib.hid hp
          clear hp
          cases h1 : (p.k == 1)
          · have H1 := Lib.hid h1
            go_wp2
            go_roundw
            case rel =>
              refine ⟨k + 1, by omega, by go_num, HO.out, ?_, hb⟩
              rw [take_succ_getD ps k (by have := HN.out; omega), HP.out, List.any_append, HA.out]
              simp [Hid, show p.k ≠ 1 by simpa using H1.out]
            case measure => simp [intOf]; omega
          · cases h2 : (p.n == (m : Int))
            · have H2 := Lib.hid h2
              go_wp2
              go_roundw
              case rel =>
                refine ⟨k + 1, by omega, by go_num, HO.out, ?_, hb⟩
                rw [take_succ_getD ps k (by have := HN.out; omega), HP.out, List.any_append, HA.out]
                simp [Hid, show p.n ≠ (m : Int) by simpa using H2.out]
              case measure => simp [intOf]; omega
            · have H2 := Lib.hid (show p.n = (m : Int) by simpa using h2)
              have H1 := Lib.hid (show p.k = 1 by simpa using h1)
              obtain ⟨g, cc, rfl, hbg, hgs⟩ := HO.out.form
              go_wp2_with (at_builtin; refine wpList_append_own _ rfl _ _ 55 rfl (w.heap.size + 1) 3 i0 (.int .i64 0) 1 8 Try.underlying55 hi hz0 hz1 hz2 rfl (by decide) _ _ _ rfl (HO.out.1.alloc _) ⟨wr.heap.size, 0, none⟩ 1 1 [.int .i64 m] rfl rfl (cell_one_new _ _ _) ?c2 ?c3 ?c4 ?c5 ?_)
              case c2 => intro u hu; simp at hu; subst hu; rfl
              case c3 => unfold maxLen; omega
              case c4 => omega
              case c5 => simp; omega
              intro v' w1 hown' hgrow hnil
              have HO' : Hid (OwnN w1 (w.heap.size + 1) v' (((List.range (m + 1)).filter (hasNode ps)).map fun m : Nat => (m : Int))) := by
                have hh : hasNode ps m = true := by
                  unfold hasNode
                  rw [List.any_eq_true]
                  have hk' : k < ps.length := by have := HN.out; omega
                  refine ⟨ps.getD k default, by simp [List.getD, hk'], ?_⟩
                  rw [HP.out, H2.out, H1.out]
                  simp
                rw [HST.out, hh]
                refine ⟨?_, by first | exact hnil | (intro e; simp [e] at hnil)⟩
                simpa using hown'
              have hb' := (hb.alloc (by omega) (.cells #[.int .i64 m] 3)).grown hgrow (by simp; omega) (by intro q hq; simp [Value.ownBlock] at hq; omega)
              clear hown' hgrow hnil
              go_wp2
              go_roundw
              case rel => exact ⟨m + 1, by omega, by go_num, HO'.out, hb'⟩
              case measure => simp [intOf]; omega
        · go_wp2
          go_roundw
          case rel =>
            have hh : hasNode ps m = false := by
              have := HA.out
              rwa [List.take_of_length_le (by have := HN.out; omega)] at this
            exact ⟨m + 1, by omega, by go_num, by rw [HST.out, hh]; simpa [Hid] using HO.out, hb⟩
          case measure => simp [intOf]; omega
    · go_wp2
      go_ret
      obtain rfl : m = 10 := by omega
      refine ⟨_, rfl, ?_, ((Below.refl _ _).alloc (Nat.le_refl _) _).trans (hb.mono (by omega))⟩
      exact ⟨own_mono HO.out.1 (by omega), HO.out.2⟩
end Go.Proofs.Ytkmhpiojbocjkaa
