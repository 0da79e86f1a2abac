/- The laws' helpers on changes: equalChanges of equal lists, countChanges. -/
import Derived.Test.YtknnbajcabodoaaQ8
import Derived.Test.YtknnbajcabodoaaM23
import Derived.BigQuiet
import Derived.Deep.QuietTactic

namespace Go.Proofs.Ytknnbajcabodoaa
set_option linter.unusedSimpArgs false
set_option linter.unusedVariables false
open Go.RowKit

set_option maxRecDepth 100000 in
set_option maxHeartbeats 1600000 in
theorem laws_equalChanges (A A' : Option Addr) (n c c' : Nat) (ps : List Ac) (w : World) (B : Nat) (hB : B ≤ w.heap.size) (hn : n = ps.length) (h : CS w B A ps) (h' : CS w B A' ps) (hs : n ≤ 2000000) :
    Calls Try.prog 21 #[.slice A n c, .slice A' n c'] w fun e w' => e = .returned (.bool true) ∧ Below w.heap.size w w' := by
  have hne : ((n : Int) != (n : Int)) = false := by simp
  have HN := Lib.hid hn
  have H := Lib.hid h
  have H' := Lib.hid h'
  clear hn h h'
  go_enter Try.func21, Try.ntmps21
  go_wp2
  go_loopw [5] (fun i wr => ∃ k : Nat, k ≤ n ∧ i = .int .i64 k ∧ Hid (Below w.heap.size w wr)) (fun i _ => n - (intOf i).toNat)
  case atStart => exact ⟨0, Nat.zero_le _, rfl, Below.refl _ _⟩
  case round =>
    obtain ⟨k, hk, rfl, hb⟩ := hrel
    by_cases hlt : k < n
    · obtain ⟨b, off, rfl, hbB, hc⟩ := H.out (by have := HN.out; omega)
      obtain ⟨b', off', rfl, hbB', hc'⟩ := H'.out (by have := HN.out; omega)
      obtain ⟨c0, c1, c2⟩ := hc k (by have := HN.out; omega)
      obtain ⟨d0, d1, d2⟩ := hc' k (by have := HN.out; omega)
      clear hc hc' H H'
      have b0 := (hb.out.cell (p := ⟨b, off + k * 3, none⟩) (by simp; omega)).trans c0
      have b1 := (hb.out.cell (p := ⟨b, off + k * 3 + 1, none⟩) (by simp; omega)).trans c1
      have b2 := (hb.out.cell (p := ⟨b, off + k * 3 + 2, none⟩) (by simp; omega)).trans c2
      have e0 := (hb.out.cell (p := ⟨b', off' + k * 3, none⟩) (by simp; omega)).trans d0
      have e1 := (hb.out.cell (p := ⟨b', off' + k * 3 + 1, none⟩) (by simp; omega)).trans d1
      have e2 := (hb.out.cell (p := ⟨b', off' + k * 3 + 2, none⟩) (by simp; omega)).trans d2
      clear c0 c1 c2 d0 d1 d2
      generalize hp : ps.getD k default = p at *
      obtain ⟨x, y, z⟩ := p
      dsimp only at *
      have HX := Lib.hid hb.out
      clear hp hb
      go_wp2
      go_region
      go_wp2
      go_roundw
      case rel => exact ⟨k + 1, by omega, by go_num, HX.out.drew⟩
      case measure => simp [intOf]; omega
    · go_wp2
      go_ret
      exact ⟨rfl, hb.out⟩

theorem cntA_take (ps : List Ac) (k : Int) (i : Nat) (h : i < ps.length) : cntA (ps.take (i + 1)) k = cntA (ps.take i) k + if (ps.getD i default).k = k then 1 else 0 := by
  rw [List.take_succ_eq_append_getElem h, cntA_snoc]; simp [List.getD, h]

set_option maxRecDepth 100000 in
set_option maxHeartbeats 1600000 in
theorem laws_countChanges (A : Option Addr) (n c : Nat) (ps : List Ac) (q : Int) (w : World) (B : Nat) (hB : B ≤ w.heap.size) (hn : n = ps.length) (h : CS w B A ps) (hs : n ≤ 2000000) :
    Calls Try.prog 23 #[.slice A n c, .int .i64 q] w fun e w' => e = .returned (.int .i64 (cntA ps q : Nat)) ∧ w = w' := by
  have HN := Lib.hid hn
  have H := Lib.hid h
  clear hn h
  go_enter Try.func23, Try.ntmps23
  go_wp2
  go_loopw [5, 6] (fun u i wr => ∃ k : Nat, k ≤ n ∧ i = .int .i64 k ∧ u = .int .i64 (cntA (ps.take k) q : Nat) ∧ w = wr) (fun _ i _ => n - (intOf i).toNat)
  case atStart => exact ⟨0, Nat.zero_le _, rfl, by simp [cntA], rfl⟩
  case round =>
    obtain ⟨k, hk, rfl, rfl, rfl⟩ := hrel
    have hcl : cntA (ps.take k) q ≤ 2000000 := by
      unfold cntA
      have := List.length_filter_le (fun c : Ac => c.k == q) (ps.take k)
      have := List.length_take_le k ps
      omega
    by_cases hlt : k < n
    · obtain ⟨b, off, rfl, hbB, hc⟩ := H.out (by have := HN.out; omega)
      obtain ⟨c0, c1, c2⟩ := hc k (by have := HN.out; omega)
      have HST := Lib.hid (cntA_take ps q k (by have := HN.out; omega))
      clear hc H c1 c2
      generalize ps.getD k default = p at *
      generalize p.k = x at *
      obtain ⟨m, hm⟩ : ∃ m, m = cntA (ps.take k) q := ⟨_, rfl⟩
      have HM := Lib.hid hm
      rw [← hm] at hcl ⊢
      clear hm
      by_cases hx : x = q
      · subst hx
        have HS2 : Hid (cntA (ps.take (k + 1)) x = m + 1) := by rw [HST.out, if_pos rfl, ← HM.out]; rfl
        clear HST
        have hxx : (x == x) = true := by simp
        go_wp2
        go_roundw
        case rel => exact ⟨k + 1, by omega, by go_num, by rw [HS2.out]; go_num, by first | rfl | trivial⟩
        case measure => simp [intOf]; omega
      · have HS2 : Hid (cntA (ps.take (k + 1)) q = m) := by rw [HST.out, if_neg hx, ← HM.out]; rfl
        have hxx : (x == q) = false := by simpa using hx
        clear HST hx
        go_wp2
        go_roundw
        case rel => exact ⟨k + 1, by omega, by go_num, by rw [HS2.out], by first | rfl | trivial⟩
        case measure => simp [intOf]; omega
    · obtain rfl : k = n := by omega
      have htk : ps.take k = ps := List.take_of_length_le (by have := HN.out; omega)
      rw [htk] at hcl ⊢
      obtain ⟨m, hm⟩ : ∃ m, m = cntA ps q := ⟨_, rfl⟩
      have HM := Lib.hid hm
      rw [← hm] at hcl ⊢
      clear htk hm
      go_wp2
      go_ret
      exact ⟨ret_i (by rw [HM.out]), by first | rfl | trivial⟩
end Go.Proofs.Ytknnbajcabodoaa
