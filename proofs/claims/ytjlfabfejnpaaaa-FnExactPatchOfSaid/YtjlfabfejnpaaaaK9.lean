/- StaysOf, MovesOf: both sides. -/
import Derived.Test.YtjlfabfejnpaaaaS13
import Derived.Test.YtjlfabfejnpaaaaK8

namespace Go.Proofs.Ytjlfabfejnpaaaa
set_option linter.unusedSimpArgs false
set_option linter.unusedVariables false
open Go.RowKit

/-- What StaysOf and MovesOf answer. -/
def staysF (xs ys : List Int) : List Int := if bothK xs ys then stK xs ys else []
def movesF (xs ys : List Int) : Int := if bothK xs ys then ((inK ys xs).length : Int) - ((stK xs ys).length : Int) else -1

theorem stK_len (xs ys : List Int) : (stK xs ys).length ≤ (inK ys xs).length := (keep_bd _ _ _ _).1
theorem staysF_len (xs ys : List Int) : (staysF xs ys).length ≤ 10 := by
  unfold staysF
  split
  · rename_i h
    exact Nat.le_trans (stK_len xs ys) (Nat.le_trans (inK_len ys xs) (validK_len _ (bothK_parts _ _ h).2))
  · simp

set_option maxHeartbeats 800000 in
theorem stays1_at (g : Nat) (A : Option Addr) (lc c : Nat) (q : Int) (C : List Int) (w : World) (hl : lc = C.length) (hs : lc ≤ 2000000) (B : Nat) (hB : B ≤ w.heap.size) (h1 : w.cell? ⟨g, 0, none⟩ = some (.slice A lc c)) (h : IS w B A C) :
    Calls Try.prog 47 #[.int .i64 q, .pointer (some ⟨g, 0, none⟩)] w fun e w' => e = .returned (.int .i64 (plc C q)) ∧ w' = w := by
  have HC := Lib.hid (slices_Index A lc c C q w B hB hl h hs)
  generalize plc C q = r at *
  clear hl h
  go_enter Try.func47, Try.ntmps47
  go_wp2_with fail
  refine HC.out.mono ?_
  rintro e w1 ⟨rfl, rfl⟩
  go_wp2
  go_ret
  exact ⟨rfl, rfl⟩

set_option maxHeartbeats 1600000 in
theorem impl_StaysOf (A A' : Option Addr) (n c m c' : Nat) (xs ys : List Int) (w : World) (hn : n = xs.length) (hnc : n ≤ c) (hm : m = ys.length) (hmc : m ≤ c') (h : IS w w.heap.size A xs) (h' : IS w w.heap.size A' ys) (hs : n ≤ 1048576) (hs' : m ≤ 1048576) :
    Calls Try.prog 16 #[.slice A n c, .slice A' m c'] w fun e w' => RetK w (staysF xs ys) e w' := by
  have hB0 : Below w.heap.size w (w.alloc (.cells #[.slice A n c] 22)) := (Below.refl _ _).alloc (Nat.le_refl _) _
  have HC := Lib.hid (impl_areBothKeys A A' n c m c' xs ys (w.alloc (.cells #[.slice A n c] 22)) w.heap.size (by simp) hn hnc hm hmc (h.alloc (Nat.le_refl _) _) (h'.alloc (Nat.le_refl _) _) (by omega) (by omega))
  have HD := Lib.hid fun (w' : World) (hb : Below w.heap.size w w') => impl_keysIn A' A m c' n c ys xs w' w.heap.size hb.size hm hn (h'.below hb (Nat.le_refl _)) (h.below hb (Nat.le_refl _)) (by omega) (by omega)
  have HP := Lib.hid fun (q : Int) (w' : World) (hb : Below w.heap.size w w') (h1 : w'.cell? ⟨w.heap.size, 0, none⟩ = some (.slice A n c)) => stays1_at w.heap.size A n c q xs w' hn (by omega) w.heap.size hb.size h1 (h.below hb (Nat.le_refl _))
  have hst : stK xs ys = (keep (fun j => (inK ys xs).getD j 0) (lrA (fun j => plc xs ((inK ys xs).getD j 0)) (inK ys xs).length) (mst (lrA (fun j => plc xs ((inK ys xs).getD j 0)) (inK ys xs).length) (inK ys xs).length) (inK ys xs).length).1 := rfl
  have hkl := inK_len ys xs
  unfold staysF
  rw [hst]
  generalize inK ys xs = K at *
  obtain ⟨l, hl⟩ : ∃ l : Nat, l = K.length := ⟨_, rfl⟩
  have hl1 : l ≤ 1048576 := by omega
  rw [← hl]
  have HL := Lib.hid hl
  generalize bothK xs ys = r at *
  clear hn h hm h' hnc hmc hst hkl hl
  cases r
  · simp only [Bool.false_eq_true, if_false]
    go_enter Try.func16, Try.ntmps16
    go_wp2_with fail
    refine HC.out.mono ?_
    rintro e w1 ⟨rfl, hb⟩
    go_wp2
    go_ret
    exact RetK.of_ret (RetI_nil (hB0.trans (hb.mono hB0.size)))
  · simp only [if_true]
    go_enter Try.func16, Try.ntmps16
    go_wp2_with fail
    refine HC.out.mono ?_
    rintro e w1 ⟨rfl, hb⟩
    have q1 : w1.cell? ⟨w.heap.size, 0, none⟩ = some (.slice A n c) := (hb.cell (p := ⟨w.heap.size, 0, none⟩) (by simp)).trans (by go_simp)
    have hB1 := hB0.trans (hb.mono hB0.size)
    have hl0 : w.heap.size < w1.heap.size := by have := hb.size; simp at this; omega
    clear hb hB0
    go_wp2_with fail
    refine (HD.out _ hB1).mono ?_
    rintro e w2 ⟨v, rfl, ho, hb⟩
    obtain ⟨A2, c2, rfl, hi2, _, _⟩ := ho.form' l HL.out
    have q2 := (hb.cell (p := ⟨w.heap.size, 0, none⟩) hl0).trans q1
    have hB2 := hB1.trans (hb.mono hB1.size)
    have hl2 : w.heap.size < w2.heap.size := Nat.lt_of_lt_of_le hl0 hb.size
    have HLR := Lib.hid (impl_longestRising w.heap.size (plc xs) A2 l c2 K w2 hl1 HL.out hi2 (fun q W hW => HP.out q W (hB2.trans (hW.mono hB2.size)) ((hW.cell (p := ⟨w.heap.size, 0, none⟩) hl2).trans q2)))
    clear ho hb hi2 q1 hB1
    go_wp2_with fail
    refine HLR.out.mono ?_
    rintro e w3 ⟨v3, rfl, ho3, hb3⟩
    go_wp2
    go_ret
    exact ⟨v3, by simp, ho3.mono hB2.size (Nat.le_refl _), hB2.trans (hb3.mono hB2.size)⟩

theorem top_impl_StaysOf (xs ys : List Int) (hL : xs.length ≤ 1048576) (hL2 : ys.length ≤ 1048576) : ∀ (A : Option Addr) (n c : Nat) (A' : Option Addr) (m c' : Nat) (w : World), n = xs.length → n ≤ c → IS w w.heap.size A xs → m = ys.length → m ≤ c' → IS w w.heap.size A' ys →
    Calls Try.prog 16 #[.slice A n c, .slice A' m c'] w fun e w' => RetK w (staysF xs ys) e w' :=
  fun A n c A' m c' w hn hnc h hm hmc h' => impl_StaysOf A A' n c m c' xs ys w hn hnc hm hmc h h' (by omega) (by omega)

set_option maxHeartbeats 1600000 in
theorem top_spec_StaysOf (xs ys : List Int) (hL : xs.length ≤ 1048576) (hL2 : ys.length ≤ 1048576) : ∀ (A : Option Addr) (n c : Nat) (A' : Option Addr) (m c' : Nat) (w : World), n = xs.length → n ≤ c → IS w w.heap.size A xs → m = ys.length → m ≤ c' → IS w w.heap.size A' ys →
    Calls Try.prog 15 #[.slice A n c, .slice A' m c'] w fun e w' => RetK w (staysF xs ys) e w' := by
  intro A n c A' m c' w hn hnc h hm hmc h'
  have hn2 : n ≤ 2000000 := by omega
  have hm2 : m ≤ 2000000 := by omega
  have hm3 : m ≤ 1048576 := by omega
  have HC := Lib.hid (spec_validKeys A n c xs w w.heap.size (Nat.le_refl _) hn hnc h hn2)
  have HE := Lib.hid fun (w' : World) (hb : Below w.heap.size w w') => spec_validKeys A' m c' ys w' w.heap.size hb.size hm hmc (h'.below hb (Nat.le_refl _)) hm2
  have HD := Lib.hid fun (w' : World) (hb : Below w.heap.size w w') => spec_stays A A' n c m c' xs ys w' w.heap.size hb.size hn hm (h.below hb (Nat.le_refl _)) (h'.below hb (Nat.le_refl _)) hn2 hm3
  unfold staysF
  generalize stK xs ys = F at *
  unfold bothK
  generalize validK xs = r at *
  generalize validK ys = s at *
  clear hn h hm h' hnc hmc hL hL2
  cases r
  · simp only [Bool.false_and, Bool.false_eq_true, if_false]
    go_enter Try.func15, Try.ntmps15
    go_wp2_with fail
    refine HC.out.mono ?_
    rintro e w1 ⟨rfl, hb⟩
    go_wp2
    go_ret
    exact RetK.of_ret (RetI_nil hb)
  · cases s
    · simp only [Bool.and_false, Bool.false_eq_true, if_false]
      go_enter Try.func15, Try.ntmps15
      go_wp2_with fail
      refine HC.out.mono ?_
      rintro e w1 ⟨rfl, hb⟩
      go_wp2_with fail
      refine (HE.out _ hb).mono ?_
      rintro e w2 ⟨rfl, hb2⟩
      go_wp2
      go_ret
      exact RetK.of_ret (RetI_nil (hb.trans (hb2.mono hb.size)))
    · simp only [Bool.and_self, if_true]
      go_enter Try.func15, Try.ntmps15
      go_wp2_with fail
      refine HC.out.mono ?_
      rintro e w1 ⟨rfl, hb⟩
      go_wp2_with fail
      refine (HE.out _ hb).mono ?_
      rintro e w2 ⟨rfl, hb2⟩
      have hb3 := hb.trans (hb2.mono hb.size)
      go_wp2_with fail
      refine (HD.out _ hb3).mono ?_
      rintro e w3 ⟨v, rfl, ho, hb4⟩
      go_wp2
      go_ret
      exact RetK.of_ret ⟨v, by simp, own_mono ho hb3.size, hb3.trans (hb4.mono hb3.size)⟩

set_option maxHeartbeats 1600000 in
theorem top_spec_MovesOf (xs ys : List Int) (hL : xs.length ≤ 1048576) (hL2 : ys.length ≤ 1048576) : ∀ (A : Option Addr) (n c : Nat) (A' : Option Addr) (m c' : Nat) (w : World), n = xs.length → n ≤ c → IS w w.heap.size A xs → m = ys.length → m ≤ c' → IS w w.heap.size A' ys →
    Calls Try.prog 19 #[.slice A n c, .slice A' m c'] w fun e w' => e = .returned (.int .i64 (movesF xs ys)) ∧ Below w.heap.size w w' := by
  intro A n c A' m c' w hn hnc h hm hmc h'
  have hn2 : n ≤ 2000000 := by omega
  have hm2 : m ≤ 2000000 := by omega
  have hm3 : m ≤ 1048576 := by omega
  have HC := Lib.hid (spec_validKeys A n c xs w w.heap.size (Nat.le_refl _) hn hnc h hn2)
  have HE := Lib.hid fun (w' : World) (hb : Below w.heap.size w w') => spec_validKeys A' m c' ys w' w.heap.size hb.size hm hmc (h'.below hb (Nat.le_refl _)) hm2
  have HD := Lib.hid fun (w' : World) (hb : Below w.heap.size w w') => spec_stays A A' n c m c' xs ys w' w.heap.size hb.size hn hm (h.below hb (Nat.le_refl _)) (h'.below hb (Nat.le_refl _)) hn2 hm3
  have HS := Lib.hid fun (w' : World) (hb : Below w.heap.size w w') => spec_shared A' A m c' n c ys xs w' w.heap.size hb.size hm hn (h'.below hb (Nat.le_refl _)) (h.below hb (Nat.le_refl _)) hm2 hn2
  have hkl := inK_len ys xs
  have hsl := stK_len xs ys
  have hmf : movesF xs ys = if bothK xs ys then ((inK ys xs).length : Int) - ((stK xs ys).length : Int) else -1 := rfl
  rw [hmf]
  generalize stK xs ys = F at *
  generalize inK ys xs = K at *
  obtain ⟨l, hl⟩ : ∃ l : Nat, l = K.length := ⟨_, rfl⟩
  obtain ⟨k, hk⟩ : ∃ k : Nat, k = F.length := ⟨_, rfl⟩
  have hl1 : l ≤ 1048576 := by omega
  have hk1 : k ≤ 1048576 := by omega
  have HL := Lib.hid hl
  have HK := Lib.hid hk
  clear hkl hsl hl hk hmf
  unfold bothK
  generalize validK xs = r at *
  generalize validK ys = s at *
  clear hn h hm h' hnc hmc hL hL2
  cases r
  · simp only [Bool.false_and, Bool.false_eq_true, if_false]
    go_enter Try.func19, Try.ntmps19
    go_wp2_with fail
    refine HC.out.mono ?_
    rintro e w1 ⟨rfl, hb⟩
    go_wp2
    go_ret
    exact ⟨rfl, hb⟩
  · cases s
    · simp only [Bool.and_false, Bool.false_eq_true, if_false]
      go_enter Try.func19, Try.ntmps19
      go_wp2_with fail
      refine HC.out.mono ?_
      rintro e w1 ⟨rfl, hb⟩
      go_wp2_with fail
      refine (HE.out _ hb).mono ?_
      rintro e w2 ⟨rfl, hb2⟩
      go_wp2
      go_ret
      exact ⟨rfl, (hb.trans (hb2.mono hb.size))⟩
    · simp only [Bool.and_self, if_true]
      go_enter Try.func19, Try.ntmps19
      go_wp2_with fail
      refine HC.out.mono ?_
      rintro e w1 ⟨rfl, hb⟩
      go_wp2_with fail
      refine (HE.out _ hb).mono ?_
      rintro e w2 ⟨rfl, hb2⟩
      have hb3 := hb.trans (hb2.mono hb.size)
      go_wp2_with fail
      refine (HS.out _ hb3).mono ?_
      rintro e w3 ⟨v, rfl, ho, hb4⟩
      obtain ⟨A3, c3, rfl, _, _, _⟩ := ho.form' l HL.out
      have hb5 := hb3.trans (hb4.mono hb3.size)
      clear ho
      go_wp2_with fail
      refine (HD.out _ hb5).mono ?_
      rintro e w4 ⟨v, rfl, ho, hb6⟩
      obtain ⟨A4, c4, rfl, _, _, _⟩ := ho.form' k HK.out
      clear ho
      go_wp2
      go_ret
      exact ⟨ret_i (by rw [← HL.out, ← HK.out]), hb5.trans (hb6.mono hb5.size)⟩

set_option maxHeartbeats 1600000 in
theorem top_impl_MovesOf (xs ys : List Int) (hL : xs.length ≤ 1048576) (hL2 : ys.length ≤ 1048576) : ∀ (A : Option Addr) (n c : Nat) (A' : Option Addr) (m c' : Nat) (w : World), n = xs.length → n ≤ c → IS w w.heap.size A xs → m = ys.length → m ≤ c' → IS w w.heap.size A' ys →
    Calls Try.prog 20 #[.slice A n c, .slice A' m c'] w fun e w' => e = .returned (.int .i64 (movesF xs ys)) ∧ Below w.heap.size w w' := by
  intro A n c A' m c' w hn hnc h hm hmc h'
  have HC := Lib.hid (impl_areBothKeys A A' n c m c' xs ys w w.heap.size (Nat.le_refl _) hn hnc hm hmc h h' (by omega) (by omega))
  have HD := Lib.hid fun (w' : World) (hb : Below w.heap.size w w') => impl_StaysOf A A' n c m c' xs ys w' hn hnc hm hmc ((h.below hb (Nat.le_refl _)).more hb.size) ((h'.below hb (Nat.le_refl _)).more hb.size) (by omega) (by omega)
  have HS := Lib.hid fun (w' : World) (hb : Below w.heap.size w w') => impl_keysIn A' A m c' n c ys xs w' w.heap.size hb.size hm hn (h'.below hb (Nat.le_refl _)) (h.below hb (Nat.le_refl _)) (by omega) (by omega)
  have hkl := inK_len ys xs
  have hsl := staysF_len xs ys
  have hmf : movesF xs ys = if bothK xs ys then ((inK ys xs).length : Int) - ((staysF xs ys).length : Int) else -1 := by
    unfold movesF staysF
    cases bothK xs ys <;> rfl
  rw [hmf]
  generalize staysF xs ys = F at *
  generalize inK ys xs = K at *
  obtain ⟨l, hl⟩ : ∃ l : Nat, l = K.length := ⟨_, rfl⟩
  obtain ⟨k, hk⟩ : ∃ k : Nat, k = F.length := ⟨_, rfl⟩
  have hl1 : l ≤ 1048576 := by omega
  have hk1 : k ≤ 1048576 := by omega
  have HL := Lib.hid hl
  have HK := Lib.hid hk
  generalize bothK xs ys = r at *
  clear hkl hsl hl hk hmf hn hnc h hm hmc h' hL hL2
  cases r
  · simp only [Bool.false_eq_true, if_false]
    go_enter Try.func20, Try.ntmps20
    go_wp2_with fail
    refine HC.out.mono ?_
    rintro e w1 ⟨rfl, hb⟩
    go_wp2
    go_ret
    exact ⟨rfl, hb⟩
  · simp only [if_true]
    go_enter Try.func20, Try.ntmps20
    go_wp2_with fail
    refine HC.out.mono ?_
    rintro e w1 ⟨rfl, hb3⟩
    go_wp2_with fail
    refine (HS.out _ hb3).mono ?_
    rintro e w3 ⟨v, rfl, ho, hb4⟩
    obtain ⟨A3, c3, rfl, _, _, _⟩ := ho.form' l HL.out
    have hb5 := hb3.trans (hb4.mono hb3.size)
    clear ho
    go_wp2_with fail
    refine (HD.out _ hb5).mono ?_
    rintro e w4 ⟨v, rfl, ho, hb6⟩
    rw [← HK.out] at ho
    obtain ⟨A4, c4, rfl⟩ := ho.form
    clear ho
    go_wp2
    go_ret
    exact ⟨ret_i (by rw [← HL.out, ← HK.out]), hb5.trans (hb6.mono hb5.size)⟩
end Go.Proofs.Ytjlfabfejnpaaaa
