/- Changes of keys, one after the other: spec.putBehind, spec.changed, spec.ApplyPatch. -/
import Derived.Test.YtlbomopjldhmeaaB0a

namespace Go.Proofs.Ytlbomopjldhmeaa
set_option linter.unusedSimpArgs false
set_option linter.unusedVariables false
open Go.RowKit

/-- Keys without one, and with one more behind another one. -/
def remF (xs : List Int) (x : Int) : List Int := xs.take (plc xs x).toNat ++ xs.drop ((plc xs x).toNat + 1)
def putP (xs : List Int) (u : Int) : Nat := if 0 ≤ u then (plc xs u + 1).toNat else 0
def putB (xs : List Int) (u k : Int) : Bool := decide (-1 ≤ u) && !(decide (0 ≤ u) && (putP xs u == 0)) && rng k 0 30
def putF (xs : List Int) (u k : Int) : List Int := xs.take (putP xs u) ++ [k] ++ xs.drop (putP xs u)
def oneB (xs : List Int) (c : Ac) : Bool :=
  if c.k = 0 then decide (c.a ∈ xs) && decide (c.b = -1) else if c.k = 1 then !decide (c.a ∈ xs) && putB xs c.b c.a else if c.k = 2 then decide (c.a ∈ xs) && putB (remF xs c.a) c.b c.a else false
def oneL (xs : List Int) (c : Ac) : List Int := if c.k = 0 then remF xs c.a else if c.k = 1 then putF xs c.b c.a else putF (remF xs c.a) c.b c.a
def patched : List Int → List Ac → Option (List Int)
  | xs, [] => some xs
  | xs, c :: r => if oneB xs c then patched (oneL xs c) r else none
def okR : Option (List Int) → Bool
  | some ys => validK ys
  | none => false
def applyB (xs : List Int) (ac : List Ac) : Bool := validK xs && decide (ac.length ≤ 40) && okR (patched xs ac)
def applyF (xs : List Int) (ac : List Ac) : List Int := if applyB xs ac then (patched xs ac).getD [] else []

theorem plc_cases (xs : List Int) (x : Int) : plc xs x = -1 ∨ ∃ p : Nat, plc xs x = p ∧ p < xs.length := by
  by_cases h : x ∈ xs
  · obtain ⟨p, h1, h2, _⟩ := plc_index xs x h
    exact .inr ⟨p, h1, h2⟩
  · left; unfold plc; rw [if_neg h]
theorem putP_le (xs : List Int) (u : Int) : putP xs u ≤ xs.length := by
  unfold putP
  split
  · rcases plc_cases xs u with h | ⟨p, h, hp⟩ <;> rw [h] <;> omega
  · omega
theorem putP_zero (xs : List Int) (u : Int) (h : 0 ≤ u) : (putP xs u == 0) = decide (plc xs u < 0) := by
  unfold putP; rw [if_pos h]
  rcases plc_cases xs u with h | ⟨p, h, hp⟩
  · rw [h]; rfl
  · rw [h]
    have e1 : ((p : Int) + 1).toNat = p + 1 := by omega
    rw [e1, decide_eq_false (by omega)]; simp
theorem putF_len (xs : List Int) (u k : Int) : (putF xs u k).length = xs.length + 1 := by
  have := putP_le xs u
  unfold putF
  simp only [List.length_append, List.length_take, List.length_drop, List.length_cons, List.length_nil]
  omega
theorem remF_len (xs : List Int) (x : Int) (h : x ∈ xs) : (remF xs x).length + 1 = xs.length := by
  obtain ⟨p, h1, h2, _⟩ := plc_index xs x h
  unfold remF
  rw [h1]
  simp only [List.length_append, List.length_take, List.length_drop]
  omega
theorem remF_mem (xs : List Int) (x y : Int) (h : y ∈ remF xs x) : y ∈ xs := by
  unfold remF at h
  rcases List.mem_append.1 h with h | h
  · exact List.mem_of_mem_take h
  · exact List.mem_of_mem_drop h
theorem putF_mem (xs : List Int) (u k y : Int) : y ∈ putF xs u k ↔ y = k ∨ y ∈ xs := by
  unfold putF
  rw [List.append_assoc, List.mem_append, List.mem_append]
  have e : y ∈ xs ↔ y ∈ xs.take (putP xs u) ∨ y ∈ xs.drop (putP xs u) := by rw [← List.mem_append, List.take_append_drop]
  rw [e]
  simp only [List.mem_singleton]
  constructor
  · rintro (h | h | h)
    · exact .inr (.inl h)
    · exact .inl h
    · exact .inr (.inr h)
  · rintro (h | h | h)
    · exact .inr (.inl h)
    · exact .inl h
    · exact .inr (.inr h)
theorem rng_parts {k a b : Int} (h : rng k a b = true) : a ≤ k ∧ k ≤ b := by unfold rng at h; simpa using h
/-- Numbers in 0..30. -/
def In30 (xs : List Int) : Prop := ∀ y ∈ xs, 0 ≤ y ∧ y ≤ 30
theorem putB_rng {xs : List Int} {u k : Int} (h : putB xs u k = true) : 0 ≤ k ∧ k ≤ 30 := by
  unfold putB at h
  simp only [Bool.and_eq_true] at h
  exact rng_parts h.2
theorem In30.rem {xs : List Int} (h : In30 xs) (x : Int) : In30 (remF xs x) := fun y hy => h y (remF_mem _ _ _ hy)
theorem In30.put {xs : List Int} (h : In30 xs) {u k : Int} (hp : putB xs u k = true) : In30 (putF xs u k) := fun y hy => by
  rcases (putF_mem _ _ _ _).1 hy with rfl | h1
  · exact putB_rng hp
  · exact h y h1
theorem In30.chg {xs : List Int} (h : In30 xs) {c : Ac} (hc : oneB xs c = true) : In30 (oneL xs c) := by
  unfold oneB at hc
  unfold oneL
  by_cases h0 : c.k = 0
  · rw [if_pos h0]; exact h.rem _
  · rw [if_neg h0] at hc ⊢
    by_cases h1 : c.k = 1
    · rw [if_pos h1] at hc ⊢
      simp only [Bool.and_eq_true] at hc
      exact h.put hc.2
    · rw [if_neg h1] at hc ⊢
      by_cases h2 : c.k = 2
      · rw [if_pos h2] at hc
        simp only [Bool.and_eq_true] at hc
        exact (h.rem _).put hc.2
      · rw [if_neg h2] at hc; simp at hc
theorem oneL_len (xs : List Int) (c : Ac) (hc : oneB xs c = true) : (oneL xs c).length ≤ xs.length + 1 := by
  unfold oneB at hc
  unfold oneL
  by_cases h0 : c.k = 0
  · rw [if_pos h0] at hc ⊢
    simp only [Bool.and_eq_true, decide_eq_true_eq] at hc
    have := remF_len xs c.a hc.1; omega
  · rw [if_neg h0] at hc ⊢
    by_cases h1 : c.k = 1
    · rw [if_pos h1]; have := putF_len xs c.b c.a; omega
    · rw [if_neg h1] at hc ⊢
      by_cases h2 : c.k = 2
      · rw [if_pos h2] at hc
        simp only [Bool.and_eq_true, decide_eq_true_eq] at hc
        have := remF_len xs c.a hc.1
        have := putF_len (remF xs c.a) c.b c.a; omega
      · rw [if_neg h2] at hc; simp at hc
theorem validK_in30 (xs : List Int) (h : validK xs = true) : In30 xs := by
  unfold validK difB at h
  simp only [Bool.and_eq_true] at h
  intro y hy
  have h1 := h.2.1
  unfold allR at h1
  simp only [List.all_eq_true] at h1
  exact rng_parts (h1 y hy)
theorem patched_step (ys : List Int) (ac : List Ac) (k : Nat) (h : k < ac.length) : patched ys (ac.drop k) = if oneB ys (ac.getD k default) then patched (oneL ys (ac.getD k default)) (ac.drop (k + 1)) else none := by
  rw [List.drop_eq_getElem_cons h]
  have e : ac[k] = ac.getD k default := by simp [List.getD, h]
  rw [e]; rfl
theorem applyF_len (xs : List Int) (ac : List Ac) : (applyF xs ac).length ≤ 10 := by
  unfold applyF
  cases h : applyB xs ac
  · simp
  · unfold applyB at h
    simp only [Bool.and_eq_true] at h
    have h2 := h.2
    cases hp : patched xs ac with
    | none => rw [hp] at h2; cases h2
    | some ys =>
      rw [hp] at h2
      simp only [if_true, Option.getD_some]
      exact validK_len ys h2

/-- Returns keys and true, or nothing and false. -/
def RetPB (w : World) (b : Bool) (ys : List Int) (e : Ending) (w' : World) : Prop :=
  (b = true ∧ ∃ (g cap l : Nat), e = .returned (.tuple #[.slice (some ⟨g, 0, none⟩) l cap, .bool true]) ∧ l = ys.length ∧ w'.ownsRow w.heap.size 3 1 (.slice (some ⟨g, 0, none⟩) l cap) l (ys.map (Value.int .i64)) ∧ Below w.heap.size w w') ∨
  (b = false ∧ e = .returned (.tuple #[.slice none 0 0, .bool false]) ∧ Below w.heap.size w w')
theorem RetPB.no {w w' : World} {b : Bool} {ys : List Int} (hb : b = false) (h : Below w.heap.size w w') : RetPB w b ys (.returned (.tuple #[.slice none 0 0, .bool false])) w' := .inr ⟨hb, rfl, h⟩
theorem own_form3 {w : World} {base n size : Nat} {e : TypeId} {v : Value} {xs : List Value} {g n0 c0 : Nat} (h : w.ownsRow base e size v n xs) (hv : v.ownBlock = (Value.slice (some ⟨g, 0, none⟩) n0 c0).ownBlock ∨ ∃ k, v.ownBlock = some k) : ∃ g cap, v = .slice (some ⟨g, 0, none⟩) n cap := by
  rcases h.2 with ⟨rfl, h0⟩ | ⟨g', cap, cur, rfl, _⟩
  · rcases hv with hv | ⟨k, hv⟩ <;> (unfold Value.ownBlock at hv; cases hv)
  · exact ⟨g', cap, rfl⟩

set_option maxRecDepth 100000 in
set_option maxHeartbeats 6400000 in
theorem spec_putBehind (d0 b off n c : Nat) (xs : List Int) (u k : Int) (w : World) (h : Cm d0 b off n c xs w) (hs : n ≤ 1000) :
    Calls Try.prog 59 #[.slice (some ⟨b, off, none⟩) n c, .int .i64 u, .int .i64 k] w fun e w' => RetPB w (putB xs u k) (putF xs u k) e w' := by
  obtain ⟨i0, hi, hz0, hz1, hz2⟩ := info_parts info_int
  have HX := Lib.hid h
  have hbw := h.hi
  have hnc := h.cap
  have HL := Lib.hid h.len
  have hpn := putP_le xs u
  rw [← HL.out] at hpn
  have HPL := Lib.hid (spec_placeIn (some ⟨b, off, none⟩) n c xs u w w.heap.size (Nat.le_refl _) HL.out HX.out.is (by omega))
  have HPB : Hid (putB xs u k = (decide (-1 ≤ u) && !(decide (0 ≤ u) && (putP xs u == 0)) && rng k 0 30)) := rfl
  have HPF : Hid (putF xs u k = xs.take (putP xs u) ++ [k] ++ xs.drop (putP xs u)) := rfl
  have HPW : Hid (0 ≤ u → IntKind.i64.wrap (plc xs u + 1) = ((putP xs u : Nat) : Int)) := by
    intro hu
    unfold putP; rw [if_pos hu]
    have := HL.out
    rcases plc_cases xs u with h | ⟨p, h, hp⟩
    · rw [h]; rfl
    · rw [h, IntKind.wrap_i64] <;> omega
  have HP0 : Hid (¬ 0 ≤ u → putP xs u = 0) := fun hu => by unfold putP; rw [if_neg hu]
  have HTL := Lib.hid (fun p hp => HX.out.tail p hp)
  clear h
  generalize putB xs u k = B at *
  generalize putF xs u k = Y at *
  generalize putP xs u = P at *
  generalize plc xs u = q at *
  go_enter Try.func59, Try.ntmps59
  go_upto_if 10 with fail
  go_cut [8] from 10 to 15 (fun t wx => t = .int .i64 P ∧ w = wx)
  case first =>
    by_cases hu : 0 ≤ u
    · have hw := HPW.out hu
      go_wp2_with fail
      refine HPL.out.mono ?_
      rintro e w' ⟨rfl, rfl⟩
      go_wp2_with fail
      go_meet
      exact ⟨rfl, rfl⟩
    · have hp0 := HP0.out hu
      subst hp0
      go_wp2_with fail
      go_meet
      exact ⟨rfl, rfl⟩
  case rest =>
    obtain ⟨rfl, rfl⟩ := hcut
    clear HPL HPW HP0
    by_cases h1 : u < -1
    · have hB : B = false := by rw [HPB.out, decide_eq_false (by omega)]; rfl
      clear HPB
      go_wp2
      go_ret2
      exact RetPB.no (by first | exact hB | rfl) (Below.refl _ _)
    have e1 : decide (-1 ≤ u) = true := decide_eq_true (by omega)
    by_cases h2 : (0 ≤ u ∧ P = 0)
    · obtain ⟨h2, rfl⟩ := h2
      have hB : B = false := by rw [HPB.out, decide_eq_true h2]; simp
      clear HPB e1
      go_wp2
      go_ret2
      exact RetPB.no (by first | exact hB | rfl) (Below.refl _ _)
    have hBr : B = rng k 0 30 := by
      rw [HPB.out, e1]
      by_cases hu : 0 ≤ u
      · have : ¬ P = 0 := fun h => h2 ⟨hu, h⟩
        simp [this]
      · rw [decide_eq_false hu]; simp
    have HBR := Lib.hid hBr
    clear HPB e1 hBr
    have HR := Lib.hid (spec_inRange k 0 30 w)
    rw [← HBR.out] at HR
    go_upto_region 4 with fail
    go_cut [29] from 15 to 30 (fun t wx => t = .bool (!B) ∧ w = wx)
    case first =>
      by_cases hu : 0 ≤ u
      · have hP : ((P : Int) == 0) = false := by
          have : ¬ P = 0 := fun h => h2 ⟨hu, h⟩
          simp; omega
        go_wp2_with fail
        refine HR.out.mono ?_
        rintro e w' ⟨rfl, rfl⟩
        go_wp2_with fail
        go_meet
        exact ⟨rfl, rfl⟩
      · go_wp2_with fail
        refine HR.out.mono ?_
        rintro e w' ⟨rfl, rfl⟩
        go_wp2_with fail
        go_meet
        exact ⟨rfl, rfl⟩
    case rest =>
    obtain ⟨rfl, rfl⟩ := hcut
    clear HR HBR h2
    cases B
    · go_wp2
      go_ret2
      exact RetPB.no rfl (Below.refl _ _)
    obtain ⟨o3, ho3, hnx⟩ := HTL.out P hpn
    have HNX := Lib.hid hnx
    have hPc : P ≤ c := by omega
    have HI := Lib.hid (HX.out.is.take_ P (by rw [← HL.out]; exact hpn))
    have hpz : (P : Int) ≤ (n : Int) := by omega
    clear hnx HTL
    go_wp2
    refine wp_region_held_drew (S := fun _ => True) (by kernel_rfl) trivial (fun hHeld => ?_)
    refine wpAnyH_take (i := 0) (oi := ⟨some 30, _, _, _, _, _⟩) (v := ?_) rfl (by kernel_rfl) (by kernel_rfl) (by kernel_rfl) (fun _ _ _ h => h) (Or.inl ⟨by rfl, ?_⟩) (by assumption) ?_; rotate_left; (focus (intro w hSw; (try dsimp only at hSw); go_simp; (try with_reducible rfl))); (try simp only [Act.put, List.setIfInBounds_toArray, List.set_cons_zero, List.set_cons_succ])
    refine wpAnyH_take (i := 1) (oi := ⟨some 31, _, _, _, _, _⟩) (v := ?_) rfl (by kernel_rfl) (by kernel_rfl) (by kernel_rfl) (fun _ _ _ h => h) (Or.inl ⟨by rfl, ?_⟩) (by assumption) ?_; rotate_left; (focus (intro w hSw; (try dsimp only at hSw); go_simp; (try with_reducible rfl))); (try simp only [Act.put, List.setIfInBounds_toArray, List.set_cons_zero, List.set_cons_succ])
    refine wpAnyH_take (i := 2) (oi := ⟨some 32, _, _, _, _, _⟩) (v := ?_) rfl (by kernel_rfl) (by kernel_rfl) (by kernel_rfl) (fun _ _ _ h => h) (Or.inl ⟨by rfl, ?_⟩) (by assumption) ?_; rotate_left; (focus (intro w hSw; (try dsimp only at hSw); go_simp; (try with_reducible rfl))); (try simp only [Act.put, List.setIfInBounds_toArray, List.set_cons_zero, List.set_cons_succ])
    refine wpAnyH_take (i := 4) (oi := ⟨some 34, _, _, _, _, _⟩) (v := ?_) rfl (by kernel_rfl) (by kernel_rfl) (by kernel_rfl) (fun _ _ _ h => h) (Or.inl ⟨by rfl, ?_⟩) (by assumption) ?_; rotate_left; (focus (intro w hSw; (try dsimp only at hSw); go_simp; (try with_reducible rfl))); (try simp only [Act.put, List.setIfInBounds_toArray, List.set_cons_zero, List.set_cons_succ])
    refine wpAnyH_take (i := 7) (oi := ⟨some 37, _, _, _, _, _⟩) (v := ?_) rfl (by kernel_rfl) (by kernel_rfl) (by kernel_rfl) (fun _ _ _ h => h) (Or.inl ⟨by rfl, ?_⟩) (by assumption) ?_; rotate_left; (focus (intro w hSw; (try dsimp only at hSw); go_simp; (try with_reducible rfl))); (try simp only [Act.put, List.setIfInBounds_toArray, List.set_cons_zero, List.set_cons_succ])
    refine wpAnyH_take (i := 8) (oi := ⟨some 38, _, _, _, _, _⟩) (v := ?_) rfl (by kernel_rfl) (by kernel_rfl) (by kernel_rfl) (fun _ _ _ h => h) (Or.inl ⟨by rfl, ?_⟩) (by assumption) ?_; rotate_left; (focus (intro w hSw; (try dsimp only at hSw); go_simp; (try with_reducible rfl))); (try simp only [Act.put, List.setIfInBounds_toArray, List.set_cons_zero, List.set_cons_succ])
    refine wpAnyH_take (i := 9) (oi := ⟨some 39, _, _, _, _, _⟩) (v := ?_) rfl (by kernel_rfl) (by kernel_rfl) (by kernel_rfl) (fun _ _ _ h => h) (Or.inl ⟨by rfl, ?_⟩) (by assumption) ?_; rotate_left; (focus (intro w hSw; (try dsimp only at hSw); go_simp; (try with_reducible rfl))); (try simp only [Act.put, List.setIfInBounds_toArray, List.set_cons_zero, List.set_cons_succ])
    refine wpAnyH_ready (rs := [3, 5]) (by kernel_rfl) (by simp) ?_; refine AllReadyH.cons (o := ⟨some 33, _, _, _, _, _⟩) rfl (fun K hK => ?_) (AllReadyH.cons (o := ⟨some 35, _, _, _, _, _⟩) rfl (fun K hK => ?_) AllReadyH.nil)
    · go_simp
      go_at_call 36
      refine (spec_copyIntsA (some ⟨b, off, none⟩) P c (xs.take P) w.drew w.heap.size (Nat.le_refl _) (by rw [List.length_take, ← HL.out]; omega) HI.out (by omega)).mono ?_
      rintro e w10 ⟨g10, c10, rfl, hown10', hb10'⟩
      have hb10 : Below w.heap.size w w10 := below_of_drew hb10'
      have hown10 : w10.ownsRow w.heap.size 3 1 (.slice (some ⟨g10, 0, none⟩) P c10) P ((xs.take P).map (Value.int .i64)) := hown10'
      have HNX1 := Lib.hid (add_cell (add_cell HNX.out hb10 hbw) (below_new w10 (.cells #[.int .i64 k] 3)) (Nat.lt_of_lt_of_le hbw hb10.size))
      have hX : Below w.heap.size w (w10.alloc (.cells #[.int .i64 k] 3)) := hb10.alloc hb10.size _
      have hownX := hown10.alloc (.cells #[.int .i64 k] 3)
      clear hown10' hb10' HNX hown10
      refine hK.out _ _ trivial (fun hHeld => ?_); clear hK K; (try simp only [Act.put, List.setIfInBounds_toArray, List.set_cons_zero, List.set_cons_succ])
      refine wpAnyH_ready (rs := [5]) (by kernel_rfl) (by simp) ?_; refine AllReadyH.cons (o := ⟨some 35, _, _, _, _, _⟩) rfl (fun K hK => ?_) AllReadyH.nil; go_simp
      refine hK.out _ _ trivial (fun hHeld => ?_); clear hK K; (try simp only [Act.put, List.setIfInBounds_toArray, List.set_cons_zero, List.set_cons_succ])
      refine wpAnyH_ready (rs := [6]) (by kernel_rfl) (by simp) ?_; refine AllReadyH.cons (o := ⟨some 36, _, _, _, _, _⟩) rfl (fun K hK => ?_) AllReadyH.nil
      refine step_append_own_at _ (by rfl) _ _ _ (by rfl) w.heap.size 3 i0 (.int .i64 0) 1 8 Try.underlying22 hi hz0 hz1 hz2 rfl (by omega) (.slice (some ⟨g10, 0, none⟩) P c10) (P) ((xs.take P).map (Value.int .i64)) (by rfl) hownX ⟨w10.heap.size, 0, none⟩ (1) (1) ([.int .i64 k]) (by rfl) rfl (cell_one_new _ _ _) (by intro u hu; simp at hu; subst hu; rfl) (by unfold maxLen; omega) (by omega) hX.size ?_
      intro v11 w11 hown_w11 hgrow_w11 hblk_w11
      have hpos11 := hownX.lt
      have hb11 : Below w.heap.size w w11 := hX.trans ((Below.refl _ _).grown (w' := w11) (w := (w10.alloc (.cells #[.int .i64 k] 3))) ⟨hgrow_w11.os, hgrow_w11.tape, hgrow_w11.output, hgrow_w11.size, hgrow_w11.block⟩ hX.size (fun q hq => (hpos11 q hq).1))
      have hgr11 : (w10.alloc (.cells #[.int .i64 k] 3)).grownBy w11 (Value.slice (some ⟨g10, 0, none⟩) P c10).ownBlock := ⟨hgrow_w11.os, hgrow_w11.tape, hgrow_w11.output, hgrow_w11.size, hgrow_w11.block⟩
      have HNX2 := Lib.hid (add_cell HNX1.out ((Below.refl w.heap.size _).grown hgr11 hX.size (fun q hq => (hpos11 q hq).1)) hbw)
      obtain ⟨g11, c11, rfl⟩ := row_form2 hown_w11 (by omega)
      clear hgrow_w11 hgr11 hpos11 HNX1 hblk_w11
      refine hK.out _ _ trivial (fun hHeld => ?_); clear hK K; (try simp only [Act.put, List.setIfInBounds_toArray, List.set_cons_zero, List.set_cons_succ])
      refine wpAnyH_ready (rs := [10]) (by kernel_rfl) (by simp) ?_; refine AllReadyH.cons (o := ⟨some 40, _, _, _, _, _⟩) rfl (fun K hK => ?_) AllReadyH.nil
      refine step_append_own_at _ (by rfl) _ _ _ (by rfl) w.heap.size 3 i0 (.int .i64 0) 1 8 Try.underlying22 hi hz0 hz1 hz2 rfl (by omega) (.slice (some ⟨g11, 0, none⟩) (P + 1) c11) (P + 1) ((xs.take P).map (Value.int .i64) ++ [.int .i64 k]) (by rfl) hown_w11 ⟨b, o3, none⟩ (n - P) (c - P) ((xs.drop P).map (Value.int .i64)) (by rfl) (by rw [List.length_map, List.length_drop, ← HL.out]; omega) HNX2.out (one_ints _) (by unfold maxLen; omega) (by omega) hb11.size ?_
      intro v12 w12 hown_w12 hgrow_w12 hblk_w12
      have hpos12 := hown_w11.lt
      have hb12 : Below w.heap.size w w12 := hb11.trans ((Below.refl _ _).grown (w' := w12) (w := w11) ⟨hgrow_w12.os, hgrow_w12.tape, hgrow_w12.output, hgrow_w12.size, hgrow_w12.block⟩ hb11.size (fun q hq => (hpos12 q hq).1))
      obtain ⟨l, hl⟩ : ∃ l, l = n + 1 := ⟨_, rfl⟩
      have hown12 : w12.ownsRow w.heap.size 3 1 v12 l (Y.map (Value.int .i64)) := by
        have e : P + 1 + (n - P) = l := by omega
        rw [e] at hown_w12
        rw [HPF.out]
        simpa using hown_w12
      obtain ⟨g12, c12, rfl⟩ := row_form2 hown12 (by omega)
      have HK : Hid (RetPB w true Y (.returned (.tuple #[.slice (some ⟨g12, 0, none⟩) l c12, .bool true])) w12) := .inl ⟨rfl, g12, c12, l, rfl, by have := hown12.1; simpa using this.symm, hown12, hb12⟩
      clear hl hown_w11 hown_w12 hown12 hgrow_w12 hpos12 hblk_w12 hb11 hb12 hX hownX HNX2
      refine hK.out _ _ trivial (fun hHeld => ?_); clear hK K; (try simp only [Act.put, List.setIfInBounds_toArray, List.set_cons_zero, List.set_cons_succ])
      refine wpAnyH_take (i := 11) (oi := ⟨some 6, _, _, _, _, _⟩) (v := ?_) rfl (by kernel_rfl) (by kernel_rfl) (by kernel_rfl) (fun _ _ _ h => h) (Or.inl ⟨by rfl, ?_⟩) (by assumption) ?_; rotate_left; (focus (intro w hSw; (try dsimp only at hSw); go_simp; (try with_reducible rfl))); (try simp only [Act.put, List.setIfInBounds_toArray, List.set_cons_zero, List.set_cons_succ])
      refine wpAnyH_take (i := 12) (oi := ⟨some 7, _, _, _, _, _⟩) (v := ?_) rfl (by kernel_rfl) (by kernel_rfl) (by kernel_rfl) (fun _ _ _ h => h) (Or.inl ⟨by rfl, ?_⟩) (by assumption) ?_; rotate_left; (focus (intro w hSw; (try dsimp only at hSw); go_simp; (try with_reducible rfl))); (try simp only [Act.put, List.setIfInBounds_toArray, List.set_cons_zero, List.set_cons_succ])
      refine wpAnyH_done (by kernel_rfl) ?_ _
      go_wp2
      go_ret2
      exact HK.out
    · go_simp
      have HIB := Lib.hid (HI.out.below (below_new w (.cells #[.int .i64 k] 3)) (Nat.le_refl _))
      refine hK.out _ _ trivial (fun hHeld => ?_); clear hK K; (try simp only [Act.put, List.setIfInBounds_toArray, List.set_cons_zero, List.set_cons_succ])
      refine wpAnyH_ready (rs := [3]) (by kernel_rfl) (by simp) ?_; refine AllReadyH.cons (o := ⟨some 33, _, _, _, _, _⟩) rfl (fun K hK => ?_) AllReadyH.nil; go_simp
      go_at_call 36
      refine (spec_copyIntsA (some ⟨b, off, none⟩) P c (xs.take P) (w.drew.alloc (.cells #[.int .i64 k] 3)) w.heap.size (by simp) (by rw [List.length_take, ← HL.out]; omega) HIB.out (by omega)).mono ?_
      rintro e w10 ⟨g10, c10, rfl, hown10', hb10'⟩
      have hb10'' : Below (w.alloc (.cells #[.int .i64 k] 3)).heap.size (w.alloc (.cells #[.int .i64 k] 3)) w10 := ⟨hb10'.os, hb10'.tape, hb10'.output, hb10'.size, hb10'.block⟩
      have hX : Below w.heap.size w w10 := (below_new w (.cells #[.int .i64 k] 3)).trans (hb10''.mono (by simp))
      have hownX : w10.ownsRow w.heap.size 3 1 (.slice (some ⟨g10, 0, none⟩) P c10) P ((xs.take P).map (Value.int .i64)) := own_mono hown10' (by simp)
      have HNX1 := Lib.hid (add_cell HNX.out hX hbw)
      have hcz : ∀ j u, [Value.int .i64 k][j]? = some u → w10.cell? ((⟨w.heap.size, 0, none⟩ : Addr).add j) = some u := add_cell (cell_one_new w (.int .i64 k) 3) hb10'' (by simp)
      clear hown10' hb10' hb10'' HNX
      refine hK.out _ _ trivial (fun hHeld => ?_); clear hK K; (try simp only [Act.put, List.setIfInBounds_toArray, List.set_cons_zero, List.set_cons_succ])
      refine wpAnyH_ready (rs := [6]) (by kernel_rfl) (by simp) ?_; refine AllReadyH.cons (o := ⟨some 36, _, _, _, _, _⟩) rfl (fun K hK => ?_) AllReadyH.nil
      refine step_append_own_at _ (by rfl) _ _ _ (by rfl) w.heap.size 3 i0 (.int .i64 0) 1 8 Try.underlying22 hi hz0 hz1 hz2 rfl (by omega) (.slice (some ⟨g10, 0, none⟩) P c10) (P) ((xs.take P).map (Value.int .i64)) (by rfl) hownX ⟨w.heap.size, 0, none⟩ (1) (1) ([.int .i64 k]) (by rfl) rfl hcz (by intro u hu; simp at hu; subst hu; rfl) (by unfold maxLen; omega) (by omega) hX.size ?_
      intro v11 w11 hown_w11 hgrow_w11 hblk_w11
      have hpos11 := hownX.lt
      have hb11 : Below w.heap.size w w11 := hX.trans ((Below.refl _ _).grown (w' := w11) (w := w10) ⟨hgrow_w11.os, hgrow_w11.tape, hgrow_w11.output, hgrow_w11.size, hgrow_w11.block⟩ hX.size (fun q hq => (hpos11 q hq).1))
      have hgr11 : w10.grownBy w11 (Value.slice (some ⟨g10, 0, none⟩) P c10).ownBlock := ⟨hgrow_w11.os, hgrow_w11.tape, hgrow_w11.output, hgrow_w11.size, hgrow_w11.block⟩
      have HNX2 := Lib.hid (add_cell HNX1.out ((Below.refl w.heap.size _).grown hgr11 hX.size (fun q hq => (hpos11 q hq).1)) hbw)
      obtain ⟨g11, c11, rfl⟩ := row_form2 hown_w11 (by omega)
      clear hgrow_w11 hgr11 hpos11 HNX1 hblk_w11
      refine hK.out _ _ trivial (fun hHeld => ?_); clear hK K; (try simp only [Act.put, List.setIfInBounds_toArray, List.set_cons_zero, List.set_cons_succ])
      refine wpAnyH_ready (rs := [10]) (by kernel_rfl) (by simp) ?_; refine AllReadyH.cons (o := ⟨some 40, _, _, _, _, _⟩) rfl (fun K hK => ?_) AllReadyH.nil
      refine step_append_own_at _ (by rfl) _ _ _ (by rfl) w.heap.size 3 i0 (.int .i64 0) 1 8 Try.underlying22 hi hz0 hz1 hz2 rfl (by omega) (.slice (some ⟨g11, 0, none⟩) (P + 1) c11) (P + 1) ((xs.take P).map (Value.int .i64) ++ [.int .i64 k]) (by rfl) hown_w11 ⟨b, o3, none⟩ (n - P) (c - P) ((xs.drop P).map (Value.int .i64)) (by rfl) (by rw [List.length_map, List.length_drop, ← HL.out]; omega) HNX2.out (one_ints _) (by unfold maxLen; omega) (by omega) hb11.size ?_
      intro v12 w12 hown_w12 hgrow_w12 hblk_w12
      have hpos12 := hown_w11.lt
      have hb12 : Below w.heap.size w w12 := hb11.trans ((Below.refl _ _).grown (w' := w12) (w := w11) ⟨hgrow_w12.os, hgrow_w12.tape, hgrow_w12.output, hgrow_w12.size, hgrow_w12.block⟩ hb11.size (fun q hq => (hpos12 q hq).1))
      obtain ⟨l, hl⟩ : ∃ l, l = n + 1 := ⟨_, rfl⟩
      have hown12 : w12.ownsRow w.heap.size 3 1 v12 l (Y.map (Value.int .i64)) := by
        have e : P + 1 + (n - P) = l := by omega
        rw [e] at hown_w12
        rw [HPF.out]
        simpa using hown_w12
      obtain ⟨g12, c12, rfl⟩ := row_form2 hown12 (by omega)
      have HK : Hid (RetPB w true Y (.returned (.tuple #[.slice (some ⟨g12, 0, none⟩) l c12, .bool true])) w12) := .inl ⟨rfl, g12, c12, l, rfl, by have := hown12.1; simpa using this.symm, hown12, hb12⟩
      clear hl hown_w11 hown_w12 hown12 hgrow_w12 hpos12 hblk_w12 hb11 hb12 hX hownX HNX2
      refine hK.out _ _ trivial (fun hHeld => ?_); clear hK K; (try simp only [Act.put, List.setIfInBounds_toArray, List.set_cons_zero, List.set_cons_succ])
      refine wpAnyH_take (i := 11) (oi := ⟨some 6, _, _, _, _, _⟩) (v := ?_) rfl (by kernel_rfl) (by kernel_rfl) (by kernel_rfl) (fun _ _ _ h => h) (Or.inl ⟨by rfl, ?_⟩) (by assumption) ?_; rotate_left; (focus (intro w hSw; (try dsimp only at hSw); go_simp; (try with_reducible rfl))); (try simp only [Act.put, List.setIfInBounds_toArray, List.set_cons_zero, List.set_cons_succ])
      refine wpAnyH_take (i := 12) (oi := ⟨some 7, _, _, _, _, _⟩) (v := ?_) rfl (by kernel_rfl) (by kernel_rfl) (by kernel_rfl) (fun _ _ _ h => h) (Or.inl ⟨by rfl, ?_⟩) (by assumption) ?_; rotate_left; (focus (intro w hSw; (try dsimp only at hSw); go_simp; (try with_reducible rfl))); (try simp only [Act.put, List.setIfInBounds_toArray, List.set_cons_zero, List.set_cons_succ])
      refine wpAnyH_done (by kernel_rfl) ?_ _
      go_wp2
      go_ret2
      exact HK.out

theorem RetPB.up {w w1 w' : World} {b : Bool} {ys : List Int} {e : Ending} (h : RetPB w1 b ys e w') (hb : Below w.heap.size w w1) : RetPB w b ys e w' := by
  rcases h with ⟨h1, g, cap, l, h2, h3, h4, h5⟩ | ⟨h1, h2, h3⟩
  · exact .inl ⟨h1, g, cap, l, h2, h3, own_mono h4 hb.size, hb.trans (h5.mono hb.size)⟩
  · exact .inr ⟨h1, h2, hb.trans (h3.mono hb.size)⟩

set_option maxRecDepth 100000 in
set_option maxHeartbeats 6400000 in
theorem spec_changed (d0 b off n c : Nat) (xs : List Int) (x : Ac) (w : World) (h : Cm d0 b off n c xs w) (hs : n ≤ 900) :
    Calls Try.prog 37 #[.slice (some ⟨b, off, none⟩) n c, .agg #[.int .i64 x.k, .int .i64 x.a, .int .i64 x.b]] w fun e w' => RetPB w (oneB xs x) (oneL xs x) e w' := by
  obtain ⟨i0, hi, hz0, hz1, hz2⟩ := info_parts info_int
  obtain ⟨k, a, u⟩ := x
  have HB : Hid (oneB xs ⟨k, a, u⟩ = if k = 0 then decide (a ∈ xs) && decide (u = -1) else if k = 1 then !decide (a ∈ xs) && putB xs u a else if k = 2 then decide (a ∈ xs) && putB (remF xs a) u a else false) := rfl
  have HY : Hid (oneL xs ⟨k, a, u⟩ = if k = 0 then remF xs a else if k = 1 then putF xs u a else putF (remF xs a) u a) := rfl
  generalize oneB xs ⟨k, a, u⟩ = B at *
  generalize oneL xs ⟨k, a, u⟩ = Y at *
  obtain ⟨W, hW⟩ : ∃ W, W = w.alloc (.cells #[.int .i64 k, .int .i64 a, .int .i64 u] 44) := ⟨_, rfl⟩
  have hb0 : Below w.heap.size w W := by rw [hW]; exact below_new w _
  have q0 : W.cell? ⟨w.heap.size, 0, none⟩ = some (.int .i64 k) := by rw [hW]; go_simp
  have q1 : W.cell? ⟨w.heap.size, 1, none⟩ = some (.int .i64 a) := by rw [hW]; go_simp
  have q2 : W.cell? ⟨w.heap.size, 2, none⟩ = some (.int .i64 u) := by rw [hW]; go_simp
  have hbl : w.heap.size < W.heap.size := by rw [hW]; simp
  have HX := Lib.hid (h.step hb0)
  have HL := Lib.hid h.len
  have hbw := HX.out.hi
  have hnc := h.cap
  have HBB := Lib.hid hb0
  have HPL := Lib.hid (spec_placeIn (some ⟨b, off, none⟩) n c xs a W W.heap.size (Nat.le_refl _) HL.out HX.out.is (by omega))
  clear h hb0
  by_cases hm : a ∈ xs
  · obtain ⟨p, hp, hpn, _⟩ := plc_index xs a hm
    rw [hp] at HPL
    rw [← HL.out] at hpn
    have HRM : Hid (remF xs a = xs.take p ++ xs.drop (p + 1)) := by show remF xs a = _; unfold remF; rw [hp]; rfl
    have HRL := Lib.hid (remF_len xs a hm)
    have hd : decide (a ∈ xs) = true := decide_eq_true hm
    rw [hd] at HB
    clear hd hm hp
    have hpp : ¬ (p : Int) < 0 := by omega
    have hpg : (0 : Int) ≤ (p : Int) := by omega
    go_enter Try.func37, Try.ntmps37
    go_upto_region 1 with fail
    rw [← hW]
    clear hW
    go_wp2_with fail
    refine HPL.out.mono ?_
    rintro e w' ⟨rfl, rfl⟩
    clear HPL
    by_cases k0 : k = 0
    · subst k0
      by_cases hu : u = -1
      · subst hu
        have hB : B = true := by rw [HB.out]; rfl
        have hY : Y = remF xs a := by rw [HY.out]; rfl
        have HYR := Lib.hid (hY.trans HRM.out)
        have HYL : Hid (Y.length + 1 = n) := by show _ = _; rw [hY, HRL.out, HL.out]
        subst hB
        clear HB HY HRM hY HRL
        obtain ⟨o2, ho2, hnx⟩ := HX.out.tail (p + 1) (by omega)
        have HNX := Lib.hid hnx
        have hwk : IntKind.i64.wrap ((p : Int) + 1) = ((p + 1 : Nat) : Int) := by rw [IntKind.wrap_i64] <;> omega
        have hk0 : (0 : Int) ≤ (p : Int) + 1 := by omega
        have hk1 : (p : Int) + 1 ≤ (n : Int) := by omega
        have hk2 : (p : Int) ≤ (n : Int) := by omega
        have hkc : p + 1 ≤ c := by omega
        have hkc0 : p ≤ c := by omega
        have HI := Lib.hid (HX.out.is.take_ p (by rw [← HL.out]; omega))
        clear hnx
        go_wp2
        refine wp_region_held_drew (S := fun _ => True) (by kernel_rfl) trivial (fun hHeld => ?_)
        refine wpAnyH_take (i := 0) (oi := ⟨some 22, _, _, _, _, _⟩) (v := ?_) rfl (by kernel_rfl) (by kernel_rfl) (by kernel_rfl) (fun _ _ _ h => h) (Or.inl ⟨by rfl, ?_⟩) (by assumption) ?_; rotate_left; (focus (intro w hSw; (try dsimp only at hSw); go_simp; (try with_reducible rfl))); (try simp only [Act.put, List.setIfInBounds_toArray, List.set_cons_zero, List.set_cons_succ])
        refine wpAnyH_take (i := 1) (oi := ⟨some 23, _, _, _, _, _⟩) (v := ?_) rfl (by kernel_rfl) (by kernel_rfl) (by kernel_rfl) (fun _ _ _ h => h) (Or.inl ⟨by rfl, ?_⟩) (by assumption) ?_; rotate_left; (focus (intro w hSw; (try dsimp only at hSw); go_simp; (try with_reducible rfl))); (try simp only [Act.put, List.setIfInBounds_toArray, List.set_cons_zero, List.set_cons_succ])
        refine wpAnyH_take (i := 2) (oi := ⟨some 24, _, _, _, _, _⟩) (v := ?_) rfl (by kernel_rfl) (by kernel_rfl) (by kernel_rfl) (fun _ _ _ h => h) (Or.inl ⟨by rfl, ?_⟩) (by assumption) ?_; rotate_left; (focus (intro w hSw; (try dsimp only at hSw); go_simp; (try with_reducible rfl))); (try simp only [Act.put, List.setIfInBounds_toArray, List.set_cons_zero, List.set_cons_succ])
        refine wpAnyH_take (i := 4) (oi := ⟨some 26, _, _, _, _, _⟩) (v := ?_) rfl (by kernel_rfl) (by kernel_rfl) (by kernel_rfl) (fun _ _ _ h => h) (Or.inl ⟨by rfl, ?_⟩) (by assumption) ?_; rotate_left; (focus (intro w hSw; (try dsimp only at hSw); go_simp; (try with_reducible rfl))); (try simp only [Act.put, List.setIfInBounds_toArray, List.set_cons_zero, List.set_cons_succ])
        refine wpAnyH_take (i := 5) (oi := ⟨some 27, _, _, _, _, _⟩) (v := ?_) rfl (by kernel_rfl) (by kernel_rfl) (by kernel_rfl) (fun _ _ _ h => h) (Or.inl ⟨by rfl, ?_⟩) (by assumption) ?_; rotate_left; (focus (intro w hSw; (try dsimp only at hSw); go_simp; (try with_reducible rfl))); (try simp only [Act.put, List.setIfInBounds_toArray, List.set_cons_zero, List.set_cons_succ])
        refine wpAnyH_take (i := 6) (oi := ⟨some 28, _, _, _, _, _⟩) (v := ?_) rfl (by kernel_rfl) (by kernel_rfl) (by kernel_rfl) (fun _ _ _ h => h) (Or.inl ⟨by rfl, ?_⟩) (by assumption) ?_; rotate_left; (focus (intro w hSw; (try dsimp only at hSw); go_simp; (try with_reducible rfl))); (try simp only [Act.put, List.setIfInBounds_toArray, List.set_cons_zero, List.set_cons_succ])
        refine wpAnyH_take (i := 7) (oi := ⟨some 29, _, _, _, _, _⟩) (v := ?_) rfl (by kernel_rfl) (by kernel_rfl) (by kernel_rfl) (fun _ _ _ h => h) (Or.inl ⟨by rfl, ?_⟩) (by assumption) ?_; rotate_left; (focus (intro w hSw; (try dsimp only at hSw); go_simp; (try with_reducible rfl))); (try simp only [Act.put, List.setIfInBounds_toArray, List.set_cons_zero, List.set_cons_succ])
        refine wpAnyH_ready (rs := [3]) (by kernel_rfl) (by simp) ?_; refine AllReadyH.cons (o := ⟨some 25, _, _, _, _, _⟩) rfl (fun K hK => ?_) AllReadyH.nil; go_simp
        go_at_call 36
        refine (spec_copyIntsA (some ⟨b, off, none⟩) p c (xs.take p) W.drew W.heap.size (Nat.le_refl _) (by rw [List.length_take, ← HL.out]; omega) HI.out (by omega)).mono ?_
        rintro e w7 ⟨g7, c7, rfl, hown7', hb7'⟩
        have hb7 : Below W.heap.size W w7 := below_of_drew hb7'
        have hown7 : w7.ownsRow W.heap.size 3 1 (.slice (some ⟨g7, 0, none⟩) p c7) p ((xs.take p).map (Value.int .i64)) := hown7'
        have HNX7 := Lib.hid (add_cell HNX.out hb7 hbw)
        clear hown7' hb7' HNX
        refine hK.out _ _ trivial (fun hHeld => ?_); clear hK K; (try simp only [Act.put, List.setIfInBounds_toArray, List.set_cons_zero, List.set_cons_succ])
        refine wpAnyH_ready (rs := [8]) (by kernel_rfl) (by simp) ?_; refine AllReadyH.cons (o := ⟨some 30, _, _, _, _, _⟩) rfl (fun K hK => ?_) AllReadyH.nil
        refine step_append_own_at _ (by rfl) _ _ _ (by rfl) W.heap.size 3 i0 (.int .i64 0) 1 8 Try.underlying22 hi hz0 hz1 hz2 rfl (by omega) (.slice (some ⟨g7, 0, none⟩) p c7) (p) ((xs.take p).map (Value.int .i64)) (by rfl) hown7 ⟨b, o2, none⟩ (n - (p + 1)) (c - (p + 1)) ((xs.drop (p + 1)).map (Value.int .i64)) (by rfl) (by rw [List.length_map, List.length_drop, ← HL.out]; omega) HNX7.out (one_ints _) (by unfold maxLen; omega) (by omega) hb7.size ?_
        intro v8 w8 hown_w8 hgrow_w8 hblk_w8
        have hpos8 := hown7.lt
        have hb78 : Below W.heap.size w7 w8 := (Below.refl _ _).grown (w' := w8) (w := w7) ⟨hgrow_w8.os, hgrow_w8.tape, hgrow_w8.output, hgrow_w8.size, hgrow_w8.block⟩ hb7.size (fun q hq => (hpos8 q hq).1)
        have hb8 : Below W.heap.size W w8 := hb7.trans hb78
        obtain ⟨l1, hl1⟩ : ∃ l1, l1 + 1 = n := ⟨n - 1, by omega⟩
        have HL1 := Lib.hid hl1
        have hown8 : w8.ownsRow W.heap.size 3 1 v8 l1 ((xs.take p ++ xs.drop (p + 1)).map (Value.int .i64)) := by
          have e : p + (n - (p + 1)) = l1 := by omega
          rw [e] at hown_w8
          rw [List.map_append]; exact hown_w8
        obtain ⟨g8, c8, rfl⟩ := own_form3 (g := g7) (n0 := p) (c0 := c7) hown8 (by
          rcases hblk_w8 with h | h
          · exact .inl h
          · exact .inr ⟨_, h⟩)
        have HK : Hid (RetPB w true Y (.returned (.tuple #[.slice (some ⟨g8, 0, none⟩) l1 c8, .bool true])) w8) := .inl ⟨rfl, g8, c8, l1, rfl, by have := HYL.out; omega, by rw [HYR.out]; exact own_mono hown8 (by omega), HBB.out.trans (hb8.mono (by omega))⟩
        clear hl1 hown7 hown8 hown_w8 hgrow_w8 hblk_w8 hb7 hb78 hb8 hpos8 HNX7
        refine hK.out _ _ trivial (fun hHeld => ?_); clear hK K; (try simp only [Act.put, List.setIfInBounds_toArray, List.set_cons_zero, List.set_cons_succ])
        refine wpAnyH_take (i := 9) (oi := ⟨some 4, _, _, _, _, _⟩) (v := ?_) rfl (by kernel_rfl) (by kernel_rfl) (by kernel_rfl) (fun _ _ _ h => h) (Or.inl ⟨by rfl, ?_⟩) (by assumption) ?_; rotate_left; (focus (intro w hSw; (try dsimp only at hSw); go_simp; (try with_reducible rfl))); (try simp only [Act.put, List.setIfInBounds_toArray, List.set_cons_zero, List.set_cons_succ])
        refine wpAnyH_take (i := 10) (oi := ⟨some 5, _, _, _, _, _⟩) (v := ?_) rfl (by kernel_rfl) (by kernel_rfl) (by kernel_rfl) (fun _ _ _ h => h) (Or.inl ⟨by rfl, ?_⟩) (by assumption) ?_; rotate_left; (focus (intro w hSw; (try dsimp only at hSw); go_simp; (try with_reducible rfl))); (try simp only [Act.put, List.setIfInBounds_toArray, List.set_cons_zero, List.set_cons_succ])
        refine wpAnyH_done (by kernel_rfl) ?_ _
        go_wp2
        go_ret2
        exact HK.out
      · have e1 : (u != -1) = true := by simp [hu]
        have e2 : (u == -1) = false := by simp [hu]
        have hB : B = false := by rw [HB.out]; simp [hu]
        clear HB hu
        go_wp2
        go_ret2
        exact RetPB.no (by first | exact hB | rfl) HBB.out
    · have e0 : (k == 0) = false := by simp [k0]
      by_cases k1 : k = 1
      · have hB : B = false := by rw [HB.out, if_neg k0, if_pos k1]; rfl
        subst k1
        clear HB k0
        go_wp2
        go_ret2
        exact RetPB.no (by first | exact hB | rfl) HBB.out
      · have e1 : (k == 1) = false := by simp [k1]
        by_cases k2 : k = 2
        · have hB : B = putB (remF xs a) u a := by rw [HB.out, if_neg k0, if_neg k1, if_pos k2]; rfl
          have hY : Y = putF (remF xs a) u a := by rw [HY.out, if_neg k0, if_neg k1]
          subst k2
          have HBE := Lib.hid hB
          have HYE := Lib.hid hY
          clear HB HY hB hY k0 k1 e0 e1
          obtain ⟨o2, ho2, hnx⟩ := HX.out.tail (p + 1) (by omega)
          have HNX := Lib.hid hnx
          have hwk : IntKind.i64.wrap ((p : Int) + 1) = ((p + 1 : Nat) : Int) := by rw [IntKind.wrap_i64] <;> omega
          have hk0 : (0 : Int) ≤ (p : Int) + 1 := by omega
          have hk1 : (p : Int) + 1 ≤ (n : Int) := by omega
          have hk2 : (p : Int) ≤ (n : Int) := by omega
          have hkc : p + 1 ≤ c := by omega
          have hkc0 : p ≤ c := by omega
          have HI := Lib.hid (HX.out.is.take_ p (by rw [← HL.out]; omega))
          clear hnx
          go_wp2
          refine wp_region_held_drew (S := fun w' => w'.cell? ⟨w.heap.size, 1, none⟩ = some (.int .i64 a) ∧ w'.cell? ⟨w.heap.size, 2, none⟩ = some (.int .i64 u)) (by kernel_rfl) ⟨q1, q2⟩ (fun hHeld => ?_)
          refine wpAnyH_take (i := 0) (oi := ⟨some 47, _, _, _, _, _⟩) (v := ?_) rfl (by kernel_rfl) (by kernel_rfl) (by kernel_rfl) (fun _ _ _ h => h) (Or.inl ⟨by rfl, ?_⟩) (by assumption) ?_; rotate_left; (focus (intro w hSw; (try dsimp only at hSw); go_simp; (try with_reducible rfl))); (try simp only [Act.put, List.setIfInBounds_toArray, List.set_cons_zero, List.set_cons_succ])
          refine wpAnyH_take (i := 1) (oi := ⟨some 48, _, _, _, _, _⟩) (v := ?_) rfl (by kernel_rfl) (by kernel_rfl) (by kernel_rfl) (fun _ _ _ h => h) (Or.inl ⟨by rfl, ?_⟩) (by assumption) ?_; rotate_left; (focus (intro w hSw; (try dsimp only at hSw); go_simp; (try with_reducible rfl))); (try simp only [Act.put, List.setIfInBounds_toArray, List.set_cons_zero, List.set_cons_succ])
          refine wpAnyH_take (i := 2) (oi := ⟨some 49, _, _, _, _, _⟩) (v := ?_) rfl (by kernel_rfl) (by kernel_rfl) (by kernel_rfl) (fun _ _ _ h => h) (Or.inl ⟨by rfl, ?_⟩) (by assumption) ?_; rotate_left; (focus (intro w hSw; (try dsimp only at hSw); go_simp; (try with_reducible rfl))); (try simp only [Act.put, List.setIfInBounds_toArray, List.set_cons_zero, List.set_cons_succ])
          refine wpAnyH_take (i := 4) (oi := ⟨some 51, _, _, _, _, _⟩) (v := ?_) rfl (by kernel_rfl) (by kernel_rfl) (by kernel_rfl) (fun _ _ _ h => h) (Or.inl ⟨by rfl, ?_⟩) (by assumption) ?_; rotate_left; (focus (intro w hSw; (try dsimp only at hSw); go_simp; (try with_reducible rfl))); (try simp only [Act.put, List.setIfInBounds_toArray, List.set_cons_zero, List.set_cons_succ])
          refine wpAnyH_take (i := 5) (oi := ⟨some 52, _, _, _, _, _⟩) (v := ?_) rfl (by kernel_rfl) (by kernel_rfl) (by kernel_rfl) (fun _ _ _ h => h) (Or.inl ⟨by rfl, ?_⟩) (by assumption) ?_; rotate_left; (focus (intro w hSw; (try dsimp only at hSw); go_simp; (try with_reducible rfl))); (try simp only [Act.put, List.setIfInBounds_toArray, List.set_cons_zero, List.set_cons_succ])
          refine wpAnyH_take (i := 6) (oi := ⟨some 53, _, _, _, _, _⟩) (v := ?_) rfl (by kernel_rfl) (by kernel_rfl) (by kernel_rfl) (fun _ _ _ h => h) (Or.inl ⟨by rfl, ?_⟩) (by assumption) ?_; rotate_left; (focus (intro w hSw; (try dsimp only at hSw); go_simp; (try with_reducible rfl))); (try simp only [Act.put, List.setIfInBounds_toArray, List.set_cons_zero, List.set_cons_succ])
          refine wpAnyH_take (i := 7) (oi := ⟨some 54, _, _, _, _, _⟩) (v := ?_) rfl (by kernel_rfl) (by kernel_rfl) (by kernel_rfl) (fun _ _ _ h => h) (Or.inl ⟨by rfl, ?_⟩) (by assumption) ?_; rotate_left; (focus (intro w hSw; (try dsimp only at hSw); go_simp; (try with_reducible rfl))); (try simp only [Act.put, List.setIfInBounds_toArray, List.set_cons_zero, List.set_cons_succ])
          refine wpAnyH_take (i := 9) (oi := ⟨some 56, _, _, _, _, _⟩) (v := ?_) rfl (by kernel_rfl) (by kernel_rfl) (by kernel_rfl) (fun _ _ _ h => h) (Or.inl ⟨by rfl, ?_⟩) (by assumption) ?_; rotate_left; (focus (intro w hSw; (try dsimp only at hSw); go_simp; (try with_reducible rfl))); (try simp only [Act.put, List.setIfInBounds_toArray, List.set_cons_zero, List.set_cons_succ])
          refine wpAnyH_take (i := 10) (oi := ⟨some 57, _, _, _, _, _⟩) (v := ?_) rfl (by kernel_rfl) (by kernel_rfl) (by kernel_rfl) (fun _ _ _ h => h) (Or.inl ⟨by rfl, ?_⟩) (by assumption) ?_; rotate_left; (focus (intro w hSw; (try dsimp only at hSw); go_simp; (try with_reducible rfl))); (try simp only [Act.put, List.setIfInBounds_toArray, List.set_cons_zero, List.set_cons_succ])
          refine wpAnyH_take (i := 11) (oi := ⟨some 58, _, _, _, _, _⟩) (v := ?_) rfl (by kernel_rfl) (by kernel_rfl) (by kernel_rfl) (fun _ _ _ h => h) (Or.inl ⟨by rfl, ?_⟩) (by assumption) ?_; rotate_left; (focus (intro w hSw; (try dsimp only at hSw); go_simp; (try with_reducible rfl))); (try simp only [Act.put, List.setIfInBounds_toArray, List.set_cons_zero, List.set_cons_succ])
          refine wpAnyH_take (i := 12) (oi := ⟨some 59, _, _, _, _, _⟩) (v := ?_) rfl (by kernel_rfl) (by kernel_rfl) (by kernel_rfl) (fun _ _ _ h => h) (Or.inl ⟨by rfl, ?_⟩) (by assumption) ?_; rotate_left; (focus (intro w hSw; (try dsimp only at hSw); go_simp; (try with_reducible rfl))); (try simp only [Act.put, List.setIfInBounds_toArray, List.set_cons_zero, List.set_cons_succ])
          refine wpAnyH_ready (rs := [3]) (by kernel_rfl) (by simp) ?_; refine AllReadyH.cons (o := ⟨some 50, _, _, _, _, _⟩) rfl (fun K hK => ?_) AllReadyH.nil; go_simp
          go_at_call 36
          refine (spec_copyIntsA (some ⟨b, off, none⟩) p c (xs.take p) W.drew W.heap.size (Nat.le_refl _) (by rw [List.length_take, ← HL.out]; omega) HI.out (by omega)).mono ?_
          rintro e w7 ⟨g7, c7, rfl, hown7', hb7'⟩
          have hb7 : Below W.heap.size W w7 := below_of_drew hb7'
          have hown7 : w7.ownsRow W.heap.size 3 1 (.slice (some ⟨g7, 0, none⟩) p c7) p ((xs.take p).map (Value.int .i64)) := hown7'
          have HNX7 := Lib.hid (add_cell HNX.out hb7 hbw)
          clear hown7' hb7' HNX
          have q17 := (hb7.cell (p := ⟨w.heap.size, 1, none⟩) hbl).trans q1
          have q27 := (hb7.cell (p := ⟨w.heap.size, 2, none⟩) hbl).trans q2
          clear q1 q2
          refine hK.out _ _ ⟨q17, q27⟩ (fun hHeld => ?_); clear hK K; (try simp only [Act.put, List.setIfInBounds_toArray, List.set_cons_zero, List.set_cons_succ])
          refine wpAnyH_ready (rs := [8]) (by kernel_rfl) (by simp) ?_; refine AllReadyH.cons (o := ⟨some 55, _, _, _, _, _⟩) rfl (fun K hK => ?_) AllReadyH.nil
          refine step_append_own_at _ (by rfl) _ _ _ (by rfl) W.heap.size 3 i0 (.int .i64 0) 1 8 Try.underlying22 hi hz0 hz1 hz2 rfl (by omega) (.slice (some ⟨g7, 0, none⟩) p c7) (p) ((xs.take p).map (Value.int .i64)) (by rfl) hown7 ⟨b, o2, none⟩ (n - (p + 1)) (c - (p + 1)) ((xs.drop (p + 1)).map (Value.int .i64)) (by rfl) (by rw [List.length_map, List.length_drop, ← HL.out]; omega) HNX7.out (one_ints _) (by unfold maxLen; omega) (by omega) hb7.size ?_
          intro v8 w8 hown_w8 hgrow_w8 hblk_w8
          have hpos8 := hown7.lt
          have hb78 : Below W.heap.size w7 w8 := (Below.refl _ _).grown (w' := w8) (w := w7) ⟨hgrow_w8.os, hgrow_w8.tape, hgrow_w8.output, hgrow_w8.size, hgrow_w8.block⟩ hb7.size (fun q hq => (hpos8 q hq).1)
          have hb8 : Below W.heap.size W w8 := hb7.trans hb78
          obtain ⟨l1, hl1⟩ : ∃ l1, l1 + 1 = n := ⟨n - 1, by omega⟩
          have HL1 := Lib.hid hl1
          have hown8 : w8.ownsRow W.heap.size 3 1 v8 l1 ((xs.take p ++ xs.drop (p + 1)).map (Value.int .i64)) := by
            have e : p + (n - (p + 1)) = l1 := by omega
            rw [e] at hown_w8
            rw [List.map_append]; exact hown_w8
          obtain ⟨g8, c8, rfl⟩ := own_form3 (g := g7) (n0 := p) (c0 := c7) hown8 (by
            rcases hblk_w8 with h | h
            · exact .inl h
            · exact .inr ⟨_, h⟩)
          have q18 := (hb78.cell (p := ⟨w.heap.size, 1, none⟩) hbl).trans q17
          have q28 := (hb78.cell (p := ⟨w.heap.size, 2, none⟩) hbl).trans q27
          have hb8w : Below w.heap.size w w8 := HBB.out.trans (hb8.mono (by omega))
          have HC8 := Lib.hid (Cm.of_own hown8)
          rw [← HRM.out] at HC8
          have HPB := Lib.hid (spec_putBehind _ _ _ l1 c8 (remF xs a) u a w8 HC8.out (by omega))
          rw [← HBE.out, ← HYE.out] at HPB
          have HB8 := Lib.hid hb8w
          have hbl8 : w.heap.size < w8.heap.size := by have := hb8.size; omega
          clear hl1 hown7 hown8 hown_w8 hgrow_w8 hblk_w8 hb7 hb78 hb8 hb8w hpos8 HNX7 q17 q27
          refine hK.out _ _ ⟨q18, q28⟩ (fun hHeld => ?_); clear hK K; (try simp only [Act.put, List.setIfInBounds_toArray, List.set_cons_zero, List.set_cons_succ])
          refine wpAnyH_ready (rs := [13]) (by kernel_rfl) (by simp) ?_; refine AllReadyH.cons (o := ⟨some 60, _, _, _, _, _⟩) rfl (fun K hK => ?_) AllReadyH.nil; go_simp
          go_at_call 59
          refine HPB.out.mono ?_
          rintro e w9 hr
          have HR := Lib.hid (hr.up HB8.out)
          rcases hr with ⟨rfl, g, cap, l, rfl, -, -, hb9⟩ | ⟨rfl, rfl, hb9⟩
          · have q19 := (hb9.cell (p := ⟨w.heap.size, 1, none⟩) hbl8).trans q18
            have q29 := (hb9.cell (p := ⟨w.heap.size, 2, none⟩) hbl8).trans q28
            clear hb9
            refine hK.out _ _ ⟨q19, q29⟩ (fun hHeld => ?_); clear hK K; (try simp only [Act.put, List.setIfInBounds_toArray, List.set_cons_zero, List.set_cons_succ])
            refine wpAnyH_take (i := 14) (oi := ⟨some 61, _, _, _, _, _⟩) (v := ?_) rfl (by kernel_rfl) (by kernel_rfl) (by kernel_rfl) (fun _ _ _ h => h) (Or.inl ⟨by rfl, ?_⟩) (by assumption) ?_; rotate_left; (focus (intro w hSw; (try dsimp only at hSw); go_simp; (try with_reducible rfl))); (try simp only [Act.put, List.setIfInBounds_toArray, List.set_cons_zero, List.set_cons_succ])
            refine wpAnyH_take (i := 15) (oi := ⟨some 62, _, _, _, _, _⟩) (v := ?_) rfl (by kernel_rfl) (by kernel_rfl) (by kernel_rfl) (fun _ _ _ h => h) (Or.inl ⟨by rfl, ?_⟩) (by assumption) ?_; rotate_left; (focus (intro w hSw; (try dsimp only at hSw); go_simp; (try with_reducible rfl))); (try simp only [Act.put, List.setIfInBounds_toArray, List.set_cons_zero, List.set_cons_succ])
            refine wpAnyH_take (i := 16) (oi := ⟨some 4, _, _, _, _, _⟩) (v := ?_) rfl (by kernel_rfl) (by kernel_rfl) (by kernel_rfl) (fun _ _ _ h => h) (Or.inl ⟨by rfl, ?_⟩) (by assumption) ?_; rotate_left; (focus (intro w hSw; (try dsimp only at hSw); go_simp; (try with_reducible rfl))); (try simp only [Act.put, List.setIfInBounds_toArray, List.set_cons_zero, List.set_cons_succ])
            refine wpAnyH_take (i := 17) (oi := ⟨some 5, _, _, _, _, _⟩) (v := ?_) rfl (by kernel_rfl) (by kernel_rfl) (by kernel_rfl) (fun _ _ _ h => h) (Or.inl ⟨by rfl, ?_⟩) (by assumption) ?_; rotate_left; (focus (intro w hSw; (try dsimp only at hSw); go_simp; (try with_reducible rfl))); (try simp only [Act.put, List.setIfInBounds_toArray, List.set_cons_zero, List.set_cons_succ])
            refine wpAnyH_done (by kernel_rfl) ?_ _
            go_wp2
            go_ret2
            exact HR.out
          · have q19 := (hb9.cell (p := ⟨w.heap.size, 1, none⟩) hbl8).trans q18
            have q29 := (hb9.cell (p := ⟨w.heap.size, 2, none⟩) hbl8).trans q28
            clear hb9
            refine hK.out _ _ ⟨q19, q29⟩ (fun hHeld => ?_); clear hK K; (try simp only [Act.put, List.setIfInBounds_toArray, List.set_cons_zero, List.set_cons_succ])
            refine wpAnyH_take (i := 14) (oi := ⟨some 61, _, _, _, _, _⟩) (v := ?_) rfl (by kernel_rfl) (by kernel_rfl) (by kernel_rfl) (fun _ _ _ h => h) (Or.inl ⟨by rfl, ?_⟩) (by assumption) ?_; rotate_left; (focus (intro w hSw; (try dsimp only at hSw); go_simp; (try with_reducible rfl))); (try simp only [Act.put, List.setIfInBounds_toArray, List.set_cons_zero, List.set_cons_succ])
            refine wpAnyH_take (i := 15) (oi := ⟨some 62, _, _, _, _, _⟩) (v := ?_) rfl (by kernel_rfl) (by kernel_rfl) (by kernel_rfl) (fun _ _ _ h => h) (Or.inl ⟨by rfl, ?_⟩) (by assumption) ?_; rotate_left; (focus (intro w hSw; (try dsimp only at hSw); go_simp; (try with_reducible rfl))); (try simp only [Act.put, List.setIfInBounds_toArray, List.set_cons_zero, List.set_cons_succ])
            refine wpAnyH_take (i := 16) (oi := ⟨some 4, _, _, _, _, _⟩) (v := ?_) rfl (by kernel_rfl) (by kernel_rfl) (by kernel_rfl) (fun _ _ _ h => h) (Or.inl ⟨by rfl, ?_⟩) (by assumption) ?_; rotate_left; (focus (intro w hSw; (try dsimp only at hSw); go_simp; (try with_reducible rfl))); (try simp only [Act.put, List.setIfInBounds_toArray, List.set_cons_zero, List.set_cons_succ])
            refine wpAnyH_take (i := 17) (oi := ⟨some 5, _, _, _, _, _⟩) (v := ?_) rfl (by kernel_rfl) (by kernel_rfl) (by kernel_rfl) (fun _ _ _ h => h) (Or.inl ⟨by rfl, ?_⟩) (by assumption) ?_; rotate_left; (focus (intro w hSw; (try dsimp only at hSw); go_simp; (try with_reducible rfl))); (try simp only [Act.put, List.setIfInBounds_toArray, List.set_cons_zero, List.set_cons_succ])
            refine wpAnyH_done (by kernel_rfl) ?_ _
            go_wp2
            go_ret2
            exact HR.out
        · have e2 : (k == 2) = false := by simp [k2]
          have hB : B = false := by rw [HB.out, if_neg k0, if_neg k1, if_neg k2]
          clear HB k0 k1 k2
          go_wp2
          go_ret2
          exact RetPB.no (by first | exact hB | rfl) HBB.out
  · have hp : plc xs a = -1 := by unfold plc; rw [if_neg hm]
    rw [hp] at HPL
    have hd : decide (a ∈ xs) = false := decide_eq_false hm
    rw [hd] at HB
    clear hd hm hp
    have HPB := Lib.hid (spec_putBehind d0 b off n c xs u a W HX.out (by omega))
    go_enter Try.func37, Try.ntmps37
    go_upto_region 1 with fail
    rw [← hW]
    clear hW
    go_wp2_with fail
    refine HPL.out.mono ?_
    rintro e w' ⟨rfl, rfl⟩
    clear HPL
    by_cases k0 : k = 0
    · have hB : B = false := by rw [HB.out, if_pos k0]; rfl
      subst k0
      clear HB
      go_wp2
      go_ret2
      exact RetPB.no (by first | exact hB | rfl) HBB.out
    · have e0 : (k == 0) = false := by simp [k0]
      by_cases k1 : k = 1
      · have hB : B = putB xs u a := by rw [HB.out, if_neg k0, if_pos k1]; rfl
        have hY : Y = putF xs u a := by rw [HY.out, if_neg k0, if_pos k1]
        rw [← hB, ← hY] at HPB
        subst k1
        clear HB HY hB hY k0
        go_wp2_with fail
        refine HPB.out.mono ?_
        rintro e w9 hr
        have HR := Lib.hid (hr.up HBB.out)
        rcases hr with ⟨rfl, g, cap, l, rfl, -, -, -⟩ | ⟨rfl, rfl, -⟩
        · go_wp2
          go_ret2
          exact HR.out
        · go_wp2
          go_ret2
          exact HR.out
      · have e1 : (k == 1) = false := by simp [k1]
        by_cases k2 : k = 2
        · have hB : B = false := by rw [HB.out, if_neg k0, if_neg k1, if_pos k2]; rfl
          subst k2
          clear HB k0 k1
          go_wp2
          go_ret2
          exact RetPB.no (by first | exact hB | rfl) HBB.out
        · have e2 : (k == 2) = false := by simp [k2]
          have hB : B = false := by rw [HB.out, if_neg k0, if_neg k1, if_neg k2]
          clear HB k0 k1 k2
          go_wp2
          go_ret2
          exact RetPB.no (by first | exact hB | rfl) HBB.out

set_option maxRecDepth 100000 in
set_option maxHeartbeats 6400000 in
theorem top_spec_ApplyPatch (xs : List Int) (ac : List Ac) (hL : xs.length ≤ 1048576) (hL2 : ac.length ≤ 1048576) : ∀ (A : Option Addr) (n c : Nat) (A' : Option Addr) (m c' : Nat) (w : World), n = xs.length → n ≤ c → IS w w.heap.size A xs → m = ac.length → m ≤ c' → CS w w.heap.size A' ac →
    Calls Try.prog 10 #[.slice A n c, .slice A' m c'] w fun e w' => RetIB w (applyF xs ac) (applyB xs ac) e w' := by
  intro A n c A' m c' w hn hnc h hm hmc h'
  have HV := Lib.hid (spec_validKeys A n c xs w w.heap.size (Nat.le_refl _) hn hnc h (by omega))
  have HN := Lib.hid hn
  have HM := Lib.hid hm
  have H := Lib.hid h
  have HX := Lib.hid h'
  have HVL := Lib.hid (validK_len xs)
  have HVI := Lib.hid (validK_in30 xs)
  have hm1 : m ≤ 2000000 := by omega
  have hn1 : n ≤ 2000000 := by omega
  have HFB : Hid (applyB xs ac = (validK xs && decide (m ≤ 40) && okR (patched xs ac))) := by show _ = _; rw [hm]; rfl
  have HFF : Hid (applyF xs ac = if applyB xs ac then (patched xs ac).getD [] else []) := rfl
  have HST := Lib.hid fun (ys : List Int) (k : Nat) (hk : k < m) => patched_step ys ac k (by omega)
  have HDR : Hid (patched xs ac = patched xs (ac.drop 0)) := rfl
  have HDE : Hid (ac.drop m = []) := List.drop_eq_nil_of_le (by omega)
  generalize applyB xs ac = B at *
  generalize applyF xs ac = Y at *
  generalize patched xs ac = R at *
  have hno : B = false → Y = [] := fun hb => by rw [HFF.out, hb]; rfl
  have HNO := Lib.hid hno
  clear hn h hm h' hno hL hL2
  go_enter Try.func10, Try.ntmps10
  go_wp2_with fail
  refine HV.out.mono ?_
  rintro e w1 ⟨rfl, hb1⟩
  have HB1 := Lib.hid hb1
  generalize hv : validK xs = v at *
  have HVE := Lib.hid hv
  clear hb1 HV hv
  cases v
  · have hB : B = false := by rw [HFB.out]; rfl
    have hY := HNO.out hB
    subst hB hY
    clear HFB HFF HNO
    go_wp2
    go_ret2
    exact RetIB.nil HB1.out
  have hx10 := HVL.out rfl
  have HI := Lib.hid (HVI.out rfl)
  rw [← HN.out] at hx10
  clear HVL HVI
  by_cases hm40 : 40 < m
  · have hB : B = false := by rw [HFB.out, decide_eq_false (by omega)]; rfl
    have hY := HNO.out hB
    have hmi : (40 : Int) < (m : Int) := by omega
    subst hB hY
    clear HFB HFF HNO
    go_wp2
    go_ret2
    exact RetIB.nil HB1.out
  have hmi : ¬ (40 : Int) < (m : Int) := by omega
  have HFC : Hid (B = okR R) := by show _ = _; rw [HFB.out, decide_eq_true (by omega)]; rfl
  clear HFB
  have HCP := Lib.hid (spec_copyIntsA A n c xs w1 w.heap.size HB1.out.size HN.out (H.out.below HB1.out (Nat.le_refl _)) hn1)
  go_wp2_with fail
  refine HCP.out.mono ?_
  rintro e w2 ⟨g2, c2, rfl, hown2, hb2⟩
  have HO2 : Hid (w2.ownsRow w.heap.size 3 1 (.slice (some ⟨g2, 0, none⟩) n c2) n (xs.map (Value.int .i64))) := own_mono hown2 HB1.out.size
  have HB2 := Lib.hid (HB1.out.trans (hb2.mono HB1.out.size))
  clear hown2 hb2 HCP
  go_wp2
  go_loopw [6, 7] (fun v i wr => ∃ (k g cap l : Nat) (ys : List Int), k ≤ m ∧ i = .int .i64 k ∧ v = .slice (some ⟨g, 0, none⟩) l cap ∧ l ≤ 10 + k ∧ Hid (l = ys.length) ∧ Hid (In30 ys) ∧ Hid (wr.ownsRow w.heap.size 3 1 (.slice (some ⟨g, 0, none⟩) l cap) l (ys.map (Value.int .i64))) ∧ Hid (R = patched ys (ac.drop k)) ∧ Hid (Below w.heap.size w wr)) (fun _ i _ => m - (intOf i).toNat)
  case atStart => exact ⟨0, g2, c2, n, xs, Nat.zero_le _, rfl, rfl, by omega, HN.out, HI.out, HO2.out, HDR.out, HB2.out⟩
  case round =>
    obtain ⟨k, g, cap, l, ys, hk, rfl, rfl, hl10, HL, HI3, HO, HR, HB⟩ := hrel
    clear HO2 HB2 HDR HI
    by_cases hlt : k < m
    · have hka : k < ac.length := by have := HM.out; omega
      obtain ⟨b, off, rfl, hbB, hcs⟩ := HX.out (by omega)
      obtain ⟨c0, c1, c2⟩ := hcs k hka
      clear hcs
      have b0 := (HB.out.cell (p := ⟨b, off + k * 3, none⟩) (show b < w.heap.size by omega)).trans c0
      have b1 := (HB.out.cell (p := ⟨b, off + k * 3 + 1, none⟩) (show b < w.heap.size by omega)).trans c1
      have b2 := (HB.out.cell (p := ⟨b, off + k * 3 + 2, none⟩) (show b < w.heap.size by omega)).trans c2
      have hbr : b < wr.heap.size := by have := HB.out.size; omega
      have hst := HST.out ys k hlt
      rw [← HR.out] at hst
      have hol := oneL_len ys (ac.getD k default)
      have hoi := HI3.out.chg (c := ac.getD k default)
      clear c0 c1 c2
      generalize ac.getD k default = x at *
      have HCH := Lib.hid (spec_changed _ _ _ _ _ ys x wr (Cm.of_own HO.out) (by omega))
      have HS := Lib.hid hst
      have HOL := Lib.hid hol
      have HOI := Lib.hid hoi
      clear hst hol hoi
      obtain ⟨pk, pa, pb⟩ := x
      generalize oneB ys ⟨pk, pa, pb⟩ = ob at *
      generalize oneL ys ⟨pk, pa, pb⟩ = zs at *
      go_wp2_with fail
      refine HCH.out.mono ?_
      rintro e w3 hr
      rcases hr with ⟨rfl, g3, c3, l3, rfl, hl3, hown3, hb3⟩ | ⟨rfl, rfl, hb3⟩
      · have HO3 : Hid (w3.ownsRow w.heap.size 3 1 (.slice (some ⟨g3, 0, none⟩) l3 c3) l3 (zs.map (Value.int .i64))) := own_mono hown3 HB.out.size
        have HB3 := Lib.hid (HB.out.trans (hb3.mono HB.out.size))
        have HL3 := Lib.hid hl3
        have hl3b : l3 ≤ 10 + (k + 1) := by have := HOL.out rfl; have := HL.out; omega
        have HI4 := Lib.hid (HOI.out rfl)
        have HS2 : Hid (R = patched zs (ac.drop (k + 1))) := by show _ = _; rw [HS.out]; rfl
        clear hown3 hb3 hl3 HS HOL HOI HO HB HCH
        go_wp2
        go_roundw
        case rel => exact ⟨k + 1, g3, c3, l3, zs, by omega, by go_num, rfl, by omega, HL3.out, HI4.out, HO3.out, HS2.out, HB3.out⟩
        case measure => simp [intOf]; omega
      · have hB : B = false := by rw [HFC.out, HS.out]; rfl
        have hY := HNO.out hB
        have HB3 := Lib.hid (HB.out.trans (hb3.mono HB.out.size))
        subst hB hY
        clear hb3 HFC HFF HNO HS HOL HOI HO HB HCH
        go_wp2
        go_ret2
        exact RetIB.nil HB3.out
    · obtain rfl : k = m := by omega
      have HVK := Lib.hid (spec_validKeys (some ⟨g, 0, none⟩) l cap ys wr wr.heap.size (Nat.le_refl _) HL.out (own_ncap HO.out) (IS.of_own HO.out) (by omega))
      have hRS : R = some ys := by rw [HR.out, HDE.out]; rfl
      have hBv : B = validK ys := by rw [HFC.out, hRS]; rfl
      rw [← hBv] at HVK
      have hYv : B = true → Y = ys := fun hb => by rw [HFF.out, hb, hRS]; rfl
      have HYV := Lib.hid hYv
      clear hRS hBv hYv HFF HFC HR
      go_wp2_with fail
      refine HVK.out.mono ?_
      rintro e w4 ⟨rfl, hb4⟩
      have HB4 := Lib.hid (HB.out.trans (hb4.mono HB.out.size))
      have HO4 := Lib.hid (own_below HO.out hb4)
      clear hb4 HVK
      cases B
      · have hY := HNO.out rfl
        subst hY
        clear HNO
        go_wp2
        go_ret2
        exact RetIB.nil HB4.out
      · have hY := HYV.out rfl
        subst hY
        clear HNO HYV
        go_wp2
        go_ret2
        exact ⟨_, rfl, by unfold OwnI; rw [← HL.out]; exact HO4.out, HB4.out⟩
end Go.Proofs.Ytlbomopjldhmeaa
