/- The standing contracts of MustRun: the program's. -/
import Derived.Test.YthephbppeiealaaT14
import Derived.Deep.QuietTactic
import Derived.BigQuiet
namespace Go.Proofs.Ythephbppeiealaa
set_option linter.unusedSimpArgs false
set_option linter.unusedVariables false
open Go.RowKit

set_option maxRecDepth 100000 in
set_option maxHeartbeats 1600000 in
theorem impl_nodesWhere3 (K : FuncId) (cap cap2 cap3 : Value) (P : Nat → Bool) (I : World → Prop) (A : Option Addr) (n c : Nat) (hs : n ≤ 2000000)
    (hI : ∀ w w' : World, I w → Below w.heap.size w w' → I w') (hcf : ∀ (q : Nat) (w : World), (callFunc K #[.int .i64 q, cap, cap2, cap3]).run Try.prog w = .ok (.enter K #[.int .i64 q, cap, cap2, cap3]) w)
    (hP : ∀ (q : Nat) (w : World), q < n → I w → Calls Try.prog K #[.int .i64 q, cap, cap2, cap3] w fun e w' => e = .returned (.bool (P q)) ∧ Below w.heap.size w w') (w : World) (h : I w) :
    Calls Try.prog 94 #[.agg #[.slice A n c], .func (.func K) #[] #[cap, cap2, cap3]] w fun e w' => RetI w (nwTo P n) e w' := by
  obtain ⟨i0, hi, hz0, hz1, hz2⟩ := info_parts info_int
  have HI := Lib.hid hI
  have HP := Lib.hid hP
  have H := Lib.hid h
  have HCF := Lib.hid hcf
  clear hI hP h hcf
  go_enter Try.func94, Try.ntmps94
  go_wp2
  go_loopw [5, 10] (fun v i wr => ∃ k : Nat, k ≤ n ∧ i = .int .i64 k ∧ Hid (OwnI wr (w.heap.size + 1) v (nwTo P k)) ∧ Below (w.heap.size + 1) (w.alloc (.cells #[.slice A n c] 34)) wr) (fun _ i _ => n - (intOf i).toNat)
  case atStart => exact ⟨0, Nat.zero_le _, rfl, World.ownsRow_nil _ _ _ _, Below.refl _ _⟩
  case round =>
    obtain ⟨k, hk, rfl, HO, hbr⟩ := hrel
    have hwr : w.heap.size + 1 ≤ wr.heap.size := by have := hbr.size; simpa using this
    by_cases hlt : k < n
    · have HST := Lib.hid (nwTo_step P k)
      have hdl := nwTo_len P k
      have HIR := Lib.hid (HI.out _ _ H.out (((Below.refl _ _).alloc (Nat.le_refl _) _).trans (hbr.mono (by omega))))
      have HPK := Lib.hid fun (w' : World) (h : I w') => HP.out k w' hlt h
      have hcf := HCF.out k
      generalize nwTo P k = D at *
      generalize P k = p at *
      cases p
      · go_wp2_with fail
        refine (HPK.out _ HIR.out).mono ?_
        rintro e w2 ⟨rfl, hb2⟩
        go_wp2
        go_roundw
        case rel => exact ⟨k + 1, by omega, by go_num, by rw [HST.out]; simpa [OwnI, Hid] using own_below HO.out hb2, hbr.trans (hb2.mono hwr)⟩
        case measure => simp [intOf]; omega
      · go_wp2_with fail
        refine (HPK.out _ HIR.out).mono ?_
        rintro e w2 ⟨rfl, hb2⟩
        have HO2 := Lib.hid (own_below HO.out hb2)
        have hbr2 := hbr.trans (hb2.mono hwr)
        have hw2 : w.heap.size + 1 ≤ w2.heap.size := by have := hb2.size; omega
        clear hcf
        go_wp2_with (at_builtin; refine wpList_append_own _ rfl _ _ 25 rfl (w.heap.size + 1) 3 i0 (.int .i64 0) 1 8 Try.underlying25 hi hz0 hz1 hz2 rfl (by decide) _ _ _ rfl (HO2.out.alloc _) ⟨_, 0, none⟩ 1 1 [.int .i64 k] rfl rfl (cell_one_new _ _ _) ?c2 ?c3 ?c4 ?c5 ?_)
        case c2 => first | rfl | (intro u hu; simp at hu; subst hu; rfl)
        case c3 => unfold maxLen; omega
        case c4 => omega
        case c5 => first | omega | (simp; omega)
        intro v' w3 hown' hgrow _
        have hpos := (HO2.out.alloc (.cells #[.int .i64 k] 3)).lt
        have HO' : Hid (OwnI w3 (w.heap.size + 1) v' (nwTo P (k + 1))) := by
          rw [HST.out]
          simpa [OwnI, Hid] using hown'
        have HB' := Lib.hid ((hbr2.alloc hw2 (.cells #[.int .i64 k] 3)).grown hgrow (by first | (simp; omega) | omega) (fun q hq => (hpos q hq).1))
        clear hown' hgrow hpos
        go_wp2
        go_roundw
        case rel => exact ⟨k + 1, by omega, by go_num, HO'.out, HB'.out⟩
        case measure => simp [intOf]; omega
    · obtain rfl : k = n := by omega
      go_wp2
      go_ret
      exact ⟨_, rfl, own_mono HO.out (by omega), ((Below.refl _ _).alloc (Nat.le_refl _) _).trans (hbr.mono (by omega))⟩


set_option maxHeartbeats 800000 in
theorem slices_IndexFunc1 (K : FuncId) (cap : Value) (P : Int → Bool) (A : Option Addr) (n c : Nat) (xs : List Int) (hs : n ≤ 2000000) (w : World) (hcf : ∀ (q : Int) (w : World), (callFunc K #[.int .i64 q, cap]).run Try.prog w = .ok (.enter K #[.int .i64 q, cap]) w)
    (hP : ∀ (q : Int), Calls Try.prog K #[.int .i64 q, cap] w fun e w' => e = .returned (.bool (P q)) ∧ w' = w) (hn : n = xs.length) (B : Nat) (hx : IS w B A xs) :
    Calls Try.prog 141 #[.slice A n c, .func (.func K) #[] #[cap]] w fun e w' => (∃ r : Int, e = .returned (.int .i64 r) ∧ decide (r ≥ 0) = xs.any P) ∧ w' = w := by
  have HP := Lib.hid hP
  have HCF := Lib.hid hcf
  have HX := Lib.hid hx
  have HN := Lib.hid hn
  clear hP hcf hx hn
  go_enter Try.func141, Try.ntmps141
  go_wp2
  go_loopw [8] (fun i wr => ∃ k : Nat, k ≤ n ∧ i = .int .i64 k ∧ Hid (∀ j, j < k → P (xs.getD j 0) = false) ∧ wr = w) (fun i _ => n - (intOf i).toNat)
  case atStart => exact ⟨0, Nat.zero_le _, rfl, fun j hj => by omega, rfl⟩
  case round =>
    obtain ⟨k, hk, rfl, HA, rfl⟩ := hrel
    by_cases hlt : k < n
    · have hkx : k < xs.length := by have := HN.out; omega
      obtain ⟨b, off, rfl, hbB, hc⟩ := HX.out (by omega)
      have c0 := hc k hkx
      have HNX : Hid (P (xs.getD k 0) = false → ∀ j, j < k + 1 → P (xs.getD j 0) = false) := fun h j hj => by
        rcases Nat.lt_or_ge j k with h1 | h1
        · exact HA.out j h1
        · obtain rfl : j = k := by omega
          exact h
      have HYS : Hid (P (xs.getD k 0) = true → xs.any P = true) := fun h => List.any_eq_true.2 ⟨xs.getD k 0, by simp [List.getD, hkx], h⟩
      have HPK := Lib.hid (HP.out (xs.getD k 0))
      have hcf := HCF.out (xs.getD k 0)
      generalize xs.getD k 0 = x at *
      generalize P x = p at *
      clear hc HX
      cases p
      · have HN2 := Lib.hid (HNX.out (by first | rfl | trivial))
        go_wp2_with fail
        refine HPK.out.mono ?_
        rintro e w2 ⟨rfl, rfl⟩
        go_wp2
        go_roundw
        case rel => exact ⟨k + 1, by omega, by go_num, HN2.out, by first | rfl | trivial⟩
        case measure => simp [intOf]; omega
      · have HY2 := Lib.hid (HYS.out (by first | rfl | trivial))
        go_wp2_with fail
        refine HPK.out.mono ?_
        rintro e w2 ⟨rfl, rfl⟩
        go_wp2
        go_ret
        exact ⟨⟨k, rfl, by rw [HY2.out]; simp⟩, rfl⟩
    · go_wp2
      go_ret
      refine ⟨⟨-1, rfl, ?_⟩, rfl⟩
      have : xs.any P = false := by
        rw [List.any_eq_false]
        intro x hx
        obtain ⟨j, hj, he⟩ := List.mem_iff_getElem.1 hx
        have := HA.out j (by have := HN.out; omega)
        rw [show xs.getD j 0 = x by simp [List.getD, hj, he]] at this
        simp [this]
      rw [this]; rfl

set_option maxHeartbeats 800000 in
theorem slices_ContainsFunc1 (K : FuncId) (cap : Value) (P : Int → Bool) (A : Option Addr) (n c : Nat) (xs : List Int) (hs : n ≤ 2000000) (w : World) (hcf : ∀ (q : Int) (w : World), (callFunc K #[.int .i64 q, cap]).run Try.prog w = .ok (.enter K #[.int .i64 q, cap]) w)
    (hP : ∀ (q : Int), Calls Try.prog K #[.int .i64 q, cap] w fun e w' => e = .returned (.bool (P q)) ∧ w' = w) (hn : n = xs.length) (B : Nat) (hx : IS w B A xs) :
    Calls Try.prog 96 #[.slice A n c, .func (.func K) #[] #[cap]] w fun e w' => e = .returned (.bool (xs.any P)) ∧ w' = w := by
  have HC := Lib.hid (slices_IndexFunc1 K cap P A n c xs hs w hcf hP hn B hx)
  generalize xs.any P = r at *
  clear hcf hP hn hx
  go_enter Try.func96, Try.ntmps96
  go_wp2_with fail
  refine HC.out.mono ?_
  rintro e w1 ⟨⟨q, rfl, hq⟩, rfl⟩
  cases r
  all_goals
    go_wp2
    go_ret
    exact ⟨rfl, rfl⟩

set_option maxHeartbeats 800000 in
theorem must1_at (g : Nat) (A : Option Addr) (lc c : Nat) (q : Int) (C : List Int) (w : World) (hl : lc = C.length) (hs : lc ≤ 2000000) (h1 : w.cell? ⟨g, 0, none⟩ = some (.slice A lc c)) (h : IS w w.heap.size A C) :
    Calls Try.prog 92 #[.int .i64 q, .pointer (some ⟨g, 0, none⟩)] w fun e w' => e = .returned (.bool (decide (q ∈ C))) ∧ w' = w := by
  have HC := Lib.hid (slices_Contains A lc c C q w w.heap.size (Nat.le_refl _) hl h hs)
  generalize decide (q ∈ C) = r at *
  clear hl h
  go_enter Try.func92, Try.ntmps92
  go_wp2_with fail
  refine HC.out.mono ?_
  rintro e w1 ⟨rfl, rfl⟩
  go_wp2
  go_ret
  exact ⟨rfl, rfl⟩

theorem meetB_any (a b : List Int) : a.any (fun x => decide (x ∈ b)) = meetB a b := rfl

/-- What the second closure's variables hold: the graph, the first closure, what is read, what has changed. -/
structure IM (g g7 g9 g8 : Nat) (A : Option Addr) (n c : Nat) (gs : List Nd) (Ac : Option Addr) (lc cc : Nat) (C : List Int) (E : Option Addr) (dn dc : Nat) (D : List (List Int)) (w : World) : Prop where
  l0 : g < w.heap.size
  l7 : g7 < w.heap.size
  l9 : g9 < w.heap.size
  l8 : g8 < w.heap.size
  c0 : w.cell? ⟨g, 0, none⟩ = some (.slice A n c)
  c7 : w.cell? ⟨g7, 0, none⟩ = some (.slice Ac lc cc)
  c9 : w.cell? ⟨g9, 0, none⟩ = some (.func (.func 92) #[] #[.pointer (some ⟨g7, 0, none⟩)])
  c8 : w.cell? ⟨g8, 0, none⟩ = some (.slice E dn dc)
  gr : GS w w.heap.size A gs
  ch : IS w w.heap.size Ac C
  dp : SS w w.heap.size E D
theorem IM.step {g g7 g9 g8 : Nat} {A : Option Addr} {n c : Nat} {gs : List Nd} {Ac : Option Addr} {lc cc : Nat} {C : List Int} {E : Option Addr} {dn dc : Nat} {D : List (List Int)} {w w' : World} (h : IM g g7 g9 g8 A n c gs Ac lc cc C E dn dc D w) (hb : Below w.heap.size w w') : IM g g7 g9 g8 A n c gs Ac lc cc C E dn dc D w' :=
  ⟨Nat.lt_of_lt_of_le h.l0 hb.size, Nat.lt_of_lt_of_le h.l7 hb.size, Nat.lt_of_lt_of_le h.l9 hb.size, Nat.lt_of_lt_of_le h.l8 hb.size, (hb.cell (p := ⟨g, 0, none⟩) h.l0).trans h.c0, (hb.cell (p := ⟨g7, 0, none⟩) h.l7).trans h.c7, (hb.cell (p := ⟨g9, 0, none⟩) h.l9).trans h.c9, (hb.cell (p := ⟨g8, 0, none⟩) h.l8).trans h.c8, (h.gr.below hb (Nat.le_refl _)).more hb.size, h.ch.step hb, h.dp.step hb⟩

theorem IM.drewN {g g7 g9 g8 : Nat} {A : Option Addr} {n c : Nat} {gs : List Nd} {Ac : Option Addr} {lc cc : Nat} {C : List Int} {E : Option Addr} {dn dc : Nat} {D : List (List Int)} {w : World} (h : IM g g7 g9 g8 A n c gs Ac lc cc C E dn dc D w) (k : Nat) : IM g g7 g9 g8 A n c gs Ac lc cc C E dn dc D (w.drewN k) :=
  ⟨h.l0, h.l7, h.l9, h.l8, h.c0, h.c7, h.c9, h.c8, h.gr, h.ch, h.dp⟩
theorem drewN_below1 {B n : Nat} {a w : World} (h : Below B a w) : Below B a (w.drewN n) := ⟨h.os, h.tape, h.output, h.size, h.block⟩

set_option maxRecDepth 100000 in
set_option maxHeartbeats 1600000 in
theorem must2_at (g g7 g9 g8 : Nat) (A : Option Addr) (n c : Nat) (gs : List Nd) (Ac : Option Addr) (lc cc : Nat) (C : List Int) (E : Option Addr) (dn dc : Nat) (D : List (List Int)) (q : Nat) (w : World) (h : IM g g7 g9 g8 A n c gs Ac lc cc C E dn dc D w) (hn : n = gs.length) (hdn : dn = D.length) (hdq : dn = n) (hl : lc = C.length) (hs : lc ≤ 2000000) (hs2 : ∀ j, (D.getD j []).length ≤ 1048576) (hq : q < n) (hns : n ≤ 2000000) :
    Calls Try.prog 95 #[.int .i64 q, .pointer (some ⟨g, 0, none⟩), .pointer (some ⟨g9, 0, none⟩), .pointer (some ⟨g8, 0, none⟩)] w fun e w' => e = .returned (.bool (!((gs.getD q default).k == 0) && (decide ((q : Int) ∈ C) || meetB (D.getD q []) C))) ∧ Below w.heap.size w w' := by
  obtain ⟨b, off, rfl, hbB, c0, _, _, _, _, _⟩ := h.gr.at_ q (by omega)
  obtain ⟨b3, off3, rfl, hbB3, A3, n3, c3, d1, hn3, hls⟩ := h.dp.at_ q (by omega)
  have hdlt : (q : Int) < (dn : Int) := by omega
  have hqlt : (q : Int) < (n : Int) := by omega
  have q0 := h.c0
  have q9 := h.c9
  have q8 := h.c8
  have hn3b := hs2 q
  rw [← hn3] at hn3b
  have hcf : ∀ (x : Int) (w : World), (callFunc 92 #[.int .i64 x, .pointer (some ⟨g7, 0, none⟩)]).run Try.prog w = .ok (.enter 92 #[.int .i64 x, .pointer (some ⟨g7, 0, none⟩)]) w := fun x w => by kernel_rfl
  have HM1 := Lib.hid fun (x : Int) (k : Nat) => must1_at g7 Ac lc cc x C (w.drewN k) hl hs (h.drewN k).c7 (h.drewN k).ch
  have HCF := Lib.hid fun (k : Nat) =>
    slices_ContainsFunc1 92 (.pointer (some ⟨g7, 0, none⟩)) (fun x => decide (x ∈ C)) A3 n3 c3 (D.getD q []) (by omega) (w.drewN k) hcf (fun x => HM1.out x k) hn3 w.heap.size hls
  have hma : (D.getD q []).any (fun x => decide (x ∈ C)) = meetB (D.getD q []) C := rfl
  rw [hma] at HCF
  have hcq := hcf (q : Int)
  have HMQ := Lib.hid (HM1.out (q : Int))
  generalize meetB (D.getD q []) C = r2 at *
  generalize decide ((q : Int) ∈ C) = r1 at *
  generalize D.getD q [] = DL at *
  generalize (gs.getD q default).k = kd at *
  clear hcf hn hdn hdq hl hls hn3 h hma HM1 hs2
  cases hd : (kd == 0)
  · have hd' : (kd != 0) = true := by simp [bne, hd]
    clear hd
    cases r1
    · go_enter Try.func95, Try.ntmps95
      go_wp2
      go_quiet (first | (go_at_call 92; exact Calls.quiet_of_same (HMQ.out _)) | (go_at_call 96; exact Calls.quiet_of_same (HCF.out _)))
      go_wp2
      go_ret
      exact ⟨ret_b (by simp), drewN_below1 (Below.refl _ _)⟩
    · go_enter Try.func95, Try.ntmps95
      go_wp2
      go_quiet (first | (go_at_call 92; exact Calls.quiet_of_same (HMQ.out _)))
      go_wp2
      go_ret
      exact ⟨ret_b (by simp), drewN_below1 (Below.refl _ _)⟩
  · have hd' : (kd != 0) = false := by simp [bne, hd]
    clear hd
    go_enter Try.func95, Try.ntmps95
    go_wp2
    go_quiet (fail)
    go_wp2
    go_ret
    exact ⟨ret_b (by simp), drewN_below1 (Below.refl _ _)⟩
end Go.Proofs.Ythephbppeiealaa
