/- spec.copyLazy, spec.writeLazy and spec.WriteLazy. (Made by t46.py.) -/
import Derived.Test.YtlcpgbbpjnkihaaGreatT45
import Derived.Test.YtlcpgbbpjnkihaaGreatL3
import Derived.Deep.RegionHeld3
import Derived.Deep.Cut

namespace Go.Proofs.YtlcpgbbpjnkihaaGreat
set_option linter.unusedSimpArgs false
set_option linter.unusedVariables false
open Go.RowKit

theorem WQ.setV {B h0 n cr gv cv q : Nat} {Er : Option Addr} {U : List Value} {vs ch rn : List Int} {rs : List (List Int)} {w : World} (h : WQ B h0 Er cr n U vs ch rn rs w) (hh : h0 ≤ w.heap.size) (h1 : U[0]? = some (.slice (some ⟨gv, 0, none⟩) n cv)) (x : Int) : WQ B h0 Er cr n U (vs.set q x) ch rn rs (w.setCell ⟨gv, q, none⟩ (.int .i64 x)) := by
  have h2 := (h.f hh).setV (q := q) h1 x
  refine ⟨h.ul, h.rl, ⟨fun j hj => ?_, h.fam.apart⟩, h2.top, h.top.2⟩
  obtain ⟨A, m, c, e1, e2, e3⟩ := h2.fam.row j hj
  obtain ⟨A', m', c', r1, r2, r3⟩ := h.fam.row j hj
  rw [e1] at r1
  cases r1
  exact ⟨A, m, c, e1, e2, e3.1, r3.2⟩
set_option maxRecDepth 100000 in
set_option maxHeartbeats 3200000 in
theorem spec_copyLazy (A E C : Option Addr) (n c en ec m d : Nat) (st : Lz) (w : World) (B : Nat) (hB : B ≤ w.heap.size) (hn : n = st.vs.length) (hen : en = st.rs.length) (hm : m = st.cs.length) (h : LS3 w B A E C st) (hb : LB st) :
    Calls Tryz.prog 38 #[.agg #[.slice A n c, .slice E en ec, .slice C m d]] w fun e w' => RetL w st e w' := by
  have HCV := Lib.hid fun (w' : World) (hB : B ≤ w'.heap.size) (h : IS w' B A st.vs) => spec_copyIntsA A n c st.vs w' B hB hn h (by have := hb.1; omega)
  have HCR := Lib.hid fun (w' : World) (hB : B ≤ w'.heap.size) (h : SS w' B E st.rs) => spec_copyLists E en ec st.rs w' B hB hen h hb.2.1
  have HCC := Lib.hid fun (w' : World) (hB : B ≤ w'.heap.size) (h : IS w' B C st.cs) => spec_copyIntsA C m d st.cs w' B hB hm h (by have := hb.2.2.2.2.2; omega)
  have H := Lib.hid h
  have HN := Lib.hid hn
  have HE := Lib.hid hen
  have HM := Lib.hid hm
  clear hn hen hm h hb
  go_enter Tryz.func38, Tryz.ntmps38
  go_upto_region 1 with fail
  obtain ⟨W2, hW2⟩ : ∃ W, W = (w.alloc (.cells #[.slice A n c, .slice E en ec, .slice C m d] 31)).alloc (.cells #[.slice none 0 0, .slice none 0 0, .slice none 0 0] 31) := ⟨_, rfl⟩
  have hb2 : Below w.heap.size w W2 := by rw [hW2]; exact ((Below.refl _ _).alloc (Nat.le_refl _) _).alloc (by simp) _
  have hs2 : W2.heap.size = w.heap.size + 2 := by rw [hW2]; simp
  have X2 : Hid (Bx w.heap.size [.slice A n c, .slice E en ec, .slice C m d] W2) := by rw [hW2]; exact (Bx.start w #[.slice A n c, .slice E en ec, .slice C m d] _).alloc _
  have Y2 : Hid (Bx (w.heap.size + 1) [.slice none 0 0, .slice none 0 0, .slice none 0 0] W2) := by
    rw [hW2]
    have h1 := Bx.start (w.alloc (.cells #[.slice A n c, .slice E en ec, .slice C m d] 31)) #[.slice none 0 0, .slice none 0 0, .slice none 0 0] 31
    simp only [World.size_alloc] at h1
    exact h1
  rw [← hW2]
  have H2 := Lib.hid (H.out.below hb2 hB)
  have B2 := Lib.hid hb2
  have hs2a : w.heap.size + 2 ≤ W2.heap.size := by omega
  clear hW2 hb2 hs2 H
  refine wp_region_held_drew (S := fun w' => w'.cell? ⟨w.heap.size, 0, none⟩ = some (.slice A n c) ∧ w'.cell? ⟨w.heap.size, 1, none⟩ = some (.slice E en ec) ∧ w'.cell? ⟨w.heap.size, 2, none⟩ = some (.slice C m d)) (by kernel_rfl) ⟨X2.out.c 0 _ rfl, X2.out.c 1 _ rfl, X2.out.c 2 _ rfl⟩ (fun hHeld => ?_)
  refine wpAnyH_take (i := 0) (oi := ⟨some 3, _, _, _, _, _⟩) (v := ?_) rfl (by kernel_rfl) (by kernel_rfl) (by kernel_rfl) (fun _ _ _ h => h) (Or.inl ⟨by rfl, ?_⟩) (by assumption) ?_; rotate_left; (focus (intro w hSw; (try dsimp only at hSw); go_simp; (try with_reducible rfl))); (try simp only [Act.put, List.setIfInBounds_toArray]); (try dsimp only [List.set_cons_zero, List.set_cons_succ])
  refine wpAnyH_take (i := 1) (oi := ⟨some 4, _, _, _, _, _⟩) (v := ?_) rfl (by kernel_rfl) (by kernel_rfl) (by kernel_rfl) (fun _ _ _ h => h) (Or.inl ⟨by rfl, ?_⟩) (by assumption) ?_; rotate_left; (focus (intro w hSw; (try dsimp only at hSw); go_simp; (try with_reducible rfl))); (try simp only [Act.put, List.setIfInBounds_toArray]); (try dsimp only [List.set_cons_zero, List.set_cons_succ])
  refine wpAnyH_take (i := 3) (oi := ⟨some 6, _, _, _, _, _⟩) (v := ?_) rfl (by kernel_rfl) (by kernel_rfl) (by kernel_rfl) (fun _ _ _ h => h) (Or.inl ⟨by rfl, ?_⟩) (by assumption) ?_; rotate_left; (focus (intro w hSw; (try dsimp only at hSw); go_simp; (try with_reducible rfl))); (try simp only [Act.put, List.setIfInBounds_toArray]); (try dsimp only [List.set_cons_zero, List.set_cons_succ])
  refine wpAnyH_take (i := 4) (oi := ⟨some 7, _, _, _, _, _⟩) (v := ?_) rfl (by kernel_rfl) (by kernel_rfl) (by kernel_rfl) (fun _ _ _ h => h) (Or.inl ⟨by rfl, ?_⟩) (by assumption) ?_; rotate_left; (focus (intro w hSw; (try dsimp only at hSw); go_simp; (try with_reducible rfl))); (try simp only [Act.put, List.setIfInBounds_toArray]); (try dsimp only [List.set_cons_zero, List.set_cons_succ])
  refine wpAnyH_take (i := 6) (oi := ⟨some 9, _, _, _, _, _⟩) (v := ?_) rfl (by kernel_rfl) (by kernel_rfl) (by kernel_rfl) (fun _ _ _ h => h) (Or.inl ⟨by rfl, ?_⟩) (by assumption) ?_; rotate_left; (focus (intro w hSw; (try dsimp only at hSw); go_simp; (try with_reducible rfl))); (try simp only [Act.put, List.setIfInBounds_toArray]); (try dsimp only [List.set_cons_zero, List.set_cons_succ])
  refine wpAnyH_take (i := 7) (oi := ⟨some 10, _, _, _, _, _⟩) (v := ?_) rfl (by kernel_rfl) (by kernel_rfl) (by kernel_rfl) (fun _ _ _ h => h) (Or.inl ⟨by rfl, ?_⟩) (by assumption) ?_; rotate_left; (focus (intro w hSw; (try dsimp only at hSw); go_simp; (try with_reducible rfl))); (try simp only [Act.put, List.setIfInBounds_toArray]); (try dsimp only [List.set_cons_zero, List.set_cons_succ])
  refine wpAnyH_ready (rs := [2]) (by kernel_rfl) (by simp) ?_; refine AllReadyH.cons (o := ⟨some 5, _, _, _, _, _⟩) rfl (fun K hK => ?_) AllReadyH.nil; go_simp
  go_at_call 63
  refine (HCV.out W2.drew (by show B ≤ W2.heap.size; omega) H2.out.1).mono ?_
  rintro e w3 ⟨g3, c3, rfl, ho', hb3'⟩
  have hb3 : Below W2.heap.size W2 w3 := below_of_drew hb3'
  have O3 : Hid (w3.ownsRow W2.heap.size 3 1 (.slice (some ⟨g3, 0, none⟩) n c3) n (st.vs.map (Value.int .i64))) := ho'
  have hl3 := O3.out.lt
  have X3 := Lib.hid (X2.out.step hb3)
  have Y3 := Lib.hid (Y2.out.step hb3)
  have B3' := Lib.hid (B2.out.trans (hb3.mono (by omega)))
  have H3 := Lib.hid (H2.out.below hb3 (by omega))
  have hs3 := hb3.size
  clear ho' hb3 hb3' X2 Y2 B2 H2 HCV
  refine hK.out _ _ ⟨X3.out.c 0 _ rfl, X3.out.c 1 _ rfl, X3.out.c 2 _ rfl⟩ (fun hHeld => ?_); clear hK K; (try simp only [Act.put, List.setIfInBounds_toArray]); (try dsimp only [List.set_cons_zero, List.set_cons_succ])
  refine wpAnyH_ready (rs := [5]) (by kernel_rfl) (by simp) ?_; refine AllReadyH.cons (o := ⟨some 8, _, _, _, _, _⟩) rfl (fun K hK => ?_) AllReadyH.nil; go_simp
  go_at_call 64
  refine (HCR.out w3 (by omega) H3.out.2.1).mono ?_
  rintro e w4 ⟨v4, rfl, ho, hb4⟩
  rw [← HE.out] at ho
  obtain ⟨A4, c4, rfl⟩ := ho.form
  have O4 := Lib.hid ho
  have P4 := Lib.hid (own_below O3.out hb4)
  have X4 := Lib.hid (X3.out.step hb4)
  have Y4 := Lib.hid (Y3.out.step hb4)
  have B4' := Lib.hid (B3'.out.trans (hb4.mono (by omega)))
  have H4 := Lib.hid (H3.out.below hb4 (by omega))
  have hs4 := hb4.size
  clear ho hb4 O3 X3 Y3 B3' H3 HCR
  refine hK.out _ _ ⟨X4.out.c 0 _ rfl, X4.out.c 1 _ rfl, X4.out.c 2 _ rfl⟩ (fun hHeld => ?_); clear hK K; (try simp only [Act.put, List.setIfInBounds_toArray]); (try dsimp only [List.set_cons_zero, List.set_cons_succ])
  refine wpAnyH_ready (rs := [8]) (by kernel_rfl) (by simp) ?_; refine AllReadyH.cons (o := ⟨some 11, _, _, _, _, _⟩) rfl (fun K hK => ?_) AllReadyH.nil; go_simp
  go_at_call 63
  refine (HCC.out w4 (by omega) H4.out.2.2).mono ?_
  rintro e w5 ⟨g5, c5, rfl, ho, hb5⟩
  have X5 := Lib.hid (X4.out.step hb5)
  have Y5 := Lib.hid (Y4.out.step hb5)
  have B5' := Lib.hid (B4'.out.trans (hb5.mono (by omega)))
  have hs5 := hb5.size
  have hl5 := ho.lt
  have O5 : Hid (OwL (w.heap.size + 2) w5.heap.size (some ⟨g3, 0, none⟩) n c3 A4 en c4 (some ⟨g5, 0, none⟩) m c5 st w5) :=
    OwL.join (mid := w3.heap.size) (mid2 := w4.heap.size) ⟨own_mono (own_below P4.out hb5) (by omega), fun q hq => (hl3 q hq).2⟩ HN.out (OwSS.loc _ _ _ _ _ _ _ O4.out fun q _ hq => hb5.block q hq) ⟨ho, fun q hq => (hl5 q hq).2⟩ HM.out (by omega) hs4 hs5
  have z0 := Y5.out.c 0 _ rfl
  have z1 := Y5.out.c 1 _ rfl
  have z2 := Y5.out.c 2 _ rfl
  have f0 := Y5.out.f 0
  have f1 := Y5.out.f 1
  have f2 := Y5.out.f 2
  clear ho hb5 O4 P4 X4 Y4 B4' H4 HCC hl3 hl5
  refine hK.out _ _ ⟨X5.out.c 0 _ rfl, X5.out.c 1 _ rfl, X5.out.c 2 _ rfl⟩ (fun hHeld => ?_); clear hK K; (try simp only [Act.put, List.setIfInBounds_toArray]); (try dsimp only [List.set_cons_zero, List.set_cons_succ])
  refine wpAnyH_take (i := 9) (oi := ⟨some 12, _, _, _, _, _⟩) (v := ?_) rfl (by kernel_rfl) (by kernel_rfl) (by kernel_rfl) (fun _ _ _ h => h) (Or.inl ⟨by rfl, ?_⟩) (by assumption) ?_; rotate_left; (focus (intro w hSw; (try dsimp only at hSw); go_simp; (try with_reducible rfl))); (try simp only [Act.put, List.setIfInBounds_toArray]); (try dsimp only [List.set_cons_zero, List.set_cons_succ])
  refine wpAnyH_ready (rs := [10]) (by kernel_rfl) (by simp) ?_; refine AllReadyH.cons (o := ⟨none, _, _, _, _, _⟩) rfl (fun K hK => ?_) AllReadyH.nil; go_simp
  obtain ⟨W6, hW6⟩ : ∃ W, W = ((w5.setCell ⟨w.heap.size + 1, 0, none⟩ (.slice (some ⟨g3, 0, none⟩) n c3)).setCell ⟨w.heap.size + 1, 1, none⟩ (.slice A4 en c4)).setCell ⟨w.heap.size + 1, 2, none⟩ (.slice (some ⟨g5, 0, none⟩) m c5) := ⟨_, rfl⟩
  have O6 : Hid (OwL (w.heap.size + 2) w5.heap.size (some ⟨g3, 0, none⟩) n c3 A4 en c4 (some ⟨g5, 0, none⟩) m c5 st W6) := by rw [hW6]; exact ((O5.out.setCell (by simp) _).setCell (by simp) _).setCell (by simp) _
  have X6 : Hid (Bx w.heap.size [.slice A n c, .slice E en ec, .slice C m d] W6) := by rw [hW6]; exact ((X5.out.other _ (by simp) _).other _ (by simp) _).other _ (by simp) _
  have Y6 : Hid (Bx (w.heap.size + 1) [.slice (some ⟨g3, 0, none⟩) n c3, .slice A4 en c4, .slice (some ⟨g5, 0, none⟩) m c5] W6) := by rw [hW6]; exact ((Y5.out.set 0 (by simp) _).set 1 (by simp) _).set 2 (by simp) _
  have B6 : Hid (Below w.heap.size w W6) := by rw [hW6]; exact ((B5'.out.setCell (by simp) _).setCell (by simp) _).setCell (by simp) _
  have hs6 : W6.heap.size = w5.heap.size := by rw [hW6]; simp [World.setCell]
  rw [← hW6]
  clear hW6 O5 X5 Y5 B5' z0 z1 z2 f0 f1 f2
  refine hK.out _ _ ⟨X6.out.c 0 _ rfl, X6.out.c 1 _ rfl, X6.out.c 2 _ rfl⟩ (fun hHeld => ?_); clear hK K; (try simp only [Act.put, List.setIfInBounds_toArray]); (try dsimp only [List.set_cons_zero, List.set_cons_succ])
  refine wpAnyH_done (by kernel_rfl) ?_ _
  have z0 := Y6.out.c 0 _ rfl
  have z1 := Y6.out.c 1 _ rfl
  have z2 := Y6.out.c 2 _ rfl
  go_wp2
  refine bodyPost_ret (v := .agg #[.slice (some ⟨g3, 0, none⟩) n c3, .slice A4 en c4, .slice (some ⟨g5, 0, none⟩) m c5]) (by simp [results, Tryz.results38, go_sem, z0, z1, z2]) rfl ?_
  exact ⟨_, _, _, _, _, _, _, _, _, rfl, O6.out.mono (by omega) (by omega), B6.out⟩


set_option maxRecDepth 100000 in
set_option maxHeartbeats 3200000 in
theorem spec_writeLazy (A : Option Addr) (n c gv cv gr cr gc cc : Nat) (gs : List Nd) (U : List Value) (st : Lz) (rn : List Int) (k : Nat) (x : Int) (w : World) (B : Nat) (hB : B ≤ w.heap.size) (hn : n = gs.length) (hn10 : n ≤ 10) (hW : WF B (some ⟨gr, 0, none⟩) cr n U st.vs st.cs rn st.rs w) (hU0 : U[0]? = some (.slice (some ⟨gv, 0, none⟩) n cv)) (hU1 : U[1]? = some (.slice (some ⟨gc, 0, none⟩) n cc)) (hvl : st.vs.length = n) (hcl : st.cs.length = n) (hk : k < n) (hc : ∀ i, 0 ≤ st.cs.getD i 0 ∧ st.cs.getD i 0 ≤ 2) (hrl : ∀ j, (st.rs.getD j []).length ≤ 2000000) :
    Calls Tryz.prog 37 #[.agg #[.slice A n c], .agg #[.slice (some ⟨gv, 0, none⟩) n cv, .slice (some ⟨gr, 0, none⟩) n cr, .slice (some ⟨gc, 0, none⟩) n cc], .int .i64 k, .int .i64 x] w fun e w' => e = .returned (.agg #[.slice (some ⟨gv, 0, none⟩) n cv, .slice (some ⟨gr, 0, none⟩) n cr, .slice (some ⟨gc, 0, none⟩) n cc]) ∧ WF B (some ⟨gr, 0, none⟩) cr n U (wlF st k x).vs (wlF st k x).cs rn (wlF st k x).rs w' ∧ Below B w w' := by
  obtain ⟨W3, hW3⟩ : ∃ W, W = ((w.alloc (.cells #[.slice A n c] 36)).alloc (.cells #[.slice (some ⟨gv, 0, none⟩) n cv, .slice (some ⟨gr, 0, none⟩) n cr, .slice (some ⟨gc, 0, none⟩) n cc] 31)).alloc (.cells #[.slice none 0 0, .slice none 0 0, .slice none 0 0] 31) := ⟨_, rfl⟩
  have hb3 : Below w.heap.size w W3 := by rw [hW3]; exact (((Below.refl _ _).alloc (Nat.le_refl _) _).alloc (by simp) _).alloc (by simp; omega) _
  have hs3 : W3.heap.size = w.heap.size + 3 := by rw [hW3]; simp
  have X3 : Hid (Bx w.heap.size [.slice A n c] W3) := by rw [hW3]; exact ((Bx.start w #[.slice A n c] _).alloc _).alloc _
  have Y3 : Hid (Bx (w.heap.size + 1) [.slice (some ⟨gv, 0, none⟩) n cv, .slice (some ⟨gr, 0, none⟩) n cr, .slice (some ⟨gc, 0, none⟩) n cc] W3) := by
    rw [hW3]
    have h1 := Bx.start (w.alloc (.cells #[.slice A n c] 36)) #[.slice (some ⟨gv, 0, none⟩) n cv, .slice (some ⟨gr, 0, none⟩) n cr, .slice (some ⟨gc, 0, none⟩) n cc] 31
    simp only [World.size_alloc] at h1
    exact h1.alloc _
  have R3 : Hid (Bx (w.heap.size + 1 + 1) [.slice none 0 0, .slice none 0 0, .slice none 0 0] W3) := by
    rw [hW3]
    have h1 := Bx.start ((w.alloc (.cells #[.slice A n c] 36)).alloc (.cells #[.slice (some ⟨gv, 0, none⟩) n cv, .slice (some ⟨gr, 0, none⟩) n cr, .slice (some ⟨gc, 0, none⟩) n cc] 31)) #[.slice none 0 0, .slice none 0 0, .slice none 0 0] 31
    simp only [World.size_alloc] at h1
    exact h1
  have hF3 : WF B (some ⟨gr, 0, none⟩) cr n U st.vs st.cs rn st.rs W3 := hW.step hb3
  obtain ⟨A0, m0, c0, a1, a2, a3⟩ := hF3.at_ 0 (by omega)
  rw [hU0] at a1
  cases a1
  obtain ⟨A0, m0, c0, b1, -, b3⟩ := hW.at_ 0 (by omega)
  rw [hU0] at b1
  cases b1
  have hgv : gv < w.heap.size := (b3.lt _ rfl).2
  have hgvB : B ≤ gv := (b3.lt _ rfl).1
  obtain ⟨A0, m0, c0, b1, b2, b4⟩ := hW.at_ 1 (by omega)
  rw [hU1] at b1
  cases b1
  have hgc : gc < w.heap.size := (b4.lt _ rfl).2
  have hgcB : B ≤ gc := (b4.lt _ rfl).1
  have z0 : W3.cell? ⟨gv, k, none⟩ = some (.int .i64 (st.vs.getD k 0)) := by
    rw [a3.cellAt k (by omega)]
    have hil : k < st.vs.length := by omega
    simp [rowOf, List.getD, hil]
  have f0 := a3.frozenAt k
  have HQ3 : Hid (WQ B w.heap.size (some ⟨gr, 0, none⟩) cr n U st.vs st.cs rn st.rs W3) := hW.q.keep fun q _ hq => hb3.block q hq
  have HB3 := Lib.hid (hb3.mono hB)
  have HU0 := Lib.hid hU0
  have HU1 := Lib.hid hU1
  have HN := Lib.hid hn
  have HCL := Lib.hid hcl
  have HC := Lib.hid hc
  have HRL := Lib.hid hrl
  have hs3a : w.heap.size + 3 ≤ W3.heap.size := by omega
  have y0 := Y3.out.c 0 _ rfl
  have hwl : wlF st k x = if st.vs.getD k 0 = x then st else ⟨st.vs.set k x, st.rs, spoF st.rs st.cs k 2⟩ := rfl
  rw [hwl]
  generalize st.vs.getD k 0 = z at *
  clear hwl hW hb3 hU0 hU1 hcl hvl hc hrl hF3 a2 a3 b2 b3 b4 hn hs3
  by_cases hzx : z = x
  · subst hzx
    rw [if_pos rfl]
    have y1 := Y3.out.c 1 _ rfl
    have y2 := Y3.out.c 2 _ rfl
    have r0 := R3.out.c 0 _ rfl
    have r1 := R3.out.c 1 _ rfl
    have r2 := R3.out.c 2 _ rfl
    have g0 := R3.out.f 0
    have g1 := R3.out.f 1
    have g2 := R3.out.f 2
    have hne : (z != z) = false := by simp
    go_enter Tryz.func37, Tryz.ntmps37
    go_upto_region 1 with fail
    rw [← hW3]
    clear hW3
    go_wp2
    obtain ⟨W6, hW6⟩ : ∃ W, W = ((W3.setCell ⟨w.heap.size + 1 + 1, 0, none⟩ (.slice (some ⟨gv, 0, none⟩) n cv)).setCell ⟨w.heap.size + 1 + 1, 1, none⟩ (.slice (some ⟨gr, 0, none⟩) n cr)).setCell ⟨w.heap.size + 1 + 1, 2, none⟩ (.slice (some ⟨gc, 0, none⟩) n cc) := ⟨_, rfl⟩
    have hfr6 : Frm (w.heap.size + 1 + 1) W3 W6 := by rw [hW6]; exact ((Frm.set _ _ _ _).trans (Frm.set _ _ _ _)).trans (Frm.set _ _ _ _)
    have R6 : Bx (w.heap.size + 1 + 1) [.slice (some ⟨gv, 0, none⟩) n cv, .slice (some ⟨gr, 0, none⟩) n cr, .slice (some ⟨gc, 0, none⟩) n cc] W6 := by rw [hW6]; exact ((R3.out.set 0 (by simp) _).set 1 (by simp) _).set 2 (by simp) _
    rw [← hW6]
    clear hW6
    have z0 := R6.c 0 _ rfl
    have z1 := R6.c 1 _ rfl
    have z2 := R6.c 2 _ rfl
    refine bodyPost_ret (v := .agg #[.slice (some ⟨gv, 0, none⟩) n cv, .slice (some ⟨gr, 0, none⟩) n cr, .slice (some ⟨gc, 0, none⟩) n cc]) (by simp [results, Tryz.results37, go_sem, z0, z1, z2]) rfl ?_
    exact ⟨rfl, (HQ3.out.keep fun q _ hq => hfr6.block q (by omega) (by omega)).f (by have := hfr6.size; omega), HB3.out.trans (hfr6.below (by omega) (by omega))⟩
  · rw [if_neg hzx]
    have hne : (z != x) = true := by simpa [bne] using hzx
    go_enter Tryz.func37, Tryz.ntmps37
    go_upto_region 1 with fail
    rw [← hW3]
    clear hW3
    go_upto_region 3 with fail
    obtain ⟨w4, hw4⟩ : ∃ W, W = W3.setCell ⟨gv, k, none⟩ (.int .i64 x) := ⟨_, rfl⟩
    have hs4 : w4.heap.size = W3.heap.size := by rw [hw4]; simp [World.setCell]
    have X4 : Hid (Bx w.heap.size [.slice A n c] w4) := by rw [hw4]; exact X3.out.other _ (by show w.heap.size ≠ gv; omega) _
    have Y4 : Hid (Bx (w.heap.size + 1) [.slice (some ⟨gv, 0, none⟩) n cv, .slice (some ⟨gr, 0, none⟩) n cr, .slice (some ⟨gc, 0, none⟩) n cc] w4) := by rw [hw4]; exact Y3.out.other _ (by show w.heap.size + 1 ≠ gv; omega) _
    have R4 : Hid (Bx (w.heap.size + 1 + 1) [.slice none 0 0, .slice none 0 0, .slice none 0 0] w4) := by rw [hw4]; exact R3.out.other _ (by show w.heap.size + 1 + 1 ≠ gv; omega) _
    have F4 : Hid (WQ B w.heap.size (some ⟨gr, 0, none⟩) cr n U (st.vs.set k x) st.cs rn st.rs w4) := by rw [hw4]; exact HQ3.out.setV (by omega) HU0.out x
    have B4 : Hid (Below B w w4) := by rw [hw4]; exact HB3.out.setCell hgvB _
    rw [← hw4]
    have hs4a : w.heap.size + 3 ≤ w4.heap.size := by omega
    clear hw4 X3 Y3 R3 HQ3 HB3 z0 f0 y0 hs4
    have x0 := X4.out.c 0 _ rfl
    have y0 := Y4.out.c 0 _ rfl
    have y1 := Y4.out.c 1 _ rfl
    have y2 := Y4.out.c 2 _ rfl
    go_wp2_with fail
    refine (spec_spoil A (some ⟨gv, 0, none⟩) n c n cv gr gc cr cc gs U (st.vs.set k x) st.cs rn st.rs k w4 B (by omega) HN.out hn10 w.heap.size (by omega) F4.out HU1.out HCL.out hk HC.out HRL.out).mono ?_
    rintro e w5 ⟨rfl, hq5, hfr5⟩
    have Q5 := Lib.hid hq5
    have Y5 := Lib.hid (Y4.out.frm hfr5 (by omega))
    have R5 := Lib.hid (R4.out.frm hfr5 (by omega))
    have B5 := Lib.hid (B4.out.trans (hfr5.below hgcB (by omega)))
    have hs5 := hfr5.size
    clear hq5 hfr5 X4 Y4 R4 F4 B4 x0 y0 y1 y2
    have y0 := Y5.out.c 0 _ rfl
    have y1 := Y5.out.c 1 _ rfl
    have y2 := Y5.out.c 2 _ rfl
    have r0 := R5.out.c 0 _ rfl
    have r1 := R5.out.c 1 _ rfl
    have r2 := R5.out.c 2 _ rfl
    have g0 := R5.out.f 0
    have g1 := R5.out.f 1
    have g2 := R5.out.f 2
    go_wp2
    obtain ⟨W6, hW6⟩ : ∃ W, W = ((w5.setCell ⟨w.heap.size + 1 + 1, 0, none⟩ (.slice (some ⟨gv, 0, none⟩) n cv)).setCell ⟨w.heap.size + 1 + 1, 1, none⟩ (.slice (some ⟨gr, 0, none⟩) n cr)).setCell ⟨w.heap.size + 1 + 1, 2, none⟩ (.slice (some ⟨gc, 0, none⟩) n cc) := ⟨_, rfl⟩
    have hfr6 : Frm (w.heap.size + 1 + 1) w5 W6 := by rw [hW6]; exact ((Frm.set _ _ _ _).trans (Frm.set _ _ _ _)).trans (Frm.set _ _ _ _)
    have R6 : Bx (w.heap.size + 1 + 1) [.slice (some ⟨gv, 0, none⟩) n cv, .slice (some ⟨gr, 0, none⟩) n cr, .slice (some ⟨gc, 0, none⟩) n cc] W6 := by rw [hW6]; exact ((R5.out.set 0 (by simp) _).set 1 (by simp) _).set 2 (by simp) _
    rw [← hW6]
    clear hW6
    have z0 := R6.c 0 _ rfl
    have z1 := R6.c 1 _ rfl
    have z2 := R6.c 2 _ rfl
    refine bodyPost_ret (v := .agg #[.slice (some ⟨gv, 0, none⟩) n cv, .slice (some ⟨gr, 0, none⟩) n cr, .slice (some ⟨gc, 0, none⟩) n cc]) (by simp [results, Tryz.results37, go_sem, z0, z1, z2]) rfl ?_
    exact ⟨rfl, (Q5.out.keep fun q _ hq => hfr6.block q (by omega) (by omega)).f (by have := hfr6.size; omega), B5.out.trans (hfr6.below (by omega) (by omega))⟩

end Go.Proofs.YtlcpgbbpjnkihaaGreat
