/- impl.machineAt: a lazy machine with a state of its own. (Made by t51.py.) -/
import Derived.Test.YtlcpgbbpjnkihaaGreatT26
import Derived.Test.YtlcpgbbpjnkihaaGreatL8
import Derived.Test.YtlcpgbbpjnkihaaGreatT46
import Derived.Test.YtlcpgbbpjnkihaaGreatT50
import Derived.Deep.RegionHeld3
import Derived.Deep.Cut

namespace Go.Proofs.YtlcpgbbpjnkihaaGreat
set_option linter.unusedSimpArgs false
set_option linter.unusedVariables false
open Go.RowKit

theorem WQ.lower {B B' hi n cr : Nat} {Er : Option Addr} {U : List Value} {vs ch rn : List Int} {rs : List (List Int)} {w : World} (h : WQ B hi Er cr n U vs ch rn rs w) (hB : B' ≤ B) : WQ B' hi Er cr n U vs ch rn rs w := ⟨h.ul, h.rl, h.fam.mono hB (Nat.le_refl _), h.top.mono hB (Nat.le_refl _)⟩
set_option maxRecDepth 100000 in
set_option maxHeartbeats 3200000 in
theorem impl_machineAt (A A' E C : Option Addr) (n c N c' ec qc : Nat) (st : Lz) (w : World) (B : Nat) (hB : B ≤ w.heap.size) (hm : N = st.vs.length) (hp : N = st.rs.length) (hq : N = st.cs.length) (h0 : 0 < N) (hN : N ≤ 10) (h' : LS3 w B A' E C st) (hE : LB st) :
    Calls Tryz.prog 44 #[.agg #[.slice A n c], .agg #[.slice A' N c', .slice E N ec, .slice C N qc]] w fun e w' => ∃ mb U gv gr gc, e = .returned (.pointer (some ⟨mb, 0, none⟩)) ∧ WQ w.heap.size mb (some ⟨gr, 0, none⟩) N N U st.vs st.cs [] st.rs w' ∧ U[0]? = some (.slice (some ⟨gv, 0, none⟩) N N) ∧ U[1]? = some (.slice (some ⟨gc, 0, none⟩) N N) ∧ Bx mb [.slice A n c, .slice (some ⟨gv, 0, none⟩) N N, .slice (some ⟨gr, 0, none⟩) N N, .slice (some ⟨gc, 0, none⟩) N N, .slice none 0 0] w' ∧ Below w.heap.size w w' := by
  obtain ⟨W2, hW2⟩ : ∃ W, W = (w.alloc (.cells #[.slice A n c] 36)).alloc (.cells #[.slice A' N c', .slice E N ec, .slice C N qc] 31) := ⟨_, rfl⟩
  have hb2 : Below w.heap.size w W2 := by rw [hW2]; exact ((Below.refl _ _).alloc (Nat.le_refl _) _).alloc (by simp) _
  have hs2 : W2.heap.size = w.heap.size + 2 := by rw [hW2]; simp
  have X2 : Hid (Bx w.heap.size [.slice A n c] W2) := by rw [hW2]; exact (Bx.start w #[.slice A n c] _).alloc _
  have Y2 : Hid (Bx (w.heap.size + 1) [.slice A' N c', .slice E N ec, .slice C N qc] W2) := by
    rw [hW2]
    have h1 := Bx.start (w.alloc (.cells #[.slice A n c] 36)) #[.slice A' N c', .slice E N ec, .slice C N qc] 31
    simp only [World.size_alloc] at h1
    exact h1
  have H2 := Lib.hid (h'.below hb2 hB)
  have B2 := Lib.hid hb2
  have hs2a : w.heap.size + 2 ≤ W2.heap.size := by omega
  have HCE := Lib.hid (impl_copyEager A' E N c' N ec st.vs st.rs W2 B (by omega) hm hp H2.out.1 H2.out.2.1 hE.2.1 (by omega))
  have HCC := Lib.hid fun (w' : World) (hB : B ≤ w'.heap.size) (h : IS w' B C st.cs) => impl_copyOf C N qc st.cs w' B hB hq h (by omega)
  have HQ := Lib.hid hq
  have y0 := Y2.out.c 0 _ rfl
  have y1 := Y2.out.c 1 _ rfl
  clear hb2 hs2 hm hp hq h' hE
  go_enter Tryz.func44, Tryz.ntmps44
  go_upto_region 1 with fail
  rw [← hW2]
  clear hW2
  go_wp2_with fail
  refine HCE.out.mono ?_
  rintro e w4 ⟨gv, rfl, ho, hb⟩
  obtain ⟨U, hWF, hU0, hU1, -⟩ := WF.of_own ho
  have hs4 : W2.heap.size ≤ w4.heap.size := hb.size
  have X4 := X2.out.step hb
  have Y4 := Y2.out.step hb
  have B4 := B2.out.trans (hb.mono (by omega))
  have H4 := H2.out.below hb (by omega)
  obtain ⟨gr, hgr⟩ : ∃ g, g = W2.heap.size + 2 := ⟨_, rfl⟩
  rw [← hgr] at hWF
  obtain ⟨w5, hw5⟩ : ∃ W, W = w4.alloc (.cells #[.slice (some ⟨gv, 0, none⟩) N N, .slice (some ⟨gr, 0, none⟩) N N] 100) := ⟨_, rfl⟩
  have hb5 : Below w4.heap.size w4 w5 := by rw [hw5]; exact (Below.refl _ _).alloc (Nat.le_refl _) _
  have hs5 : w5.heap.size = w4.heap.size + 1 := by rw [hw5]; simp
  have K5 : Hid (Bx w4.heap.size [.slice (some ⟨gv, 0, none⟩) N N, .slice (some ⟨gr, 0, none⟩) N N] w5) := by rw [hw5]; exact Bx.start w4 #[.slice (some ⟨gv, 0, none⟩) N N, .slice (some ⟨gr, 0, none⟩) N N] _
  have X5 := Lib.hid (X4.step hb5)
  have Y5 := Lib.hid (Y4.step hb5)
  have B5 := Lib.hid (B4.trans (hb5.mono (by omega)))
  have H5 := Lib.hid (H4.below hb5 (by omega))
  have F5 := Lib.hid (hWF.step hb5)
  have HU0 := Lib.hid hU0
  have hs5a : w4.heap.size + 1 ≤ w5.heap.size := by omega
  have x0 := X5.out.c 0 _ rfl
  have k0 := K5.out.c 0 _ rfl
  have k1 := K5.out.c 1 _ rfl
  have y2 := Y5.out.c 2 _ rfl
  clear ho hb hWF hU0 hU1 X4 Y4 B4 H4 hb5 hs5 X2 Y2 B2 H2 HCE y0 y1
  go_upto_region 2 with fail
  rw [← hgr, ← hw5]
  clear hw5 hgr
  refine wp_region_held_drew (S := fun w' => w'.cell? ⟨w.heap.size, 0, none⟩ = some (.slice A n c) ∧ w'.cell? ⟨w4.heap.size, 0, none⟩ = some (.slice (some ⟨gv, 0, none⟩) N N) ∧ w'.cell? ⟨w4.heap.size, 1, none⟩ = some (.slice (some ⟨gr, 0, none⟩) N N) ∧ w'.cell? ⟨w.heap.size + 1, 2, none⟩ = some (.slice C N qc)) (by kernel_rfl) ⟨x0, k0, k1, y2⟩ (fun hHeld => ?_)
  refine wpAnyH_take (i := 0) (oi := ⟨some 12, _, _, _, _, _⟩) (v := ?_) rfl (by kernel_rfl) (by kernel_rfl) (by kernel_rfl) (fun _ _ _ h => h) (Or.inl ⟨by rfl, ?_⟩) (by assumption) ?_; rotate_left; (focus (intro w hSw; (try dsimp only at hSw); go_simp; (try with_reducible rfl))); (try simp only [Act.put, List.setIfInBounds_toArray]); (try dsimp only [List.set_cons_zero, List.set_cons_succ])
  refine wpAnyH_take (i := 1) (oi := ⟨some 13, _, _, _, _, _⟩) (v := ?_) rfl (by kernel_rfl) (by kernel_rfl) (by kernel_rfl) (fun _ _ _ h => h) (Or.inl ⟨by rfl, ?_⟩) (by assumption) ?_; rotate_left; (focus (intro w hSw; (try dsimp only at hSw); go_simp; (try with_reducible rfl))); (try simp only [Act.put, List.setIfInBounds_toArray]); (try dsimp only [List.set_cons_zero, List.set_cons_succ])
  refine wpAnyH_take (i := 2) (oi := ⟨some 14, _, _, _, _, _⟩) (v := ?_) rfl (by kernel_rfl) (by kernel_rfl) (by kernel_rfl) (fun _ _ _ h => h) (Or.inl ⟨by rfl, ?_⟩) (by assumption) ?_; rotate_left; (focus (intro w hSw; (try dsimp only at hSw); go_simp; (try with_reducible rfl))); (try simp only [Act.put, List.setIfInBounds_toArray]); (try dsimp only [List.set_cons_zero, List.set_cons_succ])
  refine wpAnyH_take (i := 3) (oi := ⟨some 15, _, _, _, _, _⟩) (v := ?_) rfl (by kernel_rfl) (by kernel_rfl) (by kernel_rfl) (fun _ _ _ h => h) (Or.inl ⟨by rfl, ?_⟩) (by assumption) ?_; rotate_left; (focus (intro w hSw; (try dsimp only at hSw); go_simp; (try with_reducible rfl))); (try simp only [Act.put, List.setIfInBounds_toArray]); (try dsimp only [List.set_cons_zero, List.set_cons_succ])
  refine wpAnyH_take (i := 4) (oi := ⟨some 16, _, _, _, _, _⟩) (v := ?_) rfl (by kernel_rfl) (by kernel_rfl) (by kernel_rfl) (fun _ _ _ h => h) (Or.inl ⟨by rfl, ?_⟩) (by assumption) ?_; rotate_left; (focus (intro w hSw; (try dsimp only at hSw); go_simp; (try with_reducible rfl))); (try simp only [Act.put, List.setIfInBounds_toArray]); (try dsimp only [List.set_cons_zero, List.set_cons_succ])
  refine wpAnyH_take (i := 5) (oi := ⟨some 17, _, _, _, _, _⟩) (v := ?_) rfl (by kernel_rfl) (by kernel_rfl) (by kernel_rfl) (fun _ _ _ h => h) (Or.inl ⟨by rfl, ?_⟩) (by assumption) ?_; rotate_left; (focus (intro w hSw; (try dsimp only at hSw); go_simp; (try with_reducible rfl))); (try simp only [Act.put, List.setIfInBounds_toArray]); (try dsimp only [List.set_cons_zero, List.set_cons_succ])
  refine wpAnyH_take (i := 6) (oi := ⟨some 18, _, _, _, _, _⟩) (v := ?_) rfl (by kernel_rfl) (by kernel_rfl) (by kernel_rfl) (fun _ _ _ h => h) (Or.inl ⟨by rfl, ?_⟩) (by assumption) ?_; rotate_left; (focus (intro w hSw; (try dsimp only at hSw); go_simp; (try with_reducible rfl))); (try simp only [Act.put, List.setIfInBounds_toArray]); (try dsimp only [List.set_cons_zero, List.set_cons_succ])
  refine wpAnyH_ready (rs := [7]) (by kernel_rfl) (by simp) ?_; refine AllReadyH.cons (o := ⟨some 19, _, _, _, _, _⟩) rfl (fun K hK => ?_) AllReadyH.nil; go_simp
  go_at_call 69
  refine (HCC.out w5.drew (by show B ≤ w5.heap.size; omega) (H5.out.below (Below.refl _ _).drew (Nat.le_refl _)).2.2).mono ?_
  rintro e w6 ⟨rfl, ho', hb'⟩
  have hb6 : Below w5.heap.size w5 w6 := below_of_drew hb'
  have ho6 : w6.ownsRow w5.heap.size 3 1 (.slice (some ⟨w5.heap.size, 0, none⟩) N N) N (st.cs.map (Value.int .i64)) := ho'
  have F6 := Lib.hid (F5.out.putC (by omega) hb6 ho6 HQ.out)
  have X6 := Lib.hid (X5.out.step hb6)
  have Y6 := Lib.hid (Y5.out.step hb6)
  have K6 := Lib.hid (K5.out.step hb6)
  have B6 := Lib.hid (B5.out.trans (hb6.mono (by omega)))
  have hs6 : w5.heap.size ≤ w6.heap.size := hb6.size
  clear ho' hb' hb6 ho6 F5 X5 Y5 K5 B5 H5 x0 k0 k1 y2 HCC
  have x0 := X6.out.c 0 _ rfl
  have k0 := K6.out.c 0 _ rfl
  have k1 := K6.out.c 1 _ rfl
  have y2 := Y6.out.c 2 _ rfl
  refine hK.out _ _ ⟨x0, k0, k1, y2⟩ (fun hHeld => ?_); clear hK K; (try simp only [Act.put, List.setIfInBounds_toArray]); (try dsimp only [List.set_cons_zero, List.set_cons_succ])
  refine wpAnyH_take (i := 8) (oi := ⟨some 20, _, _, _, _, _⟩) (v := ?_) rfl (by kernel_rfl) (by kernel_rfl) (by kernel_rfl) (fun _ _ _ h => h) (Or.inl ⟨by rfl, ?_⟩) (by assumption) ?_; rotate_left; (focus (intro w hSw; (try dsimp only at hSw); go_simp; (try with_reducible rfl))); (try simp only [Act.put, List.setIfInBounds_toArray]); (try dsimp only [List.set_cons_zero, List.set_cons_succ])
  refine wpAnyH_take (i := 9) (oi := ⟨some 21, _, _, _, _, _⟩) (v := ?_) rfl (by kernel_rfl) (by kernel_rfl) (by kernel_rfl) (fun _ _ _ h => h) (Or.inl ⟨by rfl, ?_⟩) (by assumption) ?_; rotate_left; (focus (intro w hSw; (try dsimp only at hSw); go_simp; (try with_reducible rfl))); (try simp only [Act.put, List.setIfInBounds_toArray]); (try dsimp only [List.set_cons_zero, List.set_cons_succ])
  refine wpAnyH_ready (rs := [10]) (by kernel_rfl) (by simp) ?_; refine AllReadyH.cons (o := ⟨some 22, _, _, _, _, _⟩) rfl (fun K hK => ?_) AllReadyH.nil; go_simp
  obtain ⟨w7, hw7⟩ : ∃ W, W = w6.alloc (.cells #[.slice A n c, .slice (some ⟨gv, 0, none⟩) N N, .slice (some ⟨gr, 0, none⟩) N N, .slice (some ⟨w5.heap.size, 0, none⟩) N N, .slice none 0 0] 71) := ⟨_, rfl⟩
  have hb7 : Below w6.heap.size w6 w7 := by rw [hw7]; exact (Below.refl _ _).alloc (Nat.le_refl _) _
  have M7 : Hid (Bx w6.heap.size [.slice A n c, .slice (some ⟨gv, 0, none⟩) N N, .slice (some ⟨gr, 0, none⟩) N N, .slice (some ⟨w5.heap.size, 0, none⟩) N N, .slice none 0 0] w7) := by rw [hw7]; exact Bx.start w6 #[.slice A n c, .slice (some ⟨gv, 0, none⟩) N N, .slice (some ⟨gr, 0, none⟩) N N, .slice (some ⟨w5.heap.size, 0, none⟩) N N, .slice none 0 0] _
  have Q7 := Lib.hid (F6.out.q.keep (w' := w7) fun q _ hq => hb7.block q hq)
  have B7 := Lib.hid (B6.out.trans (hb7.mono (by omega)))
  have x1 := (X6.out.step hb7).c 0 _ rfl
  have k2 := (K6.out.step hb7).c 0 _ rfl
  have k3 := (K6.out.step hb7).c 1 _ rfl
  have y3 := (Y6.out.step hb7).c 2 _ rfl
  have hul := F6.out.ul
  rw [← hw7]
  clear hw7 hb7 F6 X6 Y6 K6 B6 x0 k0 k1 y2
  refine hK.out _ _ ⟨x1, k2, k3, y3⟩ (fun hHeld => ?_); clear hK K; (try simp only [Act.put, List.setIfInBounds_toArray]); (try dsimp only [List.set_cons_zero, List.set_cons_succ])
  refine wpAnyH_ready (rs := [11]) (by kernel_rfl) (by simp) ?_; refine AllReadyH.cons (o := ⟨some 4, _, _, _, _, _⟩) rfl (fun K hK => ?_) AllReadyH.nil; go_simp
  refine hK.out _ _ ⟨x1, k2, k3, y3⟩ (fun hHeld => ?_); clear hK K; (try simp only [Act.put, List.setIfInBounds_toArray]); (try dsimp only [List.set_cons_zero, List.set_cons_succ])
  refine wpAnyH_done (by kernel_rfl) ?_ _
  go_wp2
  go_ret
  have hU0' : (U.set 1 (.slice (some ⟨w5.heap.size, 0, none⟩) N N))[0]? = some (.slice (some ⟨gv, 0, none⟩) N N) := by rw [List.getElem?_set, if_neg (by omega)]; exact HU0.out
  have hU1' : (U.set 1 (.slice (some ⟨w5.heap.size, 0, none⟩) N N))[1]? = some (.slice (some ⟨w5.heap.size, 0, none⟩) N N) := by
    rw [List.length_set] at hul
    rw [List.getElem?_set, if_pos rfl, if_pos (by omega)]
  exact ⟨_, _, _, _, _, rfl, Q7.out.lower (by omega), hU0', hU1', M7.out, B7.out⟩
end Go.Proofs.YtlcpgbbpjnkihaaGreat
