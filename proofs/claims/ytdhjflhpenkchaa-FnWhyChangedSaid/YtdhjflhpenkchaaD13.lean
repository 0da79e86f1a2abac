/- The drawing of a graph and two lists of cells: twoCells. -/
import Derived.Test.YtdhjflhpenkchaaD10
import Derived.Test.YtdhjflhpenkchaaH0

namespace Go.Proofs.Ytdhjflhpenkchaa
set_option linter.unusedSimpArgs false
set_option linter.unusedVariables false
open Go.RowKit

/-- Returns a graph and two lists in fresh blocks. -/
def TcP (g : Nat) (A : Option Addr) (n c : Nat) (bs : List Int) (Q : Nat) (w : World) (e : Ending) (w' : World) : Prop :=
  ∃ (V : Value) (k : Nat) (gs : List Nd) (E : Option Addr) (l d : Nat) (xs : List Int) (E' : Option Addr) (l' d' : Nat) (ys : List Int), e = .returned (.tuple #[.agg #[V], .slice E l d, .slice E' l' d']) ∧ 2 ≤ k ∧ k ≤ 10 ∧ (∀ j, (gs.getD j default).ps.length ≤ 40) ∧ l = xs.length ∧ k ≤ l ∧ l ≤ k + 1 ∧ l' = ys.length ∧ k ≤ l' ∧ l' ≤ k + 1 ∧ OwG w.heap.size w'.heap.size V k gs w' ∧ w'.ownsRow w.heap.size 3 1 (.slice E l d) l (xs.map (Value.int .i64)) ∧ w'.ownsRow w.heap.size 3 1 (.slice E' l' d') l' (ys.map (Value.int .i64)) ∧ Rdr g A n c bs Q w' ∧ Tch g (g + 1) w w'
theorem TcP.fin {g n c Q hi k l d l' d' : Nat} {A E E' : Option Addr} {bs xs ys : List Int} {w X : World} {V : Value} {gs : List Nd} (hg : g < w.heap.size) (h2 : 2 ≤ k) (h10 : k ≤ 10) (hsm : ∀ j, (gs.getD j default).ps.length ≤ 40) (hl : l = xs.length) (hx1 : k ≤ l) (hx2 : l ≤ k + 1) (hl' : l' = ys.length) (hy1 : k ≤ l') (hy2 : l' ≤ k + 1)
    (hO : OwG (w.heap.size + 1) hi V k gs X) (hC : X.ownsRow (w.heap.size + 1) 3 1 (.slice E l d) l (xs.map (Value.int .i64))) (hD : X.ownsRow (w.heap.size + 1) 3 1 (.slice E' l' d') l' (ys.map (Value.int .i64))) (hhi : hi ≤ X.heap.size) (hR : Rdr g A n c bs Q X) (hF : Frd g w.heap.size w X) :
    TcP g A n c bs Q w (.returned (.tuple #[.agg #[V], .slice E l d, .slice E' l' d'])) (X.setCell ⟨w.heap.size, 0, none⟩ V) := by
  have hk : ∀ b, w.heap.size + 1 ≤ b → (X.setCell ⟨w.heap.size, 0, none⟩ V).heap[b]? = X.heap[b]? := fun b hb => Below.heap_setCell _ _ _ _ (by show b ≠ w.heap.size; omega)
  have hs : (X.setCell ⟨w.heap.size, 0, none⟩ V).heap.size = X.heap.size := by simp [World.setCell]
  exact ⟨V, k, gs, E, l, d, xs, E', l', d', ys, rfl, h2, h10, hsm, hl, hx1, hx2, hl', hy1, hy2, by rw [hs]; exact (OwG.loc _ _ _ _ _ _ _ hO fun b x _ => hk b x).mono (by omega) hhi, own_mono (own_keep hC fun b x _ => hk b x) (by omega), own_mono (own_keep hD fun b x _ => hk b x) (by omega), hR.set1 hg 0 _, (hF.trans (Frd.of_below ((Below.refl w.heap.size _).setCell (p := ⟨w.heap.size, 0, none⟩) (Nat.le_refl _) _) (Nat.le_refl _))).tch⟩

set_option maxRecDepth 100000 in
set_option maxHeartbeats 12800000 in
theorem twoCells_any (g : Nat) (A : Option Addr) (n c : Nat) (bs : List Int) (P : Nat) (w : World) (h : Rdr g A n c bs P w) (hn : n = bs.length) (hby : BY bs) (hs : n ≤ 2000) (hP : P ≤ 600000) :
    Calls Try.prog 83 #[.pointer (some ⟨g, 0, none⟩)] w fun e w' => TcP g A n c bs (P + 2700) w e w' := by
  have hgw := h.lt
  have HN := Lib.hid hn
  have HR0 := Lib.hid (h.alloc (.cells #[.slice none 0 0] 25))
  have HB0 : Hid (As w.heap.size (w.heap.size + 1) (fun w' => w'.cell? ⟨w.heap.size, 0, none⟩ = some (.slice none 0 0) ∧ w'.frozen? ⟨w.heap.size, 0, none⟩ = false) (w.alloc (.cells #[.slice none 0 0] 25))) :=
    ⟨⟨by go_simp, by go_simp⟩, by simp, fun w w' h hk => ⟨(World.cell?_of_block (a := ⟨_, 0, none⟩) (hk _ (Nat.le_refl _) (Nat.lt_succ_self _))).trans h.1, (World.frozen?_of_block (a := ⟨_, 0, none⟩) (hk _ (Nat.le_refl _) (Nat.lt_succ_self _))).trans h.2⟩⟩
  have HF0 := Lib.hid (Frd.of_below (g := g) (s := w.heap.size) ((Below.refl w.heap.size w).alloc (Nat.le_refl _) (.cells #[.slice none 0 0] 25)) (Nat.le_refl _))
  clear h hn
  go_enter Try.func83, Try.ntmps83
  go_wp2_with fail
  refine (graphOf_any g A n c bs P _ HR0.out HN.out hby hs (by omega)).mono ?_
  rintro e w1 ⟨V, k, gs, vI, xs, rfl, hk2, hk10, hsm, hx1, hx2, hown, hownI, hr1, ht1⟩
  have hs1 : w.heap.size + 1 ≤ w1.heap.size := by have := ht1.size; simpa using this
  obtain ⟨gn, cg, rfl⟩ := hown.pos (by omega)
  obtain ⟨E5, c5, rfl, _⟩ := OwnI.form hownI
  unfold OwnI at hownI
  simp only [World.size_alloc] at hown hownI
  obtain ⟨bG, hbG⟩ : ∃ bG, bG = w1.heap.size := ⟨_, rfl⟩
  have HBG := Lib.hid hbG
  have HKL := Lib.hid hown.1
  have HO1 : Hid (As (w.heap.size + 1) bG (OwG (w.heap.size + 1) bG (.slice (some ⟨gn, 0, none⟩) k cg) k gs) w1) := by rw [hbG]; exact graph_start hown
  obtain ⟨l, hl⟩ : ∃ l, l = xs.length := ⟨_, rfl⟩
  rw [← hl] at hownI hx1 hx2
  have HL := Lib.hid hl
  rw [← hl]
  clear hl
  have HC1 : Hid (As (w.heap.size + 1) bG (OwR (w.heap.size + 1) bG 3 1 (.slice E5 l c5) l (xs.map (Value.int .i64))) w1) := by rw [hbG]; exact row_start hownI
  have HFa := Lib.hid ((HF0.out.trans (Frd.of_tch ht1 (by simp))).trans (Frd.of_below (w' := w1.alloc (.cells #[.slice (some ⟨gn, 0, none⟩) k cg] 25)) ((Below.refl w1.heap.size w1).alloc (Nat.le_refl _) _) (by omega)))
  have HRa := Lib.hid (hr1.alloc (.cells #[.slice (some ⟨gn, 0, none⟩) k cg] 25))
  have HOa := Lib.hid (HO1.out.alloc (.cells #[.slice (some ⟨gn, 0, none⟩) k cg] 25))
  have HCa := Lib.hid (HC1.out.alloc (.cells #[.slice (some ⟨gn, 0, none⟩) k cg] 25))
  have HBa := Lib.hid ((HB0.out.turn ht1 (.inl (by omega))).alloc (.cells #[.slice (some ⟨gn, 0, none⟩) k cg] 25))
  have HGa := box_new w1 (.slice (some ⟨gn, 0, none⟩) k cg) 25
  rw [← hbG] at HGa
  have HGa := Lib.hid HGa
  have hza : bG < (w1.alloc (.cells #[.slice (some ⟨gn, 0, none⟩) k cg] 25)).heap.size := by rw [hbG]; simp
  have hsG : w.heap.size + 1 ≤ bG := by omega
  have hgG : g < bG := by omega
  clear HB0 HO1 HC1 HF0 HR0 hown hownI hr1 ht1 hbG
  have hGB : GB gs := ⟨by have := HKL.out; omega, fun j => by have := hsm j; omega⟩
  have HCP := Lib.hid fun (w' : World) (B : Nat) (hB : B ≤ w'.heap.size) (h' : IS w' B E5 xs) => spec_copyInts E5 l c5 xs w' B hB HL.out h' (by omega) (by omega)
  have HVG := Lib.hid fun (w' : World) (B : Nat) (hB : B ≤ w'.heap.size) (h : GS w' B (some ⟨gn, 0, none⟩) gs) => spec_validGraph (some ⟨gn, 0, none⟩) k cg gs w' B hB HKL.out h hGB
  have HVC := Lib.hid fun (w' : World) (B : Nat) (hB : B ≤ w'.heap.size) (h : GS w' B (some ⟨gn, 0, none⟩) gs) (h' : IS w' B E5 xs) => spec_validCells (some ⟨gn, 0, none⟩) E5 k cg l c5 gs xs w' B hB HKL.out HL.out h h' (by omega) (by omega)
  have HIC := Lib.hid fun (x : Int) (w' : World) (B : Nat) (hB : B ≤ w'.heap.size) (h : GS w' B (some ⟨gn, 0, none⟩) gs) => spec_isCell (some ⟨gn, 0, none⟩) k cg gs x w' B hB HKL.out h (by omega)
  generalize validG gs = vg at *
  generalize validC gs xs = vc at *
  have q2 := HGa.out.it
  go_wp2_with fail
  rw [← HBG.out]
  generalize w1.alloc (.cells #[.slice (some ⟨gn, 0, none⟩) k cg] 25) = wa at *
  refine (HCP.out wa bG (by omega) HCa.out.it.ints).mono ?_
  rintro e w2 ⟨g7, c7, rfl, hown7, hb2⟩
  have hz2 := hb2.size
  obtain ⟨d0, hd0⟩ : ∃ d0, d0 = wa.heap.size := ⟨_, rfl⟩
  obtain ⟨d1, hd1⟩ : ∃ d1, d1 = w2.heap.size := ⟨_, rfl⟩
  have HD2 : Hid (As d0 d1 (OwR d0 d1 3 1 (.slice (some ⟨g7, 0, none⟩) l c7) l (xs.map (Value.int .i64))) w2) := by rw [hd0, hd1]; exact row_start hown7
  have hbd : bG < d0 := by omega
  have hd01 : d0 ≤ d1 := by omega
  have hg7 : d0 ≤ g7 ∧ g7 < d1 := by have := hown7.lt g7 rfl; omega
  have HR2 := Lib.hid (HRa.out.step hb2)
  have HO2 := Lib.hid (HOa.out.step hb2)
  have HC2 := Lib.hid (HCa.out.step hb2)
  have HB2 := Lib.hid (HBa.out.step hb2)
  have HG2 := Lib.hid (HGa.out.step hb2)
  have HF2 := Lib.hid (HFa.out.trans (Frd.of_below hb2 (by omega)))
  clear hown7 hb2 q2 HCP
  clear HRa HFa HOa HCa HBa HGa 
  have q2 := HG2.out.it
  go_wp2_with fail
  refine (HVG.out w2 bG (by omega) HO2.out.it.nodes).mono ?_
  rintro e w3 ⟨rfl, hb3⟩
  have hz3 := hb3.size
  have HR3 := Lib.hid (HR2.out.step hb3)
  have HO3 := Lib.hid (HO2.out.step hb3)
  have HC3 := Lib.hid (HC2.out.step hb3)
  have HB3 := Lib.hid (HB2.out.step hb3)
  have HG3 := Lib.hid (HG2.out.step hb3)
  have HD3 := Lib.hid (HD2.out.step hb3)
  have HF3 := Lib.hid (HF2.out.trans (Frd.of_below hb3 (by omega)))
  clear hb3 q2 HVG
  clear HR2 HF2 HO2 HC2 HB2 HG2 HD2 
  have q3 := HG3.out.it
  cases vg
  · skip
    go_wp2
    refine wp_region_held_drew (S := fun w' => w'.cell? ⟨bG, 0, none⟩ = some (.slice (some ⟨gn, 0, none⟩) k cg)) (by kernel_rfl) HG3.out.it (fun hHeld => ?_)
    refine wpAnyH_take (i := 0) (oi := ⟨some 31, _, _, _, _, _⟩) (v := ?_) rfl (by kernel_rfl) (by kernel_rfl) (by kernel_rfl) (fun _ _ _ h => h) (Or.inl ⟨by rfl, ?_⟩) (by assumption) ?_; rotate_left; (focus (intro w hSw; (try dsimp only at hSw); go_simp; (try with_reducible rfl))); (try simp only [Act.put, List.setIfInBounds_toArray, List.set_cons_zero, List.set_cons_succ])
    refine wpAnyH_take (i := 1) (oi := ⟨some 32, _, _, _, _, _⟩) (v := ?_) rfl (by kernel_rfl) (by kernel_rfl) (by kernel_rfl) (fun _ _ _ h => h) (Or.inl ⟨by rfl, ?_⟩) (by assumption) ?_; rotate_left; (focus (intro w hSw; (try dsimp only at hSw); go_simp; (try with_reducible rfl))); (try simp only [Act.put, List.setIfInBounds_toArray, List.set_cons_zero, List.set_cons_succ])
    refine wpAnyH_take (i := 2) (oi := ⟨some 33, _, _, _, _, _⟩) (v := ?_) rfl (by kernel_rfl) (by kernel_rfl) (by kernel_rfl) (fun _ _ _ h => h) (Or.inl ⟨by rfl, ?_⟩) (by assumption) ?_; rotate_left; (focus (intro w hSw; (try dsimp only at hSw); go_simp; (try with_reducible rfl))); (try simp only [Act.put, List.setIfInBounds_toArray, List.set_cons_zero, List.set_cons_succ])
    refine wpAnyH_take (i := 3) (oi := ⟨some 34, _, _, _, _, _⟩) (v := ?_) rfl (by kernel_rfl) (by kernel_rfl) (by kernel_rfl) (fun _ _ _ h => h) (Or.inl ⟨by rfl, ?_⟩) (by assumption) ?_; rotate_left; (focus (intro w hSw; (try dsimp only at hSw); go_simp; (try with_reducible rfl))); (try simp only [Act.put, List.setIfInBounds_toArray, List.set_cons_zero, List.set_cons_succ])
    refine wpAnyH_ready (rs := [4]) (by kernel_rfl) (by simp) ?_; refine AllReadyH.cons (o := ⟨some 35, _, _, _, _, _⟩) rfl (fun K hK => ?_) AllReadyH.nil; go_simp
    go_at_call 109
    refine (someCells_any g A n c bs (P + 2600) (some ⟨gn, 0, none⟩) k cg (w.heap.size + 1) bG gs _ HR3.out.drew HN.out hby hs (by omega) ⟨OwG.loc _ _ _ _ _ _ _ HO3.out.it fun _ _ _ => rfl, HO3.out.le, HO3.out.loc⟩ (by omega) (by omega) hk10).mono ?_
    rintro e w9 ⟨v9, ys, rfl, hy1, hy2, hown9, hr9, ht9'⟩
    have ht9 : Tch g (g + 1) w3 w9 := ⟨ht9'.os, ht9'.tape, ht9'.output, ht9'.size, ht9'.block⟩
    have hz9 := ht9.size
    obtain ⟨A9, c9, rfl, _⟩ := OwnI.form hown9
    unfold OwnI at hown9
    have HD9 := Lib.hid (own_mono hown9 (show w.heap.size + 1 ≤ _ by show _ ≤ w3.heap.size; omega))
    have HR9 := Lib.hid hr9
    have HO9 := Lib.hid (HO3.out.turn ht9 (.inl (by omega)))
    have HC9 := Lib.hid (HC3.out.turn ht9 (.inl (by omega)))
    have HB9 := Lib.hid (HB3.out.turn ht9 (.inl (by omega)))
    have HG9 := Lib.hid (HG3.out.turn ht9 (.inl (by omega)))
    have HF9 := Lib.hid (HF3.out.trans (Frd.of_tch ht9 (by omega)))
    obtain ⟨r0, r1⟩ := HB9.out.it
    have q9 := HG9.out.it
    have qs : (w9.setCell ⟨w.heap.size, 0, none⟩ (.slice (some ⟨gn, 0, none⟩) k cg)).cell? ⟨bG, 0, none⟩ = some (.slice (some ⟨gn, 0, none⟩) k cg) := (World.cell?_setCell_other _ _ _ _ (by intro e; have := congrArg Addr.block e; simp at this; omega)).trans q9
    clear hown9 hr9 ht9 ht9'
    clear HR3 HF3 HO3 HC3 HB3 HG3 
    refine hK.out _ _ q9 (fun hHeld => ?_); clear hK K; (try simp only [Act.put, List.setIfInBounds_toArray, List.set_cons_zero, List.set_cons_succ])
    refine wpAnyH_ready (rs := [5]) (by kernel_rfl) (by simp) ?_; refine AllReadyH.cons (o := ⟨none, _, _, _, _, _⟩) rfl (fun K hK => ?_) AllReadyH.nil; go_simp
    refine hK.out _ _ qs (fun hHeld => ?_); clear hK K; (try simp only [Act.put, List.setIfInBounds_toArray, List.set_cons_zero, List.set_cons_succ])
    refine wpAnyH_take (i := 6) (oi := ⟨some 3, _, _, _, _, _⟩) (v := ?_) rfl (by kernel_rfl) (by kernel_rfl) (by kernel_rfl) (fun _ _ _ h => h) (Or.inl ⟨by rfl, ?_⟩) (by assumption) ?_; rotate_left; (focus (intro w hSw; (try dsimp only at hSw); go_simp; (try with_reducible rfl))); (try simp only [Act.put, List.setIfInBounds_toArray, List.set_cons_zero, List.set_cons_succ])
    refine wpAnyH_take (i := 7) (oi := ⟨some 4, _, _, _, _, _⟩) (v := ?_) rfl (by kernel_rfl) (by kernel_rfl) (by kernel_rfl) (fun _ _ _ h => h) (Or.inl ⟨by rfl, ?_⟩) (by assumption) ?_; rotate_left; (focus (intro w hSw; (try dsimp only at hSw); go_simp; (try with_reducible rfl))); (try simp only [Act.put, List.setIfInBounds_toArray, List.set_cons_zero, List.set_cons_succ])
    refine wpAnyH_done (by kernel_rfl) ?_ _
    have r2 : (w9.setCell ⟨w.heap.size, 0, none⟩ (.slice (some ⟨gn, 0, none⟩) k cg)).cell? ⟨w.heap.size, 0, none⟩ = some (.slice (some ⟨gn, 0, none⟩) k cg) := World.cell?_setCell_same _ _ _ r0
    go_wp2
    refine bodyPost_ret (v := .tuple #[.agg #[(.slice (some ⟨gn, 0, none⟩) k cg)], .slice E5 l c5, .slice A9 ys.length c9]) (by simp [results, Try.results83, go_sem, r2]) rfl ?_
    exact TcP.fin (hi := bG) hgw hk2 hk10 hsm HL.out hx1 hx2 rfl hy1 hy2 HO9.out.it HC9.out.it.1 HD9.out HO9.out.le (HR9.out.mono (by omega)) HF9.out
  · go_wp2_with fail
    refine (HVC.out w3 bG (by omega) HO3.out.it.nodes HC3.out.it.ints).mono ?_
    rintro e w4 ⟨rfl, hb4⟩
    have hz4 := hb4.size
    have HR4 := Lib.hid (HR3.out.step hb4)
    have HO4 := Lib.hid (HO3.out.step hb4)
    have HC4 := Lib.hid (HC3.out.step hb4)
    have HB4 := Lib.hid (HB3.out.step hb4)
    have HG4 := Lib.hid (HG3.out.step hb4)
    have HD4 := Lib.hid (HD3.out.step hb4)
    have HF4 := Lib.hid (HF3.out.trans (Frd.of_below hb4 (by omega)))
    clear hb4 q3 HVC
    clear HR3 HF3 HO3 HC3 HB3 HG3 HD3 
    have q4 := HG4.out.it
    cases vc
    · skip
      go_wp2
      refine wp_region_held_drew (S := fun w' => w'.cell? ⟨bG, 0, none⟩ = some (.slice (some ⟨gn, 0, none⟩) k cg)) (by kernel_rfl) HG4.out.it (fun hHeld => ?_)
      refine wpAnyH_take (i := 0) (oi := ⟨some 31, _, _, _, _, _⟩) (v := ?_) rfl (by kernel_rfl) (by kernel_rfl) (by kernel_rfl) (fun _ _ _ h => h) (Or.inl ⟨by rfl, ?_⟩) (by assumption) ?_; rotate_left; (focus (intro w hSw; (try dsimp only at hSw); go_simp; (try with_reducible rfl))); (try simp only [Act.put, List.setIfInBounds_toArray, List.set_cons_zero, List.set_cons_succ])
      refine wpAnyH_take (i := 1) (oi := ⟨some 32, _, _, _, _, _⟩) (v := ?_) rfl (by kernel_rfl) (by kernel_rfl) (by kernel_rfl) (fun _ _ _ h => h) (Or.inl ⟨by rfl, ?_⟩) (by assumption) ?_; rotate_left; (focus (intro w hSw; (try dsimp only at hSw); go_simp; (try with_reducible rfl))); (try simp only [Act.put, List.setIfInBounds_toArray, List.set_cons_zero, List.set_cons_succ])
      refine wpAnyH_take (i := 2) (oi := ⟨some 33, _, _, _, _, _⟩) (v := ?_) rfl (by kernel_rfl) (by kernel_rfl) (by kernel_rfl) (fun _ _ _ h => h) (Or.inl ⟨by rfl, ?_⟩) (by assumption) ?_; rotate_left; (focus (intro w hSw; (try dsimp only at hSw); go_simp; (try with_reducible rfl))); (try simp only [Act.put, List.setIfInBounds_toArray, List.set_cons_zero, List.set_cons_succ])
      refine wpAnyH_take (i := 3) (oi := ⟨some 34, _, _, _, _, _⟩) (v := ?_) rfl (by kernel_rfl) (by kernel_rfl) (by kernel_rfl) (fun _ _ _ h => h) (Or.inl ⟨by rfl, ?_⟩) (by assumption) ?_; rotate_left; (focus (intro w hSw; (try dsimp only at hSw); go_simp; (try with_reducible rfl))); (try simp only [Act.put, List.setIfInBounds_toArray, List.set_cons_zero, List.set_cons_succ])
      refine wpAnyH_ready (rs := [4]) (by kernel_rfl) (by simp) ?_; refine AllReadyH.cons (o := ⟨some 35, _, _, _, _, _⟩) rfl (fun K hK => ?_) AllReadyH.nil; go_simp
      go_at_call 109
      refine (someCells_any g A n c bs (P + 2600) (some ⟨gn, 0, none⟩) k cg (w.heap.size + 1) bG gs _ HR4.out.drew HN.out hby hs (by omega) ⟨OwG.loc _ _ _ _ _ _ _ HO4.out.it fun _ _ _ => rfl, HO4.out.le, HO4.out.loc⟩ (by omega) (by omega) hk10).mono ?_
      rintro e w9 ⟨v9, ys, rfl, hy1, hy2, hown9, hr9, ht9'⟩
      have ht9 : Tch g (g + 1) w4 w9 := ⟨ht9'.os, ht9'.tape, ht9'.output, ht9'.size, ht9'.block⟩
      have hz9 := ht9.size
      obtain ⟨A9, c9, rfl, _⟩ := OwnI.form hown9
      unfold OwnI at hown9
      have HD9 := Lib.hid (own_mono hown9 (show w.heap.size + 1 ≤ _ by show _ ≤ w4.heap.size; omega))
      have HR9 := Lib.hid hr9
      have HO9 := Lib.hid (HO4.out.turn ht9 (.inl (by omega)))
      have HC9 := Lib.hid (HC4.out.turn ht9 (.inl (by omega)))
      have HB9 := Lib.hid (HB4.out.turn ht9 (.inl (by omega)))
      have HG9 := Lib.hid (HG4.out.turn ht9 (.inl (by omega)))
      have HF9 := Lib.hid (HF4.out.trans (Frd.of_tch ht9 (by omega)))
      obtain ⟨r0, r1⟩ := HB9.out.it
      have q9 := HG9.out.it
      have qs : (w9.setCell ⟨w.heap.size, 0, none⟩ (.slice (some ⟨gn, 0, none⟩) k cg)).cell? ⟨bG, 0, none⟩ = some (.slice (some ⟨gn, 0, none⟩) k cg) := (World.cell?_setCell_other _ _ _ _ (by intro e; have := congrArg Addr.block e; simp at this; omega)).trans q9
      clear hown9 hr9 ht9 ht9'
      clear HR4 HF4 HO4 HC4 HB4 HG4 
      refine hK.out _ _ q9 (fun hHeld => ?_); clear hK K; (try simp only [Act.put, List.setIfInBounds_toArray, List.set_cons_zero, List.set_cons_succ])
      refine wpAnyH_ready (rs := [5]) (by kernel_rfl) (by simp) ?_; refine AllReadyH.cons (o := ⟨none, _, _, _, _, _⟩) rfl (fun K hK => ?_) AllReadyH.nil; go_simp
      refine hK.out _ _ qs (fun hHeld => ?_); clear hK K; (try simp only [Act.put, List.setIfInBounds_toArray, List.set_cons_zero, List.set_cons_succ])
      refine wpAnyH_take (i := 6) (oi := ⟨some 3, _, _, _, _, _⟩) (v := ?_) rfl (by kernel_rfl) (by kernel_rfl) (by kernel_rfl) (fun _ _ _ h => h) (Or.inl ⟨by rfl, ?_⟩) (by assumption) ?_; rotate_left; (focus (intro w hSw; (try dsimp only at hSw); go_simp; (try with_reducible rfl))); (try simp only [Act.put, List.setIfInBounds_toArray, List.set_cons_zero, List.set_cons_succ])
      refine wpAnyH_take (i := 7) (oi := ⟨some 4, _, _, _, _, _⟩) (v := ?_) rfl (by kernel_rfl) (by kernel_rfl) (by kernel_rfl) (fun _ _ _ h => h) (Or.inl ⟨by rfl, ?_⟩) (by assumption) ?_; rotate_left; (focus (intro w hSw; (try dsimp only at hSw); go_simp; (try with_reducible rfl))); (try simp only [Act.put, List.setIfInBounds_toArray, List.set_cons_zero, List.set_cons_succ])
      refine wpAnyH_done (by kernel_rfl) ?_ _
      have r2 : (w9.setCell ⟨w.heap.size, 0, none⟩ (.slice (some ⟨gn, 0, none⟩) k cg)).cell? ⟨w.heap.size, 0, none⟩ = some (.slice (some ⟨gn, 0, none⟩) k cg) := World.cell?_setCell_same _ _ _ r0
      go_wp2
      refine bodyPost_ret (v := .tuple #[.agg #[(.slice (some ⟨gn, 0, none⟩) k cg)], .slice E5 l c5, .slice A9 ys.length c9]) (by simp [results, Try.results83, go_sem, r2]) rfl ?_
      exact TcP.fin (hi := bG) hgw hk2 hk10 hsm HL.out hx1 hx2 rfl hy1 hy2 HO9.out.it HC9.out.it.1 HD9.out HO9.out.le (HR9.out.mono (by omega)) HF9.out
    · go_wp2_with fail
      refine (pick_any g A n c bs (P + 2600) 4 w4 HR4.out HN.out hby hs (by omega) (by omega)).mono ?_
      rintro e w5 ⟨x, rfl, _, _, hr5, ht5⟩
      have hz5 := ht5.size
      have HR5 := Lib.hid hr5
      have HO5 := Lib.hid (HO4.out.turn ht5 (.inl (by omega)))
      have HC5 := Lib.hid (HC4.out.turn ht5 (.inl (by omega)))
      have HB5 := Lib.hid (HB4.out.turn ht5 (.inl (by omega)))
      have HG5 := Lib.hid (HG4.out.turn ht5 (.inl (by omega)))
      have HD5 := Lib.hid (HD4.out.turn ht5 (.inl (by omega)))
      have HF5 := Lib.hid (HF4.out.trans (Frd.of_tch ht5 (by omega)))
      clear hr5 ht5 q4
      clear HR4 HF4 HO4 HC4 HB4 HG4 HD4 
      by_cases hx0 : x = 0
      · subst hx0
        go_wp2
        refine wp_region_held_drew (S := fun w' => w'.cell? ⟨bG, 0, none⟩ = some (.slice (some ⟨gn, 0, none⟩) k cg)) (by kernel_rfl) HG5.out.it (fun hHeld => ?_)
        refine wpAnyH_take (i := 0) (oi := ⟨some 31, _, _, _, _, _⟩) (v := ?_) rfl (by kernel_rfl) (by kernel_rfl) (by kernel_rfl) (fun _ _ _ h => h) (Or.inl ⟨by rfl, ?_⟩) (by assumption) ?_; rotate_left; (focus (intro w hSw; (try dsimp only at hSw); go_simp; (try with_reducible rfl))); (try simp only [Act.put, List.setIfInBounds_toArray, List.set_cons_zero, List.set_cons_succ])
        refine wpAnyH_take (i := 1) (oi := ⟨some 32, _, _, _, _, _⟩) (v := ?_) rfl (by kernel_rfl) (by kernel_rfl) (by kernel_rfl) (fun _ _ _ h => h) (Or.inl ⟨by rfl, ?_⟩) (by assumption) ?_; rotate_left; (focus (intro w hSw; (try dsimp only at hSw); go_simp; (try with_reducible rfl))); (try simp only [Act.put, List.setIfInBounds_toArray, List.set_cons_zero, List.set_cons_succ])
        refine wpAnyH_take (i := 2) (oi := ⟨some 33, _, _, _, _, _⟩) (v := ?_) rfl (by kernel_rfl) (by kernel_rfl) (by kernel_rfl) (fun _ _ _ h => h) (Or.inl ⟨by rfl, ?_⟩) (by assumption) ?_; rotate_left; (focus (intro w hSw; (try dsimp only at hSw); go_simp; (try with_reducible rfl))); (try simp only [Act.put, List.setIfInBounds_toArray, List.set_cons_zero, List.set_cons_succ])
        refine wpAnyH_take (i := 3) (oi := ⟨some 34, _, _, _, _, _⟩) (v := ?_) rfl (by kernel_rfl) (by kernel_rfl) (by kernel_rfl) (fun _ _ _ h => h) (Or.inl ⟨by rfl, ?_⟩) (by assumption) ?_; rotate_left; (focus (intro w hSw; (try dsimp only at hSw); go_simp; (try with_reducible rfl))); (try simp only [Act.put, List.setIfInBounds_toArray, List.set_cons_zero, List.set_cons_succ])
        refine wpAnyH_ready (rs := [4]) (by kernel_rfl) (by simp) ?_; refine AllReadyH.cons (o := ⟨some 35, _, _, _, _, _⟩) rfl (fun K hK => ?_) AllReadyH.nil; go_simp
        go_at_call 109
        refine (someCells_any g A n c bs (P + 2601) (some ⟨gn, 0, none⟩) k cg (w.heap.size + 1) bG gs _ HR5.out.drew HN.out hby hs (by omega) ⟨OwG.loc _ _ _ _ _ _ _ HO5.out.it fun _ _ _ => rfl, HO5.out.le, HO5.out.loc⟩ (by omega) (by omega) hk10).mono ?_
        rintro e w9 ⟨v9, ys, rfl, hy1, hy2, hown9, hr9, ht9'⟩
        have ht9 : Tch g (g + 1) w5 w9 := ⟨ht9'.os, ht9'.tape, ht9'.output, ht9'.size, ht9'.block⟩
        have hz9 := ht9.size
        obtain ⟨A9, c9, rfl, _⟩ := OwnI.form hown9
        unfold OwnI at hown9
        have HD9 := Lib.hid (own_mono hown9 (show w.heap.size + 1 ≤ _ by show _ ≤ w5.heap.size; omega))
        have HR9 := Lib.hid hr9
        have HO9 := Lib.hid (HO5.out.turn ht9 (.inl (by omega)))
        have HC9 := Lib.hid (HC5.out.turn ht9 (.inl (by omega)))
        have HB9 := Lib.hid (HB5.out.turn ht9 (.inl (by omega)))
        have HG9 := Lib.hid (HG5.out.turn ht9 (.inl (by omega)))
        have HF9 := Lib.hid (HF5.out.trans (Frd.of_tch ht9 (by omega)))
        obtain ⟨r0, r1⟩ := HB9.out.it
        have q9 := HG9.out.it
        have qs : (w9.setCell ⟨w.heap.size, 0, none⟩ (.slice (some ⟨gn, 0, none⟩) k cg)).cell? ⟨bG, 0, none⟩ = some (.slice (some ⟨gn, 0, none⟩) k cg) := (World.cell?_setCell_other _ _ _ _ (by intro e; have := congrArg Addr.block e; simp at this; omega)).trans q9
        clear hown9 hr9 ht9 ht9'
        clear HR5 HF5 HO5 HC5 HB5 HG5 
        refine hK.out _ _ q9 (fun hHeld => ?_); clear hK K; (try simp only [Act.put, List.setIfInBounds_toArray, List.set_cons_zero, List.set_cons_succ])
        refine wpAnyH_ready (rs := [5]) (by kernel_rfl) (by simp) ?_; refine AllReadyH.cons (o := ⟨none, _, _, _, _, _⟩) rfl (fun K hK => ?_) AllReadyH.nil; go_simp
        refine hK.out _ _ qs (fun hHeld => ?_); clear hK K; (try simp only [Act.put, List.setIfInBounds_toArray, List.set_cons_zero, List.set_cons_succ])
        refine wpAnyH_take (i := 6) (oi := ⟨some 3, _, _, _, _, _⟩) (v := ?_) rfl (by kernel_rfl) (by kernel_rfl) (by kernel_rfl) (fun _ _ _ h => h) (Or.inl ⟨by rfl, ?_⟩) (by assumption) ?_; rotate_left; (focus (intro w hSw; (try dsimp only at hSw); go_simp; (try with_reducible rfl))); (try simp only [Act.put, List.setIfInBounds_toArray, List.set_cons_zero, List.set_cons_succ])
        refine wpAnyH_take (i := 7) (oi := ⟨some 4, _, _, _, _, _⟩) (v := ?_) rfl (by kernel_rfl) (by kernel_rfl) (by kernel_rfl) (fun _ _ _ h => h) (Or.inl ⟨by rfl, ?_⟩) (by assumption) ?_; rotate_left; (focus (intro w hSw; (try dsimp only at hSw); go_simp; (try with_reducible rfl))); (try simp only [Act.put, List.setIfInBounds_toArray, List.set_cons_zero, List.set_cons_succ])
        refine wpAnyH_done (by kernel_rfl) ?_ _
        have r2 : (w9.setCell ⟨w.heap.size, 0, none⟩ (.slice (some ⟨gn, 0, none⟩) k cg)).cell? ⟨w.heap.size, 0, none⟩ = some (.slice (some ⟨gn, 0, none⟩) k cg) := World.cell?_setCell_same _ _ _ r0
        go_wp2
        refine bodyPost_ret (v := .tuple #[.agg #[(.slice (some ⟨gn, 0, none⟩) k cg)], .slice E5 l c5, .slice A9 ys.length c9]) (by simp [results, Try.results83, go_sem, r2]) rfl ?_
        exact TcP.fin (hi := bG) hgw hk2 hk10 hsm HL.out hx1 hx2 rfl hy1 hy2 HO9.out.it HC9.out.it.1 HD9.out HO9.out.le (HR9.out.mono (by omega)) HF9.out
      · have hxz : ((x : Int) == 0) = false := by simp; omega
        go_wp2_with fail
        refine (pick_any g A n c bs (P + 2601) 3 w5 HR5.out HN.out hby hs (by omega) (by omega)).mono ?_
        rintro e w6 ⟨y, rfl, hy, _, hr6, ht6⟩
        have hy3 : y < 3 := by have := hy (by omega); omega
        have hz6 := ht6.size
        have HR6 := Lib.hid hr6
        have HO6 := Lib.hid (HO5.out.turn ht6 (.inl (by omega)))
        have HC6 := Lib.hid (HC5.out.turn ht6 (.inl (by omega)))
        have HB6 := Lib.hid (HB5.out.turn ht6 (.inl (by omega)))
        have HG6 := Lib.hid (HG5.out.turn ht6 (.inl (by omega)))
        have HD6 := Lib.hid (HD5.out.turn ht6 (.inl (by omega)))
        have HF6 := Lib.hid (HF5.out.trans (Frd.of_tch ht6 (by omega)))
        clear hr6 ht6 hy
        clear HR5 HF5 HO5 HC5 HB5 HG5 HD5 
        go_wp2
        go_loopw [8] (fun u wr => ∃ (z : Int) (Q : Nat) (ys : List Int), -1 ≤ z ∧ z ≤ 2 ∧ u = .int .i64 z ∧ Q + 10 * (z + 1).toNat ≤ P + 2650 ∧ ys.length = l ∧ Hid (As (w.heap.size + 1) bG (OwG (w.heap.size + 1) bG (.slice (some ⟨gn, 0, none⟩) k cg) k gs) wr) ∧ Hid (As (w.heap.size + 1) bG (OwR (w.heap.size + 1) bG 3 1 (.slice E5 l c5) l (xs.map (Value.int .i64))) wr) ∧ Hid (As w.heap.size (w.heap.size + 1) (fun w' => w'.cell? ⟨w.heap.size, 0, none⟩ = some (.slice none 0 0) ∧ w'.frozen? ⟨w.heap.size, 0, none⟩ = false) wr) ∧ Hid (As bG (bG + 1) (fun w' => w'.cell? ⟨bG, 0, none⟩ = some (.slice (some ⟨gn, 0, none⟩) k cg)) wr) ∧ Hid (As d0 d1 (OwR d0 d1 3 1 (.slice (some ⟨g7, 0, none⟩) l c7) l (ys.map (Value.int .i64))) wr) ∧ Hid (Rdr g A n c bs Q wr) ∧ Hid (Frd g w.heap.size w wr)) (fun u _ => (intOf u + 1).toNat)
        case atStart => exact ⟨(y : Int), P + 2602, xs, by omega, by omega, rfl, by omega, HL.out.symm, HO6.out, HC6.out, HB6.out, HG6.out, HD6.out, HR6.out, HF6.out⟩
        case round =>
          obtain ⟨z, Q, ys, hz1, hz20, rfl, hQ, hyl, HOk, HCk, HBk, HGk, HDk, HRk, HFk⟩ := hrel
          obtain ⟨wk, hwk⟩ : ∃ W, W = wr := ⟨_, rfl⟩
          rw [← hwk]
          rw [← hwk] at HOk HCk HBk HGk HDk HRk HFk
          clear hwk
          clear HR6 HF6 HO6 HC6 HB6 HG6 HD6 
          have hlk := HDk.out.le
          have qk := HGk.out.it
          by_cases hzz : 0 ≤ z
          · skip
            have hlp : ((l : Nat) : Int) ≤ 1000000 := by omega
            go_wp2_with fail
            refine (pick_any g A n c bs Q l wk HRk.out HN.out hby hs (by omega) (by omega)).mono ?_
            rintro e w3 ⟨j, rfl, hj, _, hr3, ht3⟩
            have hjl : j < l := by have := hj (by omega); omega
            have hs3 := ht3.size
            have HR3 := Lib.hid hr3
            have HO3 := Lib.hid (HOk.out.turn ht3 (.inl (by omega)))
            have HC3 := Lib.hid (HCk.out.turn ht3 (.inl (by omega)))
            have HB3 := Lib.hid (HBk.out.turn ht3 (.inl (by omega)))
            have HG3 := Lib.hid (HGk.out.turn ht3 (.inl (by omega)))
            have HD3 := Lib.hid (HDk.out.turn ht3 (.inl (by omega)))
            have HF3 := Lib.hid (HFk.out.trans (Frd.of_tch ht3 (by omega)))
            clear hj hr3 ht3 qk
            clear HRk HFk HOk HCk HBk HGk HDk 
            have q3 := HG3.out.it
            go_wp2_with fail
            refine (HIC.out (j : Int) w3 bG (by omega) HO3.out.it.nodes).mono ?_
            rintro e w4 ⟨rfl, hb4⟩
            have hs4 := hb4.size
            have HR4 := Lib.hid (HR3.out.step hb4)
            have HO4 := Lib.hid (HO3.out.step hb4)
            have HC4 := Lib.hid (HC3.out.step hb4)
            have HB4 := Lib.hid (HB3.out.step hb4)
            have HG4 := Lib.hid (HG3.out.step hb4)
            have HD4 := Lib.hid (HD3.out.step hb4)
            have HF4 := Lib.hid (HF3.out.trans (Frd.of_below hb4 (by omega)))
            clear hb4 q3
            clear HR3 HF3 HO3 HC3 HB3 HG3 HD3 
            generalize isC gs (j : Int) = ic at *
            cases ic
            · go_wp2
              go_roundw
              case rel => exact ⟨z - 1, Q + 1, ys, by omega, by omega, by go_num, by omega, hyl, HO4.out, HC4.out, HB4.out, HG4.out, HD4.out, HR4.out, HF4.out⟩
              case measure => simp [intOf]; omega
            · go_wp2_with fail
              refine (pick_any g A n c bs (Q + 1) 1000 w4 HR4.out HN.out hby hs (by omega) (by omega)).mono ?_
              rintro e w5 ⟨y5, rfl, _, _, hr5, ht5⟩
              have hs5 := ht5.size
              have HR5 := Lib.hid hr5
              have HO5 := Lib.hid (HO4.out.turn ht5 (.inl (by omega)))
              have HC5 := Lib.hid (HC4.out.turn ht5 (.inl (by omega)))
              have HB5 := Lib.hid (HB4.out.turn ht5 (.inl (by omega)))
              have HG5 := Lib.hid (HG4.out.turn ht5 (.inl (by omega)))
              have HD5 := Lib.hid (HD4.out.turn ht5 (.inl (by omega)))
              have HF5 := Lib.hid (HF4.out.trans (Frd.of_tch ht5 (by omega)))
              clear hr5 ht5
              clear HR4 HF4 HO4 HC4 HB4 HG4 HD4 
              have HR6 := Lib.hid (HR5.out.alloc (.cells #[.int .i64 0, .int .i64 1, .int .i64 y5, .int .i64 3] 3))
              have HO6 := Lib.hid (HO5.out.alloc (.cells #[.int .i64 0, .int .i64 1, .int .i64 y5, .int .i64 3] 3))
              have HC6 := Lib.hid (HC5.out.alloc (.cells #[.int .i64 0, .int .i64 1, .int .i64 y5, .int .i64 3] 3))
              have HB6 := Lib.hid (HB5.out.alloc (.cells #[.int .i64 0, .int .i64 1, .int .i64 y5, .int .i64 3] 3))
              have HG6 := Lib.hid (HG5.out.alloc (.cells #[.int .i64 0, .int .i64 1, .int .i64 y5, .int .i64 3] 3))
              have HD6 := Lib.hid (HD5.out.alloc (.cells #[.int .i64 0, .int .i64 1, .int .i64 y5, .int .i64 3] 3))
              have HF6 := Lib.hid (HF5.out.trans (Frd.of_below (w' := w5.alloc (.cells #[.int .i64 0, .int .i64 1, .int .i64 y5, .int .i64 3] 3)) ((Below.refl w5.heap.size w5).alloc (Nat.le_refl _) _) (by omega)))
              clear HR5 HF5 HO5 HC5 HB5 HG5 HD5 
              go_wp2_with fail
              refine (one_any g A n c bs (Q + 2) w5.heap.size 0 4 4 [0, 1, y5, 3] _ HR6.out HN.out hby hs (by omega) rfl (by omega) (by omega) ?_ (by omega) (by simp)).mono ?_
              · intro j hj
                have : j = 0 ∨ j = 1 ∨ j = 2 ∨ j = 3 := by omega
                rcases this with rfl | rfl | rfl | rfl <;> go_simp
              rintro e w7 ⟨zz, rfl, _, hr7, ht7⟩
              have hs7 : w5.heap.size + 1 ≤ w7.heap.size := by have := ht7.size; simpa using this
              have HR7 := Lib.hid hr7
              have HO7 := Lib.hid (HO6.out.turn ht7 (.inl (by omega)))
              have HC7 := Lib.hid (HC6.out.turn ht7 (.inl (by omega)))
              have HB7 := Lib.hid (HB6.out.turn ht7 (.inl (by omega)))
              have HG7 := Lib.hid (HG6.out.turn ht7 (.inl (by omega)))
              have HD7 := Lib.hid (HD6.out.turn ht7 (.inl (by omega)))
              have HF7 := Lib.hid (HF6.out.trans (Frd.of_tch ht7 (by simp; omega)))
              clear hr7 ht7
              clear HR6 HF6 HO6 HC6 HB6 HG6 HD6 
              have u0 := HD7.out.it.1.cellAt j (by omega)
              rw [List.getElem?_eq_getElem (by rw [List.length_map]; omega)] at u0
              have f0 := HD7.out.it.1.frozenAt j
              have hst := (HD7.out.it.1.stored j (.int .i64 zz)).1
              rw [← List.map_set] at hst
              generalize (ys.map (Value.int .i64))[j]'_ = vv at u0
              have ht8 : Tch d0 d1 w7 (w7.setCell ⟨g7, j, none⟩ (.int .i64 zz)) := Tch.of_grown (grown_setCell0 w7 g7 j (.int .i64 zz)) fun k hk => by cases hk; exact hg7
              have hz8 : (w7.setCell ⟨g7, j, none⟩ (.int .i64 zz)).heap.size = w7.heap.size := by simp [World.setCell]
              have HD8 : Hid (As d0 d1 (OwR d0 d1 3 1 (.slice (some ⟨g7, 0, none⟩) l c7) l ((ys.set j zz).map (Value.int .i64))) (w7.setCell ⟨g7, j, none⟩ (.int .i64 zz))) := ⟨⟨hst, HD7.out.it.2⟩, by rw [hz8]; exact HD7.out.le, OwR.loc _ _ _ _ _ _ _⟩
              have HR8 := Lib.hid (HR7.out.turn ht8 (by omega))
              have HO8 := Lib.hid (HO7.out.turn ht8 (.inr (by omega)))
              have HC8 := Lib.hid (HC7.out.turn ht8 (.inr (by omega)))
              have HB8 := Lib.hid (HB7.out.turn ht8 (.inr (by omega)))
              have HG8 := Lib.hid (HG7.out.turn ht8 (.inr (by omega)))
              have HF8 := Lib.hid (HF7.out.trans (Frd.of_below (w' := (w7.setCell ⟨g7, j, none⟩ (.int .i64 zz))) ((Below.refl w.heap.size w7).setCell (by show w.heap.size ≤ g7; omega) _) (Nat.le_refl _)))
              clear hst ht8
              clear HR7 HF7 HO7 HC7 HB7 HG7 HD7 
              go_wp2
              go_roundw
              case rel => exact ⟨z - 1, Q + 3, ys.set j zz, by omega, by omega, by go_num, by omega, by rw [List.length_set]; exact hyl, HO8.out, HC8.out, HB8.out, HG8.out, HD8.out, HR8.out, HF8.out⟩
              case measure => simp [intOf]; omega
          · obtain ⟨r0, r1⟩ := HBk.out.it
            have r2 : (wk.setCell ⟨w.heap.size, 0, none⟩ (.slice (some ⟨gn, 0, none⟩) k cg)).cell? ⟨w.heap.size, 0, none⟩ = some (.slice (some ⟨gn, 0, none⟩) k cg) := World.cell?_setCell_same _ _ _ r0
            have hlB := HBk.out.le
            go_wp2
            refine bodyPost_ret (v := .tuple #[.agg #[(.slice (some ⟨gn, 0, none⟩) k cg)], .slice E5 l c5, .slice (some ⟨g7, 0, none⟩) l c7]) (by simp [results, Try.results83, go_sem, r2]) rfl ?_
            exact TcP.fin (hi := bG) hgw hk2 hk10 hsm HL.out hx1 hx2 hyl.symm hx1 hx2 HOk.out.it HCk.out.it.1 (own_mono HDk.out.it.1 (by omega)) HOk.out.le (HRk.out.mono (by omega)) HFk.out
end Go.Proofs.Ytdhjflhpenkchaa
