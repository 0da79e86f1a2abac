/- For all bytes the law FnMustRun holds: what has changed and is no cell has to run, in order, and nothing where nothing changed; and the bytes stay as they were. Conditions: none. -/
import Derived.Test.YtgclikdienlhdaaZ06
import Derived.Deep.RegionHeld3
import Derived.Deep.QuietTactic
import Derived.BigQuiet
import Derived.Laws.Entries
/- The drawing of a graph and two lists of cells: twoCells. -/
namespace Go.Proofs.Ytgclikdienlhdaa
set_option linter.unusedSimpArgs false
set_option linter.unusedVariables false
open Go.RowKit

/-- Returns a graph and two lists in fresh blocks. -/
def TcP (g : Nat) (A : Option Addr) (n c : Nat) (bs : List Int) (Q : Nat) (w : World) (e : Ending) (w' : World) : Prop :=
  ∃ (V : Value) (k : Nat) (gs : List Nd) (E : Option Addr) (l d : Nat) (xs : List Int) (E' : Option Addr) (l' d' : Nat) (ys : List Int), e = .returned (.tuple #[.agg #[V], .slice E l d, .slice E' l' d']) ∧ 2 ≤ k ∧ k ≤ 10 ∧ (∀ j, (gs.getD j default).ps.length ≤ 40) ∧ l = xs.length ∧ k ≤ l ∧ l ≤ k + 1 ∧ l' = ys.length ∧ k ≤ l' ∧ l' ≤ k + 1 ∧ OwG w.heap.size w'.heap.size V k gs w' ∧ w'.ownsRow w.heap.size 3 1 (.slice E l d) l (xs.map (Value.int .i64)) ∧ w'.ownsRow w.heap.size 3 1 (.slice E' l' d') l' (ys.map (Value.int .i64)) ∧ Rdr g A n c bs Q w' ∧ Tch g (g + 1) w w'
theorem TcP.fin {g n c Q hi k l d l' d' : Nat} {A E E' : Option Addr} {bs xs ys : List Int} {w X : World} {V : Value} {gs : List Nd} (hg : g < w.heap.size) (h2 : 2 ≤ k) (h10 : k ≤ 10) (hsm : ∀ j, (gs.getD j default).ps.length ≤ 40) (hl : l = xs.length) (hx1 : k ≤ l) (hx2 : l ≤ k + 1) (hl' : l' = ys.length) (hy1 : k ≤ l') (hy2 : l' ≤ k + 1)
    (hO : OwG (w.heap.size + 1) hi V k gs X) (hC : X.ownsRow (w.heap.size + 1) 3 1 (.slice E l d) l (xs.map (Value.int .i64))) (hD : X.ownsRow (w.heap.size + 1) 3 1 (.slice E' l' d') l' (ys.map (Value.int .i64))) (hhi : hi ≤ X.heap.size) (hR : Rdr g A n c bs Q X) (hF : Frd g w.heap.size w X) :
    TcP g A n c bs Q w (.returned (.tuple #[.agg #[V], .slice E l d, .slice E' l' d'])) (X.setCell ⟨w.heap.size, 0, none⟩ V) := by
  have hk : ∀ b, w.heap.size + 1 ≤ b → (X.setCell ⟨w.heap.size, 0, none⟩ V).heap[b]? = X.heap[b]? := fun b hb => Below.heap_setCell _ _ _ _ (by show b ≠ w.heap.size; omega)
  have hs : (X.setCell ⟨w.heap.size, 0, none⟩ V).heap.size = X.heap.size := by simp [World.setCell]
  exact ⟨V, k, gs, E, l, d, xs, E', l', d', ys, rfl, h2, h10, hsm, hl, hx1, hx2, hl', hy1, hy2, by rw [hs]; exact (OwG.loc _ _ _ _ _ _ _ hO fun b x _ => hk b x).mono (by omega) hhi, own_mono (own_keep hC fun b x _ => hk b x) (by omega), own_mono (own_keep hD fun b x _ => hk b x) (by omega), hR.set1 hg 0 _, (hF.trans (Frd.of_below ((Below.refl w.heap.size _).setCell (p := ⟨w.heap.size, 0, none⟩) (Nat.le_refl _) _) (Nat.le_refl _))).tch⟩

set_option maxRecDepth 100000 in
set_option maxHeartbeats 12800000 in
theorem twoCells_any (g : Nat) (A : Option Addr) (n c : Nat) (bs : List Int) (P : Nat) (w : World) (h : Rdr g A n c bs P w) (hn : n = bs.length) (hby : BY bs) (hs : n ≤ 2000) (hP : P ≤ 600000) :
    Calls Try.prog 50 #[.pointer (some ⟨g, 0, none⟩)] w fun e w' => TcP g A n c bs (P + 2700) w e w' := by
  have hgw := h.lt
  have HN := Lib.hid hn
  have HR0 := Lib.hid (h.alloc (.cells #[.slice none 0 0] 25))
  have HB0 : Hid (As w.heap.size (w.heap.size + 1) (fun w' => w'.cell? ⟨w.heap.size, 0, none⟩ = some (.slice none 0 0) ∧ w'.frozen? ⟨w.heap.size, 0, none⟩ = false) (w.alloc (.cells #[.slice none 0 0] 25))) :=
    ⟨⟨by go_simp, by go_simp⟩, by simp, fun w w' h hk => ⟨(World.cell?_of_block (a := ⟨_, 0, none⟩) (hk _ (Nat.le_refl _) (Nat.lt_succ_self _))).trans h.1, (World.frozen?_of_block (a := ⟨_, 0, none⟩) (hk _ (Nat.le_refl _) (Nat.lt_succ_self _))).trans h.2⟩⟩
  have HF0 := Lib.hid (Frd.of_below (g := g) (s := w.heap.size) ((Below.refl w.heap.size w).alloc (Nat.le_refl _) (.cells #[.slice none 0 0] 25)) (Nat.le_refl _))
  clear h hn
  go_enter Try.func50, Try.ntmps50
  go_wp2_with fail
  refine (graphOf_any g A n c bs P _ HR0.out HN.out hby hs (by omega)).mono ?_
  rintro e w1 ⟨V, k, gs, vI, xs, rfl, hk2, hk10, hsm, hx1, hx2, hown, hownI, hr1, ht1⟩
  have hs1 : w.heap.size + 1 ≤ w1.heap.size := by have := ht1.size; simpa using this
  obtain ⟨gn, cg, rfl⟩ := hown.pos (by omega)
  obtain ⟨E5, c5, rfl, _⟩ := OwnI.form hownI
  unfold OwnI at hownI
  simp only [World.size_alloc] at hown hownI
  obtain ⟨bG, hbG⟩ : ∃ bG, bG = w1.heap.size := ⟨_, rfl⟩
  have HBG := Lib.hid hbG
  have HKL := Lib.hid hown.1
  have HO1 : Hid (As (w.heap.size + 1) bG (OwG (w.heap.size + 1) bG (.slice (some ⟨gn, 0, none⟩) k cg) k gs) w1) := by rw [hbG]; exact graph_start hown
  obtain ⟨l, hl⟩ : ∃ l, l = xs.length := ⟨_, rfl⟩
  rw [← hl] at hownI hx1 hx2
  have HL := Lib.hid hl
  rw [← hl]
  clear hl
  have HC1 : Hid (As (w.heap.size + 1) bG (OwR (w.heap.size + 1) bG 3 1 (.slice E5 l c5) l (xs.map (Value.int .i64))) w1) := by rw [hbG]; exact row_start hownI
  have HFa := Lib.hid ((HF0.out.trans (Frd.of_tch ht1 (by simp))).trans (Frd.of_below (w' := w1.alloc (.cells #[.slice (some ⟨gn, 0, none⟩) k cg] 25)) ((Below.refl w1.heap.size w1).alloc (Nat.le_refl _) _) (by omega)))
  have HRa := Lib.hid (hr1.alloc (.cells #[.slice (some ⟨gn, 0, none⟩) k cg] 25))
  have HOa := Lib.hid (HO1.out.alloc (.cells #[.slice (some ⟨gn, 0, none⟩) k cg] 25))
  have HCa := Lib.hid (HC1.out.alloc (.cells #[.slice (some ⟨gn, 0, none⟩) k cg] 25))
  have HBa := Lib.hid ((HB0.out.turn ht1 (.inl (by omega))).alloc (.cells #[.slice (some ⟨gn, 0, none⟩) k cg] 25))
  have HGa := box_new w1 (.slice (some ⟨gn, 0, none⟩) k cg) 25
  rw [← hbG] at HGa
  have HGa := Lib.hid HGa
  have hza : bG < (w1.alloc (.cells #[.slice (some ⟨gn, 0, none⟩) k cg] 25)).heap.size := by rw [hbG]; simp
  have hsG : w.heap.size + 1 ≤ bG := by omega
  have hgG : g < bG := by omega
  clear HB0 HO1 HC1 HF0 HR0 hown hownI hr1 ht1 hbG
  have hGB : GB gs := ⟨by have := HKL.out; omega, fun j => by have := hsm j; omega⟩
  have HCP := Lib.hid fun (w' : World) (B : Nat) (hB : B ≤ w'.heap.size) (h' : IS w' B E5 xs) => spec_copyInts E5 l c5 xs w' B hB HL.out h' (by omega) (by omega)
  have HVG := Lib.hid fun (w' : World) (B : Nat) (hB : B ≤ w'.heap.size) (h : GS w' B (some ⟨gn, 0, none⟩) gs) => spec_validGraph (some ⟨gn, 0, none⟩) k cg gs w' B hB HKL.out h hGB
  have HVC := Lib.hid fun (w' : World) (B : Nat) (hB : B ≤ w'.heap.size) (h : GS w' B (some ⟨gn, 0, none⟩) gs) (h' : IS w' B E5 xs) => spec_validCells (some ⟨gn, 0, none⟩) E5 k cg l c5 gs xs w' B hB HKL.out HL.out h h' (by omega) (by omega)
  have HIC := Lib.hid fun (x : Int) (w' : World) (B : Nat) (hB : B ≤ w'.heap.size) (h : GS w' B (some ⟨gn, 0, none⟩) gs) => spec_isCell (some ⟨gn, 0, none⟩) k cg gs x w' B hB HKL.out h (by omega)
  generalize validG gs = vg at *
  generalize validC gs xs = vc at *
  have q2 := HGa.out.it
  go_wp2_with fail
  rw [← HBG.out]
  generalize w1.alloc (.cells #[.slice (some ⟨gn, 0, none⟩) k cg] 25) = wa at *
  refine (HCP.out wa bG (by omega) HCa.out.it.ints).mono ?_
  rintro e w2 ⟨g7, c7, rfl, hown7, hb2⟩
  have hz2 := hb2.size
  obtain ⟨d0, hd0⟩ : ∃ d0, d0 = wa.heap.size := ⟨_, rfl⟩
  obtain ⟨d1, hd1⟩ : ∃ d1, d1 = w2.heap.size := ⟨_, rfl⟩
  have HD2 : Hid (As d0 d1 (OwR d0 d1 3 1 (.slice (some ⟨g7, 0, none⟩) l c7) l (xs.map (Value.int .i64))) w2) := by rw [hd0, hd1]; exact row_start hown7
  have hbd : bG < d0 := by omega
  have hd01 : d0 ≤ d1 := by omega
  have hg7 : d0 ≤ g7 ∧ g7 < d1 := by have := hown7.lt g7 rfl; omega
  have HR2 := Lib.hid (HRa.out.step hb2)
  have HO2 := Lib.hid (HOa.out.step hb2)
  have HC2 := Lib.hid (HCa.out.step hb2)
  have HB2 := Lib.hid (HBa.out.step hb2)
  have HG2 := Lib.hid (HGa.out.step hb2)
  have HF2 := Lib.hid (HFa.out.trans (Frd.of_below hb2 (by omega)))
  clear hown7 hb2 q2 HCP
  clear HRa HFa HOa HCa HBa HGa 
  have q2 := HG2.out.it
  go_wp2_with fail
  refine (HVG.out w2 bG (by omega) HO2.out.it.nodes).mono ?_
  rintro e w3 ⟨rfl, hb3⟩
  have hz3 := hb3.size
  have HR3 := Lib.hid (HR2.out.step hb3)
  have HO3 := Lib.hid (HO2.out.step hb3)
  have HC3 := Lib.hid (HC2.out.step hb3)
  have HB3 := Lib.hid (HB2.out.step hb3)
  have HG3 := Lib.hid (HG2.out.step hb3)
  have HD3 := Lib.hid (HD2.out.step hb3)
  have HF3 := Lib.hid (HF2.out.trans (Frd.of_below hb3 (by omega)))
  clear hb3 q2 HVG
  clear HR2 HF2 HO2 HC2 HB2 HG2 HD2 
  have q3 := HG3.out.it
  cases vg
  · skip
    go_wp2
    refine wp_region_held_drew (S := fun w' => w'.cell? ⟨bG, 0, none⟩ = some (.slice (some ⟨gn, 0, none⟩) k cg)) (by kernel_rfl) HG3.out.it (fun hHeld => ?_)
    refine wpAnyH_take (i := 0) (oi := ⟨some 31, _, _, _, _, _⟩) (v := ?_) rfl (by kernel_rfl) (by kernel_rfl) (by kernel_rfl) (fun _ _ _ h => h) (Or.inl ⟨by rfl, ?_⟩) (by assumption) ?_; rotate_left; (focus (intro w hSw; (try dsimp only at hSw); go_simp; (try with_reducible rfl))); (try simp only [Act.put, List.setIfInBounds_toArray, List.set_cons_zero, List.set_cons_succ])
    refine wpAnyH_take (i := 1) (oi := ⟨some 32, _, _, _, _, _⟩) (v := ?_) rfl (by kernel_rfl) (by kernel_rfl) (by kernel_rfl) (fun _ _ _ h => h) (Or.inl ⟨by rfl, ?_⟩) (by assumption) ?_; rotate_left; (focus (intro w hSw; (try dsimp only at hSw); go_simp; (try with_reducible rfl))); (try simp only [Act.put, List.setIfInBounds_toArray, List.set_cons_zero, List.set_cons_succ])
    refine wpAnyH_take (i := 2) (oi := ⟨some 33, _, _, _, _, _⟩) (v := ?_) rfl (by kernel_rfl) (by kernel_rfl) (by kernel_rfl) (fun _ _ _ h => h) (Or.inl ⟨by rfl, ?_⟩) (by assumption) ?_; rotate_left; (focus (intro w hSw; (try dsimp only at hSw); go_simp; (try with_reducible rfl))); (try simp only [Act.put, List.setIfInBounds_toArray, List.set_cons_zero, List.set_cons_succ])
    refine wpAnyH_take (i := 3) (oi := ⟨some 34, _, _, _, _, _⟩) (v := ?_) rfl (by kernel_rfl) (by kernel_rfl) (by kernel_rfl) (fun _ _ _ h => h) (Or.inl ⟨by rfl, ?_⟩) (by assumption) ?_; rotate_left; (focus (intro w hSw; (try dsimp only at hSw); go_simp; (try with_reducible rfl))); (try simp only [Act.put, List.setIfInBounds_toArray, List.set_cons_zero, List.set_cons_succ])
    refine wpAnyH_ready (rs := [4]) (by kernel_rfl) (by simp) ?_; refine AllReadyH.cons (o := ⟨some 35, _, _, _, _, _⟩) rfl (fun K hK => ?_) AllReadyH.nil; go_simp
    go_at_call 62
    refine (someCells_any g A n c bs (P + 2600) (some ⟨gn, 0, none⟩) k cg (w.heap.size + 1) bG gs _ HR3.out.drew HN.out hby hs (by omega) ⟨OwG.loc _ _ _ _ _ _ _ HO3.out.it fun _ _ _ => rfl, HO3.out.le, HO3.out.loc⟩ (by omega) (by omega) hk10).mono ?_
    rintro e w9 ⟨v9, ys, rfl, hy1, hy2, hown9, hr9, ht9'⟩
    have ht9 : Tch g (g + 1) w3 w9 := ⟨ht9'.os, ht9'.tape, ht9'.output, ht9'.size, ht9'.block⟩
    have hz9 := ht9.size
    obtain ⟨A9, c9, rfl, _⟩ := OwnI.form hown9
    unfold OwnI at hown9
    have HD9 := Lib.hid (own_mono hown9 (show w.heap.size + 1 ≤ _ by show _ ≤ w3.heap.size; omega))
    have HR9 := Lib.hid hr9
    have HO9 := Lib.hid (HO3.out.turn ht9 (.inl (by omega)))
    have HC9 := Lib.hid (HC3.out.turn ht9 (.inl (by omega)))
    have HB9 := Lib.hid (HB3.out.turn ht9 (.inl (by omega)))
    have HG9 := Lib.hid (HG3.out.turn ht9 (.inl (by omega)))
    have HF9 := Lib.hid (HF3.out.trans (Frd.of_tch ht9 (by omega)))
    obtain ⟨r0, r1⟩ := HB9.out.it
    have q9 := HG9.out.it
    have qs : (w9.setCell ⟨w.heap.size, 0, none⟩ (.slice (some ⟨gn, 0, none⟩) k cg)).cell? ⟨bG, 0, none⟩ = some (.slice (some ⟨gn, 0, none⟩) k cg) := (World.cell?_setCell_other _ _ _ _ (by intro e; have := congrArg Addr.block e; simp at this; omega)).trans q9
    clear hown9 hr9 ht9 ht9'
    clear HR3 HF3 HO3 HC3 HB3 HG3 
    refine hK.out _ _ q9 (fun hHeld => ?_); clear hK K; (try simp only [Act.put, List.setIfInBounds_toArray, List.set_cons_zero, List.set_cons_succ])
    refine wpAnyH_ready (rs := [5]) (by kernel_rfl) (by simp) ?_; refine AllReadyH.cons (o := ⟨none, _, _, _, _, _⟩) rfl (fun K hK => ?_) AllReadyH.nil; go_simp
    refine hK.out _ _ qs (fun hHeld => ?_); clear hK K; (try simp only [Act.put, List.setIfInBounds_toArray, List.set_cons_zero, List.set_cons_succ])
    refine wpAnyH_take (i := 6) (oi := ⟨some 3, _, _, _, _, _⟩) (v := ?_) rfl (by kernel_rfl) (by kernel_rfl) (by kernel_rfl) (fun _ _ _ h => h) (Or.inl ⟨by rfl, ?_⟩) (by assumption) ?_; rotate_left; (focus (intro w hSw; (try dsimp only at hSw); go_simp; (try with_reducible rfl))); (try simp only [Act.put, List.setIfInBounds_toArray, List.set_cons_zero, List.set_cons_succ])
    refine wpAnyH_take (i := 7) (oi := ⟨some 4, _, _, _, _, _⟩) (v := ?_) rfl (by kernel_rfl) (by kernel_rfl) (by kernel_rfl) (fun _ _ _ h => h) (Or.inl ⟨by rfl, ?_⟩) (by assumption) ?_; rotate_left; (focus (intro w hSw; (try dsimp only at hSw); go_simp; (try with_reducible rfl))); (try simp only [Act.put, List.setIfInBounds_toArray, List.set_cons_zero, List.set_cons_succ])
    refine wpAnyH_done (by kernel_rfl) ?_ _
    have r2 : (w9.setCell ⟨w.heap.size, 0, none⟩ (.slice (some ⟨gn, 0, none⟩) k cg)).cell? ⟨w.heap.size, 0, none⟩ = some (.slice (some ⟨gn, 0, none⟩) k cg) := World.cell?_setCell_same _ _ _ r0
    go_wp2
    refine bodyPost_ret (v := .tuple #[.agg #[(.slice (some ⟨gn, 0, none⟩) k cg)], .slice E5 l c5, .slice A9 ys.length c9]) (by simp [results, Try.results50, go_sem, r2]) rfl ?_
    exact TcP.fin (hi := bG) hgw hk2 hk10 hsm HL.out hx1 hx2 rfl hy1 hy2 HO9.out.it HC9.out.it.1 HD9.out HO9.out.le (HR9.out.mono (by omega)) HF9.out
  · go_wp2_with fail
    refine (HVC.out w3 bG (by omega) HO3.out.it.nodes HC3.out.it.ints).mono ?_
    rintro e w4 ⟨rfl, hb4⟩
    have hz4 := hb4.size
    have HR4 := Lib.hid (HR3.out.step hb4)
    have HO4 := Lib.hid (HO3.out.step hb4)
    have HC4 := Lib.hid (HC3.out.step hb4)
    have HB4 := Lib.hid (HB3.out.step hb4)
    have HG4 := Lib.hid (HG3.out.step hb4)
    have HD4 := Lib.hid (HD3.out.step hb4)
    have HF4 := Lib.hid (HF3.out.trans (Frd.of_below hb4 (by omega)))
    clear hb4 q3 HVC
    clear HR3 HF3 HO3 HC3 HB3 HG3 HD3 
    have q4 := HG4.out.it
    cases vc
    · skip
      go_wp2
      refine wp_region_held_drew (S := fun w' => w'.cell? ⟨bG, 0, none⟩ = some (.slice (some ⟨gn, 0, none⟩) k cg)) (by kernel_rfl) HG4.out.it (fun hHeld => ?_)
      refine wpAnyH_take (i := 0) (oi := ⟨some 31, _, _, _, _, _⟩) (v := ?_) rfl (by kernel_rfl) (by kernel_rfl) (by kernel_rfl) (fun _ _ _ h => h) (Or.inl ⟨by rfl, ?_⟩) (by assumption) ?_; rotate_left; (focus (intro w hSw; (try dsimp only at hSw); go_simp; (try with_reducible rfl))); (try simp only [Act.put, List.setIfInBounds_toArray, List.set_cons_zero, List.set_cons_succ])
      refine wpAnyH_take (i := 1) (oi := ⟨some 32, _, _, _, _, _⟩) (v := ?_) rfl (by kernel_rfl) (by kernel_rfl) (by kernel_rfl) (fun _ _ _ h => h) (Or.inl ⟨by rfl, ?_⟩) (by assumption) ?_; rotate_left; (focus (intro w hSw; (try dsimp only at hSw); go_simp; (try with_reducible rfl))); (try simp only [Act.put, List.setIfInBounds_toArray, List.set_cons_zero, List.set_cons_succ])
      refine wpAnyH_take (i := 2) (oi := ⟨some 33, _, _, _, _, _⟩) (v := ?_) rfl (by kernel_rfl) (by kernel_rfl) (by kernel_rfl) (fun _ _ _ h => h) (Or.inl ⟨by rfl, ?_⟩) (by assumption) ?_; rotate_left; (focus (intro w hSw; (try dsimp only at hSw); go_simp; (try with_reducible rfl))); (try simp only [Act.put, List.setIfInBounds_toArray, List.set_cons_zero, List.set_cons_succ])
      refine wpAnyH_take (i := 3) (oi := ⟨some 34, _, _, _, _, _⟩) (v := ?_) rfl (by kernel_rfl) (by kernel_rfl) (by kernel_rfl) (fun _ _ _ h => h) (Or.inl ⟨by rfl, ?_⟩) (by assumption) ?_; rotate_left; (focus (intro w hSw; (try dsimp only at hSw); go_simp; (try with_reducible rfl))); (try simp only [Act.put, List.setIfInBounds_toArray, List.set_cons_zero, List.set_cons_succ])
      refine wpAnyH_ready (rs := [4]) (by kernel_rfl) (by simp) ?_; refine AllReadyH.cons (o := ⟨some 35, _, _, _, _, _⟩) rfl (fun K hK => ?_) AllReadyH.nil; go_simp
      go_at_call 62
      refine (someCells_any g A n c bs (P + 2600) (some ⟨gn, 0, none⟩) k cg (w.heap.size + 1) bG gs _ HR4.out.drew HN.out hby hs (by omega) ⟨OwG.loc _ _ _ _ _ _ _ HO4.out.it fun _ _ _ => rfl, HO4.out.le, HO4.out.loc⟩ (by omega) (by omega) hk10).mono ?_
      rintro e w9 ⟨v9, ys, rfl, hy1, hy2, hown9, hr9, ht9'⟩
      have ht9 : Tch g (g + 1) w4 w9 := ⟨ht9'.os, ht9'.tape, ht9'.output, ht9'.size, ht9'.block⟩
      have hz9 := ht9.size
      obtain ⟨A9, c9, rfl, _⟩ := OwnI.form hown9
      unfold OwnI at hown9
      have HD9 := Lib.hid (own_mono hown9 (show w.heap.size + 1 ≤ _ by show _ ≤ w4.heap.size; omega))
      have HR9 := Lib.hid hr9
      have HO9 := Lib.hid (HO4.out.turn ht9 (.inl (by omega)))
      have HC9 := Lib.hid (HC4.out.turn ht9 (.inl (by omega)))
      have HB9 := Lib.hid (HB4.out.turn ht9 (.inl (by omega)))
      have HG9 := Lib.hid (HG4.out.turn ht9 (.inl (by omega)))
      have HF9 := Lib.hid (HF4.out.trans (Frd.of_tch ht9 (by omega)))
      obtain ⟨r0, r1⟩ := HB9.out.it
      have q9 := HG9.out.it
      have qs : (w9.setCell ⟨w.heap.size, 0, none⟩ (.slice (some ⟨gn, 0, none⟩) k cg)).cell? ⟨bG, 0, none⟩ = some (.slice (some ⟨gn, 0, none⟩) k cg) := (World.cell?_setCell_other _ _ _ _ (by intro e; have := congrArg Addr.block e; simp at this; omega)).trans q9
      clear hown9 hr9 ht9 ht9'
      clear HR4 HF4 HO4 HC4 HB4 HG4 
      refine hK.out _ _ q9 (fun hHeld => ?_); clear hK K; (try simp only [Act.put, List.setIfInBounds_toArray, List.set_cons_zero, List.set_cons_succ])
      refine wpAnyH_ready (rs := [5]) (by kernel_rfl) (by simp) ?_; refine AllReadyH.cons (o := ⟨none, _, _, _, _, _⟩) rfl (fun K hK => ?_) AllReadyH.nil; go_simp
      refine hK.out _ _ qs (fun hHeld => ?_); clear hK K; (try simp only [Act.put, List.setIfInBounds_toArray, List.set_cons_zero, List.set_cons_succ])
      refine wpAnyH_take (i := 6) (oi := ⟨some 3, _, _, _, _, _⟩) (v := ?_) rfl (by kernel_rfl) (by kernel_rfl) (by kernel_rfl) (fun _ _ _ h => h) (Or.inl ⟨by rfl, ?_⟩) (by assumption) ?_; rotate_left; (focus (intro w hSw; (try dsimp only at hSw); go_simp; (try with_reducible rfl))); (try simp only [Act.put, List.setIfInBounds_toArray, List.set_cons_zero, List.set_cons_succ])
      refine wpAnyH_take (i := 7) (oi := ⟨some 4, _, _, _, _, _⟩) (v := ?_) rfl (by kernel_rfl) (by kernel_rfl) (by kernel_rfl) (fun _ _ _ h => h) (Or.inl ⟨by rfl, ?_⟩) (by assumption) ?_; rotate_left; (focus (intro w hSw; (try dsimp only at hSw); go_simp; (try with_reducible rfl))); (try simp only [Act.put, List.setIfInBounds_toArray, List.set_cons_zero, List.set_cons_succ])
      refine wpAnyH_done (by kernel_rfl) ?_ _
      have r2 : (w9.setCell ⟨w.heap.size, 0, none⟩ (.slice (some ⟨gn, 0, none⟩) k cg)).cell? ⟨w.heap.size, 0, none⟩ = some (.slice (some ⟨gn, 0, none⟩) k cg) := World.cell?_setCell_same _ _ _ r0
      go_wp2
      refine bodyPost_ret (v := .tuple #[.agg #[(.slice (some ⟨gn, 0, none⟩) k cg)], .slice E5 l c5, .slice A9 ys.length c9]) (by simp [results, Try.results50, go_sem, r2]) rfl ?_
      exact TcP.fin (hi := bG) hgw hk2 hk10 hsm HL.out hx1 hx2 rfl hy1 hy2 HO9.out.it HC9.out.it.1 HD9.out HO9.out.le (HR9.out.mono (by omega)) HF9.out
    · go_wp2_with fail
      refine (pick_any g A n c bs (P + 2600) 4 w4 HR4.out HN.out hby hs (by omega) (by omega)).mono ?_
      rintro e w5 ⟨x, rfl, _, _, hr5, ht5⟩
      have hz5 := ht5.size
      have HR5 := Lib.hid hr5
      have HO5 := Lib.hid (HO4.out.turn ht5 (.inl (by omega)))
      have HC5 := Lib.hid (HC4.out.turn ht5 (.inl (by omega)))
      have HB5 := Lib.hid (HB4.out.turn ht5 (.inl (by omega)))
      have HG5 := Lib.hid (HG4.out.turn ht5 (.inl (by omega)))
      have HD5 := Lib.hid (HD4.out.turn ht5 (.inl (by omega)))
      have HF5 := Lib.hid (HF4.out.trans (Frd.of_tch ht5 (by omega)))
      clear hr5 ht5 q4
      clear HR4 HF4 HO4 HC4 HB4 HG4 HD4 
      by_cases hx0 : x = 0
      · subst hx0
        go_wp2
        refine wp_region_held_drew (S := fun w' => w'.cell? ⟨bG, 0, none⟩ = some (.slice (some ⟨gn, 0, none⟩) k cg)) (by kernel_rfl) HG5.out.it (fun hHeld => ?_)
        refine wpAnyH_take (i := 0) (oi := ⟨some 31, _, _, _, _, _⟩) (v := ?_) rfl (by kernel_rfl) (by kernel_rfl) (by kernel_rfl) (fun _ _ _ h => h) (Or.inl ⟨by rfl, ?_⟩) (by assumption) ?_; rotate_left; (focus (intro w hSw; (try dsimp only at hSw); go_simp; (try with_reducible rfl))); (try simp only [Act.put, List.setIfInBounds_toArray, List.set_cons_zero, List.set_cons_succ])
        refine wpAnyH_take (i := 1) (oi := ⟨some 32, _, _, _, _, _⟩) (v := ?_) rfl (by kernel_rfl) (by kernel_rfl) (by kernel_rfl) (fun _ _ _ h => h) (Or.inl ⟨by rfl, ?_⟩) (by assumption) ?_; rotate_left; (focus (intro w hSw; (try dsimp only at hSw); go_simp; (try with_reducible rfl))); (try simp only [Act.put, List.setIfInBounds_toArray, List.set_cons_zero, List.set_cons_succ])
        refine wpAnyH_take (i := 2) (oi := ⟨some 33, _, _, _, _, _⟩) (v := ?_) rfl (by kernel_rfl) (by kernel_rfl) (by kernel_rfl) (fun _ _ _ h => h) (Or.inl ⟨by rfl, ?_⟩) (by assumption) ?_; rotate_left; (focus (intro w hSw; (try dsimp only at hSw); go_simp; (try with_reducible rfl))); (try simp only [Act.put, List.setIfInBounds_toArray, List.set_cons_zero, List.set_cons_succ])
        refine wpAnyH_take (i := 3) (oi := ⟨some 34, _, _, _, _, _⟩) (v := ?_) rfl (by kernel_rfl) (by kernel_rfl) (by kernel_rfl) (fun _ _ _ h => h) (Or.inl ⟨by rfl, ?_⟩) (by assumption) ?_; rotate_left; (focus (intro w hSw; (try dsimp only at hSw); go_simp; (try with_reducible rfl))); (try simp only [Act.put, List.setIfInBounds_toArray, List.set_cons_zero, List.set_cons_succ])
        refine wpAnyH_ready (rs := [4]) (by kernel_rfl) (by simp) ?_; refine AllReadyH.cons (o := ⟨some 35, _, _, _, _, _⟩) rfl (fun K hK => ?_) AllReadyH.nil; go_simp
        go_at_call 62
        refine (someCells_any g A n c bs (P + 2601) (some ⟨gn, 0, none⟩) k cg (w.heap.size + 1) bG gs _ HR5.out.drew HN.out hby hs (by omega) ⟨OwG.loc _ _ _ _ _ _ _ HO5.out.it fun _ _ _ => rfl, HO5.out.le, HO5.out.loc⟩ (by omega) (by omega) hk10).mono ?_
        rintro e w9 ⟨v9, ys, rfl, hy1, hy2, hown9, hr9, ht9'⟩
        have ht9 : Tch g (g + 1) w5 w9 := ⟨ht9'.os, ht9'.tape, ht9'.output, ht9'.size, ht9'.block⟩
        have hz9 := ht9.size
        obtain ⟨A9, c9, rfl, _⟩ := OwnI.form hown9
        unfold OwnI at hown9
        have HD9 := Lib.hid (own_mono hown9 (show w.heap.size + 1 ≤ _ by show _ ≤ w5.heap.size; omega))
        have HR9 := Lib.hid hr9
        have HO9 := Lib.hid (HO5.out.turn ht9 (.inl (by omega)))
        have HC9 := Lib.hid (HC5.out.turn ht9 (.inl (by omega)))
        have HB9 := Lib.hid (HB5.out.turn ht9 (.inl (by omega)))
        have HG9 := Lib.hid (HG5.out.turn ht9 (.inl (by omega)))
        have HF9 := Lib.hid (HF5.out.trans (Frd.of_tch ht9 (by omega)))
        obtain ⟨r0, r1⟩ := HB9.out.it
        have q9 := HG9.out.it
        have qs : (w9.setCell ⟨w.heap.size, 0, none⟩ (.slice (some ⟨gn, 0, none⟩) k cg)).cell? ⟨bG, 0, none⟩ = some (.slice (some ⟨gn, 0, none⟩) k cg) := (World.cell?_setCell_other _ _ _ _ (by intro e; have := congrArg Addr.block e; simp at this; omega)).trans q9
        clear hown9 hr9 ht9 ht9'
        clear HR5 HF5 HO5 HC5 HB5 HG5 
        refine hK.out _ _ q9 (fun hHeld => ?_); clear hK K; (try simp only [Act.put, List.setIfInBounds_toArray, List.set_cons_zero, List.set_cons_succ])
        refine wpAnyH_ready (rs := [5]) (by kernel_rfl) (by simp) ?_; refine AllReadyH.cons (o := ⟨none, _, _, _, _, _⟩) rfl (fun K hK => ?_) AllReadyH.nil; go_simp
        refine hK.out _ _ qs (fun hHeld => ?_); clear hK K; (try simp only [Act.put, List.setIfInBounds_toArray, List.set_cons_zero, List.set_cons_succ])
        refine wpAnyH_take (i := 6) (oi := ⟨some 3, _, _, _, _, _⟩) (v := ?_) rfl (by kernel_rfl) (by kernel_rfl) (by kernel_rfl) (fun _ _ _ h => h) (Or.inl ⟨by rfl, ?_⟩) (by assumption) ?_; rotate_left; (focus (intro w hSw; (try dsimp only at hSw); go_simp; (try with_reducible rfl))); (try simp only [Act.put, List.setIfInBounds_toArray, List.set_cons_zero, List.set_cons_succ])
        refine wpAnyH_take (i := 7) (oi := ⟨some 4, _, _, _, _, _⟩) (v := ?_) rfl (by kernel_rfl) (by kernel_rfl) (by kernel_rfl) (fun _ _ _ h => h) (Or.inl ⟨by rfl, ?_⟩) (by assumption) ?_; rotate_left; (focus (intro w hSw; (try dsimp only at hSw); go_simp; (try with_reducible rfl))); (try simp only [Act.put, List.setIfInBounds_toArray, List.set_cons_zero, List.set_cons_succ])
        refine wpAnyH_done (by kernel_rfl) ?_ _
        have r2 : (w9.setCell ⟨w.heap.size, 0, none⟩ (.slice (some ⟨gn, 0, none⟩) k cg)).cell? ⟨w.heap.size, 0, none⟩ = some (.slice (some ⟨gn, 0, none⟩) k cg) := World.cell?_setCell_same _ _ _ r0
        go_wp2
        refine bodyPost_ret (v := .tuple #[.agg #[(.slice (some ⟨gn, 0, none⟩) k cg)], .slice E5 l c5, .slice A9 ys.length c9]) (by simp [results, Try.results50, go_sem, r2]) rfl ?_
        exact TcP.fin (hi := bG) hgw hk2 hk10 hsm HL.out hx1 hx2 rfl hy1 hy2 HO9.out.it HC9.out.it.1 HD9.out HO9.out.le (HR9.out.mono (by omega)) HF9.out
      · have hxz : ((x : Int) == 0) = false := by simp; omega
        go_wp2_with fail
        refine (pick_any g A n c bs (P + 2601) 3 w5 HR5.out HN.out hby hs (by omega) (by omega)).mono ?_
        rintro e w6 ⟨y, rfl, hy, _, hr6, ht6⟩
        have hy3 : y < 3 := by have := hy (by omega); omega
        have hz6 := ht6.size
        have HR6 := Lib.hid hr6
        have HO6 := Lib.hid (HO5.out.turn ht6 (.inl (by omega)))
        have HC6 := Lib.hid (HC5.out.turn ht6 (.inl (by omega)))
        have HB6 := Lib.hid (HB5.out.turn ht6 (.inl (by omega)))
        have HG6 := Lib.hid (HG5.out.turn ht6 (.inl (by omega)))
        have HD6 := Lib.hid (HD5.out.turn ht6 (.inl (by omega)))
        have HF6 := Lib.hid (HF5.out.trans (Frd.of_tch ht6 (by omega)))
        clear hr6 ht6 hy
        clear HR5 HF5 HO5 HC5 HB5 HG5 HD5 
        go_wp2
        go_loopw [8] (fun u wr => ∃ (z : Int) (Q : Nat) (ys : List Int), -1 ≤ z ∧ z ≤ 2 ∧ u = .int .i64 z ∧ Q + 10 * (z + 1).toNat ≤ P + 2650 ∧ ys.length = l ∧ Hid (As (w.heap.size + 1) bG (OwG (w.heap.size + 1) bG (.slice (some ⟨gn, 0, none⟩) k cg) k gs) wr) ∧ Hid (As (w.heap.size + 1) bG (OwR (w.heap.size + 1) bG 3 1 (.slice E5 l c5) l (xs.map (Value.int .i64))) wr) ∧ Hid (As w.heap.size (w.heap.size + 1) (fun w' => w'.cell? ⟨w.heap.size, 0, none⟩ = some (.slice none 0 0) ∧ w'.frozen? ⟨w.heap.size, 0, none⟩ = false) wr) ∧ Hid (As bG (bG + 1) (fun w' => w'.cell? ⟨bG, 0, none⟩ = some (.slice (some ⟨gn, 0, none⟩) k cg)) wr) ∧ Hid (As d0 d1 (OwR d0 d1 3 1 (.slice (some ⟨g7, 0, none⟩) l c7) l (ys.map (Value.int .i64))) wr) ∧ Hid (Rdr g A n c bs Q wr) ∧ Hid (Frd g w.heap.size w wr)) (fun u _ => (intOf u + 1).toNat)
        case atStart => exact ⟨(y : Int), P + 2602, xs, by omega, by omega, rfl, by omega, HL.out.symm, HO6.out, HC6.out, HB6.out, HG6.out, HD6.out, HR6.out, HF6.out⟩
        case round =>
          obtain ⟨z, Q, ys, hz1, hz20, rfl, hQ, hyl, HOk, HCk, HBk, HGk, HDk, HRk, HFk⟩ := hrel
          obtain ⟨wk, hwk⟩ : ∃ W, W = wr := ⟨_, rfl⟩
          rw [← hwk]
          rw [← hwk] at HOk HCk HBk HGk HDk HRk HFk
          clear hwk
          clear HR6 HF6 HO6 HC6 HB6 HG6 HD6 
          have hlk := HDk.out.le
          have qk := HGk.out.it
          by_cases hzz : 0 ≤ z
          · skip
            have hlp : ((l : Nat) : Int) ≤ 1000000 := by omega
            go_wp2_with fail
            refine (pick_any g A n c bs Q l wk HRk.out HN.out hby hs (by omega) (by omega)).mono ?_
            rintro e w3 ⟨j, rfl, hj, _, hr3, ht3⟩
            have hjl : j < l := by have := hj (by omega); omega
            have hs3 := ht3.size
            have HR3 := Lib.hid hr3
            have HO3 := Lib.hid (HOk.out.turn ht3 (.inl (by omega)))
            have HC3 := Lib.hid (HCk.out.turn ht3 (.inl (by omega)))
            have HB3 := Lib.hid (HBk.out.turn ht3 (.inl (by omega)))
            have HG3 := Lib.hid (HGk.out.turn ht3 (.inl (by omega)))
            have HD3 := Lib.hid (HDk.out.turn ht3 (.inl (by omega)))
            have HF3 := Lib.hid (HFk.out.trans (Frd.of_tch ht3 (by omega)))
            clear hj hr3 ht3 qk
            clear HRk HFk HOk HCk HBk HGk HDk 
            have q3 := HG3.out.it
            go_wp2_with fail
            refine (HIC.out (j : Int) w3 bG (by omega) HO3.out.it.nodes).mono ?_
            rintro e w4 ⟨rfl, hb4⟩
            have hs4 := hb4.size
            have HR4 := Lib.hid (HR3.out.step hb4)
            have HO4 := Lib.hid (HO3.out.step hb4)
            have HC4 := Lib.hid (HC3.out.step hb4)
            have HB4 := Lib.hid (HB3.out.step hb4)
            have HG4 := Lib.hid (HG3.out.step hb4)
            have HD4 := Lib.hid (HD3.out.step hb4)
            have HF4 := Lib.hid (HF3.out.trans (Frd.of_below hb4 (by omega)))
            clear hb4 q3
            clear HR3 HF3 HO3 HC3 HB3 HG3 HD3 
            generalize isC gs (j : Int) = ic at *
            cases ic
            · go_wp2
              go_roundw
              case rel => exact ⟨z - 1, Q + 1, ys, by omega, by omega, by go_num, by omega, hyl, HO4.out, HC4.out, HB4.out, HG4.out, HD4.out, HR4.out, HF4.out⟩
              case measure => simp [intOf]; omega
            · go_wp2_with fail
              refine (pick_any g A n c bs (Q + 1) 1000 w4 HR4.out HN.out hby hs (by omega) (by omega)).mono ?_
              rintro e w5 ⟨y5, rfl, _, _, hr5, ht5⟩
              have hs5 := ht5.size
              have HR5 := Lib.hid hr5
              have HO5 := Lib.hid (HO4.out.turn ht5 (.inl (by omega)))
              have HC5 := Lib.hid (HC4.out.turn ht5 (.inl (by omega)))
              have HB5 := Lib.hid (HB4.out.turn ht5 (.inl (by omega)))
              have HG5 := Lib.hid (HG4.out.turn ht5 (.inl (by omega)))
              have HD5 := Lib.hid (HD4.out.turn ht5 (.inl (by omega)))
              have HF5 := Lib.hid (HF4.out.trans (Frd.of_tch ht5 (by omega)))
              clear hr5 ht5
              clear HR4 HF4 HO4 HC4 HB4 HG4 HD4 
              have HR6 := Lib.hid (HR5.out.alloc (.cells #[.int .i64 0, .int .i64 1, .int .i64 y5, .int .i64 3] 3))
              have HO6 := Lib.hid (HO5.out.alloc (.cells #[.int .i64 0, .int .i64 1, .int .i64 y5, .int .i64 3] 3))
              have HC6 := Lib.hid (HC5.out.alloc (.cells #[.int .i64 0, .int .i64 1, .int .i64 y5, .int .i64 3] 3))
              have HB6 := Lib.hid (HB5.out.alloc (.cells #[.int .i64 0, .int .i64 1, .int .i64 y5, .int .i64 3] 3))
              have HG6 := Lib.hid (HG5.out.alloc (.cells #[.int .i64 0, .int .i64 1, .int .i64 y5, .int .i64 3] 3))
              have HD6 := Lib.hid (HD5.out.alloc (.cells #[.int .i64 0, .int .i64 1, .int .i64 y5, .int .i64 3] 3))
              have HF6 := Lib.hid (HF5.out.trans (Frd.of_below (w' := w5.alloc (.cells #[.int .i64 0, .int .i64 1, .int .i64 y5, .int .i64 3] 3)) ((Below.refl w5.heap.size w5).alloc (Nat.le_refl _) _) (by omega)))
              clear HR5 HF5 HO5 HC5 HB5 HG5 HD5 
              go_wp2_with fail
              refine (one_any g A n c bs (Q + 2) w5.heap.size 0 4 4 [0, 1, y5, 3] _ HR6.out HN.out hby hs (by omega) rfl (by omega) (by omega) ?_ (by omega) (by simp)).mono ?_
              · intro j hj
                have : j = 0 ∨ j = 1 ∨ j = 2 ∨ j = 3 := by omega
                rcases this with rfl | rfl | rfl | rfl <;> go_simp
              rintro e w7 ⟨zz, rfl, _, hr7, ht7⟩
              have hs7 : w5.heap.size + 1 ≤ w7.heap.size := by have := ht7.size; simpa using this
              have HR7 := Lib.hid hr7
              have HO7 := Lib.hid (HO6.out.turn ht7 (.inl (by omega)))
              have HC7 := Lib.hid (HC6.out.turn ht7 (.inl (by omega)))
              have HB7 := Lib.hid (HB6.out.turn ht7 (.inl (by omega)))
              have HG7 := Lib.hid (HG6.out.turn ht7 (.inl (by omega)))
              have HD7 := Lib.hid (HD6.out.turn ht7 (.inl (by omega)))
              have HF7 := Lib.hid (HF6.out.trans (Frd.of_tch ht7 (by simp; omega)))
              clear hr7 ht7
              clear HR6 HF6 HO6 HC6 HB6 HG6 HD6 
              have u0 := HD7.out.it.1.cellAt j (by omega)
              rw [List.getElem?_eq_getElem (by rw [List.length_map]; omega)] at u0
              have f0 := HD7.out.it.1.frozenAt j
              have hst := (HD7.out.it.1.stored j (.int .i64 zz)).1
              rw [← List.map_set] at hst
              generalize (ys.map (Value.int .i64))[j]'_ = vv at u0
              have ht8 : Tch d0 d1 w7 (w7.setCell ⟨g7, j, none⟩ (.int .i64 zz)) := Tch.of_grown (grown_setCell0 w7 g7 j (.int .i64 zz)) fun k hk => by cases hk; exact hg7
              have hz8 : (w7.setCell ⟨g7, j, none⟩ (.int .i64 zz)).heap.size = w7.heap.size := by simp [World.setCell]
              have HD8 : Hid (As d0 d1 (OwR d0 d1 3 1 (.slice (some ⟨g7, 0, none⟩) l c7) l ((ys.set j zz).map (Value.int .i64))) (w7.setCell ⟨g7, j, none⟩ (.int .i64 zz))) := ⟨⟨hst, HD7.out.it.2⟩, by rw [hz8]; exact HD7.out.le, OwR.loc _ _ _ _ _ _ _⟩
              have HR8 := Lib.hid (HR7.out.turn ht8 (by omega))
              have HO8 := Lib.hid (HO7.out.turn ht8 (.inr (by omega)))
              have HC8 := Lib.hid (HC7.out.turn ht8 (.inr (by omega)))
              have HB8 := Lib.hid (HB7.out.turn ht8 (.inr (by omega)))
              have HG8 := Lib.hid (HG7.out.turn ht8 (.inr (by omega)))
              have HF8 := Lib.hid (HF7.out.trans (Frd.of_below (w' := (w7.setCell ⟨g7, j, none⟩ (.int .i64 zz))) ((Below.refl w.heap.size w7).setCell (by show w.heap.size ≤ g7; omega) _) (Nat.le_refl _)))
              clear hst ht8
              clear HR7 HF7 HO7 HC7 HB7 HG7 HD7 
              go_wp2
              go_roundw
              case rel => exact ⟨z - 1, Q + 3, ys.set j zz, by omega, by omega, by go_num, by omega, by rw [List.length_set]; exact hyl, HO8.out, HC8.out, HB8.out, HG8.out, HD8.out, HR8.out, HF8.out⟩
              case measure => simp [intOf]; omega
          · obtain ⟨r0, r1⟩ := HBk.out.it
            have r2 : (wk.setCell ⟨w.heap.size, 0, none⟩ (.slice (some ⟨gn, 0, none⟩) k cg)).cell? ⟨w.heap.size, 0, none⟩ = some (.slice (some ⟨gn, 0, none⟩) k cg) := World.cell?_setCell_same _ _ _ r0
            have hlB := HBk.out.le
            go_wp2
            refine bodyPost_ret (v := .tuple #[.agg #[(.slice (some ⟨gn, 0, none⟩) k cg)], .slice E5 l c5, .slice (some ⟨g7, 0, none⟩) l c7]) (by simp [results, Try.results50, go_sem, r2]) rfl ?_
            exact TcP.fin (hi := bG) hgw hk2 hk10 hsm HL.out hx1 hx2 hyl.symm hx1 hx2 HOk.out.it HCk.out.it.1 (own_mono HDk.out.it.1 (by omega)) HOk.out.le (HRk.out.mono (by omega)) HFk.out
end Go.Proofs.Ytgclikdienlhdaa

/- What the laws on two meanings draw: a graph and two lists of cells. -/
namespace Go.Proofs.Ytgclikdienlhdaa
set_option linter.unusedSimpArgs false
set_option linter.unusedVariables false
open Go.RowKit

/-- Returns a graph and two lists of cells that lie in memory. -/
def DrGCC (w : World) (e : Ending) (w' : World) : Prop :=
  ∃ (A : Option Addr) (n c : Nat) (gs : List Nd) (E : Option Addr) (m d : Nat) (xs : List Int) (E' : Option Addr) (m' d' : Nat) (ys : List Int), e = .returned (.tuple #[.agg #[.slice A n c], .slice E m d, .slice E' m' d']) ∧ n = gs.length ∧ 2 ≤ n ∧ n ≤ 10 ∧ n ≤ c ∧ (∀ j, (gs.getD j default).ps.length ≤ 40) ∧ m = xs.length ∧ n ≤ m ∧ m ≤ n + 1 ∧ m' = ys.length ∧ n ≤ m' ∧ m' ≤ n + 1 ∧ GS w' w'.heap.size A gs ∧ IS w' w'.heap.size E xs ∧ IS w' w'.heap.size E' ys ∧ Below w.heap.size w w'

set_option maxHeartbeats 1600000 in
theorem spec_DrawMustRun (A : Option Addr) (n c : Nat) (bs : List Int) (w : World) (hn : n = bs.length) (hnc : n ≤ c) (h : BS w w.heap.size A bs) (hy : BY bs) (hs : n ≤ 1048576) :
    Calls Try.prog 26 #[.slice A n c] w fun e w' => DrGCC w e w' := by
  have h1 : BS (w.alloc (.cells #[.slice none 0 0] 25)) w.heap.size A bs := h.keep fun p hp => World.cell?_alloc_lt w _ p (by omega)
  have HC := Lib.hid (spec_newReader A n c bs _ w.heap.size (by simp) hn hnc h1 hy hs)
  clear hn hnc h h1 hy hs
  go_enter Try.func26, Try.ntmps26
  go_wp2_with fail
  refine HC.out.mono ?_
  rintro e w1 ⟨g, A1, n1, c1, ds, rfl, hn1, hn2, hy1, hr, hg, hb⟩
  have q0 : w1.cell? ⟨w.heap.size, 0, none⟩ = some (.slice none 0 0) := (hb.cell (p := ⟨w.heap.size, 0, none⟩) (by simp)).trans (by go_simp)
  have f0 : w1.frozen? ⟨w.heap.size, 0, none⟩ = false := (hb.frozen (p := ⟨w.heap.size, 0, none⟩) (by simp)).trans (by go_simp)
  have hl1 : w.heap.size < w1.heap.size := by have := hb.size; simp at this; omega
  have hgw : w.heap.size < g := by simp at hg; omega
  have HB1 := Lib.hid (((Below.refl w.heap.size w).alloc (Nat.le_refl _) (.cells #[.slice none 0 0] 25)).trans (hb.mono (by simp)))
  have HS := Lib.hid (twoCells_any g A1 n1 c1 ds 0 w1 hr hn1 hy1 hn2 (by omega))
  clear hn1 hr hb HC hy1
  go_wp2_with fail
  refine HS.out.mono ?_
  rintro e w2 ⟨V, k, gs, E5, l5, c5, xs, E6, l6, c6, ys, rfl, hk2, hk10, hsm, hl5, hx1, hx2, hl6, hy1', hy2', ho, ho3, ho4, _, ht⟩
  obtain ⟨A2, c2, rfl⟩ := ho.form
  have q1 := (World.cell?_of_block (a := ⟨w.heap.size, 0, none⟩) (ht.block w.heap.size hl1 (.inl hgw))).trans q0
  have f1 := (World.frozen?_of_block (a := ⟨w.heap.size, 0, none⟩) (ht.block w.heap.size hl1 (.inl hgw))).trans f0
  have hl2 : w.heap.size < w2.heap.size := Nat.lt_of_lt_of_le hl1 ht.size
  have HB2 := Lib.hid (HB1.out.trans (ht.below (B := w.heap.size) (by omega) (by omega)))
  have HO := Lib.hid ho
  have HO3 := Lib.hid ho3
  have HO4 := Lib.hid ho4
  have HL5 := Lib.hid hl5
  have HL6 := Lib.hid hl6
  clear ho ht q0 f0 ho3 ho4 hl5 hl6
  go_wp2
  refine bodyPost_ret (v := .tuple #[.agg #[.slice A2 k c2], .slice E5 l5 c5, .slice E6 l6 c6]) (by simp [results, Try.results26, go_sem, q1]) rfl ?_
  have h3 : OwG w1.heap.size w2.heap.size (.slice A2 k c2) k gs (w2.setCell ⟨w.heap.size, 0, none⟩ (.slice A2 k c2)) := OwG.loc _ _ _ _ _ _ _ HO.out fun b x y => Below.heap_setCell _ _ _ _ (by show b ≠ w.heap.size; omega)
  have h4 := own_keep HO3.out (w' := w2.setCell ⟨w.heap.size, 0, none⟩ (.slice A2 k c2)) fun b x y => Below.heap_setCell _ _ _ _ (by show b ≠ w.heap.size; omega)
  have h5 := own_keep HO4.out (w' := w2.setCell ⟨w.heap.size, 0, none⟩ (.slice A2 k c2)) fun b x y => Below.heap_setCell _ _ _ _ (by show b ≠ w.heap.size; omega)
  exact ⟨A2, k, c2, gs, E5, l5, c5, xs, E6, l6, c6, ys, rfl, h3.1, hk2, hk10, h3.ncap, hsm, HL5.out, hx1, hx2, HL6.out, hy1', hy2', h3.nodes.more (by simp [World.setCell]), IS.of_own h4, IS.of_own h5, below_set0 HB2.out _⟩

end Go.Proofs.Ytgclikdienlhdaa

/- Both RenameReads. -/
namespace Go.Proofs.Ytgclikdienlhdaa
set_option linter.unusedSimpArgs false
set_option linter.unusedVariables false
open Go.RowKit

theorem canRen_parts (ps : List Pt) (tos : List Int) (h : canRen ps tos = true) : validF ps = true ∧ tos.length ≤ 10 ∧ eachOK ps tos.length = true := by
  simp only [canRen, Bool.and_eq_true, decide_eq_true_eq] at h
  exact ⟨h.1, h.2.1.1, h.2.2⟩

theorem eachOK_at (ps : List Pt) (m k : Nat) (h : eachOK ps m = true) (hk : k < ps.length) (h1 : ((ps.getD k default).k == 1) = true) : (ps.getD k default).n < (m : Int) := by
  unfold eachOK at h
  rw [List.all_eq_true] at h
  have := h (ps.getD k default) (getD_mem' ps k hk)
  rw [h1] at this
  simpa using this

theorem eachOK_take (ps : List Pt) (m k : Nat) (h : eachOK (ps.take k) m = true) (hk : k < ps.length) (h1 : ((ps.getD k default).k == 1 && decide ((m : Int) ≤ (ps.getD k default).n)) = false) : eachOK (ps.take (k + 1)) m = true := by
  rw [take_succ_getD ps k hk]
  unfold eachOK at *
  rw [List.all_append, h]
  simp only [List.all_cons, List.all_nil, h1]; rfl

theorem eachOK_false (ps : List Pt) (m k : Nat) (hk : k < ps.length) (h1 : ((ps.getD k default).k == 1 && decide ((m : Int) ≤ (ps.getD k default).n)) = true) : eachOK ps m = false := by
  unfold eachOK
  rw [List.all_eq_false]
  exact ⟨ps.getD k default, getD_mem' ps k hk, by rw [h1]; simp⟩

end Go.Proofs.Ytgclikdienlhdaa

/- The laws' own helpers on formulas and on lists that ascend, where they answer true. -/
namespace Go.Proofs.Ytgclikdienlhdaa
set_option linter.unusedSimpArgs false
set_option linter.unusedVariables false
open Go.RowKit

set_option maxHeartbeats 1600000 in
theorem laws_ascends (A : Option Addr) (n c : Nat) (xs : List Int) (w : World) (B : Nat) (hB : B ≤ w.heap.size) (hn : n = xs.length) (h : IS w B A xs) (hs : n ≤ 2000000) (hd : ∀ j, j + 1 < xs.length → xs.getD j 0 < xs.getD (j + 1) 0) :
    Calls Try.prog 31 #[.slice A n c] w fun e w' => e = .returned (.bool true) ∧ Below w.heap.size w w' := by
  have H := Lib.hid h
  have HN := Lib.hid hn
  have HD := Lib.hid hd
  clear hn h hd
  go_enter Try.func31, Try.ntmps31
  go_wp2
  go_loopw [3] (fun i wr => ∃ j : Nat, i = .int .i64 ((j : Int) + 1) ∧ Hid (Below w.heap.size w wr)) (fun i _ => n - (intOf i).toNat)
  case atStart => exact ⟨0, rfl, Below.refl _ _⟩
  case round =>
    obtain ⟨j, rfl, HB⟩ := hrel
    by_cases hlt : j + 1 < n
    · obtain ⟨b, off, rfl, hbB, hc⟩ := H.out (by have := HN.out; omega)
      have c0 := (HB.out.cell (p := ⟨b, off + j, none⟩) (by show b < w.heap.size; omega)).trans (hc j (by have := HN.out; omega))
      have c1 := (HB.out.cell (p := ⟨b, off + (j + 1), none⟩) (by show b < w.heap.size; omega)).trans (hc (j + 1) (by have := HN.out; omega))
      have hxy := HD.out j (by have := HN.out; omega)
      clear hc H
      generalize xs.getD j 0 = x at *
      generalize xs.getD (j + 1) 0 = y at *
      have hle : ¬ y ≤ x := by omega
      have hw1 : IntKind.i64.wrap ((j : Int) + 1 - 1) = (j : Int) := by rw [IntWalk.i64_in _ (by omega)]; omega
      have hw2 : IntKind.i64.wrap ((j : Int)) = (j : Int) := by rw [IntWalk.i64_in _ (by omega)]
      have ht : ((j : Int) + 1).toNat = j + 1 := by omega
      have hb1 : (j : Int) + 1 < n := by omega
      have hb0 : (0 : Int) ≤ (j : Int) + 1 := by omega
      go_wp2
      go_quiet (fail)
      clear hw1 hw2 ht
      go_wp2
      go_roundw
      case rel => exact ⟨j + 1, by go_num, drewN_below0 HB.out⟩
      case measure => simp [intOf]; omega
    · have hlt' : ¬ (j : Int) + 1 < n := by omega
      go_wp2
      go_ret
      exact ⟨rfl, HB.out⟩

theorem mayR_asc (ps : List Pt) (j : Nat) (h : j + 1 < (mayR ps).length) : (mayR ps).getD j 0 < (mayR ps).getD (j + 1) 0 := by
  have hp : (mayR ps).Pairwise (· < ·) := by
    unfold mayR
    rw [List.pairwise_map]
    refine List.Pairwise.imp ?_ (List.Pairwise.filter _ List.pairwise_lt_range)
    intro a b hab
    omega
  have := List.pairwise_iff_getElem.1 hp j (j + 1) (by omega) h (by omega)
  simpa [List.getD, h, show j < (mayR ps).length by omega] using this
theorem mayF_asc (ps : List Pt) (j : Nat) (h : j + 1 < (mayF ps).length) : (mayF ps).getD j 0 < (mayF ps).getD (j + 1) 0 := by
  unfold mayF at *
  split at h
  · rename_i hv; rw [if_pos hv]; exact mayR_asc ps j h
  · simp at h
/-- The first numbers. -/
def numTo (k : Nat) : List Int := (List.range k).map fun i : Nat => (i : Int)
theorem numTo_succ (k : Nat) : numTo (k + 1) = numTo k ++ [(k : Int)] := by unfold numTo; rw [List.range_succ, List.map_append]; rfl
theorem numTo_len (k : Nat) : (numTo k).length = k := by simp [numTo]
theorem numTo_get (k j : Nat) (h : j < k) : (numTo k).getD j 0 = (j : Int) := by simp [numTo, List.getD, h]
theorem ren_num (ps : List Pt) (h : validF ps = true) : renF ps (numTo 10) = ps := by
  obtain ⟨hg, h1, h12⟩ := validF_good ps h
  have hgm : ∀ p ∈ ps, (p.k == 1) = true → 0 ≤ p.n ∧ p.n < 10 := by
    intro p hp hk
    obtain ⟨j, hj, rfl⟩ := List.mem_iff_getElem.1 hp
    have := hg j hj
    have e : ps.getD j default = ps[j] := by simp [List.getD, hj]
    rw [e] at this
    have := (good_num _ _ this).2 (by simpa using hk)
    omega
  have hc : canRen ps (numTo 10) = true := by
    unfold canRen
    rw [h, numTo_len]
    have ha : allR (numTo 10) 0 9 = true := allR_true _ _ _ fun k hk => by
      rw [numTo_len] at hk
      rw [numTo_get 10 k hk]
      unfold rng
      simp
      omega
    have he : eachOK ps 10 = true := by
      unfold eachOK
      rw [List.all_eq_true]
      intro p hp
      cases h1 : (p.k == 1)
      · simp
      · have := hgm p hp h1
        simp
        omega
    rw [ha, he]; rfl
  unfold renF
  rw [hc]
  simp only [if_true]
  have : ∀ p ∈ ps, ren (numTo 10) p = p := fun p hp => by
    unfold ren
    cases h1 : (p.k == 1)
    · rfl
    · have hb := hgm p hp h1
      simp only [if_true]
      rw [numTo_get 10 _ (by omega), Int.toNat_of_nonneg hb.1]
  rw [List.map_congr_left this, List.map_id']
end Go.Proofs.Ytgclikdienlhdaa

/- Plain facts on nodes that have to run. -/
namespace Go.Proofs.Ytgclikdienlhdaa
set_option linter.unusedSimpArgs false
set_option linter.unusedVariables false

theorem meanTo_take (gs : List Nd) (cs : List Int) (i k : Nat) (h : i ≤ k) : (meanTo gs cs k).take i = meanTo gs cs i := by
  induction k with
  | zero => obtain rfl : i = 0 := by omega
            simp [meanTo]
  | succ k ih =>
    have hl := meanTo_len gs cs k
    rcases Nat.lt_or_ge i (k + 1) with h1 | h1
    · rw [mean_step, List.take_append_of_le_length (by omega)]
      exact ih (by omega)
    · obtain rfl : i = k + 1 := by omega
      rw [List.take_of_length_le (by rw [meanTo_len]; exact Nat.le_refl _)]

theorem meanTo_getD (gs : List Nd) (cs : List Int) (i k q : Nat) (h : i ≤ k) (hq : q < i) : (meanTo gs cs k).getD q 0 = (meanTo gs cs i).getD q 0 := by
  rw [← meanTo_take gs cs i k h]
  simp only [List.getD, List.getElem?_take, if_pos hq]

theorem mean_at (gs : List Nd) (cs : List Int) (i : Nat) (hi : i < gs.length) : (mean gs cs).getD i 0 = if (gs.getD i default).k == 0 then cs.getD i 0 else (whole (gs.getD i default).ps).ev (meanTo gs cs i) := by
  unfold mean
  rw [meanTo_getD gs cs (i + 1) gs.length i (by omega) (by omega), mean_step]
  have hl := meanTo_len gs cs i
  simp [List.getD, hl]

/-- Lists have a number in common. -/
def meetB (a b : List Int) : Bool := a.any fun x => decide (x ∈ b)
/-- A node has to run: it is no cell, and reads a changed one. -/
def mustP (gs : List Nd) (M C : List Int) (i : Nat) : Bool := !((gs.getD i default).k == 0) && meetB (depF gs M i) C
def mustF (gs : List Nd) (xs ys : List Int) : List Int := if chgB gs xs ys then nwTo (mustP gs (mean gs xs) (diffTo (mean gs xs) (mean gs ys) gs.length)) gs.length else []

theorem mustF_len (gs : List Nd) (xs ys : List Int) : (mustF gs xs ys).length ≤ 10 := by
  unfold mustF
  cases h : chgB gs xs ys
  · simp
  · simp only [if_true]
    unfold chgB at h
    simp only [Bool.and_eq_true] at h
    have := nwTo_len (mustP gs (mean gs xs) (diffTo (mean gs xs) (mean gs ys) gs.length)) gs.length
    have := (validG_parts gs h.1.1).1
    omega

theorem diffTo_mem (a b : List Int) (n q : Nat) (hq : q < n) (h : (q : Int) ∉ diffTo a b n) : a.getD q 0 = b.getD q 0 := by
  apply Classical.byContradiction
  intro hne
  apply h
  unfold diffTo
  exact List.mem_map.2 ⟨q, List.mem_filter.2 ⟨List.mem_range.2 hq, by simpa using hne⟩, rfl⟩

theorem diffTo_iff (a b : List Int) (n q : Nat) (h : (q : Int) ∈ diffTo a b n) : a.getD q 0 ≠ b.getD q 0 := by
  unfold diffTo at h
  obtain ⟨r, hr, he⟩ := List.mem_map.1 h
  have : r = q := by exact_mod_cast he
  subst this
  have := (List.mem_filter.1 hr).2
  simpa using this

/-- A node that is another one reads one that is. -/
theorem must_changed (gs : List Nd) (xs ys : List Int) (hx : okC gs xs = true) (hy : okC gs ys = true) (i : Nat) (hi : i < gs.length) (hk : ((gs.getD i default).k == 0) = false)
    (hm : (i : Int) ∈ diffTo (mean gs xs) (mean gs ys) gs.length) : meetB (depF gs (mean gs xs) i) (diffTo (mean gs xs) (mean gs ys) gs.length) = true := by
  have hne := diffTo_iff _ _ _ _ hm
  apply Classical.byContradiction
  intro hc
  apply hne
  rw [mean_at gs xs i hi, mean_at gs ys i hi, hk]
  simp only [Bool.false_eq_true, if_false]
  have hg := (okC_parts gs xs hx).1
  have hv := (nodeOK_formula gs i ((validG_parts gs hg).2 i hi) hk).1
  have hok := whole_ok _ i hv (each_ahead gs i i hg hi hk (Nat.le_refl _))
  have hall := rds_lt (whole (gs.getD i default).ps) (meanTo gs xs i) i hok
  have e1 := ev_agree (whole (gs.getD i default).ps) (meanTo gs xs i) (mean gs xs) i hok fun x hx => by
    obtain ⟨q, hq, rfl⟩ := hall x hx
    exact meanTo_getD gs xs i gs.length q (by omega) hq
  refine (ev_agree (whole (gs.getD i default).ps) (meanTo gs xs i) (meanTo gs ys i) i hok fun x hx => ?_).1.symm
  obtain ⟨q, hq, rfl⟩ := hall x hx
  have hdx : (q : Int) ∈ depF gs (mean gs xs) i := by
    unfold depF
    rw [hk]
    simp only [Bool.false_eq_true, if_false]
    rw [firsts_mem, e1.2]
    exact hx
  have hnc : (q : Int) ∉ diffTo (mean gs xs) (mean gs ys) gs.length := fun hin => hc (List.any_eq_true.2 ⟨_, hdx, decide_eq_true hin⟩)
  have := diffTo_mem _ _ _ q (by omega) hnc
  rw [Int.toNat_natCast]
  rw [← meanTo_getD gs xs i gs.length q (by omega) hq, ← meanTo_getD gs ys i gs.length q (by omega) hq]
  exact this.symm

/-- The same, as the program asks it. -/
theorem must_same (gs : List Nd) (xs ys : List Int) (hx : okC gs xs = true) (hy : okC gs ys = true) (i : Nat) (hi : i < gs.length) :
    (!((gs.getD i default).k == 0) && (decide ((i : Int) ∈ diffTo (mean gs xs) (mean gs ys) gs.length) || meetB (depF gs (mean gs xs) i) (diffTo (mean gs xs) (mean gs ys) gs.length))) = mustP gs (mean gs xs) (diffTo (mean gs xs) (mean gs ys) gs.length) i := by
  unfold mustP
  cases hk : ((gs.getD i default).k == 0)
  · cases hd : decide ((i : Int) ∈ diffTo (mean gs xs) (mean gs ys) gs.length)
    · simp
    · rw [must_changed gs xs ys hx hy i hi hk (of_decide_eq_true hd)]; rfl
  · rfl
end Go.Proofs.Ytgclikdienlhdaa

/- The standing contracts of MustRun. -/
namespace Go.Proofs.Ytgclikdienlhdaa
set_option linter.unusedSimpArgs false
set_option linter.unusedVariables false
open Go.RowKit

theorem meetB_bad (a b : List Int) (h : ∀ k, k < a.length → a.getD k 0 ∉ b) : meetB a b = false := by
  unfold meetB
  rw [List.any_eq_false]
  intro x hx
  obtain ⟨j, hj, he⟩ := List.mem_iff_getElem.1 hx
  have := h j hj
  simp only [decide_eq_true_eq]
  rw [show a.getD j 0 = x by simp [List.getD, hj, he]] at this
  exact this
theorem meetB_good (a b : List Int) (k : Nat) (hk : k < a.length) (h : a.getD k 0 ∈ b) : meetB a b = true := by
  unfold meetB
  rw [List.any_eq_true]
  exact ⟨a.getD k 0, by simp [List.getD, hk], decide_eq_true h⟩

set_option maxHeartbeats 800000 in
theorem spec_meets (A A' : Option Addr) (n n' c c' : Nat) (a b : List Int) (w : World) (B : Nat) (hB : B ≤ w.heap.size) (hn : n = a.length) (hn' : n' = b.length) (h : IS w B A a) (h' : IS w B A' b) (hs : n ≤ 2000000) (hs' : n' ≤ 2000000) :
    Calls Try.prog 58 #[.slice A n c, .slice A' n' c'] w fun e w' => e = .returned (.bool (meetB a b)) ∧ Below w.heap.size w w' := by
  have H := Lib.hid h
  have HN := Lib.hid hn
  have HPC := Lib.hid fun (x : Int) => spec_placeIn A' n' c' b x w B hB hn' h' hs'
  clear h h' hn hn'
  go_enter Try.func58, Try.ntmps58
  go_wp2
  go_loopw [5] (fun i wr => ∃ k : Nat, k ≤ n ∧ i = .int .i64 k ∧ Hid (∀ j, j < k → a.getD j 0 ∉ b) ∧ wr = w) (fun i _ => n - (intOf i).toNat)
  case atStart => exact ⟨0, Nat.zero_le _, rfl, fun j hj => by omega, rfl⟩
  case round =>
    obtain ⟨k, hk, rfl, HA, rfl⟩ := hrel
    by_cases hlt : k < n
    · obtain ⟨b1, off, rfl, hbB, hc⟩ := H.out (by have := HN.out; omega)
      have c0 := hc k (by have := HN.out; omega)
      have HG := Lib.hid (meetB_good a b k (by have := HN.out; omega))
      have HPX := Lib.hid (HPC.out (a.getD k 0))
      have HNX : Hid (a.getD k 0 ∉ b → ∀ j, j < k + 1 → a.getD j 0 ∉ b) := fun h j hj => by
        rcases Nat.lt_or_ge j k with h1 | h1
        · exact HA.out j h1
        · obtain rfl : j = k := by omega
          exact h
      clear hc H
      generalize a.getD k 0 = x at *
      by_cases hm : x ∈ b
      · have hge : decide (plc b x ≥ 0) = true := by unfold plc; rw [if_pos hm]; simp
        have HG2 := Lib.hid (HG.out hm)
        generalize plc b x = p at *
        clear hm
        go_wp2_with fail
        refine HPX.out.mono ?_
        rintro e w' ⟨rfl, rfl⟩
        go_wp2
        go_ret
        exact ⟨ret_b HG2.out.symm, Below.refl _ _⟩
      · have hge : decide (plc b x ≥ 0) = false := by unfold plc; rw [if_neg hm]; simp
        have HG2 := Lib.hid (HNX.out hm)
        generalize plc b x = p at *
        clear hm
        go_wp2_with fail
        refine HPX.out.mono ?_
        rintro e w' ⟨rfl, rfl⟩
        go_wp2
        go_roundw
        case rel => exact ⟨k + 1, by omega, by go_num, HG2.out, by first | rfl | trivial⟩
        case measure => simp [intOf]; omega
    · obtain rfl : k = n := by omega
      go_wp2
      go_ret
      exact ⟨ret_b (meetB_bad a b fun j hj => HA.out j (by have := HN.out; omega)).symm, Below.refl _ _⟩

theorem nwTo_zero (P : Nat → Bool) : nwTo P 0 = [] := rfl
theorem retI_at {w w1 : World} {v : Value} {xs : List Int} {lo : Nat} (h : OwnI w1 lo v xs) : ∃ A c, v = .slice A xs.length c ∧ IS w1 w1.heap.size A xs := OwnI.form h

set_option maxRecDepth 100000 in
set_option maxHeartbeats 3200000 in
theorem top_spec_MustRun (gs : List Nd) (xs ys : List Int) (hG : GB gs) (hL : xs.length ≤ 1048576) (hL2 : ys.length ≤ 1048576) : ∀ (A : Option Addr) (n c : Nat) (A1 : Option Addr) (m1 c1 : Nat) (A2 : Option Addr) (m2 c2 : Nat) (w : World), n = gs.length → n ≤ c → GS w w.heap.size A gs → m1 = xs.length → IS w w.heap.size A1 xs → m2 = ys.length → IS w w.heap.size A2 ys →
    Calls Try.prog 28 #[.agg #[.slice A n c], .slice A1 m1 c1, .slice A2 m2 c2] w fun e w' => RetI w (mustF gs xs ys) e w' := by
  intro A n c A1 m1 c1 A2 m2 c2 w hn hnc h hx h1 hy h2
  obtain ⟨i0, hi, hz0, hz1, hz2⟩ := info_parts info_int
  have hm1 : m1 ≤ 2000000 := by omega
  have hm2 : m2 ≤ 2000000 := by omega
  have hn1 : n ≤ 1048576 := by rw [hn]; exact hG.1
  have HG0 := Lib.hid (h.alloc (Nat.le_refl _) (.cells #[.slice A n c] 25))
  have HX0 := Lib.hid (h1.alloc (Nat.le_refl _) (.cells #[.slice A n c] 25))
  have HY0 := Lib.hid (h2.alloc (Nat.le_refl _) (.cells #[.slice A n c] 25))
  have HN := Lib.hid hn
  have HC := Lib.hid fun (w' : World) (hB : w.heap.size ≤ w'.heap.size) (h : GS w' w.heap.size A gs) => spec_validGraph A n c gs w' w.heap.size hB hn h hG
  have HDX := Lib.hid fun (w' : World) (hB : w.heap.size ≤ w'.heap.size) (h : GS w' w.heap.size A gs) (h' : IS w' w.heap.size A1 xs) => spec_validCells A A1 n c m1 c1 gs xs w' w.heap.size hB hn hx h h' (by omega) hm1
  have HDY := Lib.hid fun (w' : World) (hB : w.heap.size ≤ w'.heap.size) (h : GS w' w.heap.size A gs) (h' : IS w' w.heap.size A2 ys) => spec_validCells A A2 n c m2 c2 gs ys w' w.heap.size hB hn hy h h' (by omega) hm2
  have HMX := Lib.hid fun (w' : World) (hB : w.heap.size ≤ w'.heap.size) (h : GS w' w.heap.size A gs) (h' : IS w' w.heap.size A1 xs) (hok : okC gs xs = true) => spec_meaning A A1 n c m1 c1 gs xs w' w.heap.size hB hn hx h h' hok
  have HMY := Lib.hid fun (w' : World) (hB : w.heap.size ≤ w'.heap.size) (h : GS w' w.heap.size A gs) (h' : IS w' w.heap.size A2 ys) (hok : okC gs ys = true) => spec_meaning A A2 n c m2 c2 gs ys w' w.heap.size hB hn hy h h' hok
  have hB0 : Below w.heap.size w (w.alloc (.cells #[.slice A n c] 25)) := (Below.refl _ _).alloc (Nat.le_refl _) _
  have hcb : chgB gs xs ys = (validG gs && validC gs xs && validC gs ys) := rfl
  have hmf : mustF gs xs ys = if chgB gs xs ys then nwTo (mustP gs (mean gs xs) (diffTo (mean gs xs) (mean gs ys) gs.length)) gs.length else [] := rfl
  rw [hmf]
  clear hmf
  cases hvg : validG gs
  · have hcf : chgB gs xs ys = false := by rw [hcb, hvg]; rfl
    rw [hcf]
    rw [hvg] at HC
    clear hcf hcb hvg h h1 h2 hn hx hy hG
    simp only [Bool.false_eq_true, if_false]
    go_enter Try.func28, Try.ntmps28
    go_wp2_with fail
    refine (HC.out _ hB0.size HG0.out).mono ?_
    rintro e w1 ⟨rfl, hb⟩
    go_wp2
    go_ret
    exact RetI.nil (hB0.trans (hb.mono hB0.size))
  rw [hvg] at HC
  cases hvx : validC gs xs
  · have hcf : chgB gs xs ys = false := by rw [hcb, hvx]; simp
    rw [hcf]
    rw [hvx] at HDX
    clear hcf hcb hvg hvx h h1 h2 hn hx hy hG
    simp only [Bool.false_eq_true, if_false]
    go_enter Try.func28, Try.ntmps28
    go_wp2_with fail
    refine (HC.out _ hB0.size HG0.out).mono ?_
    rintro e w1 ⟨rfl, hb⟩
    have q1 : w1.cell? ⟨w.heap.size, 0, none⟩ = some (.slice A n c) := (hb.cell (p := ⟨w.heap.size, 0, none⟩) (by simp)).trans (by go_simp)
    have hB1 := hB0.trans (hb.mono hB0.size)
    have HG1 := Lib.hid (HG0.out.below hb hB0.size)
    have HX1 := Lib.hid (HX0.out.below hb hB0.size)
    go_wp2_with fail
    refine (HDX.out _ hB1.size HG1.out HX1.out).mono ?_
    rintro e w2 ⟨rfl, hb2⟩
    go_wp2
    go_ret
    exact RetI.nil (hB1.trans (hb2.mono hB1.size))
  rw [hvx] at HDX
  cases hvy : validC gs ys
  · have hcf : chgB gs xs ys = false := by rw [hcb, hvy]; simp
    rw [hcf]
    rw [hvy] at HDY
    clear hcf hcb hvg hvx hvy h h1 h2 hn hx hy hG
    simp only [Bool.false_eq_true, if_false]
    go_enter Try.func28, Try.ntmps28
    go_wp2_with fail
    refine (HC.out _ hB0.size HG0.out).mono ?_
    rintro e w1 ⟨rfl, hb⟩
    have q1 : w1.cell? ⟨w.heap.size, 0, none⟩ = some (.slice A n c) := (hb.cell (p := ⟨w.heap.size, 0, none⟩) (by simp)).trans (by go_simp)
    have hB1 := hB0.trans (hb.mono hB0.size)
    have hl1 : w.heap.size < w1.heap.size := by have := hb.size; simp at this; omega
    have HG1 := Lib.hid (HG0.out.below hb hB0.size)
    have HX1 := Lib.hid (HX0.out.below hb hB0.size)
    have HY1 := Lib.hid (HY0.out.below hb hB0.size)
    clear hb
    go_wp2_with fail
    refine (HDX.out _ hB1.size HG1.out HX1.out).mono ?_
    rintro e w2 ⟨rfl, hb2⟩
    have q2 := (hb2.cell (p := ⟨w.heap.size, 0, none⟩) hl1).trans q1
    have hB2 := hB1.trans (hb2.mono hB1.size)
    have HG2 := Lib.hid (HG1.out.below hb2 hB1.size)
    have HY2 := Lib.hid (HY1.out.below hb2 hB1.size)
    clear hb2 q1
    go_wp2_with fail
    refine (HDY.out _ hB2.size HG2.out HY2.out).mono ?_
    rintro e w3 ⟨rfl, hb3⟩
    go_wp2
    go_ret
    exact RetI.nil (hB2.trans (hb3.mono hB2.size))
  rw [hvy] at HDY
  have hcf : chgB gs xs ys = true := by rw [hcb, hvg, hvx, hvy]; rfl
  have hox : okC gs xs = true := by unfold okC; rw [hvg, hvx]; rfl
  have hoy : okC gs ys = true := by unfold okC; rw [hvg, hvy]; rfl
  rw [hcf]
  simp only [if_true]
  have hn10 : n ≤ 10 := by have := (validG_parts gs hvg).1; omega
  have hvo : VOK (mean gs xs) := meanTo_VOK gs xs hox gs.length (Nat.le_refl _)
  have hml := mean_len gs xs
  have hml2 := mean_len gs ys
  rw [← hn] at hml hml2
  have HMX2 := Lib.hid fun (w' : World) (hB : w.heap.size ≤ w'.heap.size) (h : GS w' w.heap.size A gs) (h' : IS w' w.heap.size A1 xs) => HMX.out w' hB h h' hox
  have HMY2 := Lib.hid fun (w' : World) (hB : w.heap.size ≤ w'.heap.size) (h : GS w' w.heap.size A gs) (h' : IS w' w.heap.size A2 ys) => HMY.out w' hB h h' hoy
  have HDP := Lib.hid fun (A5 : Option Addr) (c5 i : Nat) (w' : World) (B : Nat) (hB : B ≤ w'.heap.size) (h : GS w' B A gs) (h' : IS w' B A5 (mean gs xs)) (hi : i < n) => spec_deps A A5 n c n c5 gs (mean gs xs) i w' B hB hn hml.symm rfl h h' hvg hvo hi
  have HFBD := Lib.hid fun (i : Nat) (hi : i < gs.length) => eager_depF_bd gs (mean gs xs) hvg (by rw [hml]; exact hn) i hi
  have HML := Lib.hid hml
  have HML2 := Lib.hid hml2
  have hmp : ∀ i, mustP gs (mean gs xs) (diffTo (mean gs xs) (mean gs ys) gs.length) i = (!((gs.getD i default).k == 0) && meetB (depF gs (mean gs xs) i) (diffTo (mean gs xs) (mean gs ys) gs.length)) := fun i => rfl
  rw [← hn] at hmp
  rw [← hn]
  have hdl := diffTo_len (mean gs xs) (mean gs ys) n
  have HDF := Lib.hid fun (A4 A5 : Option Addr) (c4 c5 : Nat) (w' : World) (h : IS w' w'.heap.size A4 (mean gs xs)) (h' : IS w' w'.heap.size A5 (mean gs ys)) => spec_differing A4 A5 n c4 c5 (mean gs xs) (mean gs ys) w' w'.heap.size (Nat.le_refl _) hml.symm hml2.symm h h' (by omega)
  generalize mustP gs (mean gs xs) (diffTo (mean gs xs) (mean gs ys) n) = P at *
  generalize diffTo (mean gs xs) (mean gs ys) n = C at *
  have HMP := Lib.hid hmp
  generalize mean gs xs = MX at *
  generalize mean gs ys = MY at *
  clear hcf hcb hvg hvx hvy hox hoy hvo hml hml2 hmp h h1 h2 hn hx hy hG HMX HMY
  go_enter Try.func28, Try.ntmps28
  go_wp2_with fail
  refine (HC.out _ hB0.size HG0.out).mono ?_
  rintro e w1 ⟨rfl, hb⟩
  have q1 : w1.cell? ⟨w.heap.size, 0, none⟩ = some (.slice A n c) := (hb.cell (p := ⟨w.heap.size, 0, none⟩) (by simp)).trans (by go_simp)
  have hB1 := hB0.trans (hb.mono hB0.size)
  have hl1 : w.heap.size < w1.heap.size := by have := hb.size; simp at this; omega
  have HG1 := Lib.hid (HG0.out.below hb hB0.size)
  have HX1 := Lib.hid (HX0.out.below hb hB0.size)
  have HY1 := Lib.hid (HY0.out.below hb hB0.size)
  clear hb hB0 HG0 HX0 HY0
  go_wp2_with fail
  refine (HDX.out _ hB1.size HG1.out HX1.out).mono ?_
  rintro e w2 ⟨rfl, hb⟩
  have q2 := (hb.cell (p := ⟨w.heap.size, 0, none⟩) hl1).trans q1
  have hB2 := hB1.trans (hb.mono hB1.size)
  have hl2 : w.heap.size < w2.heap.size := Nat.lt_of_lt_of_le hl1 hb.size
  have HG2 := Lib.hid (HG1.out.below hb hB1.size)
  have HX2 := Lib.hid (HX1.out.below hb hB1.size)
  have HY2 := Lib.hid (HY1.out.below hb hB1.size)
  clear hb q1 HG1 HX1 HY1 hB1 hl1
  go_wp2_with fail
  refine (HDY.out _ hB2.size HG2.out HY2.out).mono ?_
  rintro e w3 ⟨rfl, hb⟩
  have q3 := (hb.cell (p := ⟨w.heap.size, 0, none⟩) hl2).trans q2
  have hB3 := hB2.trans (hb.mono hB2.size)
  have hl3 : w.heap.size < w3.heap.size := Nat.lt_of_lt_of_le hl2 hb.size
  have HG3 := Lib.hid (HG2.out.below hb hB2.size)
  have HX3 := Lib.hid (HX2.out.below hb hB2.size)
  have HY3 := Lib.hid (HY2.out.below hb hB2.size)
  clear hb q2 HG2 HX2 HY2 hB2 hl2
  clear HC HDX HDY
  go_wp2_with fail
  refine (HMX2.out _ hB3.size HG3.out HX3.out).mono ?_
  rintro e w4 ⟨v4, rfl, ho4, hb⟩
  obtain ⟨A4, c4, rfl, hI4⟩ := OwnI.at_ ho4 HML.out
  have HI4 := Lib.hid hI4
  have q4 := (hb.cell (p := ⟨w.heap.size, 0, none⟩) hl3).trans q3
  have hB4 := hB3.trans (hb.mono hB3.size)
  have hl4 : w.heap.size < w4.heap.size := Nat.lt_of_lt_of_le hl3 hb.size
  have HG4 := Lib.hid (HG3.out.below hb hB3.size)
  have HX4 := Lib.hid (HX3.out.below hb hB3.size)
  have HY4 := Lib.hid (HY3.out.below hb hB3.size)
  clear hb q3 HG3 HX3 HY3 hB3 hl3
  clear ho4 hI4
  go_wp2_with fail
  refine (HMY2.out _ hB4.size HG4.out HY4.out).mono ?_
  rintro e w5 ⟨v5, rfl, ho5, hb⟩
  obtain ⟨A5, c5, rfl, hI5⟩ := OwnI.at_ ho5 HML2.out
  have HJ5 := Lib.hid hI5
  have HI5 := Lib.hid (HI4.out.step hb)
  have q5 := (hb.cell (p := ⟨w.heap.size, 0, none⟩) hl4).trans q4
  have hB5 := hB4.trans (hb.mono hB4.size)
  have hl5 : w.heap.size < w5.heap.size := Nat.lt_of_lt_of_le hl4 hb.size
  have HG5 := Lib.hid (HG4.out.below hb hB4.size)
  clear hb q4 HG4 hB4 hl4
  clear ho5 hI5 HI4 HX4 HY4
  go_wp2_with fail
  refine (HDF.out A4 A5 c4 c5 w5 HI5.out HJ5.out).mono ?_
  rintro e w6 ⟨v6, rfl, ho6, hb⟩
  obtain ⟨A6, c6, rfl, hI6⟩ := OwnI.form ho6
  have HC6 := Lib.hid hI6
  have HI6 := Lib.hid (HI5.out.step hb)
  have q6 := (hb.cell (p := ⟨w.heap.size, 0, none⟩) hl5).trans q5
  have hB6 := hB5.trans (hb.mono hB5.size)
  have hl6 : w.heap.size < w6.heap.size := Nat.lt_of_lt_of_le hl5 hb.size
  have HG6 := Lib.hid (HG5.out.below hb hB5.size)
  clear hb q5 HG5 hB5 hl5
  have HG7 := Lib.hid (HG6.out.more (B' := w6.heap.size) hB6.size)
  obtain ⟨lc, hlc⟩ : ∃ lc : Nat, lc = C.length := ⟨_, rfl⟩
  have HLC := Lib.hid hlc
  have hlc2 : lc ≤ 2000000 := by omega
  rw [← hlc]
  clear ho6 hI6 HI5 HJ5 hlc HMX2 HMY2 HDF HG6
  have hrow0 := World.ownsRow_lit (e := 3) (size := 1) (base := w6.heap.size) w6 #[] 0 (Nat.le_refl _) (by unfold maxLen; omega) (by simp)
  have HROW := Lib.hid hrow0
  clear hrow0
  go_wp2
  go_loopw [9, 10] (fun v i wr => ∃ k : Nat, k ≤ n ∧ i = .int .i64 k ∧ Hid (OwnI wr w6.heap.size v (nwTo P k)) ∧ Hid (Below w6.heap.size w6 wr) ∧ w6.heap.size ≤ wr.heap.size) (fun _ i _ => n - (intOf i).toNat)
  case atStart => exact ⟨0, Nat.zero_le _, rfl, Lib.hid (by unfold OwnI; simpa [nwTo_zero] using HROW.out), (Below.refl _ _).alloc (Nat.le_refl _) _, by simp⟩
  case round =>
    obtain ⟨k, hk, rfl, HO, HB, hwr⟩ := hrel
    have q7 := (HB.out.cell (p := ⟨w.heap.size, 0, none⟩) hl6).trans q6
    by_cases hlt : k < n
    · have hkg : k < gs.length := by have := HN.out; omega
      have HST := Lib.hid (nwTo_step P k)
      have hdl := nwTo_len P k
      have HPK := Lib.hid (HMP.out k)
      have HGR := Lib.hid (HG7.out.below HB.out (Nat.le_refl _))
      have HIR := Lib.hid (HI6.out.below HB.out (Nat.le_refl _))
      obtain ⟨b, off, hA, hbB, c0, _, _, _, _, _⟩ := HGR.out.at_ k hkg
      have HDK := Lib.hid (HDP.out A4 c4 k wr w6.heap.size hwr HGR.out HIR.out hlt)
      have hfb := HFBD.out k hkg
      generalize nwTo P k = NW at *
      generalize P k = p at *
      generalize depF gs MX k = D at *
      generalize (gs.getD k default).k = kd at *
      cases hd : (kd == 0)
      · have hd' : (kd != 0) = true := by simp [bne, hd]
        have HPK2 : Hid (p = meetB D C) := by have := HPK.out; rw [hd] at this; simpa [Hid] using this
        subst hA
        clear hd HPK
        go_wp2_with fail
        refine HDK.out.mono ?_
        rintro e w8 ⟨v8, rfl, ho8, hb8⟩
        obtain ⟨A8, c8, rfl, hI8⟩ := OwnI.form ho8
        have HB8 := Lib.hid (HB.out.trans (hb8.mono hwr))
        have HC8 := Lib.hid ((HC6.out.below HB8.out (Nat.le_refl _)).more (B' := w8.heap.size) HB8.out.size)
        have HMT := Lib.hid (spec_meets A8 A6 D.length lc c8 c6 D C w8 w8.heap.size (Nat.le_refl _) rfl HLC.out hI8 HC8.out (by omega) hlc2)
        have HO8 := Lib.hid (show OwnI w8 w6.heap.size _ NW from own_below HO.out hb8)
        rw [← HPK2.out] at HMT
        clear ho8 hI8 hb8 HPK2 c0 HDK
        go_wp2_with fail
        refine HMT.out.mono ?_
        rintro e w9 ⟨rfl, hb9⟩
        have HO9 := Lib.hid (show OwnI w9 w6.heap.size _ NW from own_below HO8.out hb9)
        have HB9 := Lib.hid (HB8.out.trans (hb9.mono HB8.out.size))
        have hw9 := HB9.out.size
        clear hb9
        cases p
        · go_wp2
          go_roundw
          case rel => exact ⟨k + 1, by omega, by go_num, by rw [HST.out]; simpa using HO9, HB9.out, hw9⟩
          case measure => simp [intOf]; omega
        · go_wp2_with (at_builtin; refine wpList_append_own _ rfl _ _ 26 rfl w6.heap.size 3 i0 (.int .i64 0) 1 8 Try.underlying26 hi hz0 hz1 hz2 rfl (by decide) _ _ _ rfl (HO9.out.alloc _) ⟨_, 0, none⟩ 1 1 [.int .i64 k] rfl rfl (cell_one_new _ _ _) ?c2 ?c3 ?c4 ?c5 ?_)
          case c2 => first | rfl | (intro u hu; simp at hu; subst hu; rfl)
          case c3 => unfold maxLen; omega
          case c4 => omega
          case c5 => first | omega | (simp; omega)
          intro v' w10 hown' hgrow _
          have hpos := (HO9.out.alloc (.cells #[.int .i64 k] 3)).lt
          have HO' : Hid (OwnI w10 w6.heap.size v' (nwTo P (k + 1))) := by
            rw [HST.out]
            simpa [OwnI, Hid] using hown'
          have HB' := Lib.hid ((HB9.out.alloc hw9 (.cells #[.int .i64 k] 3)).grown hgrow (by first | (simp; omega) | omega) (fun q hq => (hpos q hq).1))
          clear hown' hgrow hpos
          go_wp2
          go_roundw
          case rel => exact ⟨k + 1, by omega, by go_num, HO'.out, HB'.out, HB'.out.size⟩
          case measure => simp [intOf]; omega
      · have hd' : (kd != 0) = false := by simp [bne, hd]
        have HPK2 : Hid (p = false) := by have := HPK.out; rw [hd] at this; simpa [Hid] using this
        subst hA
        clear hd HPK HDK
        go_wp2
        go_roundw
        case rel => exact ⟨k + 1, by omega, by go_num, by rw [HST.out, HPK2.out]; simpa using HO, HB.out, hwr⟩
        case measure => simp [intOf]; omega
    · obtain rfl : k = n := by omega
      go_wp2
      go_ret
      exact ⟨_, rfl, own_mono HO.out hB6.size, hB6.trans (HB.out.mono hB6.size)⟩
end Go.Proofs.Ytgclikdienlhdaa

/- Plain facts for the law of MustRun. -/
namespace Go.Proofs.Ytgclikdienlhdaa
set_option linter.unusedSimpArgs false
set_option linter.unusedVariables false
open Go.RowKit

theorem nwTo_asc (P : Nat → Bool) (n j : Nat) (h : j + 1 < (nwTo P n).length) : (nwTo P n).getD j 0 < (nwTo P n).getD (j + 1) 0 := by
  have hp : (nwTo P n).Pairwise (· < ·) := by
    unfold nwTo
    rw [List.pairwise_map]
    refine List.Pairwise.imp ?_ (List.Pairwise.filter _ List.pairwise_lt_range)
    intro a b hab
    omega
  have := List.pairwise_iff_getElem.1 hp j (j + 1) (by omega) h (by omega)
  simpa [List.getD, h, show j < (nwTo P n).length by omega] using this
theorem must_asc (gs : List Nd) (xs ys : List Int) (j : Nat) (h : j + 1 < (mustF gs xs ys).length) : (mustF gs xs ys).getD j 0 < (mustF gs xs ys).getD (j + 1) 0 := by
  cases hc : chgB gs xs ys
  · unfold mustF at h
    rw [hc] at h
    simp at h
  · unfold mustF at *
    simp only [hc, if_true] at h ⊢
    exact nwTo_asc _ _ j h
theorem diffTo_self (a : List Int) (n : Nat) : diffTo a a n = [] := by
  unfold diffTo
  simp
theorem must_nil (gs : List Nd) (xs : List Int) : mustF gs xs xs = [] := by
  unfold mustF
  cases chgB gs xs xs
  · rfl
  · rw [if_pos rfl, diffTo_self]
    unfold nwTo
    have : ∀ i, mustP gs (mean gs xs) [] i = false := fun i => by unfold mustP meetB; simp
    simp [this]
theorem must_law (gs : List Nd) (xs ys : List Int) (hx : okC gs xs = true) (hy : okC gs ys = true) (k : Nat) (hk : k < (chgF gs xs ys).length) :
    ∃ i : Nat, (chgF gs xs ys).getD k 0 = (i : Int) ∧ i < gs.length ∧ (((gs.getD i default).k == 0) = false → (i : Int) ∈ mustF gs xs ys) := by
  have hc : chgB gs xs ys = true := by
    unfold okC at hx hy
    unfold chgB
    simp only [Bool.and_eq_true] at hx hy ⊢
    exact ⟨⟨hx.1, hx.2⟩, hy.2⟩
  unfold chgF at hk
  unfold chgF mustF
  simp only [hc, if_true] at hk ⊢
  have hm : (diffTo (mean gs xs) (mean gs ys) gs.length).getD k 0 ∈ diffTo (mean gs xs) (mean gs ys) gs.length := by
    simp [List.getD, hk]
  generalize (diffTo (mean gs xs) (mean gs ys) gs.length).getD k 0 = x at *
  have hm2 := hm
  unfold diffTo at hm2
  obtain ⟨i, hi, rfl⟩ := List.mem_map.1 hm2
  have hi2 := List.mem_range.1 (List.mem_filter.1 hi).1
  refine ⟨i, rfl, hi2, fun hd => ?_⟩
  have := must_changed gs xs ys hx hy i hi2 hd hm
  unfold nwTo
  refine List.mem_map.2 ⟨i, List.mem_filter.2 ⟨List.mem_range.2 hi2, ?_⟩, rfl⟩
  unfold mustP
  rw [hd, this]
  rfl
theorem isIn_b (A : Option Addr) (n c : Nat) (xs : List Int) (x : Int) (w : World) (hn : n = xs.length) (h : IS w w.heap.size A xs) (hs : n ≤ 2000000) (hx : x ∈ xs) :
    Calls Try.prog 30 #[.slice A n c, .int .i64 x] w fun e w' => e = .returned (.bool true) ∧ Below w.heap.size w w' := by
  refine (laws_isIn A n c xs x w w.heap.size (Nat.le_refl _) hn h hs).mono ?_
  rintro e w' ⟨rfl, rfl⟩
  exact ⟨by rw [decide_eq_true hx], Below.refl _ _⟩
end Go.Proofs.Ytgclikdienlhdaa

/- The standing contracts of MustRun: the program's. -/
namespace Go.Proofs.Ytgclikdienlhdaa
set_option linter.unusedSimpArgs false
set_option linter.unusedVariables false
open Go.RowKit

set_option maxRecDepth 100000 in
set_option maxHeartbeats 1600000 in
theorem impl_nodesWhere3 (K : FuncId) (cap cap2 cap3 : Value) (P : Nat → Bool) (I : World → Prop) (A : Option Addr) (n c : Nat) (hs : n ≤ 2000000)
    (hI : ∀ w w' : World, I w → Below w.heap.size w w' → I w') (hcf : ∀ (q : Nat) (w : World), (callFunc K #[.int .i64 q, cap, cap2, cap3]).run Try.prog w = .ok (.enter K #[.int .i64 q, cap, cap2, cap3]) w)
    (hP : ∀ (q : Nat) (w : World), q < n → I w → Calls Try.prog K #[.int .i64 q, cap, cap2, cap3] w fun e w' => e = .returned (.bool (P q)) ∧ Below w.heap.size w w') (w : World) (h : I w) :
    Calls Try.prog 53 #[.agg #[.slice A n c], .func (.func K) #[] #[cap, cap2, cap3]] w fun e w' => RetI w (nwTo P n) e w' := by
  obtain ⟨i0, hi, hz0, hz1, hz2⟩ := info_parts info_int
  have HI := Lib.hid hI
  have HP := Lib.hid hP
  have H := Lib.hid h
  have HCF := Lib.hid hcf
  clear hI hP h hcf
  go_enter Try.func53, Try.ntmps53
  go_wp2
  go_loopw [5, 10] (fun v i wr => ∃ k : Nat, k ≤ n ∧ i = .int .i64 k ∧ Hid (OwnI wr (w.heap.size + 1) v (nwTo P k)) ∧ Below (w.heap.size + 1) (w.alloc (.cells #[.slice A n c] 25)) wr) (fun _ i _ => n - (intOf i).toNat)
  case atStart => exact ⟨0, Nat.zero_le _, rfl, World.ownsRow_nil _ _ _ _, Below.refl _ _⟩
  case round =>
    obtain ⟨k, hk, rfl, HO, hbr⟩ := hrel
    have hwr : w.heap.size + 1 ≤ wr.heap.size := by have := hbr.size; simpa using this
    by_cases hlt : k < n
    · have HST := Lib.hid (nwTo_step P k)
      have hdl := nwTo_len P k
      have HIR := Lib.hid (HI.out _ _ H.out (((Below.refl _ _).alloc (Nat.le_refl _) _).trans (hbr.mono (by omega))))
      have HPK := Lib.hid fun (w' : World) (h : I w') => HP.out k w' hlt h
      have hcf := HCF.out k
      generalize nwTo P k = D at *
      generalize P k = p at *
      cases p
      · go_wp2_with fail
        refine (HPK.out _ HIR.out).mono ?_
        rintro e w2 ⟨rfl, hb2⟩
        go_wp2
        go_roundw
        case rel => exact ⟨k + 1, by omega, by go_num, by rw [HST.out]; simpa [OwnI, Hid] using own_below HO.out hb2, hbr.trans (hb2.mono hwr)⟩
        case measure => simp [intOf]; omega
      · go_wp2_with fail
        refine (HPK.out _ HIR.out).mono ?_
        rintro e w2 ⟨rfl, hb2⟩
        have HO2 := Lib.hid (own_below HO.out hb2)
        have hbr2 := hbr.trans (hb2.mono hwr)
        have hw2 : w.heap.size + 1 ≤ w2.heap.size := by have := hb2.size; omega
        clear hcf
        go_wp2_with (at_builtin; refine wpList_append_own _ rfl _ _ 26 rfl (w.heap.size + 1) 3 i0 (.int .i64 0) 1 8 Try.underlying26 hi hz0 hz1 hz2 rfl (by decide) _ _ _ rfl (HO2.out.alloc _) ⟨_, 0, none⟩ 1 1 [.int .i64 k] rfl rfl (cell_one_new _ _ _) ?c2 ?c3 ?c4 ?c5 ?_)
        case c2 => first | rfl | (intro u hu; simp at hu; subst hu; rfl)
        case c3 => unfold maxLen; omega
        case c4 => omega
        case c5 => first | omega | (simp; omega)
        intro v' w3 hown' hgrow _
        have hpos := (HO2.out.alloc (.cells #[.int .i64 k] 3)).lt
        have HO' : Hid (OwnI w3 (w.heap.size + 1) v' (nwTo P (k + 1))) := by
          rw [HST.out]
          simpa [OwnI, Hid] using hown'
        have HB' := Lib.hid ((hbr2.alloc hw2 (.cells #[.int .i64 k] 3)).grown hgrow (by first | (simp; omega) | omega) (fun q hq => (hpos q hq).1))
        clear hown' hgrow hpos
        go_wp2
        go_roundw
        case rel => exact ⟨k + 1, by omega, by go_num, HO'.out, HB'.out⟩
        case measure => simp [intOf]; omega
    · obtain rfl : k = n := by omega
      go_wp2
      go_ret
      exact ⟨_, rfl, own_mono HO.out (by omega), ((Below.refl _ _).alloc (Nat.le_refl _) _).trans (hbr.mono (by omega))⟩


set_option maxHeartbeats 800000 in
theorem slices_IndexFunc1 (K : FuncId) (cap : Value) (P : Int → Bool) (A : Option Addr) (n c : Nat) (xs : List Int) (hs : n ≤ 2000000) (w : World) (hcf : ∀ (q : Int) (w : World), (callFunc K #[.int .i64 q, cap]).run Try.prog w = .ok (.enter K #[.int .i64 q, cap]) w)
    (hP : ∀ (q : Int), Calls Try.prog K #[.int .i64 q, cap] w fun e w' => e = .returned (.bool (P q)) ∧ w' = w) (hn : n = xs.length) (B : Nat) (hx : IS w B A xs) :
    Calls Try.prog 83 #[.slice A n c, .func (.func K) #[] #[cap]] w fun e w' => (∃ r : Int, e = .returned (.int .i64 r) ∧ decide (r ≥ 0) = xs.any P) ∧ w' = w := by
  have HP := Lib.hid hP
  have HCF := Lib.hid hcf
  have HX := Lib.hid hx
  have HN := Lib.hid hn
  clear hP hcf hx hn
  go_enter Try.func83, Try.ntmps83
  go_wp2
  go_loopw [8] (fun i wr => ∃ k : Nat, k ≤ n ∧ i = .int .i64 k ∧ Hid (∀ j, j < k → P (xs.getD j 0) = false) ∧ wr = w) (fun i _ => n - (intOf i).toNat)
  case atStart => exact ⟨0, Nat.zero_le _, rfl, fun j hj => by omega, rfl⟩
  case round =>
    obtain ⟨k, hk, rfl, HA, rfl⟩ := hrel
    by_cases hlt : k < n
    · have hkx : k < xs.length := by have := HN.out; omega
      obtain ⟨b, off, rfl, hbB, hc⟩ := HX.out (by omega)
      have c0 := hc k hkx
      have HNX : Hid (P (xs.getD k 0) = false → ∀ j, j < k + 1 → P (xs.getD j 0) = false) := fun h j hj => by
        rcases Nat.lt_or_ge j k with h1 | h1
        · exact HA.out j h1
        · obtain rfl : j = k := by omega
          exact h
      have HYS : Hid (P (xs.getD k 0) = true → xs.any P = true) := fun h => List.any_eq_true.2 ⟨xs.getD k 0, by simp [List.getD, hkx], h⟩
      have HPK := Lib.hid (HP.out (xs.getD k 0))
      have hcf := HCF.out (xs.getD k 0)
      generalize xs.getD k 0 = x at *
      generalize P x = p at *
      clear hc HX
      cases p
      · have HN2 := Lib.hid (HNX.out (by first | rfl | trivial))
        go_wp2_with fail
        refine HPK.out.mono ?_
        rintro e w2 ⟨rfl, rfl⟩
        go_wp2
        go_roundw
        case rel => exact ⟨k + 1, by omega, by go_num, HN2.out, by first | rfl | trivial⟩
        case measure => simp [intOf]; omega
      · have HY2 := Lib.hid (HYS.out (by first | rfl | trivial))
        go_wp2_with fail
        refine HPK.out.mono ?_
        rintro e w2 ⟨rfl, rfl⟩
        go_wp2
        go_ret
        exact ⟨⟨k, rfl, by rw [HY2.out]; simp⟩, rfl⟩
    · go_wp2
      go_ret
      refine ⟨⟨-1, rfl, ?_⟩, rfl⟩
      have : xs.any P = false := by
        rw [List.any_eq_false]
        intro x hx
        obtain ⟨j, hj, he⟩ := List.mem_iff_getElem.1 hx
        have := HA.out j (by have := HN.out; omega)
        rw [show xs.getD j 0 = x by simp [List.getD, hj, he]] at this
        simp [this]
      rw [this]; rfl

set_option maxHeartbeats 800000 in
theorem slices_ContainsFunc1 (K : FuncId) (cap : Value) (P : Int → Bool) (A : Option Addr) (n c : Nat) (xs : List Int) (hs : n ≤ 2000000) (w : World) (hcf : ∀ (q : Int) (w : World), (callFunc K #[.int .i64 q, cap]).run Try.prog w = .ok (.enter K #[.int .i64 q, cap]) w)
    (hP : ∀ (q : Int), Calls Try.prog K #[.int .i64 q, cap] w fun e w' => e = .returned (.bool (P q)) ∧ w' = w) (hn : n = xs.length) (B : Nat) (hx : IS w B A xs) :
    Calls Try.prog 55 #[.slice A n c, .func (.func K) #[] #[cap]] w fun e w' => e = .returned (.bool (xs.any P)) ∧ w' = w := by
  have HC := Lib.hid (slices_IndexFunc1 K cap P A n c xs hs w hcf hP hn B hx)
  generalize xs.any P = r at *
  clear hcf hP hn hx
  go_enter Try.func55, Try.ntmps55
  go_wp2_with fail
  refine HC.out.mono ?_
  rintro e w1 ⟨⟨q, rfl, hq⟩, rfl⟩
  cases r
  all_goals
    go_wp2
    go_ret
    exact ⟨rfl, rfl⟩

set_option maxHeartbeats 800000 in
theorem must1_at (g : Nat) (A : Option Addr) (lc c : Nat) (q : Int) (C : List Int) (w : World) (hl : lc = C.length) (hs : lc ≤ 2000000) (h1 : w.cell? ⟨g, 0, none⟩ = some (.slice A lc c)) (h : IS w w.heap.size A C) :
    Calls Try.prog 51 #[.int .i64 q, .pointer (some ⟨g, 0, none⟩)] w fun e w' => e = .returned (.bool (decide (q ∈ C))) ∧ w' = w := by
  have HC := Lib.hid (slices_Contains A lc c C q w w.heap.size (Nat.le_refl _) hl h hs)
  generalize decide (q ∈ C) = r at *
  clear hl h
  go_enter Try.func51, Try.ntmps51
  go_wp2_with fail
  refine HC.out.mono ?_
  rintro e w1 ⟨rfl, rfl⟩
  go_wp2
  go_ret
  exact ⟨rfl, rfl⟩

theorem meetB_any (a b : List Int) : a.any (fun x => decide (x ∈ b)) = meetB a b := rfl

/-- What the second closure's variables hold: the graph, the first closure, what is read, what has changed. -/
structure IM (g g7 g9 g8 : Nat) (A : Option Addr) (n c : Nat) (gs : List Nd) (Ac : Option Addr) (lc cc : Nat) (C : List Int) (E : Option Addr) (dn dc : Nat) (D : List (List Int)) (w : World) : Prop where
  l0 : g < w.heap.size
  l7 : g7 < w.heap.size
  l9 : g9 < w.heap.size
  l8 : g8 < w.heap.size
  c0 : w.cell? ⟨g, 0, none⟩ = some (.slice A n c)
  c7 : w.cell? ⟨g7, 0, none⟩ = some (.slice Ac lc cc)
  c9 : w.cell? ⟨g9, 0, none⟩ = some (.func (.func 51) #[] #[.pointer (some ⟨g7, 0, none⟩)])
  c8 : w.cell? ⟨g8, 0, none⟩ = some (.slice E dn dc)
  gr : GS w w.heap.size A gs
  ch : IS w w.heap.size Ac C
  dp : SS w w.heap.size E D
theorem IM.step {g g7 g9 g8 : Nat} {A : Option Addr} {n c : Nat} {gs : List Nd} {Ac : Option Addr} {lc cc : Nat} {C : List Int} {E : Option Addr} {dn dc : Nat} {D : List (List Int)} {w w' : World} (h : IM g g7 g9 g8 A n c gs Ac lc cc C E dn dc D w) (hb : Below w.heap.size w w') : IM g g7 g9 g8 A n c gs Ac lc cc C E dn dc D w' :=
  ⟨Nat.lt_of_lt_of_le h.l0 hb.size, Nat.lt_of_lt_of_le h.l7 hb.size, Nat.lt_of_lt_of_le h.l9 hb.size, Nat.lt_of_lt_of_le h.l8 hb.size, (hb.cell (p := ⟨g, 0, none⟩) h.l0).trans h.c0, (hb.cell (p := ⟨g7, 0, none⟩) h.l7).trans h.c7, (hb.cell (p := ⟨g9, 0, none⟩) h.l9).trans h.c9, (hb.cell (p := ⟨g8, 0, none⟩) h.l8).trans h.c8, (h.gr.below hb (Nat.le_refl _)).more hb.size, h.ch.step hb, h.dp.step hb⟩

theorem IM.drewN {g g7 g9 g8 : Nat} {A : Option Addr} {n c : Nat} {gs : List Nd} {Ac : Option Addr} {lc cc : Nat} {C : List Int} {E : Option Addr} {dn dc : Nat} {D : List (List Int)} {w : World} (h : IM g g7 g9 g8 A n c gs Ac lc cc C E dn dc D w) (k : Nat) : IM g g7 g9 g8 A n c gs Ac lc cc C E dn dc D (w.drewN k) :=
  ⟨h.l0, h.l7, h.l9, h.l8, h.c0, h.c7, h.c9, h.c8, h.gr, h.ch, h.dp⟩
theorem drewN_below1 {B n : Nat} {a w : World} (h : Below B a w) : Below B a (w.drewN n) := ⟨h.os, h.tape, h.output, h.size, h.block⟩

set_option maxRecDepth 100000 in
set_option maxHeartbeats 1600000 in
theorem must2_at (g g7 g9 g8 : Nat) (A : Option Addr) (n c : Nat) (gs : List Nd) (Ac : Option Addr) (lc cc : Nat) (C : List Int) (E : Option Addr) (dn dc : Nat) (D : List (List Int)) (q : Nat) (w : World) (h : IM g g7 g9 g8 A n c gs Ac lc cc C E dn dc D w) (hn : n = gs.length) (hdn : dn = D.length) (hdq : dn = n) (hl : lc = C.length) (hs : lc ≤ 2000000) (hs2 : ∀ j, (D.getD j []).length ≤ 1048576) (hq : q < n) (hns : n ≤ 2000000) :
    Calls Try.prog 54 #[.int .i64 q, .pointer (some ⟨g, 0, none⟩), .pointer (some ⟨g9, 0, none⟩), .pointer (some ⟨g8, 0, none⟩)] w fun e w' => e = .returned (.bool (!((gs.getD q default).k == 0) && (decide ((q : Int) ∈ C) || meetB (D.getD q []) C))) ∧ Below w.heap.size w w' := by
  obtain ⟨b, off, rfl, hbB, c0, _, _, _, _, _⟩ := h.gr.at_ q (by omega)
  obtain ⟨b3, off3, rfl, hbB3, A3, n3, c3, d1, hn3, hls⟩ := h.dp.at_ q (by omega)
  have hdlt : (q : Int) < (dn : Int) := by omega
  have hqlt : (q : Int) < (n : Int) := by omega
  have q0 := h.c0
  have q9 := h.c9
  have q8 := h.c8
  have hn3b := hs2 q
  rw [← hn3] at hn3b
  have hcf : ∀ (x : Int) (w : World), (callFunc 51 #[.int .i64 x, .pointer (some ⟨g7, 0, none⟩)]).run Try.prog w = .ok (.enter 51 #[.int .i64 x, .pointer (some ⟨g7, 0, none⟩)]) w := fun x w => by kernel_rfl
  have HM1 := Lib.hid fun (x : Int) (k : Nat) => must1_at g7 Ac lc cc x C (w.drewN k) hl hs (h.drewN k).c7 (h.drewN k).ch
  have HCF := Lib.hid fun (k : Nat) =>
    slices_ContainsFunc1 51 (.pointer (some ⟨g7, 0, none⟩)) (fun x => decide (x ∈ C)) A3 n3 c3 (D.getD q []) (by omega) (w.drewN k) hcf (fun x => HM1.out x k) hn3 w.heap.size hls
  have hma : (D.getD q []).any (fun x => decide (x ∈ C)) = meetB (D.getD q []) C := rfl
  rw [hma] at HCF
  have hcq := hcf (q : Int)
  have HMQ := Lib.hid (HM1.out (q : Int))
  generalize meetB (D.getD q []) C = r2 at *
  generalize decide ((q : Int) ∈ C) = r1 at *
  generalize D.getD q [] = DL at *
  generalize (gs.getD q default).k = kd at *
  clear hcf hn hdn hdq hl hls hn3 h hma HM1 hs2
  cases hd : (kd == 0)
  · have hd' : (kd != 0) = true := by simp [bne, hd]
    clear hd
    cases r1
    · go_enter Try.func54, Try.ntmps54
      go_wp2
      go_quiet (first | (go_at_call 51; exact Calls.quiet_of_same (HMQ.out _)) | (go_at_call 55; exact Calls.quiet_of_same (HCF.out _)))
      go_wp2
      go_ret
      exact ⟨ret_b (by simp), drewN_below1 (Below.refl _ _)⟩
    · go_enter Try.func54, Try.ntmps54
      go_wp2
      go_quiet (first | (go_at_call 51; exact Calls.quiet_of_same (HMQ.out _)))
      go_wp2
      go_ret
      exact ⟨ret_b (by simp), drewN_below1 (Below.refl _ _)⟩
  · have hd' : (kd != 0) = false := by simp [bne, hd]
    clear hd
    go_enter Try.func54, Try.ntmps54
    go_wp2
    go_quiet (fail)
    go_wp2
    go_ret
    exact ⟨ret_b (by simp), drewN_below1 (Below.refl _ _)⟩
end Go.Proofs.Ytgclikdienlhdaa

/- The standing contracts of MustRun: together. -/
namespace Go.Proofs.Ytgclikdienlhdaa
set_option linter.unusedSimpArgs false
set_option linter.unusedVariables false
open Go.RowKit

/-- A function value is stored as every other value of one cell is. -/
theorem run_store_func {P : Program} {w : World} (a : Addr) (m : Mode) (f : Fn) (b c : Array Value) : (store a (.func f b c) m).run P w = stored P w a (.func f b c) m := run_store P w a _ m rfl
attribute [local go_sem ↓] run_store_func

set_option maxRecDepth 100000 in
set_option maxHeartbeats 3200000 in
theorem top_impl_MustRun (gs : List Nd) (xs ys : List Int) (hG : GB gs) (hL : xs.length ≤ 1048576) (hL2 : ys.length ≤ 1048576) : ∀ (A : Option Addr) (n c : Nat) (A1 : Option Addr) (m1 c1 : Nat) (A2 : Option Addr) (m2 c2 : Nat) (w : World), n = gs.length → n ≤ c → GS w w.heap.size A gs → m1 = xs.length → IS w w.heap.size A1 xs → m2 = ys.length → IS w w.heap.size A2 ys →
    Calls Try.prog 27 #[.agg #[.slice A n c], .slice A1 m1 c1, .slice A2 m2 c2] w fun e w' => RetI w (mustF gs xs ys) e w' := by
  intro A n c A1 m1 c1 A2 m2 c2 w hn hnc h hx h1 hy h2
  have hm1 : m1 ≤ 2000000 := by omega
  have hm2 : m2 ≤ 2000000 := by omega
  have hn1 : n ≤ 1048576 := by rw [hn]; exact hG.1
  have HG0 := Lib.hid (h.alloc (Nat.le_refl _) (.cells #[.slice A n c] 25))
  have HX0 := Lib.hid (h1.alloc (Nat.le_refl _) (.cells #[.slice A n c] 25))
  have HY0 := Lib.hid (h2.alloc (Nat.le_refl _) (.cells #[.slice A n c] 25))
  have HN := Lib.hid hn
  have HDX := Lib.hid fun (w' : World) (hB : w.heap.size ≤ w'.heap.size) (h : GS w' w.heap.size A gs) (h' : IS w' w.heap.size A1 xs) => impl_ValidCells A A1 n c m1 c1 gs xs w' w.heap.size hB hn hnc hx h h' hG hm1
  have HDY := Lib.hid fun (w' : World) (hB : w.heap.size ≤ w'.heap.size) (h : GS w' w.heap.size A gs) (h' : IS w' w.heap.size A2 ys) => impl_ValidCells A A2 n c m2 c2 gs ys w' w.heap.size hB hn hnc hy h h' hG hm2
  have HCH := Lib.hid fun (w' : World) (h : GS w' w'.heap.size A gs) (h1 : IS w' w'.heap.size A1 xs) (h2 : IS w' w'.heap.size A2 ys) => top_impl_ChangedBy gs xs ys hG hL hL2 A n c A1 m1 c1 A2 m2 c2 w' hn hnc h hx h1 hy h2
  have HDE := Lib.hid fun (w' : World) (h : GS w' w'.heap.size A gs) (h1 : IS w' w'.heap.size A1 xs) => top_impl_DepsOf gs xs hG hL A n c A1 m1 c1 w' hn hnc h hx h1
  have hB0 : Below w.heap.size w (w.alloc (.cells #[.slice A n c] 25)) := (Below.refl _ _).alloc (Nat.le_refl _) _
  have hb12 : chgB gs xs ys = (okC gs xs && okC gs ys) := by unfold chgB okC; cases validG gs <;> cases validC gs xs <;> simp
  have hmf : mustF gs xs ys = if chgB gs xs ys then nwTo (mustP gs (mean gs xs) (diffTo (mean gs xs) (mean gs ys) gs.length)) gs.length else [] := rfl
  rw [hmf, hb12]
  clear hmf
  cases hox : okC gs xs
  · rw [hox] at HDX
    clear hb12 hox h h1 h2 hn hx hy hG
    simp only [Bool.false_and, Bool.false_eq_true, if_false]
    go_enter Try.func27, Try.ntmps27
    go_wp2_with fail
    refine (HDX.out _ hB0.size HG0.out HX0.out).mono ?_
    rintro e w1 ⟨rfl, hb⟩
    go_wp2
    go_ret
    exact RetI.nil (hB0.trans (hb.mono hB0.size))
  rw [hox] at HDX
  cases hoy : okC gs ys
  · rw [hoy] at HDY
    clear hb12 hox hoy h h1 h2 hn hx hy hG
    simp only [Bool.and_false, Bool.false_eq_true, if_false]
    go_enter Try.func27, Try.ntmps27
    go_wp2_with fail
    refine (HDX.out _ hB0.size HG0.out HX0.out).mono ?_
    rintro e w1 ⟨rfl, hb⟩
    have q1 : w1.cell? ⟨w.heap.size, 0, none⟩ = some (.slice A n c) := (hb.cell (p := ⟨w.heap.size, 0, none⟩) (by simp)).trans (by go_simp)
    have hB1 := hB0.trans (hb.mono hB0.size)
    have HG1 := Lib.hid (HG0.out.below hb hB0.size)
    have HY1 := Lib.hid (HY0.out.below hb hB0.size)
    clear hb
    go_wp2_with fail
    refine (HDY.out _ hB1.size HG1.out HY1.out).mono ?_
    rintro e w2 ⟨rfl, hb2⟩
    go_wp2
    go_ret
    exact RetI.nil (hB1.trans (hb2.mono hB1.size))
  rw [hoy] at HDY
  simp only [Bool.and_true, if_true]
  have hvg := (okC_parts gs xs hox).1
  have hn10 : n ≤ 10 := by have := (validG_parts gs hvg).1; omega
  have hcf : chgF gs xs ys = diffTo (mean gs xs) (mean gs ys) gs.length := by unfold chgF; rw [hb12, hox, hoy]; rfl
  have hdf : depsF gs xs = depTo gs (mean gs xs) gs.length := by unfold depsF; rw [hox]; rfl
  have hsm := must_same gs xs ys hox hoy
  have hdt := fun q (hq : q < gs.length) => depTo_at gs (mean gs xs) gs.length q hq
  have hdl := depTo_len gs (mean gs xs) gs.length
  have hdb : ∀ j, ((depTo gs (mean gs xs) gs.length).getD j []).length ≤ 1048576 := by have := (depsF_len gs xs).1.2; rw [hdf] at this; exact this
  have hcl := diffTo_len (mean gs xs) (mean gs ys) gs.length
  rw [hcf] at HCH
  rw [hdf] at HDE
  have HP : Hid (∀ q, q < gs.length → (!((gs.getD q default).k == 0) && (decide ((q : Int) ∈ diffTo (mean gs xs) (mean gs ys) gs.length) || meetB ((depTo gs (mean gs xs) gs.length).getD q []) (diffTo (mean gs xs) (mean gs ys) gs.length))) = mustP gs (mean gs xs) (diffTo (mean gs xs) (mean gs ys) gs.length) q) := fun q hq => by rw [hdt q hq]; exact hsm q hq
  generalize mustP gs (mean gs xs) (diffTo (mean gs xs) (mean gs ys) gs.length) = P at *
  generalize diffTo (mean gs xs) (mean gs ys) gs.length = C at *
  generalize depTo gs (mean gs xs) gs.length = D at *
  rw [← hn] at hdl hcl
  have HDL := Lib.hid hdl
  have HDB := Lib.hid hdb
  obtain ⟨lc, hlc⟩ : ∃ lc : Nat, lc = C.length := ⟨_, rfl⟩
  have hlc2 : lc ≤ 2000000 := by omega
  have HLC := Lib.hid hlc
  obtain ⟨dn, hdn⟩ : ∃ dn : Nat, dn = D.length := ⟨_, rfl⟩
  have HDN := Lib.hid hdn
  have hdn2 : dn = n := by omega
  have HDN2 := Lib.hid hdn2
  rw [← hn]
  clear hb12 hox hoy hvg hcf hdf hsm hdt hdl hdb hcl hlc hdn hdn2 h h1 h2 hn hx hy hG
  go_enter Try.func27, Try.ntmps27
  go_wp2_with fail
  refine (HDX.out _ hB0.size HG0.out HX0.out).mono ?_
  rintro e w1 ⟨rfl, hb⟩
  have q1 : w1.cell? ⟨w.heap.size, 0, none⟩ = some (.slice A n c) := (hb.cell (p := ⟨w.heap.size, 0, none⟩) (by simp)).trans (by go_simp)
  have hB1 := hB0.trans (hb.mono hB0.size)
  have hl1 : w.heap.size < w1.heap.size := by have := hb.size; simp at this; omega
  have HG1 := Lib.hid (HG0.out.below hb hB0.size)
  have HX1 := Lib.hid (HX0.out.below hb hB0.size)
  have HY1 := Lib.hid (HY0.out.below hb hB0.size)
  clear hb hB0 HG0 HX0 HY0
  go_wp2_with fail
  refine (HDY.out _ hB1.size HG1.out HY1.out).mono ?_
  rintro e w2 ⟨rfl, hb⟩
  have q2 := (hb.cell (p := ⟨w.heap.size, 0, none⟩) hl1).trans q1
  have hB2 := hB1.trans (hb.mono hB1.size)
  have hl2 : w.heap.size < w2.heap.size := Nat.lt_of_lt_of_le hl1 hb.size
  have HG2 := Lib.hid ((HG1.out.below hb hB1.size).more (B' := w2.heap.size) hB2.size)
  have HX2 := Lib.hid ((HX1.out.below hb hB1.size).more (B' := w2.heap.size) hB2.size)
  have HY2 := Lib.hid ((HY1.out.below hb hB1.size).more (B' := w2.heap.size) hB2.size)
  clear hb q1 HG1 HX1 HY1 hB1 hl1 HDX HDY
  go_wp2_with fail
  refine (HCH.out w2 HG2.out HX2.out HY2.out).mono ?_
  rintro e w3 ⟨v3, rfl, ho3, hb⟩
  obtain ⟨A3, c3, rfl, hI3⟩ := OwnI.form ho3
  have q3 := (hb.cell (p := ⟨w.heap.size, 0, none⟩) hl2).trans q2
  have hB3 := hB2.trans (hb.mono hB2.size)
  have hl3 : w.heap.size < w3.heap.size := Nat.lt_of_lt_of_le hl2 hb.size
  rw [← HLC.out]
  have HG3 := Lib.hid ((((HG2.out.below hb (Nat.le_refl _)).more hb.size).alloc (Nat.le_refl _) (.cells #[.slice A3 lc c3] 26)).more (B' := (w3.alloc (.cells #[.slice A3 lc c3] 26)).heap.size) (by simp))
  have HX3 := Lib.hid (((HX2.out.step hb).alloc (Nat.le_refl _) (.cells #[.slice A3 lc c3] 26)).more (B' := (w3.alloc (.cells #[.slice A3 lc c3] 26)).heap.size) (by simp))
  have HC3 := Lib.hid ((hI3.alloc (Nat.le_refl _) (.cells #[.slice A3 lc c3] 26)).more (B' := (w3.alloc (.cells #[.slice A3 lc c3] 26)).heap.size) (by simp))
  clear hb q2 HG2 HX2 HY2 hB2 hl2 ho3 hI3 HCH
  go_wp2_with fail
  refine (HDE.out _ HG3.out HX3.out).mono ?_
  rintro e w4 ⟨v4, rfl, ho4, hb⟩
  obtain ⟨A4, c4, rfl⟩ := ho4.form
  have hl4 : w3.heap.size + 1 ≤ w4.heap.size := by have := hb.size; simpa using this
  have q4 := (hb.cell (p := ⟨w.heap.size, 0, none⟩) (by simp; omega)).trans ((World.cell?_alloc_lt _ _ ⟨w.heap.size, 0, none⟩ hl3).trans q3)
  have p4 : w4.cell? ⟨w3.heap.size, 0, none⟩ = some (.slice A3 lc c3) := (hb.cell (p := ⟨w3.heap.size, 0, none⟩) (by simp)).trans (by go_simp)
  have hB4 := (hB3.alloc hB3.size (.cells #[.slice A3 lc c3] 26)).trans (hb.mono (by simp; omega))
  have HG4 := Lib.hid ((HG3.out.below hb (Nat.le_refl _)).more hb.size)
  have HC4 := Lib.hid (HC3.out.step hb)
  have HD4 := Lib.hid ho4.lists
  rw [← HDN.out]
  clear hb q3 HG3 HX3 HC3 hB3 ho4 HDE
  have HIM : Hid (IM w.heap.size w3.heap.size (w4.heap.size + 1) w4.heap.size A n c gs A3 lc c3 C A4 dn c4 D ((w4.alloc (.cells #[.slice A4 dn c4] 29)).alloc (.cells #[.func (.func 51) #[] #[.pointer (some ⟨w3.heap.size, 0, none⟩)]] 75))) := by
    refine ⟨by simp; omega, by simp; omega, by simp, by simp; omega, ?_, ?_, by go_simp, by go_simp, ?_, ?_, ?_⟩
    · exact (World.cell?_alloc_lt _ _ ⟨w.heap.size, 0, none⟩ (by simp; omega)).trans ((World.cell?_alloc_lt _ _ ⟨w.heap.size, 0, none⟩ (by show w.heap.size < w4.heap.size; omega)).trans q4)
    · exact (World.cell?_alloc_lt _ _ ⟨w3.heap.size, 0, none⟩ (by simp; omega)).trans ((World.cell?_alloc_lt _ _ ⟨w3.heap.size, 0, none⟩ (by show w3.heap.size < w4.heap.size; omega)).trans p4)
    · exact ((HG4.out.alloc (Nat.le_refl _) _).alloc (by simp) _).more (by simp; omega)
    · exact ((HC4.out.alloc (Nat.le_refl _) _).alloc (by simp) _).more (by simp; omega)
    · exact ((HD4.out.alloc (Nat.le_refl _) _).alloc (by simp) _).more (by simp; omega)
  have hB5 := Lib.hid ((hB4.alloc hB4.size (.cells #[.slice A4 dn c4] 29)).alloc (by simp; have := hB4.size; omega) (.cells #[.func (.func 51) #[] #[.pointer (some ⟨w3.heap.size, 0, none⟩)]] 75))
  have HNW := Lib.hid (impl_nodesWhere3 54 (.pointer (some ⟨w.heap.size, 0, none⟩)) (.pointer (some ⟨w4.heap.size + 1, 0, none⟩)) (.pointer (some ⟨w4.heap.size, 0, none⟩)) P
    (fun w' => IM w.heap.size w3.heap.size (w4.heap.size + 1) w4.heap.size A n c gs A3 lc c3 C A4 dn c4 D w') A n c (by omega)
    (fun wa wb h hb => h.step hb)
    (fun q w => by kernel_rfl)
    (fun q wa hq h => (must2_at w.heap.size w3.heap.size (w4.heap.size + 1) w4.heap.size A n c gs A3 lc c3 C A4 dn c4 D q wa h HN.out HDN.out HDN2.out HLC.out hlc2 HDB.out hq (by omega)).mono fun e w' he => ⟨by rw [he.1, HP.out q (by have := HN.out; omega)], he.2⟩)
    _ HIM.out)
  have hlt4 : w.heap.size < w4.heap.size := by omega
  clear HIM HG4 HC4 HD4 hB4
  go_wp2_with fail
  refine HNW.out.mono ?_
  rintro e w6 ⟨v, rfl, ho, hb⟩
  go_wp2
  go_ret
  exact ⟨v, by simp, own_mono ho hB5.out.size, hB5.out.trans (hb.mono hB5.out.size)⟩
end Go.Proofs.Ytgclikdienlhdaa

/- laws.FnMustRun returns true for all bytes, and writes nothing that was there. (Made by genpl.py.) -/
namespace Go.Proofs.Ytgclikdienlhdaa
set_option linter.unusedSimpArgs false
set_option linter.unusedVariables false
open Go.RowKit

set_option maxRecDepth 100000 in
set_option maxHeartbeats 6400000 in
theorem plaw_MustRun (A : Option Addr) (n c : Nat) (bs : List Int) (w : World) (hn : n = bs.length) (hnc : n ≤ c) (h : BS w w.heap.size A bs) (hy : BY bs) (hm : n ≤ 9223372036854775807) :
    Calls Try.prog 7 #[.slice A n c] w fun e w' => e = .returned (.bool true) ∧ Below w.heap.size w w' := by
  by_cases hs : 1048576 < n
  · clear hn hnc h hy
    go_enter Try.func7, Try.ntmps7
    go_wp2
    go_ret
    exact ⟨rfl, Below.refl _ _⟩
  have HC := Lib.hid (spec_DrawMustRun A n c bs w hn hnc h hy (by omega))
  clear hn hnc h hy
  go_enter Try.func7, Try.ntmps7
  go_wp2_with fail
  refine HC.out.mono ?_
  rintro e w1 ⟨A1, n1, c1, gs, E1, m1, d1, xs, E2, m2, d2, ys, rfl, hp1, hp2, hp3, hnc1, hsm, hm1, hx1, hx2, hm2, hy1, hy2, hP, hI, hJ, hb⟩
  have HN1 := Lib.hid hp1
  have HG := Lib.hid (GB.of_drawn (by omega) hsm)
  have HM1 := Lib.hid hm1
  have HM2 := Lib.hid hm2
  have P_1 := Lib.hid (hP)
  have I_1 := Lib.hid (hI)
  have J_1 := Lib.hid (hJ)
  have B_1 := Lib.hid (hb)
  clear hP hp1 hb HC hsm hI hJ hm1 hm2
  go_wp2_with fail
  obtain ⟨w2, hw2⟩ : ∃ W, W = w1.alloc (.cells #[.slice A1 n1 c1] 25) := ⟨_, rfl⟩
  have hb : Below w1.heap.size w1 w2 := by rw [hw2]; exact (Below.refl _ _).alloc (Nat.le_refl _) _
  have P_2 := Lib.hid (P_1.out.step hb)
  clear P_1
  have I_2 := Lib.hid (I_1.out.step hb)
  clear I_1
  have J_2 := Lib.hid (J_1.out.step hb)
  clear J_1
  have B_2 := Lib.hid (B_1.out.trans (hb.mono B_1.out.size))
  clear B_1
  have F_2 : Hid (As w1.heap.size (w1.heap.size + 1) (fun w' => w'.cell? ⟨w1.heap.size, 0, none⟩ = some (.slice A1 n1 c1)) w2) := by rw [hw2]; exact box_new _ _ _
  clear hb
  rw [← hw2]
  clear hw2
  have HIM := Lib.hid fun (w' : World) (h : GS w' w'.heap.size A1 gs) (h1 : IS w' w'.heap.size E1 xs) (h2 : IS w' w'.heap.size E2 ys) => top_impl_MustRun gs xs ys HG.out (by have := HM1.out; omega) (by have := HM2.out; omega) A1 n1 c1 E1 m1 d1 E2 m2 d2 w' HN1.out hnc1 h HM1.out h1 HM2.out h2
  have HSP := Lib.hid fun (w' : World) (h : GS w' w'.heap.size A1 gs) (h1 : IS w' w'.heap.size E1 xs) (h2 : IS w' w'.heap.size E2 ys) => top_spec_MustRun gs xs ys HG.out (by have := HM1.out; omega) (by have := HM2.out; omega) A1 n1 c1 E1 m1 d1 E2 m2 d2 w' HN1.out hnc1 h HM1.out h1 HM2.out h2
  have HCH := Lib.hid fun (w' : World) (h : GS w' w'.heap.size A1 gs) (h1 : IS w' w'.heap.size E1 xs) (h2 : IS w' w'.heap.size E2 ys) => top_impl_ChangedBy gs xs ys HG.out (by have := HM1.out; omega) (by have := HM2.out; omega) A1 n1 c1 E1 m1 d1 E2 m2 d2 w' HN1.out hnc1 h HM1.out h1 HM2.out h2
  have HV1 := Lib.hid fun (w' : World) (h : GS w' w'.heap.size A1 gs) (h1 : IS w' w'.heap.size E1 xs) => top_impl_ValidCells gs xs HG.out (by have := HM1.out; omega) A1 n1 c1 E1 m1 d1 w' HN1.out hnc1 h HM1.out h1
  have HV2 := Lib.hid fun (w' : World) (h : GS w' w'.heap.size A1 gs) (h1 : IS w' w'.heap.size E2 ys) => top_impl_ValidCells gs ys HG.out (by have := HM2.out; omega) A1 n1 c1 E2 m2 d2 w' HN1.out hnc1 h HM2.out h1
  have HMM := Lib.hid fun (w' : World) (h : GS w' w'.heap.size A1 gs) (h1 : IS w' w'.heap.size E1 xs) => top_impl_MustRun gs xs xs HG.out (by have := HM1.out; omega) (by have := HM1.out; omega) A1 n1 c1 E1 m1 d1 E1 m1 d1 w' HN1.out hnc1 h HM1.out h1 HM1.out h1
  rw [must_nil] at HMM
  have hml := mustF_len gs xs ys
  have hcl := chgF_len gs xs ys
  have HASC := Lib.hid (must_asc gs xs ys)
  have HLAW := Lib.hid fun (h1 : okC gs xs = true) (h2 : okC gs ys = true) => must_law gs xs ys h1 h2
  generalize okC gs xs = v1 at *
  generalize okC gs ys = v2 at *
  generalize mustF gs xs ys = R at *
  generalize chgF gs xs ys = L at *
  have q0 := F_2.out.it
  go_wp2_with fail
  refine (HIM.out w2 P_2.out I_2.out J_2.out).mono ?_
  rintro e w3 ⟨v, rfl, ho, hb⟩
  obtain ⟨A3, c3, rfl, hI9⟩ := OwnI.form ho
  have P_3 := Lib.hid (P_2.out.step hb)
  clear P_2
  have I_3 := Lib.hid (I_2.out.step hb)
  clear I_2
  have J_3 := Lib.hid (J_2.out.step hb)
  clear J_2
  have B_3 := Lib.hid (B_2.out.trans (hb.mono B_2.out.size))
  clear B_2
  have F_3 := Lib.hid (F_2.out.step hb)
  clear F_2
  clear hb
  clear q0
  obtain ⟨rl, hrl2⟩ : ∃ l, l = R.length := ⟨_, rfl⟩
  have HRL := Lib.hid hrl2
  have R_3 := Lib.hid (hI9)
  clear ho hI9
  rw [← hrl2] at hml
  rw [← hrl2]
  clear hrl2
  have q0 := F_3.out.it
  go_wp2_with fail
  refine (HSP.out w3 P_3.out I_3.out J_3.out).mono ?_
  rintro e w4 ⟨v, rfl, ho, hb⟩
  obtain ⟨A4, c4, rfl, hI9⟩ := OwnI.form ho
  have P_4 := Lib.hid (P_3.out.step hb)
  clear P_3
  have I_4 := Lib.hid (I_3.out.step hb)
  clear I_3
  have J_4 := Lib.hid (J_3.out.step hb)
  clear J_3
  have B_4 := Lib.hid (B_3.out.trans (hb.mono B_3.out.size))
  clear B_3
  have F_4 := Lib.hid (F_3.out.step hb)
  clear F_3
  have R_4 := Lib.hid (R_3.out.step hb)
  clear R_3
  clear hb
  clear q0
  rw [← HRL.out]
  have HEQ := Lib.hid (laws_equalInts A3 A4 rl rl c3 c4 R R w4 w4.heap.size (Nat.le_refl _) HRL.out HRL.out R_4.out hI9 (by omega) (by omega))
  rw [show decide (R = R) = true from decide_eq_true rfl] at HEQ
  clear ho hI9
  have q0 := F_4.out.it
  go_wp2_with fail
  refine (HEQ.out).mono ?_
  rintro e w5 ⟨rfl, hb⟩
  have P_5 := Lib.hid (P_4.out.step hb)
  clear P_4
  have I_5 := Lib.hid (I_4.out.step hb)
  clear I_4
  have J_5 := Lib.hid (J_4.out.step hb)
  clear J_4
  have B_5 := Lib.hid (B_4.out.trans (hb.mono B_4.out.size))
  clear B_4
  have F_5 := Lib.hid (F_4.out.step hb)
  clear F_4
  have R_5 := Lib.hid (R_4.out.step hb)
  clear R_4
  clear hb
  clear q0
  clear HEQ
  have q0 := F_5.out.it
  go_wp2_with fail
  refine (HV1.out w5 P_5.out I_5.out).mono ?_
  rintro e w6 ⟨rfl, hb⟩
  have P_6 := Lib.hid (P_5.out.step hb)
  clear P_5
  have I_6 := Lib.hid (I_5.out.step hb)
  clear I_5
  have J_6 := Lib.hid (J_5.out.step hb)
  clear J_5
  have B_6 := Lib.hid (B_5.out.trans (hb.mono B_5.out.size))
  clear B_5
  have F_6 := Lib.hid (F_5.out.step hb)
  clear F_5
  have R_6 := Lib.hid (R_5.out.step hb)
  clear R_5
  clear hb
  clear q0
  cases v1
  · skip
    have q0 := F_6.out.it
    go_wp2_with fail
    refine (HSP.out w6 P_6.out I_6.out J_6.out).mono ?_
    rintro e w7 ⟨v, rfl, ho, hb⟩
    obtain ⟨A4, c4, rfl, hI9⟩ := OwnI.form ho
    have P_7 := Lib.hid (P_6.out.step hb)
    clear P_6
    have I_7 := Lib.hid (I_6.out.step hb)
    clear I_6
    have J_7 := Lib.hid (J_6.out.step hb)
    clear J_6
    have B_7 := Lib.hid (B_6.out.trans (hb.mono B_6.out.size))
    clear B_6
    have F_7 := Lib.hid (F_6.out.step hb)
    clear F_6
    have R_7 := Lib.hid (R_6.out.step hb)
    clear R_6
    clear hb
    clear q0
    rw [← HRL.out]
    have HEQ := Lib.hid (laws_equalInts A3 A4 rl rl c3 c4 R R w7 w7.heap.size (Nat.le_refl _) HRL.out HRL.out R_7.out hI9 (by omega) (by omega))
    rw [show decide (R = R) = true from decide_eq_true rfl] at HEQ
    clear ho hI9
    have q0 := F_7.out.it
    go_wp2_with fail
    refine (HEQ.out).mono ?_
    rintro e w8 ⟨rfl, hb⟩
    have P_8 := Lib.hid (P_7.out.step hb)
    clear P_7
    have I_8 := Lib.hid (I_7.out.step hb)
    clear I_7
    have J_8 := Lib.hid (J_7.out.step hb)
    clear J_7
    have B_8 := Lib.hid (B_7.out.trans (hb.mono B_7.out.size))
    clear B_7
    have F_8 := Lib.hid (F_7.out.step hb)
    clear F_7
    have R_8 := Lib.hid (R_7.out.step hb)
    clear R_7
    clear hb
    clear q0
    clear HEQ
    go_wp2
    go_ret
    exact ⟨rfl, B_8.out⟩
  · skip
    have q0 := F_6.out.it
    go_wp2_with fail
    refine (HV2.out w6 P_6.out J_6.out).mono ?_
    rintro e w7 ⟨rfl, hb⟩
    have P_7 := Lib.hid (P_6.out.step hb)
    clear P_6
    have I_7 := Lib.hid (I_6.out.step hb)
    clear I_6
    have J_7 := Lib.hid (J_6.out.step hb)
    clear J_6
    have B_7 := Lib.hid (B_6.out.trans (hb.mono B_6.out.size))
    clear B_6
    have F_7 := Lib.hid (F_6.out.step hb)
    clear F_6
    have R_7 := Lib.hid (R_6.out.step hb)
    clear R_6
    clear hb
    clear q0
    cases v2
    · skip
      have q0 := F_7.out.it
      go_wp2_with fail
      refine (HSP.out w7 P_7.out I_7.out J_7.out).mono ?_
      rintro e w8 ⟨v, rfl, ho, hb⟩
      obtain ⟨A4, c4, rfl, hI9⟩ := OwnI.form ho
      have P_8 := Lib.hid (P_7.out.step hb)
      clear P_7
      have I_8 := Lib.hid (I_7.out.step hb)
      clear I_7
      have J_8 := Lib.hid (J_7.out.step hb)
      clear J_7
      have B_8 := Lib.hid (B_7.out.trans (hb.mono B_7.out.size))
      clear B_7
      have F_8 := Lib.hid (F_7.out.step hb)
      clear F_7
      have R_8 := Lib.hid (R_7.out.step hb)
      clear R_7
      clear hb
      clear q0
      rw [← HRL.out]
      have HEQ := Lib.hid (laws_equalInts A3 A4 rl rl c3 c4 R R w8 w8.heap.size (Nat.le_refl _) HRL.out HRL.out R_8.out hI9 (by omega) (by omega))
      rw [show decide (R = R) = true from decide_eq_true rfl] at HEQ
      clear ho hI9
      have q0 := F_8.out.it
      go_wp2_with fail
      refine (HEQ.out).mono ?_
      rintro e w9 ⟨rfl, hb⟩
      have P_9 := Lib.hid (P_8.out.step hb)
      clear P_8
      have I_9 := Lib.hid (I_8.out.step hb)
      clear I_8
      have J_9 := Lib.hid (J_8.out.step hb)
      clear J_8
      have B_9 := Lib.hid (B_8.out.trans (hb.mono B_8.out.size))
      clear B_8
      have F_9 := Lib.hid (F_8.out.step hb)
      clear F_8
      have R_9 := Lib.hid (R_8.out.step hb)
      clear R_8
      clear hb
      clear q0
      clear HEQ
      go_wp2
      go_ret
      exact ⟨rfl, B_9.out⟩
    · have HLW := Lib.hid (HLAW.out (by first | rfl | trivial) (by first | rfl | trivial))
      clear HLAW HIM HSP HV1 HV2
      have q0 := F_7.out.it
      go_wp2_with fail
      refine (HCH.out w7 P_7.out I_7.out J_7.out).mono ?_
      rintro e w8 ⟨v, rfl, ho, hb⟩
      obtain ⟨A5, c5, rfl, hI9⟩ := OwnI.form ho
      have P_8 := Lib.hid (P_7.out.step hb)
      clear P_7
      have I_8 := Lib.hid (I_7.out.step hb)
      clear I_7
      have J_8 := Lib.hid (J_7.out.step hb)
      clear J_7
      have B_8 := Lib.hid (B_7.out.trans (hb.mono B_7.out.size))
      clear B_7
      have F_8 := Lib.hid (F_7.out.step hb)
      clear F_7
      have R_8 := Lib.hid (R_7.out.step hb)
      clear R_7
      clear hb
      clear q0
      obtain ⟨ll, hll2⟩ : ∃ l, l = L.length := ⟨_, rfl⟩
      have HLL := Lib.hid hll2
      have L_8 := Lib.hid (hI9)
      clear ho hI9 HCH
      rw [← hll2] at hcl
      rw [← hll2]
      clear hll2
      go_wp2
      go_loopw [8] (fun u wr => ∃ k : Nat, k ≤ ll ∧ u = .int .i64 k ∧ Hid (Below w8.heap.size w8 wr) ∧ w8.heap.size ≤ wr.heap.size) (fun u _ => ll - (intOf u).toNat)
      case atStart => exact ⟨0, Nat.zero_le _, rfl, Below.refl _ _, Nat.le_refl _⟩
      case round =>
        obtain ⟨k, hk, rfl, HB, hwr⟩ := hrel
        obtain ⟨w9, hwK⟩ : ∃ W, W = wr := ⟨_, rfl⟩
        rw [← hwK]
        rw [← hwK] at HB hwr
        clear hwK
        have P_9 := Lib.hid (P_8.out.step HB.out)
        have I_9 := Lib.hid (I_8.out.step HB.out)
        have J_9 := Lib.hid (J_8.out.step HB.out)
        have B_9 := Lib.hid (B_8.out.trans (HB.out.mono B_8.out.size))
        have F_9 := Lib.hid (F_8.out.step HB.out)
        have R_9 := Lib.hid (R_8.out.step HB.out)
        have L_9 := Lib.hid (L_8.out.step HB.out)
        by_cases hlt : k < ll
        · obtain ⟨i, hi, hig, hin⟩ := HLW.out k (by have := HLL.out; omega)
          obtain ⟨b2, off2, rfl, hb2, e2⟩ := L_9.out (by have := HLL.out; omega)
          have x2 := e2 k (by have := HLL.out; omega)
          rw [hi] at x2
          clear e2 hi
          obtain ⟨b, off, rfl, hbB, d0, A6, n6, c6, d1', hn6, hps⟩ := P_9.out.at_ i hig
          have hin1 : i < n1 := by have := HN1.out; omega
          clear d1' hn6 hps HASC HMM HLW
          generalize gs.getD i default = d at *
          obtain ⟨x, hx⟩ : ∃ x, x = d.k := ⟨_, rfl⟩
          rw [← hx] at d0 hin
          clear hx
          have y2 : w9.cell? ⟨b2, off2 + k, none⟩ = some (.int .i64 (i : Int)) := x2
          clear x2
          by_cases hx0 : x = 0
          · subst hx0
            clear hin
            have HQ := Lib.hid (show _ ∧ _ ∧ _ from ⟨F_9.out.it, y2, d0⟩)
            go_wp2
            refine wp_region_held_drew (S := fun w' => w'.cell? ⟨w1.heap.size, 0, none⟩ = some (.slice (some ⟨b, off, none⟩) n1 c1) ∧ w'.cell? ⟨b2, off2 + k, none⟩ = some (.int .i64 (i : Int)) ∧ w'.cell? ⟨b, off + i * 2, none⟩ = some (.int .i64 0)) (by kernel_rfl) ⟨F_9.out.it, y2, d0⟩ (fun hHeld => ?_)
            refine wpAnyH_take (i := 0) (oi := ⟨some 57, _, _, _, _, _⟩) (v := ?_) rfl (by kernel_rfl) (by kernel_rfl) (by kernel_rfl) (fun _ _ _ h => h) (Or.inl ⟨by rfl, ?_⟩) (by assumption) ?_; rotate_left; (focus (intro w hSw; (try dsimp only at hSw); go_simp; (try with_reducible rfl))); (try simp only [Act.put, List.setIfInBounds_toArray, List.set_cons_zero, List.set_cons_succ])
            refine wpAnyH_take (i := 1) (oi := ⟨some 58, _, _, _, _, _⟩) (v := ?_) rfl (by kernel_rfl) (by kernel_rfl) (by kernel_rfl) (fun _ _ _ h => h) (Or.inl ⟨by rfl, ?_⟩) (by assumption) ?_; rotate_left; (focus (intro w hSw; (try dsimp only at hSw); go_simp; (try with_reducible rfl))); (try simp only [Act.put, List.setIfInBounds_toArray, List.set_cons_zero, List.set_cons_succ])
            refine wpAnyH_take (i := 2) (oi := ⟨some 59, _, _, _, _, _⟩) (v := ?_) rfl (by kernel_rfl) (by kernel_rfl) (by kernel_rfl) (fun _ _ _ h => h) (Or.inl ⟨by rfl, ?_⟩) (by assumption) ?_; rotate_left; (focus (intro w hSw; (try dsimp only at hSw); go_simp; (try with_reducible rfl))); (try simp only [Act.put, List.setIfInBounds_toArray, List.set_cons_zero, List.set_cons_succ])
            refine wpAnyH_take (i := 3) (oi := ⟨some 60, _, _, _, _, _⟩) (v := ?_) rfl (by kernel_rfl) (by kernel_rfl) (by kernel_rfl) (fun _ _ _ h => h) (Or.inl ⟨by rfl, ?_⟩) (by assumption) ?_; rotate_left; (focus (intro w hSw; (try dsimp only at hSw); go_simp; (try with_reducible rfl))); (try simp only [Act.put, List.setIfInBounds_toArray, List.set_cons_zero, List.set_cons_succ])
            refine wpAnyH_take (i := 4) (oi := ⟨some 61, _, _, _, _, _⟩) (v := ?_) rfl (by kernel_rfl) (by kernel_rfl) (by kernel_rfl) (fun _ _ _ h => h) (Or.inl ⟨by rfl, ?_⟩) (by assumption) ?_; rotate_left; (focus (intro w hSw; (try dsimp only at hSw); go_simp; (try with_reducible rfl))); (try simp only [Act.put, List.setIfInBounds_toArray, List.set_cons_zero, List.set_cons_succ])
            refine wpAnyH_take (i := 5) (oi := ⟨some 62, _, _, _, _, _⟩) (v := ?_) rfl (by kernel_rfl) (by kernel_rfl) (by kernel_rfl) (fun _ _ _ h => h) (Or.inl ⟨by rfl, ?_⟩) (by assumption) ?_; rotate_left; (focus (intro w hSw; (try dsimp only at hSw); go_simp; (try with_reducible rfl))); (try simp only [Act.put, List.setIfInBounds_toArray, List.set_cons_zero, List.set_cons_succ])
            refine wpAnyH_take (i := 6) (oi := ⟨some 63, _, _, _, _, _⟩) (v := ?_) rfl (by kernel_rfl) (by kernel_rfl) (by kernel_rfl) (fun _ _ _ h => h) (Or.inl ⟨by rfl, ?_⟩) (by assumption) ?_; rotate_left; (focus (intro w hSw; (try dsimp only at hSw); go_simp; (try with_reducible rfl))); (try simp only [Act.put, List.setIfInBounds_toArray, List.set_cons_zero, List.set_cons_succ])
            refine wpAnyH_take (i := 7) (oi := ⟨some 64, _, _, _, _, _⟩) (v := ?_) rfl (by kernel_rfl) (by kernel_rfl) (by kernel_rfl) (fun _ _ _ h => h) (Or.inl ⟨by rfl, ?_⟩) (by assumption) ?_; rotate_left; (focus (intro w hSw; (try dsimp only at hSw); go_simp; (try with_reducible rfl))); (try simp only [Act.put, List.setIfInBounds_toArray, List.set_cons_zero, List.set_cons_succ])
            refine wpAnyH_take (i := 8) (oi := ⟨some 65, _, _, _, _, _⟩) (v := ?_) rfl (by kernel_rfl) (by kernel_rfl) (by kernel_rfl) (fun _ _ _ h => h) (Or.inl ⟨by rfl, ?_⟩) (by assumption) ?_; rotate_left; (focus (intro w hSw; (try dsimp only at hSw); go_simp; (try with_reducible rfl))); (try simp only [Act.put, List.setIfInBounds_toArray, List.set_cons_zero, List.set_cons_succ])
            refine wpAnyH_take (i := 9) (oi := ⟨some 66, _, _, _, _, _⟩) (v := ?_) rfl (by kernel_rfl) (by kernel_rfl) (by kernel_rfl) (fun _ _ _ h => h) (Or.inl ⟨by rfl, ?_⟩) (by assumption) ?_; rotate_left; (focus (intro w hSw; (try dsimp only at hSw); go_simp; (try with_reducible rfl))); (try simp only [Act.put, List.setIfInBounds_toArray, List.set_cons_zero, List.set_cons_succ])
            refine wpAnyH_take (i := 10) (oi := ⟨some 67, _, _, _, _, _⟩) (v := ?_) rfl (by kernel_rfl) (by kernel_rfl) (by kernel_rfl) (fun _ _ _ h => h) (Or.inl ⟨by rfl, ?_⟩) (by assumption) ?_; rotate_left; (focus (intro w hSw; (try dsimp only at hSw); go_simp; (try with_reducible rfl))); (try simp only [Act.put, List.setIfInBounds_toArray, List.set_cons_zero, List.set_cons_succ])
            refine wpAnyH_take (i := 11) (oi := ⟨some 68, _, _, _, _, _⟩) (v := undef) rfl (by kernel_rfl) (by kernel_rfl) (by kernel_rfl) (fun _ _ _ h => h) (Or.inr ⟨by rfl, rfl⟩) (by assumption) ?_; (try simp only [Act.put, List.setIfInBounds_toArray, List.set_cons_zero, List.set_cons_succ])
            refine wpAnyH_take (i := 12) (oi := ⟨some 69, _, _, _, _, _⟩) (v := undef) rfl (by kernel_rfl) (by kernel_rfl) (by kernel_rfl) (fun _ _ _ h => h) (Or.inr ⟨by rfl, rfl⟩) (by assumption) ?_; (try simp only [Act.put, List.setIfInBounds_toArray, List.set_cons_zero, List.set_cons_succ])
            refine wpAnyH_take (i := 13) (oi := ⟨some 70, _, _, _, _, _⟩) (v := undef) rfl (by kernel_rfl) (by kernel_rfl) (by kernel_rfl) (fun _ _ _ h => h) (Or.inr ⟨by rfl, rfl⟩) (by assumption) ?_; (try simp only [Act.put, List.setIfInBounds_toArray, List.set_cons_zero, List.set_cons_succ])
            refine wpAnyH_take (i := 14) (oi := ⟨some 71, _, _, _, _, _⟩) (v := undef) rfl (by kernel_rfl) (by kernel_rfl) (by kernel_rfl) (fun _ _ _ h => h) (Or.inr ⟨by rfl, rfl⟩) (by assumption) ?_; (try simp only [Act.put, List.setIfInBounds_toArray, List.set_cons_zero, List.set_cons_succ])
            refine wpAnyH_take (i := 15) (oi := ⟨some 72, _, _, _, _, _⟩) (v := undef) rfl (by kernel_rfl) (by kernel_rfl) (by kernel_rfl) (fun _ _ _ h => h) (Or.inr ⟨by rfl, rfl⟩) (by assumption) ?_; (try simp only [Act.put, List.setIfInBounds_toArray, List.set_cons_zero, List.set_cons_succ])
            refine wpAnyH_take (i := 16) (oi := ⟨some 73, _, _, _, _, _⟩) (v := undef) rfl (by kernel_rfl) (by kernel_rfl) (by kernel_rfl) (fun _ _ _ h => h) (Or.inr ⟨by rfl, rfl⟩) (by assumption) ?_; (try simp only [Act.put, List.setIfInBounds_toArray, List.set_cons_zero, List.set_cons_succ])
            refine wpAnyH_take (i := 17) (oi := ⟨some 74, _, _, _, _, _⟩) (v := undef) rfl (by kernel_rfl) (by kernel_rfl) (by kernel_rfl) (fun _ _ _ h => h) (Or.inr ⟨by rfl, rfl⟩) (by assumption) ?_; (try simp only [Act.put, List.setIfInBounds_toArray, List.set_cons_zero, List.set_cons_succ])
            refine wpAnyH_take (i := 18) (oi := ⟨some 75, _, _, _, _, _⟩) (v := ?_) rfl (by kernel_rfl) (by kernel_rfl) (by kernel_rfl) (fun _ _ _ h => h) (Or.inl ⟨by rfl, ?_⟩) (by assumption) ?_; rotate_left; (focus (intro w hSw; (try dsimp only at hSw); go_simp; (try with_reducible rfl))); (try simp only [Act.put, List.setIfInBounds_toArray, List.set_cons_zero, List.set_cons_succ])
            refine wpAnyH_done (by kernel_rfl) ?_ _
            go_wp2
            go_roundw
            case rel => exact ⟨k + 1, by omega, by go_num, by first | exact HB.out | exact HB.out.drew, hwr⟩
            case measure => simp [intOf]; omega
          · have hin2 : (i : Int) ∈ R := hin (by simpa using hx0)
            have hne : (x != 0) = true := by simpa using hx0
            have HIN := Lib.hid fun (w' : World) (h : IS w' w'.heap.size A3 R) => isIn_b A3 rl c3 R (i : Int) w' HRL.out h (by omega) hin2
            clear hin hin2 hx0
            go_wp2
            refine wp_region_held_drew (S := fun w' => w'.cell? ⟨w1.heap.size, 0, none⟩ = some (.slice (some ⟨b, off, none⟩) n1 c1) ∧ w'.cell? ⟨b2, off2 + k, none⟩ = some (.int .i64 (i : Int)) ∧ w'.cell? ⟨b, off + i * 2, none⟩ = some (.int .i64 x)) (by kernel_rfl) ⟨F_9.out.it, y2, d0⟩ (fun hHeld => ?_)
            refine wpAnyH_take (i := 0) (oi := ⟨some 57, _, _, _, _, _⟩) (v := ?_) rfl (by kernel_rfl) (by kernel_rfl) (by kernel_rfl) (fun _ _ _ h => h) (Or.inl ⟨by rfl, ?_⟩) (by assumption) ?_; rotate_left; (focus (intro w hSw; (try dsimp only at hSw); go_simp; (try with_reducible rfl))); (try simp only [Act.put, List.setIfInBounds_toArray, List.set_cons_zero, List.set_cons_succ])
            refine wpAnyH_take (i := 1) (oi := ⟨some 58, _, _, _, _, _⟩) (v := ?_) rfl (by kernel_rfl) (by kernel_rfl) (by kernel_rfl) (fun _ _ _ h => h) (Or.inl ⟨by rfl, ?_⟩) (by assumption) ?_; rotate_left; (focus (intro w hSw; (try dsimp only at hSw); go_simp; (try with_reducible rfl))); (try simp only [Act.put, List.setIfInBounds_toArray, List.set_cons_zero, List.set_cons_succ])
            refine wpAnyH_take (i := 2) (oi := ⟨some 59, _, _, _, _, _⟩) (v := ?_) rfl (by kernel_rfl) (by kernel_rfl) (by kernel_rfl) (fun _ _ _ h => h) (Or.inl ⟨by rfl, ?_⟩) (by assumption) ?_; rotate_left; (focus (intro w hSw; (try dsimp only at hSw); go_simp; (try with_reducible rfl))); (try simp only [Act.put, List.setIfInBounds_toArray, List.set_cons_zero, List.set_cons_succ])
            refine wpAnyH_take (i := 3) (oi := ⟨some 60, _, _, _, _, _⟩) (v := ?_) rfl (by kernel_rfl) (by kernel_rfl) (by kernel_rfl) (fun _ _ _ h => h) (Or.inl ⟨by rfl, ?_⟩) (by assumption) ?_; rotate_left; (focus (intro w hSw; (try dsimp only at hSw); go_simp; (try with_reducible rfl))); (try simp only [Act.put, List.setIfInBounds_toArray, List.set_cons_zero, List.set_cons_succ])
            refine wpAnyH_take (i := 4) (oi := ⟨some 61, _, _, _, _, _⟩) (v := ?_) rfl (by kernel_rfl) (by kernel_rfl) (by kernel_rfl) (fun _ _ _ h => h) (Or.inl ⟨by rfl, ?_⟩) (by assumption) ?_; rotate_left; (focus (intro w hSw; (try dsimp only at hSw); go_simp; (try with_reducible rfl))); (try simp only [Act.put, List.setIfInBounds_toArray, List.set_cons_zero, List.set_cons_succ])
            refine wpAnyH_take (i := 5) (oi := ⟨some 62, _, _, _, _, _⟩) (v := ?_) rfl (by kernel_rfl) (by kernel_rfl) (by kernel_rfl) (fun _ _ _ h => h) (Or.inl ⟨by rfl, ?_⟩) (by assumption) ?_; rotate_left; (focus (intro w hSw; (try dsimp only at hSw); go_simp; (try with_reducible rfl))); (try simp only [Act.put, List.setIfInBounds_toArray, List.set_cons_zero, List.set_cons_succ])
            refine wpAnyH_take (i := 6) (oi := ⟨some 63, _, _, _, _, _⟩) (v := ?_) rfl (by kernel_rfl) (by kernel_rfl) (by kernel_rfl) (fun _ _ _ h => h) (Or.inl ⟨by rfl, ?_⟩) (by assumption) ?_; rotate_left; (focus (intro w hSw; (try dsimp only at hSw); go_simp; (try with_reducible rfl))); (try simp only [Act.put, List.setIfInBounds_toArray, List.set_cons_zero, List.set_cons_succ])
            refine wpAnyH_take (i := 7) (oi := ⟨some 64, _, _, _, _, _⟩) (v := ?_) rfl (by kernel_rfl) (by kernel_rfl) (by kernel_rfl) (fun _ _ _ h => h) (Or.inl ⟨by rfl, ?_⟩) (by assumption) ?_; rotate_left; (focus (intro w hSw; (try dsimp only at hSw); go_simp; (try with_reducible rfl))); (try simp only [Act.put, List.setIfInBounds_toArray, List.set_cons_zero, List.set_cons_succ])
            refine wpAnyH_take (i := 8) (oi := ⟨some 65, _, _, _, _, _⟩) (v := ?_) rfl (by kernel_rfl) (by kernel_rfl) (by kernel_rfl) (fun _ _ _ h => h) (Or.inl ⟨by rfl, ?_⟩) (by assumption) ?_; rotate_left; (focus (intro w hSw; (try dsimp only at hSw); go_simp; (try with_reducible rfl))); (try simp only [Act.put, List.setIfInBounds_toArray, List.set_cons_zero, List.set_cons_succ])
            refine wpAnyH_take (i := 9) (oi := ⟨some 66, _, _, _, _, _⟩) (v := ?_) rfl (by kernel_rfl) (by kernel_rfl) (by kernel_rfl) (fun _ _ _ h => h) (Or.inl ⟨by rfl, ?_⟩) (by assumption) ?_; rotate_left; (focus (intro w hSw; (try dsimp only at hSw); go_simp; (try with_reducible rfl))); (try simp only [Act.put, List.setIfInBounds_toArray, List.set_cons_zero, List.set_cons_succ])
            refine wpAnyH_take (i := 10) (oi := ⟨some 67, _, _, _, _, _⟩) (v := ?_) rfl (by kernel_rfl) (by kernel_rfl) (by kernel_rfl) (fun _ _ _ h => h) (Or.inl ⟨by rfl, ?_⟩) (by assumption) ?_; rotate_left; (focus (intro w hSw; (try dsimp only at hSw); go_simp; (try with_reducible rfl))); (try simp only [Act.put, List.setIfInBounds_toArray, List.set_cons_zero, List.set_cons_succ])
            refine wpAnyH_take (i := 11) (oi := ⟨some 68, _, _, _, _, _⟩) (v := ?_) rfl (by kernel_rfl) (by kernel_rfl) (by kernel_rfl) (fun _ _ _ h => h) (Or.inl ⟨by rfl, ?_⟩) (by assumption) ?_; rotate_left; (focus (intro w hSw; (try dsimp only at hSw); go_simp; (try with_reducible rfl))); (try simp only [Act.put, List.setIfInBounds_toArray, List.set_cons_zero, List.set_cons_succ])
            refine wpAnyH_take (i := 12) (oi := ⟨some 69, _, _, _, _, _⟩) (v := ?_) rfl (by kernel_rfl) (by kernel_rfl) (by kernel_rfl) (fun _ _ _ h => h) (Or.inl ⟨by rfl, ?_⟩) (by assumption) ?_; rotate_left; (focus (intro w hSw; (try dsimp only at hSw); go_simp; (try with_reducible rfl))); (try simp only [Act.put, List.setIfInBounds_toArray, List.set_cons_zero, List.set_cons_succ])
            refine wpAnyH_take (i := 13) (oi := ⟨some 70, _, _, _, _, _⟩) (v := ?_) rfl (by kernel_rfl) (by kernel_rfl) (by kernel_rfl) (fun _ _ _ h => h) (Or.inl ⟨by rfl, ?_⟩) (by assumption) ?_; rotate_left; (focus (intro w hSw; (try dsimp only at hSw); go_simp; (try with_reducible rfl))); (try simp only [Act.put, List.setIfInBounds_toArray, List.set_cons_zero, List.set_cons_succ])
            refine wpAnyH_take (i := 14) (oi := ⟨some 71, _, _, _, _, _⟩) (v := ?_) rfl (by kernel_rfl) (by kernel_rfl) (by kernel_rfl) (fun _ _ _ h => h) (Or.inl ⟨by rfl, ?_⟩) (by assumption) ?_; rotate_left; (focus (intro w hSw; (try dsimp only at hSw); go_simp; (try with_reducible rfl))); (try simp only [Act.put, List.setIfInBounds_toArray, List.set_cons_zero, List.set_cons_succ])
            refine wpAnyH_take (i := 15) (oi := ⟨some 72, _, _, _, _, _⟩) (v := ?_) rfl (by kernel_rfl) (by kernel_rfl) (by kernel_rfl) (fun _ _ _ h => h) (Or.inl ⟨by rfl, ?_⟩) (by assumption) ?_; rotate_left; (focus (intro w hSw; (try dsimp only at hSw); go_simp; (try with_reducible rfl))); (try simp only [Act.put, List.setIfInBounds_toArray, List.set_cons_zero, List.set_cons_succ])
            refine wpAnyH_ready (rs := [16]) (by kernel_rfl) (by simp) ?_; refine AllReadyH.cons (o := ⟨some 73, _, _, _, _, _⟩) rfl (fun K hK => ?_) AllReadyH.nil; go_simp
            go_at_call 30
            refine (HIN.out w9.drew R_9.out).mono ?_
            rintro e w10 ⟨rfl, hb'⟩
            have hb : Below w9.heap.size w9 w10 := below_of_drew hb'
            have h7 : Below w9.heap.size w9 w10 := below_of_drew hb'
            have P_10 := Lib.hid (P_9.out.step hb)
            clear P_9
            have I_10 := Lib.hid (I_9.out.step hb)
            clear I_9
            have J_10 := Lib.hid (J_9.out.step hb)
            clear J_9
            have B_10 := Lib.hid (B_9.out.trans (hb.mono B_9.out.size))
            clear B_9
            have F_10 := Lib.hid (F_9.out.step hb)
            clear F_9
            have R_10 := Lib.hid (R_9.out.step hb)
            clear R_9
            have L_10 := Lib.hid (L_9.out.step hb)
            clear L_9
            clear hb hb'
            refine hK.out _ _ ⟨F_10.out.it, (h7.cell (p := ⟨b2, off2 + k, none⟩) hb2).trans y2, (h7.cell (p := ⟨b, off + i * 2, none⟩) hbB).trans d0⟩ (fun hHeld => ?_); clear hK K; (try simp only [Act.put, List.setIfInBounds_toArray, List.set_cons_zero, List.set_cons_succ])
            refine wpAnyH_take (i := 17) (oi := ⟨some 74, _, _, _, _, _⟩) (v := ?_) rfl (by kernel_rfl) (by kernel_rfl) (by kernel_rfl) (fun _ _ _ h => h) (Or.inl ⟨by rfl, ?_⟩) (by assumption) ?_; rotate_left; (focus (intro w hSw; (try dsimp only at hSw); go_simp; (try with_reducible rfl))); (try simp only [Act.put, List.setIfInBounds_toArray, List.set_cons_zero, List.set_cons_succ])
            refine wpAnyH_take (i := 18) (oi := ⟨some 75, _, _, _, _, _⟩) (v := ?_) rfl (by kernel_rfl) (by kernel_rfl) (by kernel_rfl) (fun _ _ _ h => h) (Or.inl ⟨by rfl, ?_⟩) (by assumption) ?_; rotate_left; (focus (intro w hSw; (try dsimp only at hSw); go_simp; (try with_reducible rfl))); (try simp only [Act.put, List.setIfInBounds_toArray, List.set_cons_zero, List.set_cons_succ])
            refine wpAnyH_done (by kernel_rfl) ?_ _
            go_wp2
            go_roundw
            case rel => exact ⟨k + 1, by omega, by go_num, HB.out.trans (h7.mono hwr), by have := h7.size; omega⟩
            case measure => simp [intOf]; omega
        · skip
          have HAS := Lib.hid fun (w' : World) (h : IS w' w'.heap.size A3 R) => laws_ascends A3 rl c3 R w' _ (Nat.le_refl _) HRL.out h (by omega) HASC.out
          have q0 := F_9.out.it
          go_wp2_with fail
          refine (HAS.out w9 R_9.out).mono ?_
          rintro e w10 ⟨rfl, hb⟩
          have P_10 := Lib.hid (P_9.out.step hb)
          clear P_9
          have I_10 := Lib.hid (I_9.out.step hb)
          clear I_9
          have J_10 := Lib.hid (J_9.out.step hb)
          clear J_9
          have B_10 := Lib.hid (B_9.out.trans (hb.mono B_9.out.size))
          clear B_9
          have F_10 := Lib.hid (F_9.out.step hb)
          clear F_9
          have R_10 := Lib.hid (R_9.out.step hb)
          clear R_9
          have L_10 := Lib.hid (L_9.out.step hb)
          clear L_9
          clear hb
          clear q0
          have q0 := F_10.out.it
          go_wp2_with fail
          refine (HMM.out w10 P_10.out I_10.out).mono ?_
          rintro e w11 ⟨v, rfl, ho, hb⟩
          obtain ⟨A8, c8, rfl, hI9⟩ := OwnI.form ho
          have P_11 := Lib.hid (P_10.out.step hb)
          clear P_10
          have I_11 := Lib.hid (I_10.out.step hb)
          clear I_10
          have J_11 := Lib.hid (J_10.out.step hb)
          clear J_10
          have B_11 := Lib.hid (B_10.out.trans (hb.mono B_10.out.size))
          clear B_10
          have F_11 := Lib.hid (F_10.out.step hb)
          clear F_10
          have R_11 := Lib.hid (R_10.out.step hb)
          clear R_10
          have L_11 := Lib.hid (L_10.out.step hb)
          clear L_10
          clear hb
          clear q0
          rw [List.length_nil]
          go_wp2
          go_ret
          exact ⟨rfl, B_11.out⟩
end Go.Proofs.Ytgclikdienlhdaa


namespace Go.Proofs.Ytgclikdienlhdaa
set_option linter.unusedSimpArgs false
set_option linter.unusedVariables false
open Go.ChangeShapes Go.WideShapes Go.ChangeAt Go.RowKit

set_option maxRecDepth 100000 in
theorem plifted_MustRun (os : Os) (started : os.Started) (H : Type) (enc : TypeId × Value → H) :
    ReturnsInHanded {} Try.checked os 7 .any (Rows.fnMustRunSpec.pre6 enc Try.prog Try.f7 Rows.fnMustRunRow.domain false) (Rows.fnMustRunSpec.post enc Try.prog Try.f7 false true false false) := by
  refine returnsInHanded_of_change (C := Try.checked) own started (by kernel_rfl) Try.func7
    (ChangeSpec.witness6 (enc := enc) (C := Try.checked) false ⟨#[], #[.slice none 0 0], []⟩ 8 (by kernel_rfl) (by kernel_rfl) (by kernel_rfl) (by kernel_rfl)) ?_
  intro W base args ds gs before hval0 hW hcnd _
  have hval : ∀ (j : Nat) t v, Try.f7.params[j]? = some t → args[j]? = some v → Value.okWide Try.prog W .any base t v := hval0
  have hW' := hW
  obtain ⟨p, q, hA0, hV, rfl, hfz, hnd⟩ := hW
  have hA : DataW.TrodAll enc Try.prog W 0 (fun _ => true) true Try.f7.params.toList args.toList ds p := hA0
  rw [Try.params7] at hA hval
  obtain ⟨v0, vs0, d0, ds0, p0, q0, hargs, rfl, rfl, h0, r0⟩ := trodAll_cons hA
  obtain ⟨rfl, rfl, rfl⟩ := trodAll_nil r0
  obtain rfl : args = #[v0] := by cases args; simp_all
  obtain ⟨rfl, rfl⟩ := trodVars_none hV
  have k0 := h0
  have lt0 : ∀ x ∈ p0, x.block < W.heap.size := by obtain ⟨m, hm⟩ := k0; exact DataW.trod_lt m _ _ _ hm
  obtain ⟨A, n, c, bs, rfl, hn, hnc, hm, hy, hbs⟩ := open_code (hval 0 22 v0 rfl rfl) h0
  clear hA0 hval0
  refine (plaw_MustRun A n c bs W hn hnc hbs hy hm).mono fun e W' ⟨he, bel⟩ => ?_
  subst he
  exact ⟨_, rfl, _, _, _, [], _, [], hW', trodAll_mk1 (shut_bool Try.underlying4 _), (trodAll_cons_mk (Below.trod laidOut (by kernel_rfl) (of_decide_eq_true (by kernel_rfl)) k0 bel lt0) trodAll_mk0), rfl, bel.frame _, fun h => by cases h⟩

theorem pproved_MustRun : Rows.FnMustRunSaid :=
  OpenClaim.holds_of_wide 7 Try.f7 rfl rfl rfl rfl rfl rfl rfl ⟨rfl, rfl, rfl, rfl, rfl⟩ rfl rfl rfl rfl rfl (by kernel_rfl) Try.func7 (by kernel_rfl)
    (of_decide_eq_true (by kernel_rfl)) (by unfold Func.isWrapper; first | (rw [if_pos (by decide +kernel)]; kernel_rfl) | (rw [if_neg (by decide +kernel)]; exact ⟨rfl, rfl⟩))
    (fun os started H enc _ => plifted_MustRun os started H enc)
#print axioms pproved_MustRun
end Go.Proofs.Ytgclikdienlhdaa
