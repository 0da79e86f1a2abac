/- The drawing of owners: goodOwners, someOwners, ownerOf. (Made by d20.py.) -/
import Derived.Test.YtjhpknnhgbdkiaaM37
import Derived.Test.YtjhpknnhgbdkiaaP5a

namespace Go.Proofs.Ytjhpknnhgbdkiaa
set_option linter.unusedSimpArgs false
set_option linter.unusedVariables false
open Go.RowKit

theorem own_ncapP {lo hi n c : Nat} {A : Option Addr} {ds : List On} {w : World} (h : OwO lo hi (.slice A n c) n ds w) : n ≤ c := by
  obtain ⟨_, xs, us, h1, _⟩ := h
  rcases h1.1.2 with ⟨hv, hz⟩ | ⟨g, cap, cur, hv, _, _, h2, _⟩
  · omega
  · simp only [Value.slice.injEq] at hv
    obtain ⟨_, _, rfl⟩ := hv
    exact h2

/-- While owners are drawn. -/
structure OG (g : Nat) (A : Option Addr) (n c : Nat) (bs : List Int) (w0 : World) (v : Value) (l : Nat) (ds : List On) (P : Nat) (w : World) : Prop where
  gw : g < w0.heap.size
  rd : Rdr g A n c bs P w
  fr : Frd g w0.heap.size w0 w
  row : OwO w0.heap.size w.heap.size v l ds w
  va : validO ds = true
section
variable {g n c l P P' : Nat} {A : Option Addr} {bs : List Int} {v v' : Value} {ds ds' : List On} {w0 w w' : World}
theorem OG.pick (h : OG g A n c bs w0 v l ds P w) (hr : Rdr g A n c bs P' w') (ht : Tch g (g + 1) w w') : OG g A n c bs w0 v l ds P' w' :=
  ⟨h.gw, hr, h.fr.trans (Frd.of_tch ht h.fr.size), (h.row.keep fun k hk hk' => ht.block k hk' (.inr (by have := h.gw; omega))).mono (Nat.le_refl _) ht.size, h.va⟩
theorem OG.below (h : OG g A n c bs w0 v l ds P w) (hb : Below w.heap.size w w') : OG g A n c bs w0 v l ds P w' :=
  ⟨h.gw, h.rd.step hb, h.fr.trans (Frd.of_below hb h.fr.size), (h.row.step hb (Nat.le_refl _)).mono (Nat.le_refl _) hb.size, h.va⟩
theorem OG.alloc (h : OG g A n c bs w0 v l ds P w) (o : Obj) : OG g A n c bs w0 v l ds P (w.alloc o) := h.below (below_new w o)
theorem OG.new (h : OG g A n c bs w0 v l ds P w) (ho : OwO w.heap.size w'.heap.size v' ds'.length ds' w') (hb : Below w.heap.size w w') (hv : validO ds' = true) : OG g A n c bs w0 v' ds'.length ds' P w' :=
  ⟨h.gw, h.rd.step hb, h.fr.trans (Frd.of_below hb h.fr.size), ho.mono h.fr.size (Nat.le_refl _), hv⟩
theorem OG.mono (h : OG g A n c bs w0 v l ds P w) (hP : P ≤ P') : OG g A n c bs w0 v l ds P' w := ⟨h.gw, h.rd.mono hP, h.fr, h.row, h.va⟩
theorem OG.len (h : OG g A n c bs w0 v l ds P w) : l = ds.length := h.row.1
theorem OG.len1 (h : OG g A n c bs w0 v l ds P w) : 1 ≤ l ∧ l ≤ 12 := by
  have := h.row.1
  have := (validO_iff ds).1 h.va
  omega
theorem OG.ob (h : OG g A n c bs w0 v l ds P w) : OB ds := (SameP.refl ds).small h.va
theorem OG.os {B : Option Addr} {m : Nat} (h : OG g A n c bs w0 (.slice B l m) l ds P w) : OS w w.heap.size B ds := h.row.owners
end
/-- Returns valid owners in fresh blocks; the reader goes on. -/
def GoP (g : Nat) (A : Option Addr) (n c : Nat) (bs : List Int) (Q : Nat) (w : World) (e : Ending) (w' : World) : Prop :=
  ∃ (B : Option Addr) (l m : Nat) (ds : List On), e = .returned (.slice B l m) ∧ OG g A n c bs w (.slice B l m) l ds Q w'

set_option maxRecDepth 100000 in
set_option maxHeartbeats 12800000 in
theorem goodOwners_any (g : Nat) (A : Option Addr) (n c : Nat) (bs : List Int) (P : Nat) (w : World) (h : Rdr g A n c bs P w) (hn : n = bs.length) (hby : BY bs) (hs : n ≤ 2000) (hP : P ≤ 400000) :
    Calls Try.prog 57 #[.pointer (some ⟨g, 0, none⟩)] w fun e w' => GoP g A n c bs (P + 60) w e w' := by
  have hgw := h.lt
  have HN := Lib.hid hn
  have HR := Lib.hid h
  clear h hn
  go_enter Try.func57, Try.ntmps57
  go_wp2_with fail
  refine (pick_any g A n c bs P 10 w HR.out HN.out hby hs (by omega) (by omega)).mono ?_
  rintro e w1 ⟨x, rfl, hx, _, hr1, ht1⟩
  have hx10 : (x : Int) < 10 := hx (by omega)
  have HR1 := Lib.hid (hr1.alloc (.cells #[.int .i64 (-1), .int .i64 (x : Int), .int .i64 (-1)] 3))
  have HF1 := Lib.hid ((Frd.of_tch (s := w.heap.size) ht1 (Nat.le_refl _)).trans (Frd.of_below (below_new w1 (.cells #[.int .i64 (-1), .int .i64 (x : Int), .int .i64 (-1)] 3)) ht1.size))
  have hIS : IS (w1.alloc (.cells #[.int .i64 (-1), .int .i64 (x : Int), .int .i64 (-1)] 3)) (w1.alloc (.cells #[.int .i64 (-1), .int .i64 (x : Int), .int .i64 (-1)] 3)).heap.size (some ⟨w1.heap.size, 0, none⟩) [-1, (x : Int), -1] := fun _ => ⟨_, _, rfl, by simp, fun j hj => by
    have : j = 0 ∨ j = 1 ∨ j = 2 := by simp at hj; omega
    rcases this with rfl | rfl | rfl <;> go_simp⟩
  have hcx : ctxOK [-1, (x : Int), -1] = true := by
    unfold ctxOK allR
    simp only [List.length_cons, List.length_nil, List.all_cons, List.all_nil, Bool.and_true]
    rw [(rng_iff (-1) (-1) 50).2 (by omega), (rng_iff (x : Int) (-1) 50).2 (by omega)]; rfl
  have HV := Lib.hid (valid_new hcx)
  have HNW := Lib.hid (top_spec_NewOwners [-1, (x : Int), -1] (by simp) (some ⟨w1.heap.size, 0, none⟩) 3 3 _ rfl hIS)
  generalize newF [-1, (x : Int), -1] = ds0 at *
  clear hx hr1 ht1 hIS hcx HR
  go_wp2_with fail
  refine HNW.out.mono ?_
  rintro e w2 ⟨v2, rfl, ho2, hb2⟩
  obtain ⟨A2, c2, rfl⟩ := ho2.form
  have HG2 : Hid (OG g A n c bs w (.slice A2 ds0.length c2) ds0.length ds0 (P + 1) w2) := ⟨hgw, HR1.out.step hb2, HF1.out.trans (Frd.of_below hb2 HF1.out.size), ho2.mono HF1.out.size (Nat.le_refl _), HV.out⟩
  clear ho2 hb2 HNW HR1 HF1 HV
  have HG3 := Lib.hid (HG2.out.alloc (.cells #[.int .i64 8, .int .i64 10, .int .i64 6, .int .i64 14, .int .i64 3, .int .i64 0] 3))
  have hg2 : g < w2.heap.size := HG2.out.rd.lt
  clear HG2
  go_wp2_with fail
  refine (one_any g A n c bs (P + 1) w2.heap.size 0 6 6 [8, 10, 6, 14, 3, 0] _ HG3.out.rd HN.out hby hs (by omega) rfl (by omega) (by omega) ?_ (by omega) (by simp)).mono ?_
  · intro j hj
    have : j = 0 ∨ j = 1 ∨ j = 2 ∨ j = 3 ∨ j = 4 ∨ j = 5 := by omega
    rcases this with rfl | rfl | rfl | rfl | rfl | rfl <;> go_simp
  rintro e w4 ⟨x4, rfl, hxm, hr4, ht4⟩
  obtain ⟨N, rfl, hN14⟩ : ∃ N : Nat, x4 = (N : Int) ∧ N ≤ 14 := by
    simp only [List.mem_cons, List.not_mem_nil, or_false] at hxm
    exact ⟨x4.toNat, by omega, by omega⟩
  have HG4 := Lib.hid (HG3.out.pick hr4 ht4)
  obtain ⟨l0, hl0⟩ : ∃ l0, l0 = ds0.length := ⟨_, rfl⟩
  rw [← hl0] at HG4
  rw [← hl0]
  clear hxm hr4 ht4 HG3 hl0
  go_wp2
  go_loopw [3, 4] (fun v u wr => ∃ (i m l : Nat) (ds : List On) (B : Option Addr) (cb : Nat), i + m = N ∧ u = .int .i64 m ∧ v = .slice B l cb ∧ Hid (OG g A n c bs w (.slice B l cb) l ds (P + 2 + 4 * i) wr)) (fun _ u _ => (intOf u).toNat)
  case atStart => exact ⟨0, N, l0, ds0, A2, c2, by omega, rfl, rfl, HG4.out⟩
  case round =>
    obtain ⟨i, m, l, ds, B, cb, him, rfl, rfl, HG⟩ := hrel
    clear HG4
    by_cases hm : 0 < m
    case neg =>
      have HK : Hid (GoP g A n c bs (P + 60) w (.returned (.slice B l cb)) wr) := ⟨B, l, cb, ds, rfl, HG.out.mono (by omega)⟩
      clear HG
      go_wp2
      go_ret
      exact HK.out
    obtain ⟨hl1, hl12⟩ := HG.out.len1
    go_wp2_with fail
    refine (pick_any g A n c bs (P + 2 + 4 * i) (l : Int) wr HG.out.rd HN.out hby hs (by omega) (by omega)).mono ?_
    rintro e w5 ⟨k, rfl, hk, _, hr5, ht5⟩
    have hkl : k < l := by have := hk (by omega); omega
    have HG5 := Lib.hid (HG.out.pick hr5 ht5)
    clear hk hr5 ht5 HG
    go_wp2_with fail
    refine (pick_any g A n c bs (P + 2 + 4 * i + 1) 8 w5 HG5.out.rd HN.out hby hs (by omega) (by omega)).mono ?_
    rintro e w6 ⟨x6, rfl, hx6, _, hr6, ht6⟩
    have HG6 := Lib.hid (HG5.out.pick hr6 ht6)
    have hx68 : x6 < 8 := by have := hx6 (by omega); omega
    clear hx6 hr6 ht6 HG5
    have hcase : x6 = 0 ∨ x6 = 1 ∨ x6 = 2 ∨ x6 = 3 ∨ x6 = 4 ∨ x6 = 5 ∨ x6 = 6 ∨ x6 = 7 := by omega
    clear hx68
    rcases hcase with rfl | rfl | rfl | rfl | rfl | rfl | rfl | rfl
    · skip
      have HC := Lib.hid (top_spec_OpenUnder ds (k : Int) HG6.out.ob B l cb w6 HG6.out.len (own_ncapP HG6.out.row) HG6.out.os)
      have HVV := Lib.hid fun (h : openB ds (k : Int) = true) => (by obtain ⟨e1, e2⟩ := valid_open h; rw [e1]; exact e2 : validO (openF ds (k : Int)) = true)
      generalize openF ds (k : Int) = F at *
      generalize openB ds (k : Int) = b at *
      go_wp2_with fail
      refine HC.out.mono ?_
      rintro e w9 ⟨v9, rfl, ho9, hb9⟩
      obtain ⟨A9, c9, rfl⟩ := ho9.form
      clear HC
      cases b
      · have HG9 := Lib.hid (HG6.out.below hb9)
        clear ho9 hb9 HG6 HVV
        go_wp2
        go_roundw
        case rel => exact ⟨i + 1, m - 1, l, ds, B, cb, by omega, by go_num, rfl, HG9.out.mono (by omega)⟩
        case measure => simp [intOf]; omega
      · have HG9 := Lib.hid (HG6.out.new ho9 hb9 (HVV.out rfl))
        obtain ⟨l9, hl9⟩ : ∃ l9, l9 = F.length := ⟨_, rfl⟩
        rw [← hl9] at HG9
        rw [← hl9]
        clear ho9 hb9 HG6 HVV hl9
        go_wp2
        go_roundw
        case rel => exact ⟨i + 1, m - 1, l9, F, A9, c9, by omega, by go_num, rfl, HG9.out.mono (by omega)⟩
        case measure => simp [intOf]; omega
    · skip
      have HC := Lib.hid (top_spec_OpenUnder ds (k : Int) HG6.out.ob B l cb w6 HG6.out.len (own_ncapP HG6.out.row) HG6.out.os)
      have HVV := Lib.hid fun (h : openB ds (k : Int) = true) => (by obtain ⟨e1, e2⟩ := valid_open h; rw [e1]; exact e2 : validO (openF ds (k : Int)) = true)
      generalize openF ds (k : Int) = F at *
      generalize openB ds (k : Int) = b at *
      go_wp2_with fail
      refine HC.out.mono ?_
      rintro e w9 ⟨v9, rfl, ho9, hb9⟩
      obtain ⟨A9, c9, rfl⟩ := ho9.form
      clear HC
      cases b
      · have HG9 := Lib.hid (HG6.out.below hb9)
        clear ho9 hb9 HG6 HVV
        go_wp2
        go_roundw
        case rel => exact ⟨i + 1, m - 1, l, ds, B, cb, by omega, by go_num, rfl, HG9.out.mono (by omega)⟩
        case measure => simp [intOf]; omega
      · have HG9 := Lib.hid (HG6.out.new ho9 hb9 (HVV.out rfl))
        obtain ⟨l9, hl9⟩ : ∃ l9, l9 = F.length := ⟨_, rfl⟩
        rw [← hl9] at HG9
        rw [← hl9]
        clear ho9 hb9 HG6 HVV hl9
        go_wp2
        go_roundw
        case rel => exact ⟨i + 1, m - 1, l9, F, A9, c9, by omega, by go_num, rfl, HG9.out.mono (by omega)⟩
        case measure => simp [intOf]; omega
    · skip
      have HC := Lib.hid (top_spec_OpenUnder ds (k : Int) HG6.out.ob B l cb w6 HG6.out.len (own_ncapP HG6.out.row) HG6.out.os)
      have HVV := Lib.hid fun (h : openB ds (k : Int) = true) => (by obtain ⟨e1, e2⟩ := valid_open h; rw [e1]; exact e2 : validO (openF ds (k : Int)) = true)
      generalize openF ds (k : Int) = F at *
      generalize openB ds (k : Int) = b at *
      go_wp2_with fail
      refine HC.out.mono ?_
      rintro e w9 ⟨v9, rfl, ho9, hb9⟩
      obtain ⟨A9, c9, rfl⟩ := ho9.form
      clear HC
      cases b
      · have HG9 := Lib.hid (HG6.out.below hb9)
        clear ho9 hb9 HG6 HVV
        go_wp2
        go_roundw
        case rel => exact ⟨i + 1, m - 1, l, ds, B, cb, by omega, by go_num, rfl, HG9.out.mono (by omega)⟩
        case measure => simp [intOf]; omega
      · have HG9 := Lib.hid (HG6.out.new ho9 hb9 (HVV.out rfl))
        obtain ⟨l9, hl9⟩ : ∃ l9, l9 = F.length := ⟨_, rfl⟩
        rw [← hl9] at HG9
        rw [← hl9]
        clear ho9 hb9 HG6 HVV hl9
        go_wp2
        go_roundw
        case rel => exact ⟨i + 1, m - 1, l9, F, A9, c9, by omega, by go_num, rfl, HG9.out.mono (by omega)⟩
        case measure => simp [intOf]; omega
    · skip
      go_wp2_with fail
      refine (pick_any g A n c bs (P + 2 + 4 * i + 1 + 1) 50 w6 HG6.out.rd HN.out hby hs (by omega) (by omega)).mono ?_
      rintro e w7 ⟨x7, rfl, _, _, hr7, ht7⟩
      have HG7 := Lib.hid (HG6.out.pick hr7 ht7)
      clear hr7 ht7 HG6
      have HC := Lib.hid (top_spec_AddCleanup ds (k : Int) (x7 : Int) HG7.out.ob B l cb w7 HG7.out.len (own_ncapP HG7.out.row) HG7.out.os)
      have HVV := Lib.hid fun (h : addB ds (k : Int) (x7 : Int) = true) => (by obtain ⟨k, e0, _, e1, e2⟩ := valid_add h; rw [e1]; exact e2 : validO (addF ds (k : Int) (x7 : Int)) = true)
      generalize addF ds (k : Int) (x7 : Int) = F at *
      generalize addB ds (k : Int) (x7 : Int) = b at *
      go_wp2_with fail
      refine HC.out.mono ?_
      rintro e w9 ⟨v9, rfl, ho9, hb9⟩
      obtain ⟨A9, c9, rfl⟩ := ho9.form
      clear HC
      cases b
      · have HG9 := Lib.hid (HG7.out.below hb9)
        clear ho9 hb9 HG7 HVV
        go_wp2
        go_roundw
        case rel => exact ⟨i + 1, m - 1, l, ds, B, cb, by omega, by go_num, rfl, HG9.out.mono (by omega)⟩
        case measure => simp [intOf]; omega
      · have HG9 := Lib.hid (HG7.out.new ho9 hb9 (HVV.out rfl))
        obtain ⟨l9, hl9⟩ : ∃ l9, l9 = F.length := ⟨_, rfl⟩
        rw [← hl9] at HG9
        rw [← hl9]
        clear ho9 hb9 HG7 HVV hl9
        go_wp2
        go_roundw
        case rel => exact ⟨i + 1, m - 1, l9, F, A9, c9, by omega, by go_num, rfl, HG9.out.mono (by omega)⟩
        case measure => simp [intOf]; omega
    · skip
      go_wp2_with fail
      refine (pick_any g A n c bs (P + 2 + 4 * i + 1 + 1) 50 w6 HG6.out.rd HN.out hby hs (by omega) (by omega)).mono ?_
      rintro e w7 ⟨x7, rfl, _, _, hr7, ht7⟩
      have HG7 := Lib.hid (HG6.out.pick hr7 ht7)
      clear hr7 ht7 HG6
      have HC := Lib.hid (top_spec_AddCleanup ds (k : Int) (x7 : Int) HG7.out.ob B l cb w7 HG7.out.len (own_ncapP HG7.out.row) HG7.out.os)
      have HVV := Lib.hid fun (h : addB ds (k : Int) (x7 : Int) = true) => (by obtain ⟨k, e0, _, e1, e2⟩ := valid_add h; rw [e1]; exact e2 : validO (addF ds (k : Int) (x7 : Int)) = true)
      generalize addF ds (k : Int) (x7 : Int) = F at *
      generalize addB ds (k : Int) (x7 : Int) = b at *
      go_wp2_with fail
      refine HC.out.mono ?_
      rintro e w9 ⟨v9, rfl, ho9, hb9⟩
      obtain ⟨A9, c9, rfl⟩ := ho9.form
      clear HC
      cases b
      · have HG9 := Lib.hid (HG7.out.below hb9)
        clear ho9 hb9 HG7 HVV
        go_wp2
        go_roundw
        case rel => exact ⟨i + 1, m - 1, l, ds, B, cb, by omega, by go_num, rfl, HG9.out.mono (by omega)⟩
        case measure => simp [intOf]; omega
      · have HG9 := Lib.hid (HG7.out.new ho9 hb9 (HVV.out rfl))
        obtain ⟨l9, hl9⟩ : ∃ l9, l9 = F.length := ⟨_, rfl⟩
        rw [← hl9] at HG9
        rw [← hl9]
        clear ho9 hb9 HG7 HVV hl9
        go_wp2
        go_roundw
        case rel => exact ⟨i + 1, m - 1, l9, F, A9, c9, by omega, by go_num, rfl, HG9.out.mono (by omega)⟩
        case measure => simp [intOf]; omega
    · skip
      go_wp2_with fail
      refine (pick_any g A n c bs (P + 2 + 4 * i + 1 + 1) 50 w6 HG6.out.rd HN.out hby hs (by omega) (by omega)).mono ?_
      rintro e w7 ⟨x7, rfl, _, _, hr7, ht7⟩
      have HG7 := Lib.hid (HG6.out.pick hr7 ht7)
      clear hr7 ht7 HG6
      have HC := Lib.hid (top_spec_AddCleanup ds (k : Int) (x7 : Int) HG7.out.ob B l cb w7 HG7.out.len (own_ncapP HG7.out.row) HG7.out.os)
      have HVV := Lib.hid fun (h : addB ds (k : Int) (x7 : Int) = true) => (by obtain ⟨k, e0, _, e1, e2⟩ := valid_add h; rw [e1]; exact e2 : validO (addF ds (k : Int) (x7 : Int)) = true)
      generalize addF ds (k : Int) (x7 : Int) = F at *
      generalize addB ds (k : Int) (x7 : Int) = b at *
      go_wp2_with fail
      refine HC.out.mono ?_
      rintro e w9 ⟨v9, rfl, ho9, hb9⟩
      obtain ⟨A9, c9, rfl⟩ := ho9.form
      clear HC
      cases b
      · have HG9 := Lib.hid (HG7.out.below hb9)
        clear ho9 hb9 HG7 HVV
        go_wp2
        go_roundw
        case rel => exact ⟨i + 1, m - 1, l, ds, B, cb, by omega, by go_num, rfl, HG9.out.mono (by omega)⟩
        case measure => simp [intOf]; omega
      · have HG9 := Lib.hid (HG7.out.new ho9 hb9 (HVV.out rfl))
        obtain ⟨l9, hl9⟩ : ∃ l9, l9 = F.length := ⟨_, rfl⟩
        rw [← hl9] at HG9
        rw [← hl9]
        clear ho9 hb9 HG7 HVV hl9
        go_wp2
        go_roundw
        case rel => exact ⟨i + 1, m - 1, l9, F, A9, c9, by omega, by go_num, rfl, HG9.out.mono (by omega)⟩
        case measure => simp [intOf]; omega
    · skip
      go_wp2_with fail
      refine (pick_any g A n c bs (P + 2 + 4 * i + 1 + 1) 3 w6 HG6.out.rd HN.out hby hs (by omega) (by omega)).mono ?_
      rintro e w7 ⟨x7, rfl, _, _, hr7, ht7⟩
      have HG7 := Lib.hid (HG6.out.pick hr7 ht7)
      clear hr7 ht7 HG6
      go_wp2_with fail
      refine (pick_any g A n c bs (P + 2 + 4 * i + 1 + 1 + 1) 50 w7 HG7.out.rd HN.out hby hs (by omega) (by omega)).mono ?_
      rintro e w8 ⟨x8, rfl, _, _, hr8, ht8⟩
      have HG8 := Lib.hid (HG7.out.pick hr8 ht8)
      clear hr8 ht8 HG7
      have HC := Lib.hid (top_spec_SetContext ds (k : Int) (x7 : Int) (x8 : Int) HG8.out.ob B l cb w8 HG8.out.len (own_ncapP HG8.out.row) HG8.out.os)
      have HVV := Lib.hid fun (h : ctxB ds (k : Int) (x7 : Int) (x8 : Int) = true) => (by obtain ⟨_, _, _, _, _, _, _, _, _, _, e1, e2⟩ := valid_ctx h; rw [e1]; exact e2 : validO (ctxF ds (k : Int) (x7 : Int) (x8 : Int)) = true)
      generalize ctxF ds (k : Int) (x7 : Int) (x8 : Int) = F at *
      generalize ctxB ds (k : Int) (x7 : Int) (x8 : Int) = b at *
      go_wp2_with fail
      refine HC.out.mono ?_
      rintro e w9 ⟨v9, rfl, ho9, hb9⟩
      obtain ⟨A9, c9, rfl⟩ := ho9.form
      clear HC
      cases b
      · have HG9 := Lib.hid (HG8.out.below hb9)
        clear ho9 hb9 HG8 HVV
        go_wp2
        go_roundw
        case rel => exact ⟨i + 1, m - 1, l, ds, B, cb, by omega, by go_num, rfl, HG9.out.mono (by omega)⟩
        case measure => simp [intOf]; omega
      · have HG9 := Lib.hid (HG8.out.new ho9 hb9 (HVV.out rfl))
        obtain ⟨l9, hl9⟩ : ∃ l9, l9 = F.length := ⟨_, rfl⟩
        rw [← hl9] at HG9
        rw [← hl9]
        clear ho9 hb9 HG8 HVV hl9
        go_wp2
        go_roundw
        case rel => exact ⟨i + 1, m - 1, l9, F, A9, c9, by omega, by go_num, rfl, HG9.out.mono (by omega)⟩
        case measure => simp [intOf]; omega
    · skip
      have HIO := Lib.hid (spec_isOpen B l cb ds (k : Int) w6 w6.heap.size (Nat.le_refl _) HG6.out.len HG6.out.os (by omega))
      have hop : (rng (k : Int) 0 ((l : Int) - 1) && opn ds (k : Int)) = opn ds (k : Int) := by rw [(rng_iff _ _ _).2 (by omega)]; rfl
      rw [hop] at HIO
      have HOP : Hid (opn ds (k : Int) = true → k ≠ 0 → dispB ds (k : Int) = true) := fun h h0 => by
        unfold dispB hasOpO hasO
        rw [HG6.out.va, h, ← HG6.out.len, (rng_iff _ _ _).2 (by omega), decide_eq_false (by omega)]; rfl
      generalize opn ds (k : Int) = ob at *
      clear hop
      go_wp2_with fail
      refine HIO.out.mono ?_
      rintro e w' ⟨rfl, rfl⟩
      clear HIO
      cases ob
      · go_wp2
        go_roundw
        case rel => exact ⟨i + 1, m - 1, l, ds, B, cb, by omega, by go_num, rfl, HG6.out.mono (by omega)⟩
        case measure => simp [intOf]; omega
      by_cases hk0 : 0 < k
      case neg =>
        have hkz : ¬ (0 : Int) < (k : Int) := by omega
        go_wp2
        go_roundw
        case rel => exact ⟨i + 1, m - 1, l, ds, B, cb, by omega, by go_num, rfl, HG6.out.mono (by omega)⟩
        case measure => simp [intOf]; omega
      have hkz : (0 : Int) < (k : Int) := by omega
      go_wp2_with fail
      refine (pick_any g A n c bs (P + 2 + 4 * i + 1 + 1) 2 w6 HG6.out.rd HN.out hby hs (by omega) (by omega)).mono ?_
      rintro e w7 ⟨x7, rfl, _, _, hr7, ht7⟩
      have HG7 := Lib.hid (HG6.out.pick hr7 ht7)
      have HDB := Lib.hid (HOP.out (by first | rfl | trivial) (by omega))
      clear hr7 ht7 HG6 HOP
      by_cases hz7 : x7 = 0
      case neg =>
        have e7 : ((x7 : Int) == 0) = false := by simp; omega
        clear hz7
        go_wp2
        go_roundw
        case rel => exact ⟨i + 1, m - 1, l, ds, B, cb, by omega, by go_num, rfl, HG7.out.mono (by omega)⟩
        case measure => simp [intOf]; omega
      have e7 : ((x7 : Int) == 0) = true := by simp [hz7]
      clear hz7
      have HC := Lib.hid (top_spec_DisposeOwner ds (k : Int) HG7.out.ob B l cb w7 HG7.out.len (own_ncapP HG7.out.row) HG7.out.os)
      have HVV : Hid (validO (dispF ds (k : Int)) = true) := by
        obtain ⟨_, _, _, _, _, _, e1, _, _, _, e2⟩ := valid_disp HDB.out
        show validO _ = true
        rw [e1]; exact e2
      generalize dispF ds (k : Int) = F at *
      generalize dispL ds (k : Int) = LL at *
      go_wp2_with fail
      refine HC.out.mono ?_
      rintro e w9 ⟨v9, u9, rfl, ho9, hu9, hb9⟩
      obtain ⟨A9, c9, rfl⟩ := ho9.form
      obtain ⟨A8, c8, rfl⟩ := own_form hu9
      have HG9 := Lib.hid (HG7.out.new ho9 hb9 HVV.out)
      obtain ⟨l9, hl9⟩ : ∃ l9, l9 = F.length := ⟨_, rfl⟩
      rw [← hl9] at HG9
      rw [← hl9]
      clear ho9 hb9 hu9 HG7 HVV hl9 HC HDB
      go_wp2
      go_roundw
      case rel => exact ⟨i + 1, m - 1, l9, F, A9, c9, by omega, by go_num, rfl, HG9.out.mono (by omega)⟩
      case measure => simp [intOf]; omega
end Go.Proofs.Ytjhpknnhgbdkiaa
