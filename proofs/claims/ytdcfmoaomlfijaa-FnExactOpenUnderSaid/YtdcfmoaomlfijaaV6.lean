/- Owners: what is valid, as the model has it: spec.validOwner, validOwners. -/
import Derived.Test.YtdcfmoaomlfijaaV1
import Derived.Test.YtdcfmoaomlfijaaS0

namespace Go.Proofs.Ytdcfmoaomlfijaa
set_option linter.unusedSimpArgs false
set_option linter.unusedVariables false
open Go.RowKit

def ctxOK (l : List Int) : Bool := decide (l.length = 3) && allR l (-1) 50
def clOK (l : List Int) : Bool := decide (l.length ≤ 5) && allR l 0 50
/-- The parent of owner i is one that is ahead of it. -/
def parOK (i : Nat) (p : Int) : Bool := if i = 0 then p == -1 else rng p 0 ((i : Int) - 1)
def opn (ds : List On) (p : Int) : Bool := (ds.getD p.toNat default).o
def okD (ds : List On) (i : Nat) (d : On) : Bool := parOK i d.p && ((clOK d.cl && ctxOK d.cx) && ((d.o && (decide (i = 0) || opn ds d.p)) || (!d.o && decide (d.cl.length = 0))))
def okO (ds : List On) (i : Nat) : Bool := okD ds i (ds.getD i default)
def validO (ds : List On) : Bool := (List.range ds.length).all (okO ds) && rng ds.length 1 12

theorem rng_iff (n l m : Int) : rng n l m = true ↔ l ≤ n ∧ n ≤ m := by simp [rng]

set_option maxRecDepth 100000 in
set_option maxHeartbeats 3200000 in
theorem spec_validOwner (A : Option Addr) (n c : Nat) (ds : List On) (w : World) (B : Nat) (hB : B ≤ w.heap.size) (hn : n = ds.length) (h : OS w B A ds) (hb : OB ds) (i : Nat) (hi : i < n) :
    Calls Try.prog 63 #[.slice A n c, .int .i64 i] w fun e w' => e = .returned (.bool (okO ds i)) ∧ Below w.heap.size w w' := by
  have hn1 : n ≤ 1048576 := by rw [hn]; exact hb.1
  obtain ⟨b, off, rfl, hbB, hc⟩ := h (by omega)
  obtain ⟨c0, c1, ⟨A1, n1, d1, c2, hn1', hp1⟩, A2, n2, d2, c3, hn2', hp2⟩ := hc i (by omega)
  have hx := hb.2.2 i
  have hbs : b < w.heap.size := by omega
  have HOP := Lib.hid fun (pn : Nat) (hp : pn < i) => (hc pn (by omega)).2.1
  unfold okO
  generalize ds.getD i default = d at *
  obtain ⟨p, o, cl, cx⟩ := d
  dsimp only at *
  have HA1 := Lib.hid fun (w' : World) (hB : B ≤ w'.heap.size) (h : IS w' B A1 cl) => spec_allIn A1 n1 d1 cl 0 50 w' B hB hn1' h (by omega)
  have HA2 := Lib.hid fun (w' : World) (hB : B ≤ w'.heap.size) (h : IS w' B A2 cx) => spec_allIn A2 n2 d2 cx (-1) 50 w' B hB hn2' h (by omega)
  have HP1 := Lib.hid (hp1.alloc hB (.cells #[.int .i64 p, .bool o, .slice A1 n1 d1, .slice A2 n2 d2] 50))
  have HP2 := Lib.hid (hp2.alloc hB (.cells #[.int .i64 p, .bool o, .slice A1 n1 d1, .slice A2 n2 d2] 50))
  have hBB : Below w.heap.size w (w.alloc (.cells #[.int .i64 p, .bool o, .slice A1 n1 d1, .slice A2 n2 d2] 50)) := (Below.refl _ _).alloc (Nat.le_refl _) _
  have HR : okD ds i ⟨p, o, cl, cx⟩ = (parOK i p && (((decide (n1 ≤ 5) && allR cl 0 50) && (decide (n2 = 3) && allR cx (-1) 50)) && ((o && (decide (i = 0) || opn ds p)) || (!o && decide (n1 = 0))))) := by
    unfold okD clOK ctxOK; rw [hn1', hn2']
  rw [HR]
  clear HR hp1 hp2
  have hx1 : n1 ≤ 1048576 := by omega
  have hx2 : n2 ≤ 1048576 := by omega
  have HBB := Lib.hid hBB
  have HB2 : Hid (B ≤ (w.alloc (.cells #[.int .i64 p, .bool o, .slice A1 n1 d1, .slice A2 n2 d2] 50)).heap.size) := by show _ ≤ _; rw [World.size_alloc]; omega
  generalize allR cl 0 50 = a1 at *
  generalize allR cx (-1) 50 = a2 at *
  clear hn1' hn2' hx hn h hc hb hBB
  by_cases h0 : i = 0
  · subst h0
    simp only [Nat.zero_mul, Nat.add_zero] at c0 c1 c2 c3
    by_cases hp : p = -1
    · subst hp
      have hr : parOK 0 (-1) = true := rfl
      rw [hr]
      clear hr HOP
      by_cases h5 : 5 < n1
      · have h5' : ¬ n1 ≤ 5 := by omega
        go_enter Try.func63, Try.ntmps63
        go_wp2
        go_ret
        exact ⟨ret_b (by simp [h5']), HBB.out⟩
      have h5' : n1 ≤ 5 := by omega
      cases a1
      · go_enter Try.func63, Try.ntmps63
        go_wp2_with fail
        refine (HA1.out _ HB2.out HP1.out).mono ?_
        rintro e w' ⟨rfl, rfl⟩
        go_wp2
        go_ret
        exact ⟨ret_b (by simp []), HBB.out⟩
      by_cases h3 : n2 = 3
      case neg =>
        have h3' : ((n2 : Int) != 3) = true := by simp; omega
        go_enter Try.func63, Try.ntmps63
        go_wp2_with fail
        refine (HA1.out _ HB2.out HP1.out).mono ?_
        rintro e w' ⟨rfl, rfl⟩
        go_wp2
        go_ret
        exact ⟨ret_b (by simp [h3]), HBB.out⟩
      have h3' : ((n2 : Int) != 3) = false := by simp; omega
      have H3 := Lib.hid h3
      clear h3
      cases a2
      · go_enter Try.func63, Try.ntmps63
        go_wp2_with fail
        refine (HA1.out _ HB2.out HP1.out).mono ?_
        rintro e w' ⟨rfl, rfl⟩
        go_wp2_with fail
        refine (HA2.out _ HB2.out HP2.out).mono ?_
        rintro e w' ⟨rfl, rfl⟩
        go_wp2
        go_ret
        exact ⟨ret_b (by simp []), HBB.out⟩
      have H5 := Lib.hid h5'
      clear h5'
      cases o
      · by_cases h0 : n1 = 0
        · have h0' : ((n1 : Int) == 0) = true := by simp; omega
          have H0 := Lib.hid h0
          clear h0
          go_enter Try.func63, Try.ntmps63
          go_wp2_with fail
          refine (HA1.out _ HB2.out HP1.out).mono ?_
          rintro e w' ⟨rfl, rfl⟩
          go_wp2_with fail
          refine (HA2.out _ HB2.out HP2.out).mono ?_
          rintro e w' ⟨rfl, rfl⟩
          go_wp2
          go_ret
          exact ⟨ret_b (by simp [H0.out, H3.out]), HBB.out⟩
        · have h0' : ((n1 : Int) == 0) = false := by simp; omega
          have H0 := Lib.hid h0
          clear h0
          go_enter Try.func63, Try.ntmps63
          go_wp2_with fail
          refine (HA1.out _ HB2.out HP1.out).mono ?_
          rintro e w' ⟨rfl, rfl⟩
          go_wp2_with fail
          refine (HA2.out _ HB2.out HP2.out).mono ?_
          rintro e w' ⟨rfl, rfl⟩
          go_wp2
          go_ret
          exact ⟨ret_b (by simp [H0.out, H3.out]), HBB.out⟩
      · go_enter Try.func63, Try.ntmps63
        go_wp2_with fail
        refine (HA1.out _ HB2.out HP1.out).mono ?_
        rintro e w' ⟨rfl, rfl⟩
        go_wp2_with fail
        refine (HA2.out _ HB2.out HP2.out).mono ?_
        rintro e w' ⟨rfl, rfl⟩
        go_wp2
        go_ret
        exact ⟨ret_b (by simp [H3.out, H5.out]), HBB.out⟩
    · have hr : parOK 0 p = false := by unfold parOK; simp [hp]
      have hp' : (p != -1) = true := by simp [hp]
      rw [hr]
      clear hr HOP hp
      go_enter Try.func63, Try.ntmps63
      go_wp2
      go_ret
      exact ⟨rfl, HBB.out⟩
  · have hz : ((i : Int) == 0) = false := by simp; omega
    have hi0 : (0 : Int) < i := by omega
    cases hpr : rng p 0 ((i : Int) - 1)
    · have hr : parOK i p = false := by unfold parOK; rw [if_neg h0, hpr]
      rw [hr]
      clear hr HOP
      go_enter Try.func63, Try.ntmps63
      go_wp2_with (go_at_call 55; refine (spec_inRange _ _ _ _).mono ?_; rintro e w' ⟨rfl, rfl⟩)
      go_ret
      exact ⟨rfl, HBB.out⟩
    · have hr : parOK i p = true := by unfold parOK; rw [if_neg h0, hpr]
      obtain ⟨hp0, hp1⟩ := (rng_iff _ _ _).1 hpr
      obtain ⟨pn, rfl⟩ : ∃ pn : Nat, p = pn := ⟨p.toNat, by omega⟩
      have hpn : pn < i := by omega
      have hop : opn ds (pn : Int) = (ds.getD pn default).o := by simp [opn]
      have e1 := HOP.out pn hpn
      rw [hr, hop]
      generalize (ds.getD pn default).o = po at *
      have hin : decide (i = 0) = false := by simp [h0]
      rw [hin]
      clear hr HOP hop hp0 hp1
      have hpn2 : pn < n := by omega
      by_cases h5 : 5 < n1
      · have h5' : ¬ n1 ≤ 5 := by omega
        go_enter Try.func63, Try.ntmps63
        go_wp2_with fail
        refine (spec_inRange _ _ _ _).mono ?_
        rintro e w' ⟨rfl, rfl⟩
        go_wp2
        go_ret
        exact ⟨ret_b (by simp [h5']), HBB.out⟩
      have h5' : n1 ≤ 5 := by omega
      cases a1
      · go_enter Try.func63, Try.ntmps63
        go_wp2_with fail
        refine (spec_inRange _ _ _ _).mono ?_
        rintro e w' ⟨rfl, rfl⟩
        go_wp2_with fail
        refine (HA1.out _ HB2.out HP1.out).mono ?_
        rintro e w' ⟨rfl, rfl⟩
        go_wp2
        go_ret
        exact ⟨ret_b (by simp []), HBB.out⟩
      by_cases h3 : n2 = 3
      case neg =>
        have h3' : ((n2 : Int) != 3) = true := by simp; omega
        go_enter Try.func63, Try.ntmps63
        go_wp2_with fail
        refine (spec_inRange _ _ _ _).mono ?_
        rintro e w' ⟨rfl, rfl⟩
        go_wp2_with fail
        refine (HA1.out _ HB2.out HP1.out).mono ?_
        rintro e w' ⟨rfl, rfl⟩
        go_wp2
        go_ret
        exact ⟨ret_b (by simp [h3]), HBB.out⟩
      have h3' : ((n2 : Int) != 3) = false := by simp; omega
      have H3 := Lib.hid h3
      clear h3
      cases a2
      · go_enter Try.func63, Try.ntmps63
        go_wp2_with fail
        refine (spec_inRange _ _ _ _).mono ?_
        rintro e w' ⟨rfl, rfl⟩
        go_wp2_with fail
        refine (HA1.out _ HB2.out HP1.out).mono ?_
        rintro e w' ⟨rfl, rfl⟩
        go_wp2_with fail
        refine (HA2.out _ HB2.out HP2.out).mono ?_
        rintro e w' ⟨rfl, rfl⟩
        go_wp2
        go_ret
        exact ⟨ret_b (by simp []), HBB.out⟩
      have H5 := Lib.hid h5'
      clear h5'
      cases o
      · by_cases h0 : n1 = 0
        · have h0' : ((n1 : Int) == 0) = true := by simp; omega
          have H0 := Lib.hid h0
          clear h0
          go_enter Try.func63, Try.ntmps63
          go_wp2_with fail
          refine (spec_inRange _ _ _ _).mono ?_
          rintro e w' ⟨rfl, rfl⟩
          go_wp2_with fail
          refine (HA1.out _ HB2.out HP1.out).mono ?_
          rintro e w' ⟨rfl, rfl⟩
          go_wp2_with fail
          refine (HA2.out _ HB2.out HP2.out).mono ?_
          rintro e w' ⟨rfl, rfl⟩
          go_wp2
          go_ret
          exact ⟨ret_b (by simp [H0.out, H3.out]), HBB.out⟩
        · have h0' : ((n1 : Int) == 0) = false := by simp; omega
          have H0 := Lib.hid h0
          clear h0
          go_enter Try.func63, Try.ntmps63
          go_wp2_with fail
          refine (spec_inRange _ _ _ _).mono ?_
          rintro e w' ⟨rfl, rfl⟩
          go_wp2_with fail
          refine (HA1.out _ HB2.out HP1.out).mono ?_
          rintro e w' ⟨rfl, rfl⟩
          go_wp2_with fail
          refine (HA2.out _ HB2.out HP2.out).mono ?_
          rintro e w' ⟨rfl, rfl⟩
          go_wp2
          go_ret
          exact ⟨ret_b (by simp [H0.out, H3.out]), HBB.out⟩
      cases po
      all_goals
        go_enter Try.func63, Try.ntmps63
        go_wp2_with fail
        refine (spec_inRange _ _ _ _).mono ?_
        rintro e w' ⟨rfl, rfl⟩
        go_wp2_with fail
        refine (HA1.out _ HB2.out HP1.out).mono ?_
        rintro e w' ⟨rfl, rfl⟩
        go_wp2_with fail
        refine (HA2.out _ HB2.out HP2.out).mono ?_
        rintro e w' ⟨rfl, rfl⟩
        go_wp2
        go_ret
        exact ⟨ret_b (by simp [H3.out, H5.out]), HBB.out⟩

theorem okO_false (ds : List On) (k : Nat) (hk : k < ds.length) (h : okO ds k = false) : validO ds = false := by
  unfold validO
  rw [show (List.range ds.length).all (okO ds) = false from List.all_eq_false.2 ⟨k, List.mem_range.2 hk, by rw [h]; simp⟩]
  rfl
theorem okO_all (ds : List On) (h : ∀ k, k < ds.length → okO ds k = true) : validO ds = rng ds.length 1 12 := by
  unfold validO
  rw [show (List.range ds.length).all (okO ds) = true from List.all_eq_true.2 fun k hk => h k (List.mem_range.1 hk)]
  rfl
theorem validO_ok {ds : List On} (h : validO ds = true) : 1 ≤ ds.length ∧ ds.length ≤ 12 ∧ ∀ k, k < ds.length → okO ds k = true := by
  unfold validO at h
  rw [Bool.and_eq_true, rng_iff, List.all_eq_true] at h
  exact ⟨by omega, by omega, fun k hk => h.1 k (List.mem_range.2 hk)⟩

set_option maxRecDepth 100000 in
set_option maxHeartbeats 800000 in
theorem spec_validOwners (A : Option Addr) (n c : Nat) (ds : List On) (w : World) (B : Nat) (hB : B ≤ w.heap.size) (hn : n = ds.length) (h : OS w B A ds) (hb : OB ds) :
    Calls Try.prog 40 #[.slice A n c] w fun e w' => e = .returned (.bool (validO ds)) ∧ Below w.heap.size w w' := by
  have hnb : n ≤ 1048576 := by rw [hn]; exact hb.1
  have HC := Lib.hid fun (i : Nat) (hi : i < n) (w' : World) (hB : B ≤ w'.heap.size) (h : OS w' B A ds) => spec_validOwner A n c ds w' B hB hn h hb i hi
  have H := Lib.hid h
  have HN := Lib.hid hn
  clear hn h hb
  go_enter Try.func40, Try.ntmps40
  go_wp2
  go_loopw [3] (fun i wr => ∃ k : Nat, k ≤ n ∧ i = .int .i64 k ∧ Hid (∀ j, j < k → okO ds j = true) ∧ Below w.heap.size w wr) (fun i _ => n - (intOf i).toNat)
  case atStart => exact ⟨0, Nat.zero_le _, rfl, fun j hj => by omega, Below.refl _ _⟩
  case round =>
    obtain ⟨k, hk, rfl, HA, hb⟩ := hrel
    by_cases hlt : k < n
    · have HCk := Lib.hid (HC.out k hlt)
      cases hok : okO ds k
      · rw [hok] at HCk
        go_wp2_with fail
        refine (HCk.out _ (Nat.le_trans hB hb.size) (H.out.below hb hB)).mono ?_
        rintro e w' ⟨rfl, hb1⟩
        go_wp2
        go_ret
        exact ⟨ret_b (okO_false ds k (by have := HN.out; omega) hok).symm, hb.trans (hb1.mono hb.size)⟩
      · rw [hok] at HCk
        have HOK := Lib.hid hok
        clear hok
        go_wp2_with fail
        refine (HCk.out _ (Nat.le_trans hB hb.size) (H.out.below hb hB)).mono ?_
        rintro e w' ⟨rfl, hb1⟩
        go_wp2
        go_roundw
        case rel => exact ⟨k + 1, by omega, by go_num, fun j hj => by
          rcases Nat.lt_or_ge j k with h1 | h1
          · exact HA.out j h1
          · obtain rfl : j = k := by omega
            exact HOK.out, hb.trans (hb1.mono hb.size)⟩
        case measure => simp [intOf]; omega
    · have hv := okO_all ds fun j hj => HA.out j (by have := HN.out; omega)
      rw [← HN.out] at hv
      have HV := Lib.hid hv
      clear hv
      go_wp2_with (go_at_call 55; refine (spec_inRange _ _ _ _).mono ?_; rintro e w' ⟨rfl, rfl⟩)
      go_ret
      exact ⟨ret_b HV.out.symm, hb⟩
end Go.Proofs.Ytdcfmoaomlfijaa
