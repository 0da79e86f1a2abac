/- Owners are cleared and disposed: the model's standing contracts. (Made by v20.py.) -/
import Derived.Test.YtjhpknnhgbdkiaaV19
import Derived.Test.YtjhpknnhgbdkiaaP2a

namespace Go.Proofs.Ytjhpknnhgbdkiaa
set_option linter.unusedSimpArgs false
set_option linter.unusedVariables false
open Go.RowKit

def rerF (ds : List On) (o : Int) : List On := if hasOpO ds o then (clr ds.length ds o.toNat).2 else []
def rerL (ds : List On) (o : Int) : List Int := if hasOpO ds o then (clr ds.length ds o.toNat).1 else []
def dispB (ds : List On) (o : Int) : Bool := hasOpO ds o && !decide (o = 0)
def dispF (ds : List On) (o : Int) : List On := if dispB ds o then shut (clr ds.length ds o.toNat).2 o.toNat else []
def dispL (ds : List On) (o : Int) : List Int := if dispB ds o then (clr ds.length ds o.toNat).1 else []
theorem tot_small (ds : List On) (m : Nat) (h : ∀ j, (ds.getD j default).cl.length ≤ m) : tot ds ≤ ds.length * m := by
  induction ds with
  | nil => simp [tot]
  | cons d ds ih =>
    have h0 := h 0
    have := ih fun j => h (j + 1)
    simp only [List.getD_cons_zero] at h0
    simp only [tot, List.map_cons, List.sum_cons, List.length_cons, Nat.add_mul] at *
    omega
theorem tot_valid {ds : List On} (h : validO ds = true) : tot ds ≤ 60 := by
  have h1 := tot_small ds 5 fun j => (okO_len h j).1
  have := (validO_ok h).2.1
  omega
theorem SameP.small {ds es : List On} (h : SameP ds es) (hv : validO ds = true) : OB es :=
  OB.small (by rw [h.len]; exact (validO_ok hv).2.1) fun j => ⟨by have := h.cls j; have := (okO_len hv j).1; omega, by rw [h.cxs]; have := (okO_len hv j).2; omega⟩
theorem clr_labels (f : Nat) (ds : List On) (o : Nat) (hv : validO ds = true) : (clr f ds o).1.length ≤ 60 := by
  have := clr_tot f ds o
  have := tot_valid hv
  omega
theorem rerF_OB (ds : List On) (o : Int) : OB (rerF ds o) := by
  unfold rerF
  split
  · rename_i h
    obtain ⟨k, rfl, _, hv⟩ := hasOpO_at h
    exact (clr_same _ _ _).small hv
  · exact OB.small (by simp) fun j => by simp [List.getD]; exact ⟨Nat.zero_le _, Nat.zero_le _⟩
theorem rerL_len (ds : List On) (o : Int) : (rerL ds o).length ≤ 60 := by
  unfold rerL
  split
  · rename_i h
    obtain ⟨k, rfl, _, hv⟩ := hasOpO_at h
    exact clr_labels _ _ _ hv
  · simp
theorem dispB_has {ds : List On} {o : Int} (h : dispB ds o = true) : hasOpO ds o = true := by unfold dispB at h; rw [Bool.and_eq_true] at h; exact h.1
theorem dispF_OB (ds : List On) (o : Int) : OB (dispF ds o) := by
  unfold dispF
  split
  · rename_i h
    obtain ⟨k, rfl, _, hv⟩ := hasOpO_at (dispB_has h)
    exact ((clr_same _ _ _).trans (SameP.shut _ _)).small hv
  · exact OB.small (by simp) fun j => by simp [List.getD]; exact ⟨Nat.zero_le _, Nat.zero_le _⟩
theorem dispL_len (ds : List On) (o : Int) : (dispL ds o).length ≤ 60 := by
  unfold dispL
  split
  · rename_i h
    obtain ⟨k, rfl, _, hv⟩ := hasOpO_at (dispB_has h)
    exact clr_labels _ _ _ hv
  · simp

/-- Returns owners in fresh blocks, and numbers. -/
def RetOI (w : World) (ds : List On) (ls : List Int) (e : Ending) (w' : World) : Prop := ∃ v u, e = .returned (.tuple #[v, u]) ∧ OwO w.heap.size w'.heap.size v ds.length ds w' ∧ OwnI w' w.heap.size u ls ∧ Below w.heap.size w w'
theorem RetOI.nil {w w' : World} (hb : Below w.heap.size w w') : RetOI w [] [] (.returned (.tuple #[.slice none 0 0, .slice none 0 0])) w' := ⟨_, _, rfl, OwO.nil _ _ _, World.ownsRow_nil _ _ _ _, hb⟩


set_option maxRecDepth 100000 in
set_option maxHeartbeats 3200000 in
theorem top_spec_DisposeOwner (ds : List On) (o : Int) (hO : OB ds) : ∀ (A : Option Addr) (n c : Nat) (w : World), n = ds.length → n ≤ c → OS w w.heap.size A ds →
    Calls Try.prog 64 #[.slice A n c, .int .i64 o] w fun e w' => RetOI w (dispF ds o) (dispL ds o) e w' := by
  intro A n c w hn hnc h
  have hnb : n ≤ 1048576 := by rw [hn]; exact hO.1
  have HS := Lib.hid h
  have HC := Lib.hid (spec_validOwners A n c ds w w.heap.size (Nat.le_refl _) hn h hO)
  have HI := Lib.hid fun (w' : World) (hB : w.heap.size ≤ w'.heap.size) (h : OS w' w.heap.size A ds) => spec_isOpen A n c ds o w' w.heap.size hB hn h hnb
  cases hv0 : validO ds
  · rw [hv0] at HC
    have hf : dispB ds o = false := by unfold dispB hasOpO hasO; rw [hv0]; rfl
    unfold dispF dispL
    rw [hf]
    clear hf hn h hO hv0 HI
    simp only [Bool.false_eq_true, if_false]
    go_enter Try.func64, Try.ntmps64
    go_wp2_with fail
    refine HC.out.mono ?_
    rintro e w1 ⟨rfl, hb⟩
    go_wp2
    go_ret2
    exact RetOI.nil hb
  rw [hv0] at HC
  by_cases ho0 : o = 0
  · have e0 : (o == 0) = true := by simp [ho0]
    have hf : dispB ds o = false := by unfold dispB; rw [decide_eq_true ho0]; simp
    unfold dispF dispL
    rw [hf]
    clear hf hn h hO hv0 HI ho0
    simp only [Bool.false_eq_true, if_false]
    go_enter Try.func64, Try.ntmps64
    go_wp2_with fail
    refine HC.out.mono ?_
    rintro e w1 ⟨rfl, hb⟩
    go_wp2
    go_ret2
    exact RetOI.nil hb
  have e0 : (o == 0) = false := by simp [ho0]
  cases hio : (rng o 0 ((n : Int) - 1) && opn ds o)
  · rw [hio] at HI
    have hf : dispB ds o = false := by unfold dispB hasOpO hasO; rw [hv0, Bool.true_and, ← hn, hio]; rfl
    unfold dispF dispL
    rw [hf]
    clear hf hn h hO hv0 hio
    simp only [Bool.false_eq_true, if_false]
    go_enter Try.func64, Try.ntmps64
    go_wp2_with fail
    refine HC.out.mono ?_
    rintro e w1 ⟨rfl, hb⟩
    go_wp2_with fail
    refine (HI.out w1 hb.size (HS.out.below hb (Nat.le_refl _))).mono ?_
    rintro e w1' ⟨rfl, rfl⟩
    go_wp2
    go_ret2
    exact RetOI.nil hb
  rw [hio] at HI
  have hv : hasOpO ds o = true := by unfold hasOpO hasO; rw [hv0, Bool.true_and, ← hn, hio]
  have hf : dispB ds o = true := by unfold dispB; rw [hv, decide_eq_false ho0]; rfl
  clear hio hv0
  obtain ⟨k, rfl, hkd, hval⟩ := hasOpO_at hv
  have hkn : k < n := by omega
  unfold dispF dispL
  rw [hf]
  simp only [if_true, Int.toNat_natCast]
  rw [← hn]
  have HCP := Lib.hid fun (w' : World) (hB : w.heap.size ≤ w'.heap.size) (h : OS w' w.heap.size A ds) => spec_copyOwners A n c ds w' w.heap.size hB hn h hO
  have HN := Lib.hid hn
  have HV := Lib.hid hval
  have hn12 : n ≤ 12 := by rw [hn]; exact (validO_ok hval).2.1
  have HSM := Lib.hid (clr_same n ds k)
  generalize hR1 : (clr n ds k).1 = R1 at *
  generalize hR2 : (clr n ds k).2 = R2 at *
  have HR1 := Lib.hid hR1
  have HR2 := Lib.hid hR2
  clear hf hn h hO hval hv hkd hR1 hR2
  go_enter Try.func64, Try.ntmps64
  go_wp2_with fail
  refine HC.out.mono ?_
  rintro e w1 ⟨rfl, hb⟩
  have HB1 := Lib.hid hb
  go_wp2_with fail
  refine (HI.out w1 hb.size (HS.out.below hb (Nat.le_refl _))).mono ?_
  rintro e w1' ⟨rfl, rfl⟩
  have hs1 := hb.size
  have HS1 := Lib.hid (HS.out.below hb (Nat.le_refl _))
  clear hb
  go_wp2_with fail
  refine (HCP.out w1 hs1 HS1.out).mono ?_
  rintro e w2 ⟨v, rfl, ho, hb2⟩
  rw [← HN.out] at ho
  obtain ⟨g, cap, rfl⟩ : ∃ g cap, v = .slice (some ⟨g, 0, none⟩) n cap := by
    obtain ⟨_, xs, us, h1, _⟩ := ho
    exact row_form2 h1.1 (by omega)
  have HB2 := Lib.hid (HB1.out.trans (hb2.mono HB1.out.size))
  have HCL := Lib.hid (spec_clear w1.heap.size g cap n n ds k w2.heap.size (fun _ => False) w2 (by omega) hkn HN.out (PO.of_valid HV.out) (by omega) (by have := tot_valid HV.out; omega) (OwOn.of ho (fun q h => h.elim)) (Nat.le_refl _) (fun q h => h.elim))
  rw [HR1.out, HR2.out] at HCL
  have hgl : w1.heap.size ≤ g ∧ g < w2.heap.size := by
    obtain ⟨_, xs, us, h1, _⟩ := ho
    exact h1.1.lt g rfl
  clear ho hb2 HC HI HCP HS HS1
  go_wp2_with fail
  refine HCL.out.mono ?_
  rintro e w3 ⟨g6, c6, l6, rfl, hl6, hrow6, hown6, ht6⟩
  have HL6 := Lib.hid hl6
  have HB3 := Lib.hid (HB2.out.trans (ht6.below (B := w.heap.size) (by omega) HB2.out.size))
  have f1 := hown6.frozen (k * 4 + 1)
  have u1 := hown6.op k (by rw [HSM.out.len, ← HN.out]; exact hkn)
  have hne : g ≠ g6 := by have := (hrow6.lt g6 rfl).1; omega
  have hg3 : g < w3.heap.size := by have := ht6.size; omega
  have HO6 := Lib.hid (own_set hrow6 ⟨g, k * 4 + 1, none⟩ hne (.bool false))
  have HW6 := Lib.hid (hown6.setOpen k hkn)
  have HB4 := Lib.hid (HB3.out.setCell (p := ⟨g, k * 4 + 1, none⟩) (show w.heap.size ≤ g by omega) (.bool false))
  generalize (R2.getD k default).o = ob at u1
  have HSL : Hid ((shut R2 k).length = n) := by show _ = _; rw [shut_len, HSM.out.len, ← HN.out]
  clear hl6 hrow6 hown6 ht6 HB3 HSM HR1 HR2
  go_wp2
  go_ret2
  have hE : (w3.setCell ⟨g, k * 4 + 1, none⟩ (.bool false)).heap.size = w3.heap.size := by simp [World.setCell]
  refine ⟨_, _, rfl, ?_, ?_, HB4.out⟩
  · rw [HSL.out, hE]; exact HW6.out.all.mono (by omega) (Nat.le_refl _)
  · unfold OwnI; rw [← HL6.out]; exact own_mono HO6.out (by omega)

end Go.Proofs.Ytjhpknnhgbdkiaa
