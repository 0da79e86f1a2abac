/- Owners: contracts of helpers: hasOwner, ownersWhere; the standing contracts of ValidOwners and LiveOf. -/
import Derived.Test.YtgjodcddkmjboaaV7
import Derived.Test.YtgjodcddkmjboaaS1

namespace Go.Proofs.Ytgjodcddkmjboaa
set_option linter.unusedSimpArgs false
set_option linter.unusedVariables false
open Go.RowKit
-- WANT nwTo nwTo_step nwTo_len nwTo_zero RetI nil mono cell_one_new info_parts info_int

set_option maxRecDepth 100000 in
set_option maxHeartbeats 1600000 in
theorem ownersWhere1 (K : FuncId) (cap : Value) (P : Nat → Bool) (I : World → Prop) (A : Option Addr) (n c : Nat) (ds : List On) (hn : n = ds.length) (hs : n ≤ 2000000)
    (hI : ∀ w w' : World, I w → Below w.heap.size w w' → I w') (hcf : ∀ (v : Value) (w : World), (callFunc K #[v, cap]).run Try.prog w = .ok (.enter K #[v, cap]) w)
    (hP : ∀ (q : Nat) (A1 A2 : Option Addr) (n1 d1 n2 d2 : Nat) (w : World), q < n → I w → Calls Try.prog K #[.agg #[.int .i64 (ds.getD q default).p, .bool (ds.getD q default).o, .slice A1 n1 d1, .slice A2 n2 d2], cap] w fun e w' => e = .returned (.bool (P q)) ∧ Below w.heap.size w w') (w : World) (hO : OS w w.heap.size A ds) (h : I w) :
    Calls Try.prog 23 #[.slice A n c, .func (.func K) #[] #[cap]] w fun e w' => RetI w (nwTo P n) e w' := by
  obtain ⟨i0, hi, hz0, hz1, hz2⟩ := info_parts info_int
  have HI := Lib.hid hI
  have HP := Lib.hid hP
  have H := Lib.hid h
  have HO0 := Lib.hid hO
  have HN := Lib.hid hn
  have HCF := Lib.hid hcf
  clear hI hP h hcf hO hn
  go_enter Try.func23, Try.ntmps23
  go_wp2
  go_loopw [5, 10] (fun v i wr => ∃ k : Nat, k ≤ n ∧ i = .int .i64 k ∧ Hid (OwnI wr w.heap.size v (nwTo P k)) ∧ Below w.heap.size w wr) (fun _ i _ => n - (intOf i).toNat)
  case atStart => exact ⟨0, Nat.zero_le _, rfl, World.ownsRow_nil _ _ _ _, Below.refl _ _⟩
  case round =>
    obtain ⟨k, hk, rfl, HO, hbr⟩ := hrel
    have hwr : w.heap.size ≤ wr.heap.size := hbr.size
    by_cases hlt : k < n
    · have HST := Lib.hid (nwTo_step P k)
      have hdl := nwTo_len P k
      obtain ⟨b, off, rfl, hbB, c0, c1, ⟨A1, n1, d1, c2, hn1', hp1⟩, A2, n2, d2, c3, hn2', hp2⟩ := HO0.out.at_ k (by have := HN.out; omega)
      have b0 := (hbr.cell (p := ⟨b, off + k * 4, none⟩) hbB).trans c0
      have b1 := (hbr.cell (p := ⟨b, off + k * 4 + 1, none⟩) hbB).trans c1
      have b2 := (hbr.cell (p := ⟨b, off + k * 4 + 2, none⟩) hbB).trans c2
      have b3 := (hbr.cell (p := ⟨b, off + k * 4 + 3, none⟩) hbB).trans c3
      have HPK := Lib.hid fun (w' : World) (h : I w') => HP.out k A1 A2 n1 d1 n2 d2 w' hlt h
      have HIR := Lib.hid fun (o : Obj) => HI.out _ _ H.out (hbr.alloc hwr o)
      have hcf := HCF.out
      generalize nwTo P k = D at *
      generalize P k = p at *
      generalize ds.getD k default = d at *
      obtain ⟨dp, dO, dcl, dcx⟩ := d
      dsimp only at *
      clear c0 c1 c2 c3 hn1' hp1 hn2' hp2 HO0
      cases p
      · go_wp2_with fail
        refine (HPK.out _ (HIR.out _)).mono ?_
        rintro e w2 ⟨rfl, hb2⟩
        have hb3 := ((Below.refl wr.heap.size wr).alloc (Nat.le_refl _) (.cells #[.int .i64 dp, .bool dO, .slice A1 n1 d1, .slice A2 n2 d2] 41)).trans (hb2.mono (by simp))
        go_wp2
        go_roundw
        case rel => exact ⟨k + 1, by omega, by go_num, by rw [HST.out]; simpa [OwnI, Hid] using own_below HO.out hb3, hbr.trans (hb3.mono hwr)⟩
        case measure => simp [intOf]; omega
      · go_wp2_with fail
        refine (HPK.out _ (HIR.out _)).mono ?_
        rintro e w2 ⟨rfl, hb2⟩
        have hb3 := ((Below.refl wr.heap.size wr).alloc (Nat.le_refl _) (.cells #[.int .i64 dp, .bool dO, .slice A1 n1 d1, .slice A2 n2 d2] 41)).trans (hb2.mono (by simp))
        have HO2 := Lib.hid (own_below HO.out hb3)
        have hbr2 := hbr.trans (hb3.mono hwr)
        have hw2 : w.heap.size ≤ w2.heap.size := hbr2.size
        clear hcf hb2 hb3 b0 b1 b2 b3
        go_wp2_with (at_builtin; refine wpList_append_own _ rfl _ _ 23 rfl w.heap.size 3 i0 (.int .i64 0) 1 8 Try.underlying23 hi hz0 hz1 hz2 rfl (by decide) _ _ _ rfl (HO2.out.alloc _) ⟨_, 0, none⟩ 1 1 [.int .i64 k] rfl rfl (cell_one_new _ _ _) ?c2 ?c3 ?c4 ?c5 ?_)
        case c2 => first | rfl | (intro u hu; simp at hu; subst hu; rfl)
        case c3 => unfold maxLen; omega
        case c4 => omega
        case c5 => first | omega | (simp; omega)
        intro v' w3 hown' hgrow _
        have hpos := (HO2.out.alloc (.cells #[.int .i64 k] 3)).lt
        have HO' : Hid (OwnI w3 w.heap.size v' (nwTo P (k + 1))) := by
          rw [HST.out]
          simpa [OwnI, Hid] using hown'
        have HB' := Lib.hid ((hbr2.alloc hw2 (.cells #[.int .i64 k] 3)).grown hgrow (by first | (simp; omega) | omega) (fun q hq => (hpos q hq).1))
        clear hown' hgrow hpos
        go_wp2
        go_roundw
        case rel => exact ⟨k + 1, by omega, by go_num, HO'.out, HB'.out⟩
        case measure => simp [intOf]; omega
    · obtain rfl : k = n := by omega
      go_wp2
      go_ret
      exact ⟨_, rfl, HO.out, hbr⟩

set_option maxRecDepth 100000 in
set_option maxHeartbeats 1600000 in
theorem ownersWhere0 (K : FuncId) (P : Nat → Bool) (I : World → Prop) (A : Option Addr) (n c : Nat) (ds : List On) (hn : n = ds.length) (hs : n ≤ 2000000)
    (hI : ∀ w w' : World, I w → Below w.heap.size w w' → I w') (hcf : ∀ (v : Value) (w : World), (callFunc K #[v]).run Try.prog w = .ok (.enter K #[v]) w)
    (hP : ∀ (q : Nat) (A1 A2 : Option Addr) (n1 d1 n2 d2 : Nat) (w : World), q < n → I w → Calls Try.prog K #[.agg #[.int .i64 (ds.getD q default).p, .bool (ds.getD q default).o, .slice A1 n1 d1, .slice A2 n2 d2]] w fun e w' => e = .returned (.bool (P q)) ∧ Below w.heap.size w w') (w : World) (hO : OS w w.heap.size A ds) (h : I w) :
    Calls Try.prog 23 #[.slice A n c, .func (.func K) #[] #[]] w fun e w' => RetI w (nwTo P n) e w' := by
  obtain ⟨i0, hi, hz0, hz1, hz2⟩ := info_parts info_int
  have HI := Lib.hid hI
  have HP := Lib.hid hP
  have H := Lib.hid h
  have HO0 := Lib.hid hO
  have HN := Lib.hid hn
  have HCF := Lib.hid hcf
  clear hI hP h hcf hO hn
  go_enter Try.func23, Try.ntmps23
  go_wp2
  go_loopw [5, 10] (fun v i wr => ∃ k : Nat, k ≤ n ∧ i = .int .i64 k ∧ Hid (OwnI wr w.heap.size v (nwTo P k)) ∧ Below w.heap.size w wr) (fun _ i _ => n - (intOf i).toNat)
  case atStart => exact ⟨0, Nat.zero_le _, rfl, World.ownsRow_nil _ _ _ _, Below.refl _ _⟩
  case round =>
    obtain ⟨k, hk, rfl, HO, hbr⟩ := hrel
    have hwr : w.heap.size ≤ wr.heap.size := hbr.size
    by_cases hlt : k < n
    · have HST := Lib.hid (nwTo_step P k)
      have hdl := nwTo_len P k
      obtain ⟨b, off, rfl, hbB, c0, c1, ⟨A1, n1, d1, c2, hn1', hp1⟩, A2, n2, d2, c3, hn2', hp2⟩ := HO0.out.at_ k (by have := HN.out; omega)
      have b0 := (hbr.cell (p := ⟨b, off + k * 4, none⟩) hbB).trans c0
      have b1 := (hbr.cell (p := ⟨b, off + k * 4 + 1, none⟩) hbB).trans c1
      have b2 := (hbr.cell (p := ⟨b, off + k * 4 + 2, none⟩) hbB).trans c2
      have b3 := (hbr.cell (p := ⟨b, off + k * 4 + 3, none⟩) hbB).trans c3
      have HPK := Lib.hid fun (w' : World) (h : I w') => HP.out k A1 A2 n1 d1 n2 d2 w' hlt h
      have HIR := Lib.hid fun (o : Obj) => HI.out _ _ H.out (hbr.alloc hwr o)
      have hcf := HCF.out
      generalize nwTo P k = D at *
      generalize P k = p at *
      generalize ds.getD k default = d at *
      obtain ⟨dp, dO, dcl, dcx⟩ := d
      dsimp only at *
      clear c0 c1 c2 c3 hn1' hp1 hn2' hp2 HO0
      cases p
      · go_wp2_with fail
        refine (HPK.out _ (HIR.out _)).mono ?_
        rintro e w2 ⟨rfl, hb2⟩
        have hb3 := ((Below.refl wr.heap.size wr).alloc (Nat.le_refl _) (.cells #[.int .i64 dp, .bool dO, .slice A1 n1 d1, .slice A2 n2 d2] 41)).trans (hb2.mono (by simp))
        go_wp2
        go_roundw
        case rel => exact ⟨k + 1, by omega, by go_num, by rw [HST.out]; simpa [OwnI, Hid] using own_below HO.out hb3, hbr.trans (hb3.mono hwr)⟩
        case measure => simp [intOf]; omega
      · go_wp2_with fail
        refine (HPK.out _ (HIR.out _)).mono ?_
        rintro e w2 ⟨rfl, hb2⟩
        have hb3 := ((Below.refl wr.heap.size wr).alloc (Nat.le_refl _) (.cells #[.int .i64 dp, .bool dO, .slice A1 n1 d1, .slice A2 n2 d2] 41)).trans (hb2.mono (by simp))
        have HO2 := Lib.hid (own_below HO.out hb3)
        have hbr2 := hbr.trans (hb3.mono hwr)
        have hw2 : w.heap.size ≤ w2.heap.size := hbr2.size
        clear hcf hb2 hb3 b0 b1 b2 b3
        go_wp2_with (at_builtin; refine wpList_append_own _ rfl _ _ 23 rfl w.heap.size 3 i0 (.int .i64 0) 1 8 Try.underlying23 hi hz0 hz1 hz2 rfl (by decide) _ _ _ rfl (HO2.out.alloc _) ⟨_, 0, none⟩ 1 1 [.int .i64 k] rfl rfl (cell_one_new _ _ _) ?c2 ?c3 ?c4 ?c5 ?_)
        case c2 => first | rfl | (intro u hu; simp at hu; subst hu; rfl)
        case c3 => unfold maxLen; omega
        case c4 => omega
        case c5 => first | omega | (simp; omega)
        intro v' w3 hown' hgrow _
        have hpos := (HO2.out.alloc (.cells #[.int .i64 k] 3)).lt
        have HO' : Hid (OwnI w3 w.heap.size v' (nwTo P (k + 1))) := by
          rw [HST.out]
          simpa [OwnI, Hid] using hown'
        have HB' := Lib.hid ((hbr2.alloc hw2 (.cells #[.int .i64 k] 3)).grown hgrow (by first | (simp; omega) | omega) (fun q hq => (hpos q hq).1))
        clear hown' hgrow hpos
        go_wp2
        go_roundw
        case rel => exact ⟨k + 1, by omega, by go_num, HO'.out, HB'.out⟩
        case measure => simp [intOf]; omega
    · obtain rfl : k = n := by omega
      go_wp2
      go_ret
      exact ⟨_, rfl, HO.out, hbr⟩

theorem top_impl_ValidOwners (ds : List On) (hO : OB ds) : ∀ (A : Option Addr) (n c : Nat) (w : World), n = ds.length → n ≤ c → OS w w.heap.size A ds →
    Calls Try.prog 9 #[.slice A n c] w fun e w' => e = .returned (.bool (validO ds)) ∧ Below w.heap.size w w' :=
  fun A n c w hn hc h => impl_ValidOwners A n c ds w w.heap.size (Nat.le_refl _) hn hc h hO

def hasO (ds : List On) (o : Int) : Bool := validO ds && rng o 0 ((ds.length : Int) - 1)
theorem hasO_at {ds : List On} {o : Int} (h : hasO ds o = true) : ∃ k : Nat, o = k ∧ k < ds.length ∧ validO ds = true := by
  unfold hasO at h
  rw [Bool.and_eq_true, rng_iff] at h
  exact ⟨o.toNat, by omega, by omega, h.1⟩

set_option maxHeartbeats 800000 in
theorem impl_hasOwner (A : Option Addr) (n c : Nat) (ds : List On) (o : Int) (w : World) (B : Nat) (hB : B ≤ w.heap.size) (hn : n = ds.length) (hnc : n ≤ c) (h : OS w B A ds) (hb : OB ds) :
    Calls Try.prog 26 #[.slice A n c, .int .i64 o] w fun e w' => e = .returned (.bool (hasO ds o)) ∧ Below w.heap.size w w' := by
  have hnb : n ≤ 1048576 := by rw [hn]; exact hb.1
  have HC := Lib.hid (impl_ValidOwners A n c ds w B hB hn hnc h hb)
  unfold hasO
  rw [← hn]
  clear hn h hb
  cases hv : validO ds
  · rw [hv] at HC
    clear hv
    go_enter Try.func26, Try.ntmps26
    go_wp2_with fail
    refine HC.out.mono ?_
    rintro e w1 ⟨rfl, hb⟩
    go_wp2
    go_ret
    exact ⟨rfl, hb⟩
  · rw [hv] at HC
    clear hv
    go_enter Try.func26, Try.ntmps26
    go_wp2_with fail
    refine HC.out.mono ?_
    rintro e w1 ⟨rfl, hb⟩
    go_wp2_with fail
    refine (impl_inRange _ _ _).mono ?_
    rintro e w' ⟨rfl, rfl⟩
    go_wp2
    go_ret
    exact ⟨ret_b (by simp), hb⟩

def liveB (ds : List On) (i : Nat) : Bool := (ds.getD i default).o
def liveF (ds : List On) : List Int := if validO ds then nwTo (liveB ds) ds.length else []
theorem liveF_len (ds : List On) : (liveF ds).length ≤ 12 := by
  unfold liveF
  cases h : validO ds
  · simp
  · simp only [if_true]
    have := nwTo_len (liveB ds) ds.length
    have := (validO_ok h).2.1
    omega

set_option maxHeartbeats 400000 in
theorem live_at (d : On) (A1 A2 : Option Addr) (n1 d1 n2 d2 : Nat) (w : World) :
    Calls Try.prog 24 #[.agg #[.int .i64 d.p, .bool d.o, .slice A1 n1 d1, .slice A2 n2 d2]] w fun e w' => e = .returned (.bool d.o) ∧ Below w.heap.size w w' := by
  obtain ⟨p, o, cl, cx⟩ := d
  dsimp only
  go_enter Try.func24, Try.ntmps24
  go_wp2
  go_ret
  exact ⟨rfl, (Below.refl _ _).alloc (Nat.le_refl _) _⟩

set_option maxRecDepth 100000 in
set_option maxHeartbeats 800000 in
theorem top_impl_LiveOf (ds : List On) (hO : OB ds) : ∀ (A : Option Addr) (n c : Nat) (w : World), n = ds.length → n ≤ c → OS w w.heap.size A ds →
    Calls Try.prog 11 #[.slice A n c] w fun e w' => RetI w (liveF ds) e w' := by
  intro A n c w hn hnc h
  have hnb : n ≤ 1048576 := by rw [hn]; exact hO.1
  have HC := Lib.hid (impl_ValidOwners A n c ds w w.heap.size (Nat.le_refl _) hn hnc h hO)
  have HW := Lib.hid fun (w1 : World) (h1 : OS w1 w1.heap.size A ds) => ownersWhere0 24 (liveB ds) (fun _ => True) A n c ds hn (by omega) (fun _ _ _ _ => trivial) (fun v w => by kernel_rfl) (fun q A1 A2 n1 d1 n2 d2 w' _ _ => live_at (ds.getD q default) A1 A2 n1 d1 n2 d2 w') w1 h1 trivial
  have HS := Lib.hid h
  have hce : liveF ds = if validO ds then nwTo (liveB ds) ds.length else [] := rfl
  rw [← hn] at hce
  rw [hce]
  clear hce hn h hO
  cases hv : validO ds
  · rw [hv] at HC
    clear hv
    simp only [Bool.false_eq_true, if_false]
    go_enter Try.func11, Try.ntmps11
    go_wp2_with fail
    refine HC.out.mono ?_
    rintro e w1 ⟨rfl, hb⟩
    go_wp2
    go_ret
    exact RetI.nil hb
  · rw [hv] at HC
    clear hv
    simp only [if_true]
    go_enter Try.func11, Try.ntmps11
    go_wp2_with fail
    refine HC.out.mono ?_
    rintro e w1 ⟨rfl, hb⟩
    go_wp2_with fail
    refine (HW.out w1 (HS.out.step hb)).mono ?_
    rintro e w2 ⟨v, rfl, ho, hb2⟩
    go_wp2
    go_ret
    exact ⟨v, by simp, own_mono ho hb.size, hb.trans (hb2.mono hb.size)⟩

end Go.Proofs.Ytgjodcddkmjboaa
