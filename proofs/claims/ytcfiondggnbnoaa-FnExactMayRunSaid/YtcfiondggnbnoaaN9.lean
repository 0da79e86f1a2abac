/- The standing contracts of UsersOf, ReachOf, NeedOf, WatchedOf. -/
import Derived.Test.YtcfiondggnbnoaaS9
import Derived.Test.YtcfiondggnbnoaaN8
import Derived.Deep.RegionHeld3

namespace Go.Proofs.Ytcfiondggnbnoaa
set_option linter.unusedSimpArgs false
set_option linter.unusedVariables false
open Go.RowKit Go.Maps

def effB (gs : List Nd) (i : Nat) : Bool := (gs.getD i default).k == 2
def effs (gs : List Nd) : List Int := nwTo (effB gs) gs.length
def watchF (gs : List Nd) : List Int := if validG gs then needTo gs (effs gs) else []
theorem needTo_len (gs : List Nd) (st : List Int) : (needTo gs st).length ≤ gs.length := nwTo_len _ _
theorem watchF_len (gs : List Nd) : (watchF gs).length ≤ 10 := by
  unfold watchF
  split
  · rename_i h
    have := (validG_parts gs h).1
    have := needTo_len gs (effs gs)
    omega
  · simp
theorem nwTo_ok (P : Nat → Bool) (n : Nat) : ∀ x ∈ nwTo P n, 0 ≤ x ∧ x < (n : Int) := by
  intro x hx
  unfold nwTo at hx
  obtain ⟨i, hi, rfl⟩ := List.mem_map.1 hx
  have := List.mem_range.1 (List.mem_filter.1 hi).1
  omega

set_option maxRecDepth 100000 in
set_option maxHeartbeats 1600000 in
theorem spec_effects (A : Option Addr) (n c : Nat) (gs : List Nd) (w : World) (B : Nat) (hB : B ≤ w.heap.size) (hn : n = gs.length) (h : GS w B A gs) (hn10 : n ≤ 10) :
    Calls Try.prog 40 #[.agg #[.slice A n c]] w fun e w' => RetI w (nwTo (effB gs) n) e w' := by
  obtain ⟨i0, hi, hz0, hz1, hz2⟩ := info_parts info_int
  have H := Lib.hid h
  have HN := Lib.hid hn
  clear h hn
  go_enter Try.func40, Try.ntmps40
  go_wp2
  go_loopw [3, 4] (fun v i wr => ∃ k : Nat, k ≤ n ∧ i = .int .i64 k ∧ Hid (OwnI wr (w.heap.size + 1) v (nwTo (effB gs) k)) ∧ Below (w.heap.size + 1) (w.alloc (.cells #[.slice A n c] 30)) wr) (fun _ i _ => n - (intOf i).toNat)
  case atStart =>
    refine ⟨0, by omega, rfl, ?_, (Below.refl _ _).alloc (by simp) _⟩
    have := World.ownsRow_lit (e := 3) (size := 1) (base := w.heap.size + 1) (w.alloc (.cells #[.slice A n c] 30)) #[] 0 (by simp) (by unfold maxLen; omega) rfl
    simpa [OwnI, Hid, nwTo] using this
  case round =>
    obtain ⟨k, hk, rfl, HO, hbr⟩ := hrel
    have hbox : wr.cell? ⟨w.heap.size, 0, none⟩ = some (.slice A n c) := (hbr.cell (p := ⟨w.heap.size, 0, none⟩) (by simp)).trans (by go_simp)
    have hwr : w.heap.size + 1 ≤ wr.heap.size := by have := hbr.size; simpa using this
    by_cases hlt : k < n
    · have hkg : k < gs.length := by have := HN.out; omega
      obtain ⟨b, off, rfl, hbB, c0, _⟩ := H.out.at_ k hkg
      have e0 := ((hbr.cell (p := ⟨b, off + k * 2, none⟩) (by simp; omega)).trans (World.cell?_alloc_lt _ _ _ (by simp; omega))).trans c0
      have HST := Lib.hid (nwTo_step (effB gs) k)
      have hml := nwTo_len (effB gs) k
      have heb : effB gs k = ((gs.getD k default).k == 2) := rfl
      rw [heb] at HST
      generalize (gs.getD k default).k = kd at *
      generalize nwTo (effB gs) k = M at *
      clear c0 heb
      cases hkd : (kd == 2)
      · rw [hkd] at HST
        have HST2 := Lib.hid (HST.out.trans (by rw [if_neg (by simp), List.append_nil]))
        clear HST
        go_wp2
        go_roundw
        case rel => exact ⟨k + 1, by omega, by go_num, by rw [HST2.out]; exact HO.out, hbr⟩
        case measure => simp [intOf]; omega
      · rw [hkd] at HST
        have HST2 := Lib.hid (HST.out.trans (by rw [if_pos rfl]))
        clear HST
        go_wp2_with (at_builtin; refine wpList_append_own _ rfl _ _ 26 rfl (w.heap.size + 1) 3 i0 (.int .i64 0) 1 8 Try.underlying26 hi hz0 hz1 hz2 rfl (by decide) _ _ _ rfl (HO.out.alloc _) ⟨_, 0, none⟩ 1 1 [.int .i64 k] rfl rfl (cell_one_new _ _ _) ?c2 ?c3 ?c4 ?c5 ?_)
        case c2 => first | rfl | (intro u hu; simp at hu; subst hu; rfl)
        case c3 => unfold maxLen; omega
        case c4 => omega
        case c5 => first | omega | (simp; omega)
        intro v' w4 hown' hgrow _
        have hpos := (HO.out.alloc (.cells #[.int .i64 k] 3)).lt
        have HO' : Hid (OwnI w4 (w.heap.size + 1) v' (nwTo (effB gs) (k + 1))) := by
          rw [HST2.out]
          simpa [OwnI, Hid] using hown'
        have HB' := Lib.hid ((hbr.alloc hwr (.cells #[.int .i64 k] 3)).grown hgrow (by simp; omega) (fun q hq => (hpos q hq).1))
        clear hown' hgrow hpos
        go_wp2
        go_roundw
        case rel => exact ⟨k + 1, by omega, by go_num, HO'.out, HB'.out⟩
        case measure => simp [intOf]; omega
    · obtain rfl : k = n := by omega
      go_wp2
      go_ret
      exact ⟨_, rfl, own_mono HO.out (by omega), ((Below.refl _ _).alloc (Nat.le_refl _) _).trans (hbr.mono (by omega))⟩

set_option maxHeartbeats 800000 in
theorem watch1_at (g : Nat) (A : Option Addr) (n c : Nat) (gs : List Nd) (q : Nat) (w : World) (hn : n = gs.length) (hq : q < n) (hg : g < w.heap.size) (h1 : w.cell? ⟨g, 0, none⟩ = some (.slice A n c)) (h : GS w w.heap.size A gs) :
    Calls Try.prog 43 #[.int .i64 q, .pointer (some ⟨g, 0, none⟩)] w fun e w' => e = .returned (.bool (effB gs q)) ∧ Below w.heap.size w w' := by
  obtain ⟨b, off, rfl, hbB, c0, _⟩ := h.at_ q (by omega)
  have he : effB gs q = ((gs.getD q default).k == 2) := rfl
  rw [he]
  have hqn : (q : Int) < (n : Int) := by omega
  generalize (gs.getD q default).k = kd at *
  clear hn h he
  cases hk : (kd == 2)
  all_goals
    go_enter Try.func43, Try.ntmps43
    go_wp2
    go_ret
    exact ⟨ret_b (by simp), Below.refl _ _⟩

set_option maxRecDepth 100000 in
set_option maxHeartbeats 1600000 in
theorem top_impl_WatchedOf (gs : List Nd) (hG : GB gs) : ∀ (A : Option Addr) (n c : Nat) (w : World), n = gs.length → n ≤ c → GS w w.heap.size A gs →
    Calls Try.prog 22 #[.agg #[.slice A n c]] w fun e w' => RetI w (watchF gs) e w' := by
  intro A n c w hn hnc h
  have HH := Lib.hid (impl_ValidGraph A n c gs (w.alloc (.cells #[.slice A n c] 30)) w.heap.size (by simp) hn (h.alloc (Nat.le_refl _) _) hG hnc)
  have H := Lib.hid h
  cases hv : validG gs
  · have hr : watchF gs = [] := by unfold watchF; rw [hv]; rfl
    rw [hr]
    rw [hv] at HH
    clear hv hr h hn hG
    go_enter Try.func22, Try.ntmps22
    go_wp2_with fail
    refine HH.out.mono ?_
    rintro e w1 ⟨rfl, hb⟩
    go_wp2
    go_ret
    exact RetI.nil (((Below.refl _ _).alloc (Nat.le_refl _) _).trans (hb.mono (by simp)))
  · have hr : watchF gs = needTo gs (effs gs) := by unfold watchF; rw [hv]; rfl
    have hn10 : n ≤ 10 := by have := (validG_parts gs hv).1; omega
    have hel : (effs gs).length ≤ n := by rw [hn]; exact nwTo_len _ _
    have hef : effs gs = nwTo (effB gs) n := by rw [hn]; rfl
    rw [hr]
    rw [hv] at HH
    have HFU := Lib.hid fun (A1 : Option Addr) (c1 m : Nat) (w' : World) (hB : w.heap.size ≤ w'.heap.size) (hm : m = (effs gs).length) (h : GS w' w.heap.size A gs) (hx : IS w' w'.heap.size A1 (effs gs)) => from_needs A A1 n c m c1 gs (effs gs) w' w'.heap.size (Nat.le_refl _) hn hm (h.more hB) hx hv hG (by omega) (nwTo_ok _ _)
    have HNW := Lib.hid fun (w1 : World) (h0 : w.heap.size < w1.heap.size) (h1 : w1.cell? ⟨w.heap.size, 0, none⟩ = some (.slice A n c)) (h2 : GS w1 w.heap.size A gs) => impl_nodesWhere1 43 (.pointer (some ⟨w.heap.size, 0, none⟩)) (effB gs)
      (fun w' => w.heap.size < w'.heap.size ∧ w'.cell? ⟨w.heap.size, 0, none⟩ = some (.slice A n c) ∧ GS w' w.heap.size A gs) A n c (by omega)
      (fun wa wb h hb => ⟨Nat.lt_of_lt_of_le h.1 hb.size, (hb.cell (p := ⟨w.heap.size, 0, none⟩) h.1).trans h.2.1, h.2.2.below hb (Nat.le_of_lt h.1)⟩)
      (fun q w => by kernel_rfl)
      (fun q wa hq h => watch1_at w.heap.size A n c gs q wa hn hq h.1 h.2.1 (h.2.2.more (Nat.le_of_lt h.1)))
      w1 ⟨h0, h1, h2⟩
    rw [← hef] at HNW
    generalize needTo gs (effs gs) = R at *
    generalize effs gs = E at *
    clear hv hr h hn hG hef
    go_enter Try.func22, Try.ntmps22
    go_wp2_with fail
    refine HH.out.mono ?_
    rintro e w1 ⟨rfl, hb⟩
    have q1 : w1.cell? ⟨w.heap.size, 0, none⟩ = some (.slice A n c) := (hb.cell (p := ⟨w.heap.size, 0, none⟩) (by simp)).trans (by go_simp)
    have HG1 := Lib.hid ((H.out.alloc (Nat.le_refl _) (.cells #[.slice A n c] 30)).below hb (by simp))
    have hB1 : Below w.heap.size w w1 := ((Below.refl _ _).alloc (Nat.le_refl _) _).trans (hb.mono (by simp))
    have hl1 : w.heap.size < w1.heap.size := by have := hb.size; simp at this; omega
    clear hb
    go_wp2_with fail
    refine (HNW.out w1 hl1 q1 HG1.out).mono ?_
    rintro e w2 ⟨v2, rfl, ho2, hb2⟩
    obtain ⟨A2, c2, rfl, hI2⟩ := OwnI.form ho2
    have q2 := (hb2.cell (p := ⟨w.heap.size, 0, none⟩) hl1).trans q1
    have HG2 := Lib.hid (HG1.out.below hb2 hB1.size)
    have HB2 := Lib.hid (hB1.trans (hb2.mono hB1.size))
    have hl2 : w.heap.size < w2.heap.size := Nat.lt_of_lt_of_le hl1 hb2.size
    have HI2 := Lib.hid hI2
    generalize hm : E.length = m at *
    have HM := Lib.hid hm
    clear ho2 hb2 hI2 q1 HG1 hB1 hl1 hm
    go_wp2_with fail
    refine (HFU.out A2 c2 m _ HB2.out.size (by first | rfl | exact HM.out.symm) HG2.out HI2.out).mono ?_
    rintro e w3 ⟨v, rfl, ho, hb3⟩
    go_wp2
    go_ret
    exact ⟨v, by simp, own_mono ho HB2.out.size, HB2.out.trans (hb3.mono HB2.out.size)⟩

set_option maxRecDepth 100000 in
set_option maxHeartbeats 1600000 in
theorem top_spec_WatchedOf (gs : List Nd) (hG : GB gs) : ∀ (A : Option Addr) (n c : Nat) (w : World), n = gs.length → n ≤ c → GS w w.heap.size A gs →
    Calls Try.prog 21 #[.agg #[.slice A n c]] w fun e w' => RetI w (watchF gs) e w' := by
  intro A n c w hn hnc h
  have HH := Lib.hid (spec_validGraph A n c gs (w.alloc (.cells #[.slice A n c] 30)) w.heap.size (by simp) hn (h.alloc (Nat.le_refl _) _) hG)
  have H := Lib.hid h
  cases hv : validG gs
  · have hr : watchF gs = [] := by unfold watchF; rw [hv]; rfl
    rw [hr]
    rw [hv] at HH
    clear hv hr h hn hG
    go_enter Try.func21, Try.ntmps21
    go_wp2_with fail
    refine HH.out.mono ?_
    rintro e w1 ⟨rfl, hb⟩
    go_wp2
    go_ret
    exact RetI.nil (((Below.refl _ _).alloc (Nat.le_refl _) _).trans (hb.mono (by simp)))
  · have hr : watchF gs = needTo gs (effs gs) := by unfold watchF; rw [hv]; rfl
    have hn10 : n ≤ 10 := by have := (validG_parts gs hv).1; omega
    have hel : (effs gs).length ≤ n := by rw [hn]; exact nwTo_len _ _
    have hef : effs gs = nwTo (effB gs) n := by rw [hn]; rfl
    rw [hr]
    rw [hv] at HH
    have HFU := Lib.hid fun (A1 : Option Addr) (c1 m : Nat) (w' : World) (hB : w.heap.size ≤ w'.heap.size) (hm : m = (effs gs).length) (h : GS w' w.heap.size A gs) (hx : IS w' w'.heap.size A1 (effs gs)) => spec_need A A1 n c m c1 gs (effs gs) w' w'.heap.size (Nat.le_refl _) hn hm (h.more hB) hx hv hG (by omega)
    have HNW := Lib.hid fun (w1 : World) (h0 : w.heap.size ≤ w1.heap.size) (h2 : GS w1 w.heap.size A gs) => spec_effects A n c gs w1 w.heap.size h0 hn h2 hn10
    rw [← hef] at HNW
    generalize needTo gs (effs gs) = R at *
    generalize effs gs = E at *
    clear hv hr h hn hG hef
    go_enter Try.func21, Try.ntmps21
    go_wp2_with fail
    refine HH.out.mono ?_
    rintro e w1 ⟨rfl, hb⟩
    have q1 : w1.cell? ⟨w.heap.size, 0, none⟩ = some (.slice A n c) := (hb.cell (p := ⟨w.heap.size, 0, none⟩) (by simp)).trans (by go_simp)
    have HG1 := Lib.hid ((H.out.alloc (Nat.le_refl _) (.cells #[.slice A n c] 30)).below hb (by simp))
    have hB1 : Below w.heap.size w w1 := ((Below.refl _ _).alloc (Nat.le_refl _) _).trans (hb.mono (by simp))
    have hl1 : w.heap.size < w1.heap.size := by have := hb.size; simp at this; omega
    clear hb
    go_wp2_with fail
    go_region_held3 (fun w' => w'.cell? ⟨w.heap.size, 0, none⟩ = some (.slice A n c)) (first | exact q1 | exact q2 | exact q3)
      (first
        | (go_at_call 40; refine (HNW.out w1.drew hB1.size HG1.out).mono ?_; rintro e w2 ⟨v2, rfl, ho2, hb2'⟩; have hb2 : Below w1.heap.size w1 w2 := below_of_drew hb2'; obtain ⟨A2, c2, rfl, hI2⟩ := OwnI.form ho2; have q2 := (hb2.cell (p := ⟨w.heap.size, 0, none⟩) hl1).trans q1; have HG2 := Lib.hid (HG1.out.below hb2 hB1.size); have HB2 := Lib.hid (hB1.trans (hb2.mono hB1.size)); have hl2 : w.heap.size < w2.heap.size := Nat.lt_of_lt_of_le hl1 hb2.size; have HI2 := Lib.hid hI2; clear ho2 hb2 hb2' hI2)
        | (go_at_call 38; refine (HFU.out A2 c2 E.length w2 HB2.out.size rfl HG2.out HI2.out).mono ?_; rintro e w3 ⟨v, rfl, ho, hb3⟩; have q3 := (hb3.cell (p := ⟨w.heap.size, 0, none⟩) hl2).trans q2))
    go_wp2
    go_ret
    exact ⟨v, by simp, own_mono ho HB2.out.size, HB2.out.trans (hb3.mono HB2.out.size)⟩

set_option maxRecDepth 100000 in
set_option maxHeartbeats 1600000 in
theorem top_spec_UsersOf (gs : List Nd) (x : Int) (hG : GB gs) : ∀ (A : Option Addr) (n c : Nat) (w : World), n = gs.length → n ≤ c → GS w w.heap.size A gs →
    Calls Try.prog 9 #[.agg #[.slice A n c], .int .i64 x] w fun e w' => RetI w (usersF gs x) e w' := by
  intro A n c w hn hnc h
  have HH := Lib.hid (spec_validGraph A n c gs (w.alloc (.cells #[.slice A n c] 30)) w.heap.size (by simp) hn (h.alloc (Nat.le_refl _) _) hG)
  have H := Lib.hid h
  have hn1 : n ≤ 1048576 := by rw [hn]; exact hG.1
  have hrg : rng x 0 ((n : Int) - 1) = hasN gs x := by rw [hn]; rfl
  cases hb : hasB gs x
  · have hr : usersF gs x = [] := by unfold usersF; rw [hb]; rfl
    rw [hr]
    have hbb : (validG gs && hasN gs x) = false := hb
    generalize validG gs = b0 at *
    generalize hasN gs x = b1 at *
    clear hb hr h hn hG
    go_enter Try.func9, Try.ntmps9
    go_wp2_with fail
    refine HH.out.mono ?_
    rintro e w1 ⟨rfl, hb⟩
    have q1 : w1.cell? ⟨w.heap.size, 0, none⟩ = some (.slice A n c) := (hb.cell (p := ⟨w.heap.size, 0, none⟩) (by simp)).trans (by go_simp)
    have hB1 : Below w.heap.size w w1 := ((Below.refl _ _).alloc (Nat.le_refl _) _).trans (hb.mono (by simp))
    have hl1 : w.heap.size < w1.heap.size := by have := hb.size; simp at this; omega
    clear hb
    cases b0
    · go_wp2
      go_ret
      exact RetI.nil hB1
    · have hb1 : b1 = false := by simpa using hbb
      subst hb1
      go_wp2_with (go_at_call 28; refine (spec_inRange _ _ _ _).mono ?_; rintro e w' ⟨rfl, rfl⟩)
      go_ret
      exact RetI.nil hB1
  · obtain ⟨hv, h10, t, rfl, ht⟩ := hasB_parts gs x hb
    have hr : usersF gs t = usI gs gs.length t := by unfold usersF; rw [hb]; rfl
    have hhn : hasN gs (t : Int) = true := by unfold hasB at hb; simp only [Bool.and_eq_true] at hb; exact hb.2
    rw [hr]
    rw [hv] at HH
    rw [hhn] at hrg
    have htn : t < n := by omega
    have HFU := Lib.hid fun (w' : World) (hB : w.heap.size ≤ w'.heap.size) (h : GS w' w.heap.size A gs) => (by rw [← hn]; exact spec_users A n c gs t w' w.heap.size hB hn h hv hG htn : Calls Try.prog 29 #[.agg #[.slice A n c], .int .i64 t] w' fun e w'' => RetI w' (usI gs gs.length t) e w'')
    generalize usI gs gs.length t = R at *
    clear hb hr h hn hG hhn
    go_enter Try.func9, Try.ntmps9
    go_wp2_with fail
    refine HH.out.mono ?_
    rintro e w1 ⟨rfl, hb⟩
    have q1 : w1.cell? ⟨w.heap.size, 0, none⟩ = some (.slice A n c) := (hb.cell (p := ⟨w.heap.size, 0, none⟩) (by simp)).trans (by go_simp)
    have HG1 := Lib.hid ((H.out.alloc (Nat.le_refl _) (.cells #[.slice A n c] 30)).below hb (by simp))
    have hB1 : Below w.heap.size w w1 := ((Below.refl _ _).alloc (Nat.le_refl _) _).trans (hb.mono (by simp))
    have hl1 : w.heap.size < w1.heap.size := by have := hb.size; simp at this; omega
    clear hb
    go_wp2_with (go_at_call 28; refine (spec_inRange _ _ _ _).mono ?_; rintro e w' ⟨rfl, rfl⟩)
    refine (HFU.out _ hB1.size HG1.out).mono ?_
    rintro e w2 ⟨v, rfl, ho, hb2⟩
    go_wp2
    go_ret
    exact ⟨v, by simp, own_mono ho hB1.size, hB1.trans (hb2.mono hB1.size)⟩

set_option maxRecDepth 100000 in
set_option maxHeartbeats 1600000 in
theorem top_spec_ReachOf (gs : List Nd) (x : Int) (hG : GB gs) : ∀ (A : Option Addr) (n c : Nat) (w : World), n = gs.length → n ≤ c → GS w w.heap.size A gs →
    Calls Try.prog 17 #[.agg #[.slice A n c], .int .i64 x] w fun e w' => RetI w (reachF gs x) e w' := by
  intro A n c w hn hnc h
  have HH := Lib.hid (spec_validGraph A n c gs (w.alloc (.cells #[.slice A n c] 30)) w.heap.size (by simp) hn (h.alloc (Nat.le_refl _) _) hG)
  have H := Lib.hid h
  have hn1 : n ≤ 1048576 := by rw [hn]; exact hG.1
  have hrg : rng x 0 ((n : Int) - 1) = hasN gs x := by rw [hn]; rfl
  cases hb : hasB gs x
  · have hr : reachF gs x = [] := by unfold reachF; rw [hb]; rfl
    rw [hr]
    have hbb : (validG gs && hasN gs x) = false := hb
    generalize validG gs = b0 at *
    generalize hasN gs x = b1 at *
    clear hb hr h hn hG
    go_enter Try.func17, Try.ntmps17
    go_wp2_with fail
    refine HH.out.mono ?_
    rintro e w1 ⟨rfl, hb⟩
    have q1 : w1.cell? ⟨w.heap.size, 0, none⟩ = some (.slice A n c) := (hb.cell (p := ⟨w.heap.size, 0, none⟩) (by simp)).trans (by go_simp)
    have hB1 : Below w.heap.size w w1 := ((Below.refl _ _).alloc (Nat.le_refl _) _).trans (hb.mono (by simp))
    have hl1 : w.heap.size < w1.heap.size := by have := hb.size; simp at this; omega
    clear hb
    cases b0
    · go_wp2
      go_ret
      exact RetI.nil hB1
    · have hb1 : b1 = false := by simpa using hbb
      subst hb1
      go_wp2_with (go_at_call 28; refine (spec_inRange _ _ _ _).mono ?_; rintro e w' ⟨rfl, rfl⟩)
      go_ret
      exact RetI.nil hB1
  · obtain ⟨hv, h10, t, rfl, ht⟩ := hasB_parts gs x hb
    have hr : reachF gs t = reachTo gs [(t : Int)] gs.length := by unfold reachF; rw [hb]; rfl
    have hhn : hasN gs (t : Int) = true := by unfold hasB at hb; simp only [Bool.and_eq_true] at hb; exact hb.2
    rw [hr]
    rw [hv] at HH
    rw [hhn] at hrg
    have htn : t < n := by omega
    have HFU := Lib.hid fun (A1 : Option Addr) (c1 : Nat) (w' : World) (hB : w.heap.size ≤ w'.heap.size) (h : GS w' w.heap.size A gs) (hx : IS w' w'.heap.size A1 [(t : Int)]) => (by rw [← hn]; exact spec_reach A A1 n c 1 c1 gs [(t : Int)] w' w'.heap.size (Nat.le_refl _) hn rfl (h.more hB) hx hv hG (by omega) : Calls Try.prog 35 #[.agg #[.slice A n c], .slice A1 1 c1] w' fun e w'' => RetI w' (reachTo gs [(t : Int)] gs.length) e w'')
    generalize reachTo gs [(t : Int)] gs.length = R at *
    clear hb hr h hn hG hhn
    go_enter Try.func17, Try.ntmps17
    go_wp2_with fail
    refine HH.out.mono ?_
    rintro e w1 ⟨rfl, hb⟩
    have q1 : w1.cell? ⟨w.heap.size, 0, none⟩ = some (.slice A n c) := (hb.cell (p := ⟨w.heap.size, 0, none⟩) (by simp)).trans (by go_simp)
    have HG1 := Lib.hid ((H.out.alloc (Nat.le_refl _) (.cells #[.slice A n c] 30)).below hb (by simp))
    have hB1 : Below w.heap.size w w1 := ((Below.refl _ _).alloc (Nat.le_refl _) _).trans (hb.mono (by simp))
    have hl1 : w.heap.size < w1.heap.size := by have := hb.size; simp at this; omega
    clear hb
    go_wp2_with (go_at_call 28; refine (spec_inRange _ _ _ _).mono ?_; rintro e w' ⟨rfl, rfl⟩)
    have HI1 : Hid (IS (w1.alloc (.cells #[.int .i64 t] 3)) (w1.alloc (.cells #[.int .i64 t] 3)).heap.size (some ⟨w1.heap.size, 0, none⟩) [(t : Int)]) := fun _ => ⟨w1.heap.size, 0, rfl, by simp, fun j hj => by
      have : j = 0 := by simp at hj; omega
      subst this; go_simp⟩
    have HG2 := Lib.hid (HG1.out.alloc hB1.size (.cells #[.int .i64 t] 3))
    have hB2 := Lib.hid (hB1.alloc hB1.size (.cells #[.int .i64 t] 3))
    refine (HFU.out _ _ _ hB2.out.size HG2.out HI1.out).mono ?_
    rintro e w2 ⟨v, rfl, ho, hb2⟩
    go_wp2
    go_ret
    exact ⟨v, by simp, own_mono ho hB2.out.size, hB2.out.trans (hb2.mono hB2.out.size)⟩

set_option maxRecDepth 100000 in
set_option maxHeartbeats 1600000 in
theorem top_spec_NeedOf (gs : List Nd) (x : Int) (hG : GB gs) : ∀ (A : Option Addr) (n c : Nat) (w : World), n = gs.length → n ≤ c → GS w w.heap.size A gs →
    Calls Try.prog 19 #[.agg #[.slice A n c], .int .i64 x] w fun e w' => RetI w (needF gs x) e w' := by
  intro A n c w hn hnc h
  have HH := Lib.hid (spec_validGraph A n c gs (w.alloc (.cells #[.slice A n c] 30)) w.heap.size (by simp) hn (h.alloc (Nat.le_refl _) _) hG)
  have H := Lib.hid h
  have hn1 : n ≤ 1048576 := by rw [hn]; exact hG.1
  have hrg : rng x 0 ((n : Int) - 1) = hasN gs x := by rw [hn]; rfl
  cases hb : hasB gs x
  · have hr : needF gs x = [] := by unfold needF; rw [hb]; rfl
    rw [hr]
    have hbb : (validG gs && hasN gs x) = false := hb
    generalize validG gs = b0 at *
    generalize hasN gs x = b1 at *
    clear hb hr h hn hG
    go_enter Try.func19, Try.ntmps19
    go_wp2_with fail
    refine HH.out.mono ?_
    rintro e w1 ⟨rfl, hb⟩
    have q1 : w1.cell? ⟨w.heap.size, 0, none⟩ = some (.slice A n c) := (hb.cell (p := ⟨w.heap.size, 0, none⟩) (by simp)).trans (by go_simp)
    have hB1 : Below w.heap.size w w1 := ((Below.refl _ _).alloc (Nat.le_refl _) _).trans (hb.mono (by simp))
    have hl1 : w.heap.size < w1.heap.size := by have := hb.size; simp at this; omega
    clear hb
    cases b0
    · go_wp2
      go_ret
      exact RetI.nil hB1
    · have hb1 : b1 = false := by simpa using hbb
      subst hb1
      go_wp2_with (go_at_call 28; refine (spec_inRange _ _ _ _).mono ?_; rintro e w' ⟨rfl, rfl⟩)
      go_ret
      exact RetI.nil hB1
  · obtain ⟨hv, h10, t, rfl, ht⟩ := hasB_parts gs x hb
    have hr : needF gs t = needTo gs [(t : Int)] := by unfold needF; rw [hb]; rfl
    have hhn : hasN gs (t : Int) = true := by unfold hasB at hb; simp only [Bool.and_eq_true] at hb; exact hb.2
    rw [hr]
    rw [hv] at HH
    rw [hhn] at hrg
    have htn : t < n := by omega
    have HFU := Lib.hid fun (A1 : Option Addr) (c1 : Nat) (w' : World) (hB : w.heap.size ≤ w'.heap.size) (h : GS w' w.heap.size A gs) (hx : IS w' w'.heap.size A1 [(t : Int)]) => (by exact spec_need A A1 n c 1 c1 gs [(t : Int)] w' w'.heap.size (Nat.le_refl _) hn rfl (h.more hB) hx hv hG (by omega) : Calls Try.prog 38 #[.agg #[.slice A n c], .slice A1 1 c1] w' fun e w'' => RetI w' (needTo gs [(t : Int)]) e w'')
    generalize needTo gs [(t : Int)] = R at *
    clear hb hr h hn hG hhn
    go_enter Try.func19, Try.ntmps19
    go_wp2_with fail
    refine HH.out.mono ?_
    rintro e w1 ⟨rfl, hb⟩
    have q1 : w1.cell? ⟨w.heap.size, 0, none⟩ = some (.slice A n c) := (hb.cell (p := ⟨w.heap.size, 0, none⟩) (by simp)).trans (by go_simp)
    have HG1 := Lib.hid ((H.out.alloc (Nat.le_refl _) (.cells #[.slice A n c] 30)).below hb (by simp))
    have hB1 : Below w.heap.size w w1 := ((Below.refl _ _).alloc (Nat.le_refl _) _).trans (hb.mono (by simp))
    have hl1 : w.heap.size < w1.heap.size := by have := hb.size; simp at this; omega
    clear hb
    go_wp2_with (go_at_call 28; refine (spec_inRange _ _ _ _).mono ?_; rintro e w' ⟨rfl, rfl⟩)
    have HI1 : Hid (IS (w1.alloc (.cells #[.int .i64 t] 3)) (w1.alloc (.cells #[.int .i64 t] 3)).heap.size (some ⟨w1.heap.size, 0, none⟩) [(t : Int)]) := fun _ => ⟨w1.heap.size, 0, rfl, by simp, fun j hj => by
      have : j = 0 := by simp at hj; omega
      subst this; go_simp⟩
    have HG2 := Lib.hid (HG1.out.alloc hB1.size (.cells #[.int .i64 t] 3))
    have hB2 := Lib.hid (hB1.alloc hB1.size (.cells #[.int .i64 t] 3))
    refine (HFU.out _ _ _ hB2.out.size HG2.out HI1.out).mono ?_
    rintro e w2 ⟨v, rfl, ho, hb2⟩
    go_wp2
    go_ret
    exact ⟨v, by simp, own_mono ho hB2.out.size, hB2.out.trans (hb2.mono hB2.out.size)⟩

set_option maxRecDepth 100000 in
set_option maxHeartbeats 1600000 in
theorem top_impl_UsersOf (gs : List Nd) (x : Int) (hG : GB gs) : ∀ (A : Option Addr) (n c : Nat) (w : World), n = gs.length → n ≤ c → GS w w.heap.size A gs →
    Calls Try.prog 11 #[.agg #[.slice A n c], .int .i64 x] w fun e w' => RetI w (usersF gs x) e w' := by
  intro A n c w hn hnc h
  obtain ⟨i0, hi, hz0, hz1, hz2⟩ := info_parts info_int
  have HH := Lib.hid (impl_hasNode A n c gs x (w.alloc (.cells #[.slice A n c] 30)) w.heap.size (by simp) hn hnc (h.alloc (Nat.le_refl _) _) hG)
  have hhb : (validG gs && hasN gs x) = hasB gs x := rfl
  rw [hhb] at HH
  have H := Lib.hid h
  cases hb : hasB gs x
  · have hr : usersF gs x = [] := by unfold usersF; rw [hb]; rfl
    rw [hr]
    rw [hb] at HH
    clear hb hr hhb h hn hG
    go_enter Try.func11, Try.ntmps11
    go_wp2_with fail
    refine HH.out.mono ?_
    rintro e w1 ⟨rfl, hb⟩
    go_wp2
    go_ret
    exact RetI.nil (((Below.refl _ _).alloc (Nat.le_refl _) _).trans (hb.mono (by simp)))
  · obtain ⟨hv, h10, t, rfl, ht⟩ := hasB_parts gs x hb
    have hr : usersF gs t = (usN gs gs.length t).map fun u : Nat => (u : Int) := by unfold usersF; rw [hb]; rfl
    have hul := usN_len gs gs.length t
    have hlr : linkR gs n (2 * t + 1) = usN gs gs.length t := by
      rw [hn]; exact congrFun (linkR_users gs) t
    rw [hr]
    rw [hb] at HH
    have HLK := Lib.hid fun (w' : World) (hB : w.heap.size ≤ w'.heap.size) (h : GS w' w.heap.size A gs) => impl_linksOf A n c gs w' w.heap.size hB hn h hv hG
    have hn10 : n ≤ 10 := by omega
    have htn : t < n := by omega
    generalize linkR gs n = R at *
    generalize usN gs gs.length t = U at *
    have HLR := Lib.hid hlr
    clear hb hr hhb h hn hG hlr
    go_enter Try.func11, Try.ntmps11
    go_wp2_with fail
    refine HH.out.mono ?_
    rintro e w1 ⟨rfl, hb⟩
    have q1 : w1.cell? ⟨w.heap.size, 0, none⟩ = some (.slice A n c) := (hb.cell (p := ⟨w.heap.size, 0, none⟩) (by simp)).trans (by go_simp)
    have HG1 := Lib.hid ((H.out.alloc (Nat.le_refl _) (.cells #[.slice A n c] 30)).below hb (by simp))
    have hB1 : Below w.heap.size w w1 := ((Below.refl _ _).alloc (Nat.le_refl _) _).trans (hb.mono (by simp))
    have hl1 : w.heap.size < w1.heap.size := by have := hb.size; simp at this; omega
    clear hb
    go_wp2_with fail
    refine (HLK.out w1 hB1.size HG1.out).mono ?_
    rintro e w2 ⟨lb, rfl, hlb, hL2, hM2, hb2⟩
    have htl : t < lb.length := by omega
    obtain ⟨g, hg⟩ : ∃ g, lb[t]? = some g := ⟨_, List.getElem?_eq_getElem htl⟩
    have hlook := hM2.look t (by omega)
    rw [hg] at hlook
    replace hlook : (Instr.lookup 51 (.map (some (w1.heap.size + 1))) (.int .i64 t) false).run Try.prog w2 = .ok (.pointer (some ⟨g, 0, none⟩)) w2 := hlook
    obtain ⟨hgB, _, _, ⟨A2, m, c2, d0, hm, hps⟩⟩ := hL2.it t g hg
    rw [HLR.out] at hm hps
    have HL2 := Lib.hid hL2
    have HPS := Lib.hid hps
    have HMM := Lib.hid hm
    have HB2 := Lib.hid (hB1.trans (hb2.mono hB1.size))
    have hm10 : m ≤ 10 := by omega
    clear hL2 hM2 hb2 hps hm hg
    go_wp2
    go_loopw [5, 20] (fun v u wr => ∃ k : Nat, k ≤ m ∧ u = .int .i64 k ∧ Hid (OwnI wr w2.heap.size v ((U.take k).map fun u : Nat => (u : Int))) ∧ Hid (Below w2.heap.size w2 wr)) (fun _ u _ => m - (intOf u).toNat)
    case atStart => exact ⟨0, Nat.zero_le _, rfl, World.ownsRow_nil _ _ _ _, Below.refl _ _⟩
    case round =>
      obtain ⟨k, hk, rfl, HO, HB⟩ := hrel
      have hwr := HB.out.size
      by_cases hlt : k < m
      · have hkU : k < U.length := by have := HMM.out; omega
        obtain ⟨y, hy⟩ : ∃ y, U[k]? = some y := ⟨_, List.getElem?_eq_getElem hkU⟩
        have hyl : y < lb.length := HL2.out.small (2 * t + 1) y (by rw [HLR.out]; exact List.mem_of_getElem? hy)
        obtain ⟨gy, hgy⟩ : ∃ gy, lb[y]? = some gy := ⟨_, List.getElem?_eq_getElem hyl⟩
        obtain ⟨bp, op, rfl, hbp, hcp⟩ := HPS.out (by omega)
        have p0 := (HB.out.cell (p := ⟨bp, op + k, none⟩) (by show bp < w2.heap.size; omega)).trans (hcp k y hy)
        rw [hgy] at p0
        replace p0 : wr.cell? ⟨bp, op + k, none⟩ = some (.pointer (some ⟨gy, 0, none⟩)) := p0
        obtain ⟨hgyB, p1', _⟩ := HL2.out.it y gy hgy
        have p1 := (HB.out.cell (p := ⟨gy, 0, none⟩) (by show gy < w2.heap.size; omega)).trans p1'
        have hst : (U.take (k + 1)).map (fun u : Nat => (u : Int)) = (U.take k).map (fun u : Nat => (u : Int)) ++ [(y : Int)] := by
          rw [List.take_add_one, hy, List.map_append]; rfl
        have HST := Lib.hid hst
        have hdl : ((U.take k).map fun u : Nat => (u : Int)).length ≤ 10 := by rw [List.length_map, List.length_take]; omega
        have hgyw : gy < wr.heap.size := by omega
        clear hcp p1' hy hst hgy
        generalize (U.take k).map (fun u : Nat => (u : Int)) = D at *
        go_wp2_with (at_builtin; refine wpList_append_own _ rfl _ _ 26 rfl w2.heap.size 3 i0 (.int .i64 0) 1 8 Try.underlying26 hi hz0 hz1 hz2 rfl (by decide) _ _ _ rfl (HO.out.alloc _) ⟨_, 0, none⟩ 1 1 [.int .i64 y] rfl rfl (cell_one_new _ _ _) ?c2 ?c3 ?c4 ?c5 ?_)
        case c2 => first | rfl | (intro u hu; simp at hu; subst hu; rfl)
        case c3 => unfold maxLen; omega
        case c4 => omega
        case c5 => first | omega | (simp; omega)
        intro v' w4 hown' hgrow _
        have hpos := (HO.out.alloc (.cells #[.int .i64 y] 3)).lt
        have HO' : Hid (OwnI w4 w2.heap.size v' ((U.take (k + 1)).map fun u : Nat => (u : Int))) := by
          show OwnI w4 w2.heap.size v' ((U.take (k + 1)).map fun u : Nat => (u : Int))
          rw [HST.out]
          simpa [OwnI] using hown'
        have HB' := Lib.hid ((HB.out.alloc hwr (.cells #[.int .i64 y] 3)).grown hgrow (by simp; omega) (fun q hq => (hpos q hq).1))
        clear hown' hgrow hpos
        go_wp2
        go_roundw
        case rel => exact ⟨k + 1, by omega, by go_num, HO'.out, HB'.out⟩
        case measure => simp [intOf]; omega
      · obtain rfl : k = m := by omega
        go_wp2
        go_ret
        have ho := HO.out
        rw [List.take_of_length_le (by have := HMM.out; omega)] at ho
        exact ⟨_, rfl, own_mono ho HB2.out.size, HB2.out.trans (HB.out.mono HB2.out.size)⟩
end Go.Proofs.Ytcfiondggnbnoaa
