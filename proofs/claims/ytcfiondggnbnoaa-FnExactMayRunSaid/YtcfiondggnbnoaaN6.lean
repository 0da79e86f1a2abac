/- UsersOf, ReachOf, NeedOf: what they answer, and the program's side. -/
import Derived.Test.YtcfiondggnbnoaaN5
import Derived.Test.YtcfiondggnbnoaaS6

namespace Go.Proofs.Ytcfiondggnbnoaa
set_option linter.unusedSimpArgs false
set_option linter.unusedVariables false
open Go.RowKit Go.Maps

def hasB (gs : List Nd) (x : Int) : Bool := validG gs && hasN gs x
def usersF (gs : List Nd) (x : Int) : List Int := if hasB gs x then (usN gs gs.length x.toNat).map fun u : Nat => (u : Int) else []
def reachF (gs : List Nd) (x : Int) : List Int := if hasB gs x then reachTo gs [x] gs.length else []
def needF (gs : List Nd) (x : Int) : List Int := if hasB gs x then needTo gs [x] else []
theorem hasB_parts (gs : List Nd) (x : Int) (h : hasB gs x = true) : validG gs = true ∧ gs.length ≤ 10 ∧ ∃ t : Nat, x = (t : Int) ∧ t < gs.length := by
  unfold hasB at h
  simp only [Bool.and_eq_true] at h
  exact ⟨h.1, (validG_parts gs h.1).1, hasN_nat gs x h.2⟩
theorem usN_len (gs : List Nd) (n j : Nat) : (usN gs n j).length ≤ n := by
  unfold usN
  have := List.length_filter_le (fun u => decide ((j : Int) ∈ mayR (gs.getD u default).ps)) (List.range n)
  simpa using this
theorem usersF_len (gs : List Nd) (x : Int) : (usersF gs x).length ≤ 10 := by
  unfold usersF
  split
  · rename_i h
    have := (hasB_parts gs x h).2.1
    have := usN_len gs gs.length x.toNat
    rw [List.length_map]; omega
  · simp
theorem reachF_len (gs : List Nd) (x : Int) : (reachF gs x).length ≤ 10 := by
  unfold reachF
  split
  · rename_i h
    have := (hasB_parts gs x h).2.1
    have := reachTo_len gs [x] gs.length
    omega
  · simp
theorem needF_len (gs : List Nd) (x : Int) : (needF gs x).length ≤ 10 := by
  unfold needF needTo
  split
  · rename_i h
    have := (hasB_parts gs x h).2.1
    have := nwTo_len (fun i => (metF gs [x]).getD i false) gs.length
    omega
  · simp

theorem linkR_needs (gs : List Nd) : (fun x => linkR gs gs.length (2 * x + 0)) = rdsN gs := by
  funext x
  unfold linkR
  rw [if_pos (by omega), show (2 * x + 0) / 2 = x by omega]
  by_cases h : x < gs.length
  · rw [if_pos h]
  · rw [if_neg h, rdsN_out gs x (by omega)]
theorem linkR_users (gs : List Nd) : (fun x => linkR gs gs.length (2 * x + 1)) = usN gs gs.length := by
  funext x
  unfold linkR
  rw [if_neg (by omega), show (2 * x + 1) / 2 = x by omega]

/-- Starts that are nodes. -/
def stOK (gs : List Nd) (xs : List Int) : Prop := ∀ x ∈ xs, 0 ≤ x ∧ x < (gs.length : Int)
theorem st_mem {gs : List Nd} {xs : List Int} (h : stOK gs xs) (y : Nat) : y ∈ xs.map Int.toNat ↔ (y : Int) ∈ xs := by
  rw [List.mem_map]
  constructor
  · rintro ⟨x, hx, rfl⟩
    rw [Int.toNat_of_nonneg (h x hx).1]; exact hx
  · intro hy; exact ⟨_, hy, by simp⟩

theorem from_users (A A1 : Option Addr) (n c m c1 : Nat) (gs : List Nd) (xs : List Int) (w : World) (B : Nat) (hB : B ≤ w.heap.size) (hn : n = gs.length) (hm : m = xs.length) (h : GS w B A gs) (hx : IS w B A1 xs) (hv : validG gs = true) (hG : GB gs) (hm10 : m ≤ 10) (hxs : stOK gs xs) :
    Calls Try.prog 36 #[.agg #[.slice A n c], .slice A1 m c1, .func (.func 37) #[] #[]] w fun e w' => RetI w (reachTo gs xs gs.length) e w' := by
  subst hn
  have h10 := (validG_parts gs hv).1
  rw [reachTo_nwTo gs xs gs.length gs.length (Nat.le_refl _)]
  have hst : ∀ x, x < gs.length → ∀ y ∈ linkR gs gs.length (2 * x + 1), gs.length - y < gs.length - x := fun x hxl y hy => by
    have e := congrFun (linkR_users gs) x
    rw [e] at hy
    have h1 := usN_gt gs hv _ _ _ (Nat.le_refl _) hy
    omega
  refine impl_nodesFrom 37 1 (fun x => gs.length - x) _ A A1 gs.length c m c1 gs xs w B hB rfl hm h hx hv hG hm10 hxs (by omega) (fun g w => by kernel_rfl) (fun g v w hg hc => impl_usersOf g v w hg hc) (fun x _ => by show gs.length - x < 11; omega) hst ?_
  intro i hi
  rw [linkR_users]
  exact fold_is (usN gs gs.length) (fun x => gs.length - x) 11 (fun x _ y hy => by have h1 := usN_gt gs hv _ _ _ (Nat.le_refl _) hy; have := ((mem_usN _ _ _ _).1 hy).1; show gs.length - y < gs.length - x; omega) _ (fun y _ => by show gs.length - y < 11; omega) _ (reach_cl gs hv xs)
    (fun y hy => by
      have h1 := (st_mem hxs y).1 hy
      have h2 := hxs _ h1
      exact decide_eq_true ((reachTo_iff gs xs _ y (by omega)).2 (.inl h1)))
    (fun S hS hl y hy => reach_min gs hv xs S hS (fun x h1 _ => hl x ((st_mem hxs x).2 h1)) y (of_decide_eq_true hy)) i

theorem from_needs (A A1 : Option Addr) (n c m c1 : Nat) (gs : List Nd) (xs : List Int) (w : World) (B : Nat) (hB : B ≤ w.heap.size) (hn : n = gs.length) (hm : m = xs.length) (h : GS w B A gs) (hx : IS w B A1 xs) (hv : validG gs = true) (hG : GB gs) (hm10 : m ≤ 10) (hxs : stOK gs xs) :
    Calls Try.prog 36 #[.agg #[.slice A n c], .slice A1 m c1, .func (.func 39) #[] #[]] w fun e w' => RetI w (needTo gs xs) e w' := by
  subst hn
  have h10 := (validG_parts gs hv).1
  have hst : ∀ x, x < gs.length → ∀ y ∈ linkR gs gs.length (2 * x + 0), y < x := fun x hxl y hy => by
    have e := congrFun (linkR_needs gs) x
    rw [e] at hy
    exact rdsN_lt gs hv x y hxl hy
  have hrk : ∀ x, x < 11 → ∀ y ∈ rdsN gs x, y < x := fun x _ y hy => by
    rcases Nat.lt_or_ge x gs.length with h1 | h1
    · exact rdsN_lt gs hv x y h1 hy
    · rw [rdsN_out gs x h1] at hy; cases hy
  refine impl_nodesFrom 39 0 (fun x => x) _ A A1 gs.length c m c1 gs xs w B hB rfl hm h hx hv hG hm10 hxs (by omega) (fun g w => by kernel_rfl) (fun g v w hg hc => impl_needsOf g v w hg hc) (fun x hx => by show x < 11; omega) hst ?_
  intro i hi
  rw [linkR_needs]
  exact fold_is (rdsN gs) (fun x => x) 11 hrk _ (fun y hy => by
      have h2 := hxs _ ((st_mem hxs y).1 hy)
      show y < 11; omega) (fun i => (metF gs xs).getD i false) (need_cl gs hv xs)
    (fun y hy => by
      have h1 := (st_mem hxs y).1 hy
      have h2 := hxs _ h1
      exact need_has gs hv xs y (by omega) h1)
    (fun S hS hl y hy => need_min gs hv xs S hS (fun x h1 _ => hl x ((st_mem hxs x).2 h1)) y hy) i

set_option maxRecDepth 100000 in
set_option maxHeartbeats 1600000 in
theorem top_impl_ReachOf (gs : List Nd) (x : Int) (hG : GB gs) : ∀ (A : Option Addr) (n c : Nat) (w : World), n = gs.length → n ≤ c → GS w w.heap.size A gs →
    Calls Try.prog 18 #[.agg #[.slice A n c], .int .i64 x] w fun e w' => RetI w (reachF gs x) e w' := by
  intro A n c w hn hnc h
  have HH := Lib.hid (impl_hasNode A n c gs x (w.alloc (.cells #[.slice A n c] 30)) w.heap.size (by simp) hn hnc (h.alloc (Nat.le_refl _) _) hG)
  have hhb : (validG gs && hasN gs x) = hasB gs x := rfl
  rw [hhb] at HH
  have H := Lib.hid h
  cases hb : hasB gs x
  · have hr : reachF gs x = [] := by unfold reachF; rw [hb]; rfl
    rw [hr]
    rw [hb] at HH
    clear hb hr hhb h hn hG
    go_enter Try.func18, Try.ntmps18
    go_wp2_with fail
    refine HH.out.mono ?_
    rintro e w1 ⟨rfl, hb⟩
    go_wp2
    go_ret
    exact RetI.nil (((Below.refl _ _).alloc (Nat.le_refl _) _).trans (hb.mono (by simp)))
  · obtain ⟨hv, h10, t, rfl, ht⟩ := hasB_parts gs x hb
    have hr : reachF gs t = reachTo gs [(t : Int)] gs.length := by unfold reachF; rw [hb]; rfl
    rw [hr]
    rw [hb] at HH
    have HFU := Lib.hid fun (A1 : Option Addr) (c1 : Nat) (w' : World) (hB : w.heap.size ≤ w'.heap.size) (h : GS w' w.heap.size A gs) (hx : IS w' w'.heap.size A1 [(t : Int)]) => from_users A A1 n c 1 c1 gs [(t : Int)] w' w'.heap.size (Nat.le_refl _) hn rfl (h.more hB) hx hv hG (by omega) (fun x hx => by simp at hx; subst hx; omega)
    generalize reachTo gs [(t : Int)] gs.length = R at *
    clear hb hr hhb h hn hG
    go_enter Try.func18, Try.ntmps18
    go_wp2_with fail
    refine HH.out.mono ?_
    rintro e w1 ⟨rfl, hb⟩
    have q1 : w1.cell? ⟨w.heap.size, 0, none⟩ = some (.slice A n c) := (hb.cell (p := ⟨w.heap.size, 0, none⟩) (by simp)).trans (by go_simp)
    have HG1 := Lib.hid ((H.out.alloc (Nat.le_refl _) (.cells #[.slice A n c] 30)).below hb (by simp))
    have hB1 : Below w.heap.size w w1 := ((Below.refl _ _).alloc (Nat.le_refl _) _).trans (hb.mono (by simp))
    have hl1 : w.heap.size < w1.heap.size := by have := hb.size; simp at this; omega
    have HI1 : Hid (IS (w1.alloc (.cells #[.int .i64 t] 3)) (w1.alloc (.cells #[.int .i64 t] 3)).heap.size (some ⟨w1.heap.size, 0, none⟩) [(t : Int)]) := fun _ => ⟨w1.heap.size, 0, rfl, by simp, fun j hj => by
      have : j = 0 := by simp at hj; omega
      subst this; go_simp⟩
    have HG2 := Lib.hid (HG1.out.alloc hB1.size (.cells #[.int .i64 t] 3))
    have hB2 := Lib.hid (hB1.alloc hB1.size (.cells #[.int .i64 t] 3))
    clear hb HG1
    go_wp2_with fail
    refine (HFU.out _ _ _ hB2.out.size HG2.out HI1.out).mono ?_
    rintro e w2 ⟨v, rfl, ho, hb2⟩
    go_wp2
    go_ret
    exact ⟨v, by simp, own_mono ho hB2.out.size, hB2.out.trans (hb2.mono hB2.out.size)⟩

set_option maxRecDepth 100000 in
set_option maxHeartbeats 1600000 in
theorem top_impl_NeedOf (gs : List Nd) (x : Int) (hG : GB gs) : ∀ (A : Option Addr) (n c : Nat) (w : World), n = gs.length → n ≤ c → GS w w.heap.size A gs →
    Calls Try.prog 20 #[.agg #[.slice A n c], .int .i64 x] w fun e w' => RetI w (needF gs x) e w' := by
  intro A n c w hn hnc h
  have HH := Lib.hid (impl_hasNode A n c gs x (w.alloc (.cells #[.slice A n c] 30)) w.heap.size (by simp) hn hnc (h.alloc (Nat.le_refl _) _) hG)
  have hhb : (validG gs && hasN gs x) = hasB gs x := rfl
  rw [hhb] at HH
  have H := Lib.hid h
  cases hb : hasB gs x
  · have hr : needF gs x = [] := by unfold needF; rw [hb]; rfl
    rw [hr]
    rw [hb] at HH
    clear hb hr hhb h hn hG
    go_enter Try.func20, Try.ntmps20
    go_wp2_with fail
    refine HH.out.mono ?_
    rintro e w1 ⟨rfl, hb⟩
    go_wp2
    go_ret
    exact RetI.nil (((Below.refl _ _).alloc (Nat.le_refl _) _).trans (hb.mono (by simp)))
  · obtain ⟨hv, h10, t, rfl, ht⟩ := hasB_parts gs x hb
    have hr : needF gs t = needTo gs [(t : Int)] := by unfold needF; rw [hb]; rfl
    rw [hr]
    rw [hb] at HH
    have HFU := Lib.hid fun (A1 : Option Addr) (c1 : Nat) (w' : World) (hB : w.heap.size ≤ w'.heap.size) (h : GS w' w.heap.size A gs) (hx : IS w' w'.heap.size A1 [(t : Int)]) => from_needs A A1 n c 1 c1 gs [(t : Int)] w' w'.heap.size (Nat.le_refl _) hn rfl (h.more hB) hx hv hG (by omega) (fun x hx => by simp at hx; subst hx; omega)
    generalize needTo gs [(t : Int)] = R at *
    clear hb hr hhb h hn hG
    go_enter Try.func20, Try.ntmps20
    go_wp2_with fail
    refine HH.out.mono ?_
    rintro e w1 ⟨rfl, hb⟩
    have q1 : w1.cell? ⟨w.heap.size, 0, none⟩ = some (.slice A n c) := (hb.cell (p := ⟨w.heap.size, 0, none⟩) (by simp)).trans (by go_simp)
    have HG1 := Lib.hid ((H.out.alloc (Nat.le_refl _) (.cells #[.slice A n c] 30)).below hb (by simp))
    have hB1 : Below w.heap.size w w1 := ((Below.refl _ _).alloc (Nat.le_refl _) _).trans (hb.mono (by simp))
    have hl1 : w.heap.size < w1.heap.size := by have := hb.size; simp at this; omega
    have HI1 : Hid (IS (w1.alloc (.cells #[.int .i64 t] 3)) (w1.alloc (.cells #[.int .i64 t] 3)).heap.size (some ⟨w1.heap.size, 0, none⟩) [(t : Int)]) := fun _ => ⟨w1.heap.size, 0, rfl, by simp, fun j hj => by
      have : j = 0 := by simp at hj; omega
      subst this; go_simp⟩
    have HG2 := Lib.hid (HG1.out.alloc hB1.size (.cells #[.int .i64 t] 3))
    have hB2 := Lib.hid (hB1.alloc hB1.size (.cells #[.int .i64 t] 3))
    clear hb HG1
    go_wp2_with fail
    refine (HFU.out _ _ _ hB2.out.size HG2.out HI1.out).mono ?_
    rintro e w2 ⟨v, rfl, ho, hb2⟩
    go_wp2
    go_ret
    exact ⟨v, by simp, own_mono ho hB2.out.size, hB2.out.trans (hb2.mono hB2.out.size)⟩
end Go.Proofs.Ytcfiondggnbnoaa
