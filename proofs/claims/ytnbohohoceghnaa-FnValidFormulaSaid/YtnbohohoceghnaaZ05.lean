/- Texts put together: D3 D4 A22. -/
import Derived.Test.YtnbohohoceghnaaZ04
import Derived.Deep.RegionHeld3
import Derived.Deep.RegionLaw
import Derived.Deep.RegionWith
import Derived.Deep.AppendLies
import Derived.Deep.Cut
import Derived.Deep.DeepCutAuto
import Derived.StillTailTactics
/- The drawing of formulas: goodFormula. -/
namespace Go.Proofs.Ytnbohohoceghnaa
set_option linter.unusedSimpArgs false
set_option linter.unusedVariables false
open Go.RowKit

theorem row_form' {w : World} {base n size : Nat} {e : TypeId} {v : Value} {xs : List Value} (h : w.ownsRow base e size v n xs) : ∃ A c, v = .slice A n c := by
  rcases h.2 with ⟨rfl, rfl⟩ | ⟨g, cap, cur, rfl, _⟩
  · exact ⟨none, 0, rfl⟩
  · exact ⟨some ⟨g, 0, none⟩, cap, rfl⟩
theorem row_pos {w : World} {base n size : Nat} {e : TypeId} {v : Value} {xs : List Value} (h : w.ownsRow base e size v n xs) (hn : 0 < n) : ∃ g cap, v = .slice (some ⟨g, 0, none⟩) n cap := by
  rcases h.2 with ⟨hv, h0⟩ | ⟨g, cap, cur, hv, _⟩
  · omega
  · exact ⟨g, cap, hv⟩

/-- A part in a box. -/
structure PB (b : Nat) (q : Pt) (w : World) : Prop where
  lt : b < w.heap.size
  c0 : w.cell? ⟨b, 0, none⟩ = some (.int .i64 q.k)
  c1 : w.cell? ⟨b, 1, none⟩ = some (.int .i64 q.a)
  c2 : w.cell? ⟨b, 2, none⟩ = some (.int .i64 q.b)
  c3 : w.cell? ⟨b, 3, none⟩ = some (.int .i64 q.c)
  c4 : w.cell? ⟨b, 4, none⟩ = some (.int .i64 q.n)
  fz : ∀ j, w.frozen? ⟨b, j, none⟩ = false
theorem PB.keep {b : Nat} {q : Pt} {w w' : World} (h : PB b q w) (hk : w'.heap[b]? = w.heap[b]?) (hs : w.heap.size ≤ w'.heap.size) : PB b q w' := by
  have c (j : Nat) : w'.cell? ⟨b, j, none⟩ = w.cell? ⟨b, j, none⟩ := World.cell?_of_block (a := ⟨b, j, none⟩) hk
  have f (j : Nat) : w'.frozen? ⟨b, j, none⟩ = w.frozen? ⟨b, j, none⟩ := World.frozen?_of_block (a := ⟨b, j, none⟩) hk
  exact ⟨Nat.lt_of_lt_of_le h.lt hs, (c 0).trans h.c0, (c 1).trans h.c1, (c 2).trans h.c2, (c 3).trans h.c3, (c 4).trans h.c4, fun j => (f j).trans (h.fz j)⟩
theorem PB.pick {g b : Nat} {q : Pt} {w w' : World} (h : PB b q w) (ht : Tch g (g + 1) w w') (hb : b ≠ g) : PB b q w' := h.keep (ht.block b h.lt (by omega)) ht.size
theorem PB.step {b : Nat} {q : Pt} {w w' : World} (h : PB b q w) (hb : Below w.heap.size w w') : PB b q w' := h.keep (hb.block b h.lt) hb.size
theorem PB.alloc {b : Nat} {q : Pt} {w : World} (h : PB b q w) (o : Obj) : PB b q (w.alloc o) := h.step ((Below.refl _ _).alloc (Nat.le_refl _) o)

theorem PB.grown {b : Nat} {q : Pt} {w w' : World} {row : Option Nat} (h : PB b q w) (hg : w.grownBy w' row) (hr : ∀ k, row = some k → k < b) : PB b q w' :=
  h.keep (hg.block b h.lt fun e => absurd (hr b e.symm) (Nat.lt_irrefl _)) hg.size
theorem PB.set5 {b : Nat} {q : Pt} {w : World} (h : PB b q w) (k a b' c' n' : Int) : PB b ⟨k, a, b', c', n'⟩ (((((w.setCell ⟨b, 0, none⟩ (.int .i64 k)).setCell ⟨b, 1, none⟩ (.int .i64 a)).setCell ⟨b, 2, none⟩ (.int .i64 b')).setCell ⟨b, 3, none⟩ (.int .i64 c')).setCell ⟨b, 4, none⟩ (.int .i64 n')) := by
  have o (w : World) (i j : Nat) (x : Value) (hij : i ≠ j) : (w.setCell ⟨b, i, none⟩ x).cell? ⟨b, j, none⟩ = w.cell? ⟨b, j, none⟩ := World.cell?_setCell_other _ _ _ _ (by intro e; cases e; exact hij rfl)
  have sm (w : World) (i : Nat) (x u : Value) (hu : w.cell? ⟨b, i, none⟩ = some u) : (w.setCell ⟨b, i, none⟩ x).cell? ⟨b, i, none⟩ = some x := World.cell?_setCell_same _ _ _ hu
  refine ⟨by simpa [World.setCell] using h.lt, ?_, ?_, ?_, ?_, ?_, fun j => ?_⟩
  · rw [o _ 4 0 _ (by decide), o _ 3 0 _ (by decide), o _ 2 0 _ (by decide), o _ 1 0 _ (by decide)]; exact sm _ 0 _ _ h.c0
  · rw [o _ 4 1 _ (by decide), o _ 3 1 _ (by decide), o _ 2 1 _ (by decide)]; exact sm _ 1 _ _ ((o _ 0 1 _ (by decide)).trans h.c1)
  · rw [o _ 4 2 _ (by decide), o _ 3 2 _ (by decide)]; exact sm _ 2 _ _ ((o _ 1 2 _ (by decide)).trans ((o _ 0 2 _ (by decide)).trans h.c2))
  · rw [o _ 4 3 _ (by decide)]; exact sm _ 3 _ _ ((o _ 2 3 _ (by decide)).trans ((o _ 1 3 _ (by decide)).trans ((o _ 0 3 _ (by decide)).trans h.c3)))
  · exact sm _ 4 _ _ ((o _ 3 4 _ (by decide)).trans ((o _ 2 4 _ (by decide)).trans ((o _ 1 4 _ (by decide)).trans ((o _ 0 4 _ (by decide)).trans h.c4))))
  · simp only [World.frozen?_setCell]; exact h.fz j

theorem Rdr.drew {g n c P : Nat} {A : Option Addr} {bs : List Int} {w : World} (h : Rdr g A n c bs P w) : Rdr g A n c bs P w.drew := ⟨h.lt, h.c0, h.pos, h.fz, h.by_⟩
def slcLen : Value → Nat
  | .slice _ n _ => n
  | _ => 0

/-- Returns a formula of some parts in fresh blocks; the reader has picked Q times at most. -/
def GfP (g : Nat) (A : Option Addr) (n c : Nat) (bs : List Int) (Q : Nat) (w : World) (e : Ending) (w' : World) : Prop :=
  ∃ (A' : Option Addr) (n' c' : Nat) (ps : List Pt), e = .returned (.agg #[.slice A' n' c']) ∧ n' = ps.length ∧ 1 ≤ n' ∧ n' ≤ 40 ∧ w'.ownsRow w.heap.size 54 5 (.slice A' n' c') n' (ps.flatMap Pt.cells) ∧ Rdr g A n c bs Q w' ∧ Tch g (g + 1) w w'

set_option maxRecDepth 100000 in
set_option maxHeartbeats 40000000 in
theorem goodFormula_any (g : Nat) (A : Option Addr) (n c : Nat) (bs : List Int) (P : Nat) (An : Option Addr) (l c' : Nat) (nodes : List Int) (w : World) (h : Rdr g A n c bs P w) (hn : n = bs.length) (hby : BY bs) (hs : n ≤ 2000) (hP : P ≤ 900000)
    (hl : l = nodes.length) (hl2 : l ≤ 1000) (hx : IS w w.heap.size An nodes) (hne : ∀ b' o', An = some ⟨b', o', none⟩ → b' ≠ g) :
    Calls Try.prog 77 #[.pointer (some ⟨g, 0, none⟩), .slice An l c'] w fun e w' => GfP g A n c bs (P + 200) w e w' := by
  obtain ⟨i1, hi1, hy0, hy1, hy2⟩ := info_parts info_part
  obtain ⟨i0, hi0, hz0, hz1, hz2⟩ := info_parts info_int
  have hgw := h.lt
  obtain ⟨s, hs0⟩ : ∃ s, s = w.heap.size := ⟨_, rfl⟩
  have HN := Lib.hid hn
  have HL := Lib.hid hl
  have HX := Lib.hid hx
  have HNE := Lib.hid hne
  have HR0 := Lib.hid ((((h.alloc (.cells #[.slice none 0 0] 25)).alloc (.cells #[.slice none 0 0] 25)).alloc (.cells #[] 3)).alloc (.cells #[.int .i64 3, .int .i64 4, .int .i64 5, .int .i64 6, .int .i64 2, .int .i64 1] 3))
  have hrow0 := World.ownsRow_lit (e := 3) (size := 1) (base := w.heap.size + 2) ((w.alloc (.cells #[.slice none 0 0] 25)).alloc (.cells #[.slice none 0 0] 25)) #[] 0 (by simp) (by unfold maxLen; omega) (by simp)
  have HROW := Lib.hid hrow0
  have hBW : Below w.heap.size w ((((w.alloc (.cells #[.slice none 0 0] 25)).alloc (.cells #[.slice none 0 0] 25)).alloc (.cells #[] 3)).alloc (.cells #[.int .i64 3, .int .i64 4, .int .i64 5, .int .i64 6, .int .i64 2, .int .i64 1] 3)) := ((((Below.refl _ _).alloc (Nat.le_refl _) _).alloc (by simp) _).alloc (by simp; omega) _).alloc (by simp; omega) _
  have HGI : Hid (GI g w.heap.size A n c bs An nodes w P none 0 0 [] (.slice (some ⟨w.heap.size + 1 + 1, 0, none⟩) 0 0) 0 [] ((((w.alloc (.cells #[.slice none 0 0] 25)).alloc (.cells #[.slice none 0 0] 25)).alloc (.cells #[] 3)).alloc (.cells #[.int .i64 3, .int .i64 4, .int .i64 5, .int .i64 6, .int .i64 2, .int .i64 1] 3))) :=
    ⟨hgw, Frd.of_below hBW (Nat.le_refl _), HR0.out, by simp, by go_simp, by go_simp, by go_simp, by go_simp, rfl, World.ownsRow_nil _ _ _ _, rfl, by simpa using HROW.out.alloc (.cells #[.int .i64 3, .int .i64 4, .int .i64 5, .int .i64 6, .int .i64 2, .int .i64 1] 3), hx.below hBW (Nat.le_refl _), hne⟩
  clear h hn hl hx hne hrow0 hBW HROW
  go_enter Try.func77, Try.ntmps77
  go_wp2_with fail
  refine (one_any g A n c bs P (w.heap.size + 3) 0 6 6 [3, 4, 5, 6, 2, 1] _ HR0.out HN.out hby hs (by omega) rfl (by omega) (by omega) ?_ (by omega) (by simp)).mono ?_
  · intro j hj
    have : j = 0 ∨ j = 1 ∨ j = 2 ∨ j = 3 ∨ j = 4 ∨ j = 5 := by omega
    rcases this with rfl | rfl | rfl | rfl | rfl | rfl <;> go_simp
  rintro e w1 ⟨x, rfl, hxm, hr1, ht1⟩
  obtain ⟨N, rfl, hN1, hN6⟩ : ∃ N : Nat, x = (N : Int) ∧ 1 ≤ N ∧ N ≤ 6 := by
    simp only [List.mem_cons, List.not_mem_nil, or_false] at hxm
    exact ⟨x.toNat, by omega, by omega, by omega⟩
  have HG1 := Lib.hid (HGI.out.pick hr1 ht1)
  clear hxm hr1 ht1 HGI HR0
  go_wp2
  go_loopw [6, 7] (fun v u wr => ∃ (k m no nf cf : Nat) (Af : Option Addr) (ps : List Pt) (xs : List Int), k + m = N ∧ u = .int .i64 k ∧ no ≤ m ∧ nf ≤ 2 * m ∧ Hid (GI g w.heap.size A n c bs An nodes w (P + 1 + 10 * m) Af nf cf ps v no xs wr)) (fun _ u _ => (intOf u).toNat)
  case atStart => exact ⟨N, 0, 0, 0, 0, none, [], [], by omega, rfl, Nat.le_refl _, Nat.zero_le _, HG1.out⟩
  case round =>
    obtain ⟨k, m, no, nf, cf, Af, ps, xs, hkm, rfl, hno, hnf, HG⟩ := hrel
    by_cases hk : 0 < k
    · have hPm : P + 1 + 10 * m ≤ 900100 := by omega
      obtain ⟨P1, hP1⟩ : ∃ P1, P1 = P + 1 + 10 * m := ⟨_, rfl⟩
      have HP1 := Lib.hid hP1
      rw [← hP1] at HG hPm
      clear hP1
      go_wp2_with fail
      refine (readPart_any g A n c bs P1 An l c' nodes _ HG.out.rd HN.out hby hs (by omega) HL.out hl2 (HG.out.nd.more (by have := HG.out.lt; omega)) HG.out.ng).mono ?_
      rintro e w2 ⟨q, rfl, hr2, ht2⟩
      have HGq := Lib.hid (HG.out.pick hr2 ht2)
      obtain ⟨b8, hb8⟩ : ∃ b8, b8 = w2.heap.size := ⟨_, rfl⟩
      have HB8 := Lib.hid hb8
      have HPB : Hid (PB b8 q (w2.alloc (.cells #[.int .i64 q.k, .int .i64 q.a, .int .i64 q.b, .int .i64 q.c, .int .i64 q.n] 54))) := by
        rw [hb8]; exact ⟨by simp, by go_simp, by go_simp, by go_simp, by go_simp, by go_simp, fun j => by go_simp⟩
      have HO8 : Hid ((∀ k, (Value.slice Af nf cf).ownBlock = some k → k < b8) ∧ (∀ k, u6.ownBlock = some k → k < b8)) := by
        rw [hb8]; exact ⟨fun k hk => (HGq.out.pr.lt k hk).2, fun k hk => (HGq.out.xr.lt k hk).2⟩
      have HG2 := Lib.hid (HGq.out.alloc (.cells #[.int .i64 q.k, .int .i64 q.a, .int .i64 q.b, .int .i64 q.c, .int .i64 q.n] 54))
      have hb8s : w.heap.size + 2 ≤ b8 := by rw [hb8]; exact HGq.out.lt
      clear hr2 ht2 HG HGq hb8
      go_wp2_with fail
      rw [← HB8.out]
      generalize w2.alloc (.cells #[.int .i64 q.k, .int .i64 q.a, .int .i64 q.b, .int .i64 q.c, .int .i64 q.n] 54) = W2 at *
      refine (pick_any g A n c bs (P1 + 1) 4 W2 HG2.out.rd HN.out hby hs (by omega) (by omega)).mono ?_
      rintro e w3 ⟨x3, rfl, _, _, hr3, ht3⟩
      have HG3 := Lib.hid (HG2.out.pick hr3 ht3)
      have HPB3 := Lib.hid (HPB.out.pick ht3 (by omega))
      clear hr3 ht3 HG2 HPB
      go_upto_if 25 with fail
      go_cut [] from 16 to 119 (fun wx => ∃ q' : Pt, Hid (PB b8 q' wx) ∧ Hid (GI g w.heap.size A n c bs An nodes w (P1 + 3) Af nf cf ps u6 no xs wx))
      case first =>
        cases hx3 : ((x3 : Int) == 0)
        · go_wp2_with fail
          go_meet
          exact ⟨q, HPB3.out, HG3.out.mono (by omega)⟩
        · obtain rfl : x3 = 0 := by simpa using hx3
          clear hx3
          have HG3a := Lib.hid (HG3.out.alloc (.cells #[.int .i64 0, .int .i64 1, .int .i64 2, .int .i64 5, .int .i64 99, .int .i64 10] 3))
          have HPB3a := Lib.hid (HPB3.out.alloc (.cells #[.int .i64 0, .int .i64 1, .int .i64 2, .int .i64 5, .int .i64 99, .int .i64 10] 3))
          go_wp2_with fail
          refine (one_any g A n c bs (P1 + 2) w3.heap.size 0 6 6 [0, 1, 2, 5, 99, 10] _ HG3a.out.rd HN.out hby hs (by omega) rfl (by omega) (by omega) ?_ (by have := HG3.out.rd.lt; omega) (by simp)).mono ?_
          · intro j hj
            have : j = 0 ∨ j = 1 ∨ j = 2 ∨ j = 3 ∨ j = 4 ∨ j = 5 := by omega
            rcases this with rfl | rfl | rfl | rfl | rfl | rfl <;> go_simp
          rintro e w4 ⟨y, rfl, _, hr4, ht4⟩
          have HG4 := Lib.hid (HG3a.out.pick hr4 ht4)
          have HPB4 := Lib.hid (HPB3a.out.pick ht4 (by omega))
          clear hr4 ht4 HG3a HPB3a
          go_wp2_with fail
          refine (spec_numberPart y _).mono ?_
          rintro e w5 ⟨rfl, hb5⟩
          have HG5 := Lib.hid (HG4.out.step hb5)
          have HPB5 := Lib.hid (HPB4.out.step hb5)
          have p0 := HPB5.out.c0
          have p1 := HPB5.out.c1
          have p2 := HPB5.out.c2
          have p3 := HPB5.out.c3
          have p4 := HPB5.out.c4
          have f0 := HPB5.out.fz 0
          have f1 := HPB5.out.fz 1
          have f2 := HPB5.out.fz 2
          have f3 := HPB5.out.fz 3
          have f4 := HPB5.out.fz 4
          clear hb5
          go_wp2_with fail
          go_meet
          exact ⟨⟨0, -1, -1, -1, y⟩, HPB5.out.set5 0 (-1) (-1) (-1) y, ((((HG5.out.poke hb8s HO8.out.1 HO8.out.2 0 _).poke hb8s HO8.out.1 HO8.out.2 1 _).poke hb8s HO8.out.1 HO8.out.2 2 _).poke hb8s HO8.out.1 HO8.out.2 3 _).poke hb8s HO8.out.1 HO8.out.2 4 _⟩
      case rest =>
        obtain ⟨q', HPB9, HG9⟩ := hcut
        have f0 := HG9.out.fb
        have z1 : w.heap.size + 1 < wc.heap.size := HG9.out.lt
        have HGa := Lib.hid (HG9.out.alloc (.cells #[.int .i64 nf] 3))
        have HPBa := Lib.hid (HPB9.out.alloc (.cells #[.int .i64 nf] 3))
        have hnb : no ≤ 6 := by omega
        clear HPB3 HG3
        go_wp2_with (at_builtin; refine wpList_append_own _ rfl _ _ 26 rfl (w.heap.size + 2) 3 i0 (.int .i64 0) 1 8 Try.underlying26 hi0 hz0 hz1 hz2 rfl (by decide) _ _ _ rfl HGa.out.xr ⟨_, 0, none⟩ 1 1 [.int .i64 nf] rfl rfl (cell_one_new _ _ _) ?c2 ?c3 ?c4 ?c5 ?_)
        case c2 => first | rfl | (intro u hu; simp at hu; subst hu; rfl)
        case c3 => unfold maxLen; omega
        case c4 => omega
        case c5 => first | omega | (simp; omega)
        intro v' w4 hown' hgrow _
        obtain ⟨Ao, co, rfl⟩ := row_form' hown'
        have HG4 := Lib.hid (HGa.out.opened (xs' := xs ++ [(nf : Int)]) HGa.out.xr hgrow (by simpa using hown') (by rw [List.length_append, ← HGa.out.xl]; rfl))
        have HPB4 := Lib.hid (HPBa.out.grown hgrow HO8.out.2)
        clear hown' hgrow HGa HPBa f0 z1 HPB9 HG9
        have f0 := HG4.out.fb
        have f1 := HG4.out.fz
        have z1 : w.heap.size + 1 < w4.heap.size := HG4.out.lt
        have z2 : b8 < w4.heap.size := HPB4.out.lt
        have p0 := HPB4.out.c0
        have p1 := HPB4.out.c1
        have p2 := HPB4.out.c2
        have p3 := HPB4.out.c3
        have p4 := HPB4.out.c4
        have HGb := Lib.hid (HG4.out.alloc (.cells #[.int .i64 q'.k, .int .i64 q'.a, .int .i64 q'.b, .int .i64 q'.c, .int .i64 q'.n] 54))
        go_wp2_with (at_builtin; refine wpList_append_own_at _ rfl _ _ 23 rfl (w.heap.size + 2) 54 i1 _ 5 40 Try.underlying23 hi1 hy0 hy1 hy2 rfl (by decide) _ _ _ rfl HGb.out.pr ⟨_, 0, none⟩ 1 1 q'.cells rfl rfl (cells_new _ _ _ _ rfl) ?d2 ?d3 ?d4 ?d5 ?_)
        case d2 => intro u hu; simp [Pt.cells] at hu; rcases hu with rfl | rfl | rfl | rfl | rfl <;> rfl
        case d3 => unfold maxLen; omega
        case d4 => omega
        case d5 => simp; omega
        intro v5 w5 hown5 hgrow5 _ _
        obtain ⟨A5, c5, rfl⟩ := row_form' hown5
        have hfr := HGb.out.frame hgrow5 fun k hk => (HGb.out.pr.lt k hk).1
        have z5 := hfr.2.2.1
        have e0 := hfr.2.2.2.2.2.1
        have e1 := hfr.2.2.2.2.2.2.1
        clear hfr
        have HG6 := Lib.hid (HGb.out.parted (Af' := A5) (nf' := nf + 1) (cf' := c5) (ps' := ps ++ [q']) hgrow5 (by simpa [List.flatMap_append] using hown5) (by rw [List.length_append, ← HGb.out.pl]; rfl))
        clear hown5 hgrow5 HGb HG4 HPB4 f0 f1 z1 z2 p0 p1 p2 p3 p4 HO8
        by_cases h3 : 3 ≤ no + 1
        · obtain ⟨j, rfl⟩ : ∃ j, no = j + 2 := ⟨no - 2, by omega⟩
          go_wp2_with fail
          generalize (w5.setCell ⟨w.heap.size + 1, 0, none⟩ (.slice A5 (nf + 1) c5)) = W6 at *
          refine (pick_any g A n c bs (P1 + 3) 2 W6 HG6.out.rd HN.out hby hs (by omega) (by omega)).mono ?_
          rintro e w7 ⟨x7, rfl, _, _, hr7, ht7⟩
          have HG7 := Lib.hid (HG6.out.pick hr7 ht7)
          clear hr7 ht7 HG6 h3
          by_cases hx7 : x7 = 0
          · subst hx7
            obtain ⟨go, cg, hov⟩ := row_pos HG7.out.xr (by omega)
            cases hov
            have f0 := HG7.out.fb
            have f1 := HG7.out.fz
            have z1 : w.heap.size + 1 < w7.heap.size := HG7.out.lt
            have hxl := HG7.out.xl
            have o0 := HG7.out.xr.cellAt j (by omega)
            have o1 := HG7.out.xr.cellAt (j + 1) (by omega)
            have o2 := HG7.out.xr.cellAt (j + 2) (by omega)
            rw [List.getElem?_map] at o0 o1 o2
            generalize hX : xs ++ [(nf : Int)] = X at *
            have HX2 := Lib.hid hX
            clear hX
            rw [List.getElem?_eq_getElem (by omega), Option.map_some] at o0 o1 o2
            generalize X[j]'_ = x0 at o0
            generalize X[j + 1]'_ = x1 at o1
            generalize X[j + 2]'_ = x2 at o2
            have HXL := Lib.hid hxl
            clear hxl
            have hgo := (HG7.out.xr.lt go rfl).2
            go_wp2_with fail
            have a3 : IntKind.i64.wrap ((j : Int) + 2 + 1 - 3) = (j : Int) := by rw [IntKind.wrap_i64]; omega
            have a2 : IntKind.i64.wrap ((j : Int) + 2 + 1 - 2) = (j : Int) + 1 := by rw [IntKind.wrap_i64]; omega
            have a1 : IntKind.i64.wrap ((j : Int) + 2 + 1 - 1) = (j : Int) + 2 := by rw [IntKind.wrap_i64]; omega
            have b3 : (j : Int) < (j : Int) + 2 + 1 := by omega
            have b2 : (j : Int) + 1 < (j : Int) + 2 + 1 := by omega
            have b1 : (j : Int) + 2 < (j : Int) + 2 + 1 := by omega
            have b0 : 0 ≤ (j : Int) + 1 := by omega
            have b00 : 0 ≤ (j : Int) + 2 := by omega
            have a1' : IntKind.i64.wrap ((j : Int) + 2) = (j : Int) + 2 := by rw [IntKind.wrap_i64]; omega
            have a2' : IntKind.i64.wrap ((j : Int) + 1) = (j : Int) + 1 := by rw [IntKind.wrap_i64]; omega
            have t1 : ((j : Int) + 1).toNat = j + 1 := by omega
            have t2 : ((j : Int) + 2).toNat = j + 2 := by omega
            have HGc := Lib.hid (HG7.out.alloc (.cells #[.int .i64 8, .int .i64 x0, .int .i64 x1, .int .i64 x2, .int .i64 0] 54))
            have hX0 := (HG7.out.xr.cellAt j (by omega)).symm.trans o0
            have hX1 := (HG7.out.xr.cellAt (j + 1) (by omega)).symm.trans o1
            have hX2 := (HG7.out.xr.cellAt (j + 2) (by omega)).symm.trans o2
            have HXX := Lib.hid (And.intro hX0 (And.intro hX1 hX2))
            clear hX0 hX1 hX2
            have hgo2 := (HG7.out.xr.lt go rfl).1
            have hnb1 : ∀ q : Nat, (⟨w.heap.size + 1, 0, none⟩ : Addr) ≠ ⟨go, q, none⟩ := fun q e => by have := congrArg Addr.block e; simp at this; omega
            have q0 := (World.cell?_alloc_lt w7 (.cells #[.int .i64 8, .int .i64 x0, .int .i64 x1, .int .i64 x2, .int .i64 0] 54) ⟨go, j, none⟩ hgo).trans o0
            have q1 := (World.cell?_alloc_lt w7 (.cells #[.int .i64 8, .int .i64 x0, .int .i64 x1, .int .i64 x2, .int .i64 0] 54) ⟨go, j + 1, none⟩ hgo).trans o1
            have q2 := (World.cell?_alloc_lt w7 (.cells #[.int .i64 8, .int .i64 x0, .int .i64 x1, .int .i64 x2, .int .i64 0] 54) ⟨go, j + 2, none⟩ hgo).trans o2
            refine wp_region_held_drew (S := (fun w' => w'.cell? ⟨go, j, none⟩ = some (.int .i64 x0) ∧ w'.cell? ⟨go, j + 1, none⟩ = some (.int .i64 x1) ∧ w'.cell? ⟨go, j + 2, none⟩ = some (.int .i64 x2))) (by kernel_rfl) ⟨o0, o1, o2⟩ (fun hHeld => ?_)
            refine wpAnyH_take (i := 0) (oi := ⟨some 52, _, _, _, _, _⟩) (v := ?_) rfl (by kernel_rfl) (by kernel_rfl) (by kernel_rfl) (fun _ _ _ h => h) (Or.inl ⟨by rfl, ?_⟩) (by assumption) ?_; rotate_left; (focus (intro w hSw; (try dsimp only at hSw); go_simp; (try with_reducible rfl))); (try simp only [Act.put, List.setIfInBounds_toArray, List.set_cons_zero, List.set_cons_succ])
            refine wpAnyH_take (i := 2) (oi := ⟨some 54, _, _, _, _, _⟩) (v := ?_) rfl (by kernel_rfl) (by kernel_rfl) (by kernel_rfl) (fun _ _ _ h => h) (Or.inl ⟨by rfl, ?_⟩) (by assumption) ?_; rotate_left; (focus (intro w hSw; (try dsimp only at hSw); go_simp; (try with_reducible rfl))); (try simp only [Act.put, List.setIfInBounds_toArray, List.set_cons_zero, List.set_cons_succ])
            refine wpAnyH_take (i := 3) (oi := ⟨some 55, _, _, _, _, _⟩) (v := ?_) rfl (by kernel_rfl) (by kernel_rfl) (by kernel_rfl) (fun _ _ _ h => h) (Or.inl ⟨by rfl, ?_⟩) (by assumption) ?_; rotate_left; (focus (intro w hSw; (try dsimp only at hSw); go_simp; (try with_reducible rfl))); (try simp only [Act.put, List.setIfInBounds_toArray, List.set_cons_zero, List.set_cons_succ])
            refine wpAnyH_take (i := 4) (oi := ⟨some 56, _, _, _, _, _⟩) (v := ?_) rfl (by kernel_rfl) (by kernel_rfl) (by kernel_rfl) (fun _ _ _ h => h) (Or.inl ⟨by rfl, ?_⟩) (by assumption) ?_; rotate_left; (focus (intro w hSw; (try dsimp only at hSw); go_simp; (try with_reducible rfl))); (try simp only [Act.put, List.setIfInBounds_toArray, List.set_cons_zero, List.set_cons_succ])
            refine wpAnyH_take (i := 5) (oi := ⟨some 57, _, _, _, _, _⟩) (v := ?_) rfl (by kernel_rfl) (by kernel_rfl) (by kernel_rfl) (fun _ _ _ h => h) (Or.inl ⟨by rfl, ?_⟩) (by assumption) ?_; rotate_left; (focus (intro w hSw; (try dsimp only at hSw); go_simp; (try with_reducible rfl))); (try simp only [Act.put, List.setIfInBounds_toArray, List.set_cons_zero, List.set_cons_succ])
            refine wpAnyH_take (i := 6) (oi := ⟨some 58, _, _, _, _, _⟩) (v := ?_) rfl (by kernel_rfl) (by kernel_rfl) (by kernel_rfl) (fun _ _ _ h => h) (Or.inl ⟨by rfl, ?_⟩) (by assumption) ?_; rotate_left; (focus (intro w hSw; (try dsimp only at hSw); go_simp; (try with_reducible rfl))); (try simp only [Act.put, List.setIfInBounds_toArray, List.set_cons_zero, List.set_cons_succ])
            refine wpAnyH_take (i := 7) (oi := ⟨some 59, _, _, _, _, _⟩) (v := ?_) rfl (by kernel_rfl) (by kernel_rfl) (by kernel_rfl) (fun _ _ _ h => h) (Or.inl ⟨by rfl, ?_⟩) (by assumption) ?_; rotate_left; (focus (intro w hSw; (try dsimp only at hSw); go_simp; (try with_reducible rfl))); (try simp only [Act.put, List.setIfInBounds_toArray, List.set_cons_zero, List.set_cons_succ])
            refine wpAnyH_take (i := 8) (oi := ⟨some 60, _, _, _, _, _⟩) (v := ?_) rfl (by kernel_rfl) (by kernel_rfl) (by kernel_rfl) (fun _ _ _ h => h) (Or.inl ⟨by rfl, ?_⟩) (by assumption) ?_; rotate_left; (focus (intro w hSw; (try dsimp only at hSw); go_simp; (try with_reducible rfl))); (try simp only [Act.put, List.setIfInBounds_toArray, List.set_cons_zero, List.set_cons_succ])
            refine wpAnyH_take (i := 9) (oi := ⟨some 61, _, _, _, _, _⟩) (v := ?_) rfl (by kernel_rfl) (by kernel_rfl) (by kernel_rfl) (fun _ _ _ h => h) (Or.inl ⟨by rfl, ?_⟩) (by assumption) ?_; rotate_left; (focus (intro w hSw; (try dsimp only at hSw); go_simp; (try with_reducible rfl))); (try simp only [Act.put, List.setIfInBounds_toArray, List.set_cons_zero, List.set_cons_succ])
            refine wpAnyH_take (i := 10) (oi := ⟨some 62, _, _, _, _, _⟩) (v := ?_) rfl (by kernel_rfl) (by kernel_rfl) (by kernel_rfl) (fun _ _ _ h => h) (Or.inl ⟨by rfl, ?_⟩) (by assumption) ?_; rotate_left; (focus (intro w hSw; (try dsimp only at hSw); go_simp; (try with_reducible rfl))); (try simp only [Act.put, List.setIfInBounds_toArray, List.set_cons_zero, List.set_cons_succ])
            refine wpAnyH_take (i := 11) (oi := ⟨some 63, _, _, _, _, _⟩) (v := ?_) rfl (by kernel_rfl) (by kernel_rfl) (by kernel_rfl) (fun _ _ _ h => h) (Or.inl ⟨by rfl, ?_⟩) (by assumption) ?_; rotate_left; (focus (intro w hSw; (try dsimp only at hSw); go_simp; (try with_reducible rfl))); (try simp only [Act.put, List.setIfInBounds_toArray, List.set_cons_zero, List.set_cons_succ])
            refine wpAnyH_take (i := 12) (oi := ⟨some 64, _, _, _, _, _⟩) (v := ?_) rfl (by kernel_rfl) (by kernel_rfl) (by kernel_rfl) (fun _ _ _ h => h) (Or.inl ⟨by rfl, ?_⟩) (by assumption) ?_; rotate_left; (focus (intro w hSw; (try dsimp only at hSw); go_simp; (try with_reducible rfl))); (try simp only [Act.put, List.setIfInBounds_toArray, List.set_cons_zero, List.set_cons_succ])
            refine wpAnyH_take (i := 13) (oi := ⟨some 65, _, _, _, _, _⟩) (v := ?_) rfl (by kernel_rfl) (by kernel_rfl) (by kernel_rfl) (fun _ _ _ h => h) (Or.inl ⟨by rfl, ?_⟩) (by assumption) ?_; rotate_left; (focus (intro w hSw; (try dsimp only at hSw); go_simp; (try with_reducible rfl))); (try simp only [Act.put, List.setIfInBounds_toArray, List.set_cons_zero, List.set_cons_succ])
            refine wpAnyH_take (i := 14) (oi := ⟨some 66, _, _, _, _, _⟩) (v := ?_) rfl (by kernel_rfl) (by kernel_rfl) (by kernel_rfl) (fun _ _ _ h => h) (Or.inl ⟨by rfl, ?_⟩) (by assumption) ?_; rotate_left; (focus (intro w hSw; (try dsimp only at hSw); go_simp; (try with_reducible rfl))); (try simp only [Act.put, List.setIfInBounds_toArray, List.set_cons_zero, List.set_cons_succ])
            refine wpAnyH_take (i := 15) (oi := ⟨some 67, _, _, _, _, _⟩) (v := ?_) rfl (by kernel_rfl) (by kernel_rfl) (by kernel_rfl) (fun _ _ _ h => h) (Or.inl ⟨by rfl, ?_⟩) (by assumption) ?_; rotate_left; (focus (intro w hSw; (try dsimp only at hSw); go_simp; (try with_reducible rfl))); (try simp only [Act.put, List.setIfInBounds_toArray, List.set_cons_zero, List.set_cons_succ])
            refine wpAnyH_take (i := 16) (oi := ⟨some 68, _, _, _, _, _⟩) (v := ?_) rfl (by kernel_rfl) (by kernel_rfl) (by kernel_rfl) (fun _ _ _ h => h) (Or.inl ⟨by rfl, ?_⟩) (by assumption) ?_; rotate_left; (focus (intro w hSw; (try dsimp only at hSw); go_simp; (try with_reducible rfl))); (try simp only [Act.put, List.setIfInBounds_toArray, List.set_cons_zero, List.set_cons_succ])
            refine wpAnyH_take (i := 17) (oi := ⟨some 69, _, _, _, _, _⟩) (v := ?_) rfl (by kernel_rfl) (by kernel_rfl) (by kernel_rfl) (fun _ _ _ h => h) (Or.inl ⟨by rfl, ?_⟩) (by assumption) ?_; rotate_left; (focus (intro w hSw; (try dsimp only at hSw); go_simp; (try with_reducible rfl))); (try simp only [Act.put, List.setIfInBounds_toArray, List.set_cons_zero, List.set_cons_succ])
            refine wpAnyH_ready (rs := [1, 18]) (by kernel_rfl) (by simp) ?_; refine AllReadyH.cons (o := ⟨some 53, _, _, _, _, _⟩) rfl (fun K hK => ?_) (AllReadyH.cons (o := ⟨some 70, _, _, _, _, _⟩) rfl (fun K hK => ?_) AllReadyH.nil)
            go_simp
            refine hK.out _ _ ⟨o0, o1, o2⟩ (fun hHeld => ?_); clear hK K; (try simp only [Act.put, List.setIfInBounds_toArray, List.set_cons_zero, List.set_cons_succ])
            refine wpAnyH_ready (rs := [18]) (by kernel_rfl) (by simp) ?_; refine AllReadyH.cons (o := ⟨some 70, _, _, _, _, _⟩) rfl (fun K hK => ?_) AllReadyH.nil; go_simp
            refine hK.out _ _ ⟨q0, q1, q2⟩ (fun hHeld => ?_); clear hK K; (try simp only [Act.put, List.setIfInBounds_toArray, List.set_cons_zero, List.set_cons_succ])
            refine wpAnyH_ready (rs := [19]) (by kernel_rfl) (by simp) ?_; refine AllReadyH.cons (o := ⟨some 71, _, _, _, _, _⟩) rfl (fun K hK => ?_) AllReadyH.nil
            refine step_append_lies _ (by rfl) _ _ _ (by rfl) (w.heap.size + 2) 54 i1 _ 5 40 Try.underlying23 hi1 hy0 hy1 hy2 rfl (by omega) (.slice A5 (nf + 1) c5) (nf + 1) _ (by rfl) HGc.out.pr ⟨w7.heap.size, 0, none⟩ 1 1 [.int .i64 8, .int .i64 x0, .int .i64 x1, .int .i64 x2, .int .i64 0] (by rfl) (by rfl) (cells_new _ _ _ _ rfl) (by simp [Value.oneCell']) (by omega) (by unfold maxLen; omega) (by omega) (by simp; omega) (w7.heap.size + 1) (by simp) ?_
            intro gg cap w8 hown8 hgrow8 hat8 hlt8
            have hgr8 : (w7.alloc (.cells #[.int .i64 8, .int .i64 x0, .int .i64 x1, .int .i64 x2, .int .i64 0] 54)).grownBy w8 (Value.slice A5 (nf + 1) c5).ownBlock := ⟨hgrow8.os, hgrow8.tape, hgrow8.output, hgrow8.size, hgrow8.block⟩
            have hfr8 := HGc.out.frame hgr8 fun k hk => (HGc.out.pr.lt k hk).1
            have z8 := hfr8.2.2.1
            have g0 := hfr8.2.2.2.2.2.1
            have g1 := hfr8.2.2.2.2.2.2.1
            clear hfr8
            have hxr8 := HGc.out.xr.kept hgr8 (blocks_ne HGc.out.xr HGc.out.pr int_ne_part)
            have s0 := (hxr8.cellAt j (by omega)).trans HXX.out.1
            have s1 := (hxr8.cellAt (j + 1) (by omega)).trans HXX.out.2.1
            have s2 := (hxr8.cellAt (j + 2) (by omega)).trans HXX.out.2.2
            clear hxr8
            refine hK.out _ _ ⟨s0, s1, s2⟩ (fun hHeld => ?_); clear hK K; (try simp only [Act.put, List.setIfInBounds_toArray, List.set_cons_zero, List.set_cons_succ])
            refine wpAnyH_take (i := 20) (oi := ⟨some 72, _, _, _, _, _⟩) (v := ?_) rfl (by kernel_rfl) (by kernel_rfl) (by kernel_rfl) (fun _ _ _ h => h) (Or.inl ⟨by rfl, ?_⟩) (by assumption) ?_; rotate_left; (focus (intro w hSw; (try dsimp only at hSw); go_simp; (try with_reducible rfl))); (try simp only [Act.put, List.setIfInBounds_toArray, List.set_cons_zero, List.set_cons_succ])
            refine wpAnyH_ready (rs := [21]) (by kernel_rfl) (by simp) ?_; refine AllReadyH.cons (o := ⟨none, _, _, _, _, _⟩) rfl (fun K hK => ?_) AllReadyH.nil; go_simp
            refine hK.out _ _ ⟨(World.cell?_setCell_other _ _ _ _ (hnb1 _)).trans s0, (World.cell?_setCell_other _ _ _ _ (hnb1 _)).trans s1, (World.cell?_setCell_other _ _ _ _ (hnb1 _)).trans s2⟩ (fun hHeld => ?_); clear hK K; (try simp only [Act.put, List.setIfInBounds_toArray, List.set_cons_zero, List.set_cons_succ])
            refine wpAnyH_done (by kernel_rfl) ?_ _
            rotate_left
            go_simp
            refine hK.out _ _ ⟨q0, q1, q2⟩ (fun hHeld => ?_); clear hK K; (try simp only [Act.put, List.setIfInBounds_toArray, List.set_cons_zero, List.set_cons_succ])
            refine wpAnyH_ready (rs := [1]) (by kernel_rfl) (by simp) ?_; refine AllReadyH.cons (o := ⟨some 53, _, _, _, _, _⟩) rfl (fun K hK => ?_) AllReadyH.nil; go_simp
            refine hK.out _ _ ⟨q0, q1, q2⟩ (fun hHeld => ?_); clear hK K; (try simp only [Act.put, List.setIfInBounds_toArray, List.set_cons_zero, List.set_cons_succ])
            refine wpAnyH_ready (rs := [19]) (by kernel_rfl) (by simp) ?_; refine AllReadyH.cons (o := ⟨some 71, _, _, _, _, _⟩) rfl (fun K hK => ?_) AllReadyH.nil
            refine step_append_lies _ (by rfl) _ _ _ (by rfl) (w.heap.size + 2) 54 i1 _ 5 40 Try.underlying23 hi1 hy0 hy1 hy2 rfl (by omega) (.slice A5 (nf + 1) c5) (nf + 1) _ (by rfl) HGc.out.pr ⟨w7.heap.size, 0, none⟩ 1 1 [.int .i64 8, .int .i64 x0, .int .i64 x1, .int .i64 x2, .int .i64 0] (by rfl) (by rfl) (cells_new _ _ _ _ rfl) (by simp [Value.oneCell']) (by omega) (by unfold maxLen; omega) (by omega) (by simp; omega) (w7.heap.size + 1) (by simp) ?_
            intro gg cap w8 hown8 hgrow8 hat8 hlt8
            have hgr8 : (w7.alloc (.cells #[.int .i64 8, .int .i64 x0, .int .i64 x1, .int .i64 x2, .int .i64 0] 54)).grownBy w8 (Value.slice A5 (nf + 1) c5).ownBlock := ⟨hgrow8.os, hgrow8.tape, hgrow8.output, hgrow8.size, hgrow8.block⟩
            have hfr8 := HGc.out.frame hgr8 fun k hk => (HGc.out.pr.lt k hk).1
            have z8 := hfr8.2.2.1
            have g0 := hfr8.2.2.2.2.2.1
            have g1 := hfr8.2.2.2.2.2.2.1
            clear hfr8
            have hxr8 := HGc.out.xr.kept hgr8 (blocks_ne HGc.out.xr HGc.out.pr int_ne_part)
            have s0 := (hxr8.cellAt j (by omega)).trans HXX.out.1
            have s1 := (hxr8.cellAt (j + 1) (by omega)).trans HXX.out.2.1
            have s2 := (hxr8.cellAt (j + 2) (by omega)).trans HXX.out.2.2
            clear hxr8
            refine hK.out _ _ ⟨s0, s1, s2⟩ (fun hHeld => ?_); clear hK K; (try simp only [Act.put, List.setIfInBounds_toArray, List.set_cons_zero, List.set_cons_succ])
            refine wpAnyH_take (i := 20) (oi := ⟨some 72, _, _, _, _, _⟩) (v := ?_) rfl (by kernel_rfl) (by kernel_rfl) (by kernel_rfl) (fun _ _ _ h => h) (Or.inl ⟨by rfl, ?_⟩) (by assumption) ?_; rotate_left; (focus (intro w hSw; (try dsimp only at hSw); go_simp; (try with_reducible rfl))); (try simp only [Act.put, List.setIfInBounds_toArray, List.set_cons_zero, List.set_cons_succ])
            refine wpAnyH_ready (rs := [21]) (by kernel_rfl) (by simp) ?_; refine AllReadyH.cons (o := ⟨none, _, _, _, _, _⟩) rfl (fun K hK => ?_) AllReadyH.nil; go_simp
            refine hK.out _ _ ⟨(World.cell?_setCell_other _ _ _ _ (hnb1 _)).trans s0, (World.cell?_setCell_other _ _ _ _ (hnb1 _)).trans s1, (World.cell?_setCell_other _ _ _ _ (hnb1 _)).trans s2⟩ (fun hHeld => ?_); clear hK K; (try simp only [Act.put, List.setIfInBounds_toArray, List.set_cons_zero, List.set_cons_succ])
            refine wpAnyH_done (by kernel_rfl) ?_ _
            all_goals
              have HG8 := Lib.hid (HGc.out.parted (Af' := some ⟨gg, 0, none⟩) (nf' := nf + 1 + 1) (cf' := cap) (ps' := (ps ++ [q']) ++ [⟨8, x0, x1, x2, 0⟩]) hgr8 (by rw [List.flatMap_append]; exact hown8) (by rw [List.length_append, ← HGc.out.pl]; rfl))
              have HXL8 := Lib.hid (HXL.out)
              clear hown8 hgrow8 hgr8 hat8 hlt8 z8 g0 g1 s0 s1 s2 q0 q1 q2 o0 o1 o2 f0 f1 z1 HGc HG7 HXX
              go_wp2_with fail
              generalize (w8.setCell ⟨w.heap.size + 1, 0, none⟩ (.slice (some ⟨gg, 0, none⟩) (nf + 1 + 1) cap)) = W8 at *
              have f8 := HG8.out.fb
              have z8 : w.heap.size + 1 < W8.heap.size := HG8.out.lt
              have n1 : IntKind.i64.wrap ((nf : Int) + 1 + 1 - 1) = (nf : Int) + 1 := by rw [IntKind.wrap_i64]; omega
              have n2 : IntKind.i64.wrap ((nf : Int) + 1) = (nf : Int) + 1 := by rw [IntKind.wrap_i64]; omega
              have f8' := (World.cell?_alloc_lt W8 (.cells #[.int .i64 ((nf : Int) + 1)] 3) ⟨w.heap.size + 1, 0, none⟩ z8).trans f8
              have HG9 := Lib.hid (HG8.out.alloc (.cells #[.int .i64 ((nf : Int) + 1)] 3))
              have hcg : j + 2 + 1 ≤ co := by
                rcases HG8.out.xr.2 with ⟨h', _⟩ | ⟨g', cap', cur, h', _, _, hnc, _⟩
                · simp at h'
                · simp at h'
                  omega
              have hcg1 : (j : Int) ≤ (co : Int) := by omega
              have hcg0 : (0 : Int) ≤ (j : Int) := by omega
              go_region_held3 (fun w' => w'.cell? ⟨w.heap.size + 1, 0, none⟩ = some (.slice (some ⟨gg, 0, none⟩) (nf + 1 + 1) cap)) (first | exact f8 | exact f8' | exact f9)
                (first
                  | (refine step_append_lies _ (by rfl) _ _ _ (by rfl) (w.heap.size + 2) 3 i0 (.int .i64 0) 1 8 Try.underlying26 hi0 hz0 hz1 hz2 rfl (by omega) (.slice (some ⟨go, 0, none⟩) j co) j _ (by rfl) (own_shrink HG9.out.xr (by omega)) ⟨W8.heap.size, 0, none⟩ 1 1 [.int .i64 ((nf : Int) + 1)] (by rfl) (by rfl) (cell_one_new _ _ _) (by simp [Value.oneCell']) (by omega) (by unfold maxLen; omega) (by omega) (by simp; omega) W8.heap.size.succ (by simp) ?_; intro gh cah w9 hown9 hgrow9' hat9 hlt9; have hgrow9 : (W8.alloc (.cells #[.int .i64 ((nf : Int) + 1)] 3)).grownBy w9 (Value.slice (some ⟨go, 0, none⟩) j co).ownBlock := ⟨hgrow9'.os, hgrow9'.tape, hgrow9'.output, hgrow9'.size, hgrow9'.block⟩; have HGA := Lib.hid (HG9.out.opened (xs' := X.take j ++ [(nf : Int) + 1]) (own_shrink HG9.out.xr (by omega : j ≤ j + 2 + 1)) hgrow9 (by first | (simpa using hown9) | (simpa [List.map_take] using hown9) | (rw [List.map_append, List.map_take]; exact hown9)) (by have := HXL8.out; rw [List.length_append, List.length_take]; show _ = _ + 1; omega)); have f9 := HGA.out.fb))
              clear f8 f8' f9 hgrow9 hgrow9' hown9 hat9 hlt9 HG8 HG9 z8 n1 n2
              go_wp2_with fail
              go_roundw
              case rel => exact ⟨k - 1, m + 1, j + 1, nf + 1 + 1, cap, _, _, _, by omega, by go_num, by omega, by omega, (show GI _ _ _ _ _ _ _ _ _ _ _ _ _ _ _ _ _ _ from HGA.out.mono (by have := HP1.out; omega))⟩
              case measure => simp [intOf]; omega
          · have hx7' : ¬ (x7 : Int) = 0 := by omega
            go_wp2_with fail
            refine (pick_any g A n c bs (P1 + 4) 2 _ HG7.out.rd HN.out hby hs (by omega) (by omega)).mono ?_
            rintro e wz ⟨xz, rfl, _, _, hrz, htz⟩
            have HGz := Lib.hid (HG7.out.pick hrz htz)
            clear hrz htz HG7
            by_cases hxz : xz = 0
            · subst hxz
              obtain ⟨go, cg, hov⟩ := row_pos HGz.out.xr (by omega)
              cases hov
              have f0 := HGz.out.fb
              have f1 := HGz.out.fz
              have z1 : w.heap.size + 1 < wz.heap.size := HGz.out.lt
              have hxl := HGz.out.xl
              have o0 := HGz.out.xr.cellAt (j + 1) (by omega)
              have o1 := HGz.out.xr.cellAt (j + 2) (by omega)
              rw [List.getElem?_map] at o0 o1
              generalize hX : xs ++ [(nf : Int)] = X at *
              have HX2 := Lib.hid hX
              clear hX
              rw [List.getElem?_eq_getElem (by omega), Option.map_some] at o0 o1
              generalize X[j + 1]'_ = x0 at o0
              generalize X[j + 2]'_ = x1 at o1
              have HXL := Lib.hid hxl
              clear hxl
              have hgo := (HGz.out.xr.lt go rfl).2
              have hgo2 := (HGz.out.xr.lt go rfl).1
              go_wp2_with fail
              have a2 : IntKind.i64.wrap (((j : Int) + 2 + 1) - 2) = ((j : Int) + 1) := by rw [IntKind.wrap_i64]; omega
              have a1 : IntKind.i64.wrap (((j : Int) + 2 + 1) - 1) = ((j : Int) + 2) := by rw [IntKind.wrap_i64]; omega
              have a2' : IntKind.i64.wrap (((j : Int) + 1)) = ((j : Int) + 1) := by rw [IntKind.wrap_i64]; omega
              have a1' : IntKind.i64.wrap (((j : Int) + 2)) = ((j : Int) + 2) := by rw [IntKind.wrap_i64]; omega
              have b2 : ((j : Int) + 1) < ((j : Int) + 2 + 1) := by omega
              have b1 : ((j : Int) + 2) < ((j : Int) + 2 + 1) := by omega
              have b0 : 0 ≤ ((j : Int) + 1) := by omega
              have b00 : 0 ≤ ((j : Int) + 2) := by omega
              have t1 : (((j : Int) + 1)).toNat = j + 1 := by omega
              have t2 : (((j : Int) + 2)).toNat = j + 2 := by omega
              have HXX := Lib.hid (And.intro ((HGz.out.xr.cellAt (j + 1) (by omega)).symm.trans o0) ((HGz.out.xr.cellAt (j + 2) (by omega)).symm.trans o1))
              have hnb1 : ∀ q : Nat, (⟨w.heap.size + 1, 0, none⟩ : Addr) ≠ ⟨go, q, none⟩ := fun q e => by have := congrArg Addr.block e; simp at this; omega
              refine wp_region_held_drew (S := (fun w' => w'.cell? ⟨go, j + 1, none⟩ = some (.int .i64 x0) ∧ w'.cell? ⟨go, j + 2, none⟩ = some (.int .i64 x1))) (by kernel_rfl) ⟨o0, o1⟩ (fun hHeld => ?_)
              refine wpAnyH_take (i := 0) (oi := ⟨some 91, _, _, _, _, _⟩) (v := ?_) rfl (by kernel_rfl) (by kernel_rfl) (by kernel_rfl) (fun _ _ _ h => h) (Or.inl ⟨by rfl, ?_⟩) (by assumption) ?_; rotate_left; (focus (intro w hSw; (try dsimp only at hSw); go_simp; (try with_reducible rfl))); (try simp only [Act.put, List.setIfInBounds_toArray, List.set_cons_zero, List.set_cons_succ])
              refine wpAnyH_take (i := 2) (oi := ⟨some 93, _, _, _, _, _⟩) (v := ?_) rfl (by kernel_rfl) (by kernel_rfl) (by kernel_rfl) (fun _ _ _ h => h) (Or.inl ⟨by rfl, ?_⟩) (by assumption) ?_; rotate_left; (focus (intro w hSw; (try dsimp only at hSw); go_simp; (try with_reducible rfl))); (try simp only [Act.put, List.setIfInBounds_toArray, List.set_cons_zero, List.set_cons_succ])
              refine wpAnyH_take (i := 5) (oi := ⟨some 96, _, _, _, _, _⟩) (v := ?_) rfl (by kernel_rfl) (by kernel_rfl) (by kernel_rfl) (fun _ _ _ h => h) (Or.inl ⟨by rfl, ?_⟩) (by assumption) ?_; rotate_left; (focus (intro w hSw; (try dsimp only at hSw); go_simp; (try with_reducible rfl))); (try simp only [Act.put, List.setIfInBounds_toArray, List.set_cons_zero, List.set_cons_succ])
              refine wpAnyH_take (i := 6) (oi := ⟨some 97, _, _, _, _, _⟩) (v := ?_) rfl (by kernel_rfl) (by kernel_rfl) (by kernel_rfl) (fun _ _ _ h => h) (Or.inl ⟨by rfl, ?_⟩) (by assumption) ?_; rotate_left; (focus (intro w hSw; (try dsimp only at hSw); go_simp; (try with_reducible rfl))); (try simp only [Act.put, List.setIfInBounds_toArray, List.set_cons_zero, List.set_cons_succ])
              refine wpAnyH_take (i := 7) (oi := ⟨some 98, _, _, _, _, _⟩) (v := ?_) rfl (by kernel_rfl) (by kernel_rfl) (by kernel_rfl) (fun _ _ _ h => h) (Or.inl ⟨by rfl, ?_⟩) (by assumption) ?_; rotate_left; (focus (intro w hSw; (try dsimp only at hSw); go_simp; (try with_reducible rfl))); (try simp only [Act.put, List.setIfInBounds_toArray, List.set_cons_zero, List.set_cons_succ])
              refine wpAnyH_take (i := 8) (oi := ⟨some 99, _, _, _, _, _⟩) (v := ?_) rfl (by kernel_rfl) (by kernel_rfl) (by kernel_rfl) (fun _ _ _ h => h) (Or.inl ⟨by rfl, ?_⟩) (by assumption) ?_; rotate_left; (focus (intro w hSw; (try dsimp only at hSw); go_simp; (try with_reducible rfl))); (try simp only [Act.put, List.setIfInBounds_toArray, List.set_cons_zero, List.set_cons_succ])
              refine wpAnyH_take (i := 9) (oi := ⟨some 100, _, _, _, _, _⟩) (v := ?_) rfl (by kernel_rfl) (by kernel_rfl) (by kernel_rfl) (fun _ _ _ h => h) (Or.inl ⟨by rfl, ?_⟩) (by assumption) ?_; rotate_left; (focus (intro w hSw; (try dsimp only at hSw); go_simp; (try with_reducible rfl))); (try simp only [Act.put, List.setIfInBounds_toArray, List.set_cons_zero, List.set_cons_succ])
              refine wpAnyH_take (i := 10) (oi := ⟨some 101, _, _, _, _, _⟩) (v := ?_) rfl (by kernel_rfl) (by kernel_rfl) (by kernel_rfl) (fun _ _ _ h => h) (Or.inl ⟨by rfl, ?_⟩) (by assumption) ?_; rotate_left; (focus (intro w hSw; (try dsimp only at hSw); go_simp; (try with_reducible rfl))); (try simp only [Act.put, List.setIfInBounds_toArray, List.set_cons_zero, List.set_cons_succ])
              refine wpAnyH_take (i := 11) (oi := ⟨some 102, _, _, _, _, _⟩) (v := ?_) rfl (by kernel_rfl) (by kernel_rfl) (by kernel_rfl) (fun _ _ _ h => h) (Or.inl ⟨by rfl, ?_⟩) (by assumption) ?_; rotate_left; (focus (intro w hSw; (try dsimp only at hSw); go_simp; (try with_reducible rfl))); (try simp only [Act.put, List.setIfInBounds_toArray, List.set_cons_zero, List.set_cons_succ])
              refine wpAnyH_take (i := 12) (oi := ⟨some 103, _, _, _, _, _⟩) (v := ?_) rfl (by kernel_rfl) (by kernel_rfl) (by kernel_rfl) (fun _ _ _ h => h) (Or.inl ⟨by rfl, ?_⟩) (by assumption) ?_; rotate_left; (focus (intro w hSw; (try dsimp only at hSw); go_simp; (try with_reducible rfl))); (try simp only [Act.put, List.setIfInBounds_toArray, List.set_cons_zero, List.set_cons_succ])
              refine wpAnyH_take (i := 13) (oi := ⟨some 104, _, _, _, _, _⟩) (v := ?_) rfl (by kernel_rfl) (by kernel_rfl) (by kernel_rfl) (fun _ _ _ h => h) (Or.inl ⟨by rfl, ?_⟩) (by assumption) ?_; rotate_left; (focus (intro w hSw; (try dsimp only at hSw); go_simp; (try with_reducible rfl))); (try simp only [Act.put, List.setIfInBounds_toArray, List.set_cons_zero, List.set_cons_succ])
              refine wpAnyH_take (i := 14) (oi := ⟨some 105, _, _, _, _, _⟩) (v := ?_) rfl (by kernel_rfl) (by kernel_rfl) (by kernel_rfl) (fun _ _ _ h => h) (Or.inl ⟨by rfl, ?_⟩) (by assumption) ?_; rotate_left; (focus (intro w hSw; (try dsimp only at hSw); go_simp; (try with_reducible rfl))); (try simp only [Act.put, List.setIfInBounds_toArray, List.set_cons_zero, List.set_cons_succ])
              refine wpAnyH_ready (rs := [1, 3]) (by kernel_rfl) (by simp) ?_; refine AllReadyH.cons (o := ⟨some 92, _, _, _, _, _⟩) rfl (fun K hK => ?_) (AllReadyH.cons (o := ⟨some 94, _, _, _, _, _⟩) rfl (fun K hK => ?_) AllReadyH.nil)
              go_simp
              refine hK.out _ _ ⟨o0, o1⟩ (fun hHeld => ?_); clear hK K; (try simp only [Act.put, List.setIfInBounds_toArray, List.set_cons_zero, List.set_cons_succ])
              refine wpAnyH_ready (rs := [3]) (by kernel_rfl) (by simp) ?_; refine AllReadyH.cons (o := ⟨some 94, _, _, _, _, _⟩) rfl (fun K hK => ?_) AllReadyH.nil; go_simp
              go_at_call 66
              refine (pick_any g A n c bs (P1 + 4 + 1) 6 _ ?_ HN.out hby hs ?_ ?_).mono ?_
              (first | exact HGz.out.rd | exact HGz.out.rd.drew)
              omega
              omega
              rintro e w8 ⟨x8, rfl, hx8', _, hr8, ht8'⟩
              have hx8 : (x8 : Int) < 6 := hx8' (by omega)
              have ht8 : Tch g (g + 1) wz w8 := ⟨ht8'.os, ht8'.tape, ht8'.output, ht8'.size, ht8'.block⟩
              have HGP := Lib.hid (HGz.out.pick hr8 ht8)
              have p0 := (HGP.out.xr.cellAt (j + 1) (by omega)).trans HXX.out.1
              have p1 := (HGP.out.xr.cellAt (j + 2) (by omega)).trans HXX.out.2
              have g0 := HGP.out.fb
              have g1 := HGP.out.fz
              have z8 : w.heap.size + 1 < w8.heap.size := HGP.out.lt
              have hgo8 := (HGP.out.xr.lt go rfl).2
              have a8 : IntKind.i64.wrap (2 + (x8 : Int)) = 2 + (x8 : Int) := (by rw [IntKind.wrap_i64]; omega)
              have q0 := (World.cell?_alloc_lt w8 (.cells #[.int .i64 (2 + (x8 : Int)), .int .i64 x0, .int .i64 x1, .int .i64 (-1), .int .i64 0] 54) ⟨go, j + 1, none⟩ hgo8).trans p0
              have q1 := (World.cell?_alloc_lt w8 (.cells #[.int .i64 (2 + (x8 : Int)), .int .i64 x0, .int .i64 x1, .int .i64 (-1), .int .i64 0] 54) ⟨go, j + 2, none⟩ hgo8).trans p1
              have HGc := Lib.hid (HGP.out.alloc (.cells #[.int .i64 (2 + (x8 : Int)), .int .i64 x0, .int .i64 x1, .int .i64 (-1), .int .i64 0] 54))
              clear hx8' hr8 ht8'
              refine hK.out _ _ ⟨p0, p1⟩ (fun hHeld => ?_); clear hK K; (try simp only [Act.put, List.setIfInBounds_toArray, List.set_cons_zero, List.set_cons_succ])
              refine wpAnyH_take (i := 4) (oi := ⟨some 95, _, _, _, _, _⟩) (v := ?_) rfl (by kernel_rfl) (by kernel_rfl) (by kernel_rfl) (fun _ _ _ h => h) (Or.inl ⟨by rfl, ?_⟩) (by assumption) ?_; rotate_left; (focus (intro w hSw; (try dsimp only at hSw); go_simp; (try with_reducible rfl))); (try simp only [Act.put, List.setIfInBounds_toArray, List.set_cons_zero, List.set_cons_succ])
              refine wpAnyH_take (i := 15) (oi := ⟨some 106, _, _, _, _, _⟩) (v := ?_) rfl (by kernel_rfl) (by kernel_rfl) (by kernel_rfl) (fun _ _ _ h => h) (Or.inl ⟨by rfl, ?_⟩) (by assumption) ?_; rotate_left; (focus (intro w hSw; (try dsimp only at hSw); go_simp; (try with_reducible rfl))); (try simp only [Act.put, List.setIfInBounds_toArray, List.set_cons_zero, List.set_cons_succ])
              refine wpAnyH_ready (rs := [16]) (by kernel_rfl) (by simp) ?_; refine AllReadyH.cons (o := ⟨some 107, _, _, _, _, _⟩) rfl (fun K hK => ?_) AllReadyH.nil; go_simp
              refine hK.out _ _ ⟨q0, q1⟩ (fun hHeld => ?_); clear hK K; (try simp only [Act.put, List.setIfInBounds_toArray, List.set_cons_zero, List.set_cons_succ])
              refine wpAnyH_ready (rs := [17]) (by kernel_rfl) (by simp) ?_; refine AllReadyH.cons (o := ⟨some 108, _, _, _, _, _⟩) rfl (fun K hK => ?_) AllReadyH.nil
              refine step_append_lies _ (by rfl) _ _ _ (by rfl) (w.heap.size + 2) 54 i1 _ 5 40 Try.underlying23 hi1 hy0 hy1 hy2 rfl (by omega) (.slice A5 (nf + 1) c5) (nf + 1) _ (by rfl) HGc.out.pr ⟨w8.heap.size, 0, none⟩ 1 1 [.int .i64 (2 + (x8 : Int)), .int .i64 x0, .int .i64 x1, .int .i64 (-1), .int .i64 0] (by rfl) (by rfl) (cells_new _ _ _ _ rfl) (by simp [Value.oneCell']) (by omega) (by unfold maxLen; omega) (by omega) (by simp; omega) (w8.heap.size + 1) (by simp) ?_
              intro gg cap w9 hown9 hgrow9 hat9 hlt9
              have hgr9 : (w8.alloc (.cells #[.int .i64 (2 + (x8 : Int)), .int .i64 x0, .int .i64 x1, .int .i64 (-1), .int .i64 0] 54)).grownBy w9 (Value.slice A5 (nf + 1) c5).ownBlock := ⟨hgrow9.os, hgrow9.tape, hgrow9.output, hgrow9.size, hgrow9.block⟩
              have hfr9 := HGc.out.frame hgr9 fun k hk => (HGc.out.pr.lt k hk).1
              have z9 := hfr9.2.2.1
              have h0 := hfr9.2.2.2.2.2.1
              have h1 := hfr9.2.2.2.2.2.2.1
              clear hfr9
              have hxr9 := HGc.out.xr.kept hgr9 (blocks_ne HGc.out.xr HGc.out.pr int_ne_part)
              have s0 := (hxr9.cellAt (j + 1) (by omega)).trans HXX.out.1
              have s1 := (hxr9.cellAt (j + 2) (by omega)).trans HXX.out.2
              clear hxr9
              refine hK.out _ _ ⟨s0, s1⟩ (fun hHeld => ?_); clear hK K; (try simp only [Act.put, List.setIfInBounds_toArray, List.set_cons_zero, List.set_cons_succ])
              refine wpAnyH_take (i := 18) (oi := ⟨some 109, _, _, _, _, _⟩) (v := ?_) rfl (by kernel_rfl) (by kernel_rfl) (by kernel_rfl) (fun _ _ _ h => h) (Or.inl ⟨by rfl, ?_⟩) (by assumption) ?_; rotate_left; (focus (intro w hSw; (try dsimp only at hSw); go_simp; (try with_reducible rfl))); (try simp only [Act.put, List.setIfInBounds_toArray, List.set_cons_zero, List.set_cons_succ])
              refine wpAnyH_ready (rs := [19]) (by kernel_rfl) (by simp) ?_; refine AllReadyH.cons (o := ⟨none, _, _, _, _, _⟩) rfl (fun K hK => ?_) AllReadyH.nil; go_simp
              refine hK.out _ _ ⟨(World.cell?_setCell_other _ _ _ _ (hnb1 _)).trans s0, (World.cell?_setCell_other _ _ _ _ (hnb1 _)).trans s1⟩ (fun hHeld => ?_); clear hK K; (try simp only [Act.put, List.setIfInBounds_toArray, List.set_cons_zero, List.set_cons_succ])
              refine wpAnyH_done (by kernel_rfl) ?_ _
              rotate_left
              go_simp
              go_at_call 66
              refine (pick_any g A n c bs (P1 + 4 + 1) 6 _ ?_ HN.out hby hs ?_ ?_).mono ?_
              (first | exact HGz.out.rd | exact HGz.out.rd.drew)
              omega
              omega
              rintro e w8 ⟨x8, rfl, hx8', _, hr8, ht8'⟩
              have hx8 : (x8 : Int) < 6 := hx8' (by omega)
              have ht8 : Tch g (g + 1) wz w8 := ⟨ht8'.os, ht8'.tape, ht8'.output, ht8'.size, ht8'.block⟩
              have HGP := Lib.hid (HGz.out.pick hr8 ht8)
              have p0 := (HGP.out.xr.cellAt (j + 1) (by omega)).trans HXX.out.1
              have p1 := (HGP.out.xr.cellAt (j + 2) (by omega)).trans HXX.out.2
              have g0 := HGP.out.fb
              have g1 := HGP.out.fz
              have z8 : w.heap.size + 1 < w8.heap.size := HGP.out.lt
              have hgo8 := (HGP.out.xr.lt go rfl).2
              have a8 : IntKind.i64.wrap (2 + (x8 : Int)) = 2 + (x8 : Int) := (by rw [IntKind.wrap_i64]; omega)
              have q0 := (World.cell?_alloc_lt w8 (.cells #[.int .i64 (2 + (x8 : Int)), .int .i64 x0, .int .i64 x1, .int .i64 (-1), .int .i64 0] 54) ⟨go, j + 1, none⟩ hgo8).trans p0
              have q1 := (World.cell?_alloc_lt w8 (.cells #[.int .i64 (2 + (x8 : Int)), .int .i64 x0, .int .i64 x1, .int .i64 (-1), .int .i64 0] 54) ⟨go, j + 2, none⟩ hgo8).trans p1
              have HGc := Lib.hid (HGP.out.alloc (.cells #[.int .i64 (2 + (x8 : Int)), .int .i64 x0, .int .i64 x1, .int .i64 (-1), .int .i64 0] 54))
              clear hx8' hr8 ht8'
              refine hK.out _ _ ⟨p0, p1⟩ (fun hHeld => ?_); clear hK K; (try simp only [Act.put, List.setIfInBounds_toArray, List.set_cons_zero, List.set_cons_succ])
              refine wpAnyH_take (i := 4) (oi := ⟨some 95, _, _, _, _, _⟩) (v := ?_) rfl (by kernel_rfl) (by kernel_rfl) (by kernel_rfl) (fun _ _ _ h => h) (Or.inl ⟨by rfl, ?_⟩) (by assumption) ?_; rotate_left; (focus (intro w hSw; (try dsimp only at hSw); go_simp; (try with_reducible rfl))); (try simp only [Act.put, List.setIfInBounds_toArray, List.set_cons_zero, List.set_cons_succ])
              refine wpAnyH_take (i := 15) (oi := ⟨some 106, _, _, _, _, _⟩) (v := ?_) rfl (by kernel_rfl) (by kernel_rfl) (by kernel_rfl) (fun _ _ _ h => h) (Or.inl ⟨by rfl, ?_⟩) (by assumption) ?_; rotate_left; (focus (intro w hSw; (try dsimp only at hSw); go_simp; (try with_reducible rfl))); (try simp only [Act.put, List.setIfInBounds_toArray, List.set_cons_zero, List.set_cons_succ])
              refine wpAnyH_ready (rs := [1, 16]) (by kernel_rfl) (by simp) ?_; refine AllReadyH.cons (o := ⟨some 92, _, _, _, _, _⟩) rfl (fun K hK => ?_) (AllReadyH.cons (o := ⟨some 107, _, _, _, _, _⟩) rfl (fun K hK => ?_) AllReadyH.nil)
              go_simp
              refine hK.out _ _ ⟨p0, p1⟩ (fun hHeld => ?_); clear hK K; (try simp only [Act.put, List.setIfInBounds_toArray, List.set_cons_zero, List.set_cons_succ])
              refine wpAnyH_ready (rs := [16]) (by kernel_rfl) (by simp) ?_; refine AllReadyH.cons (o := ⟨some 107, _, _, _, _, _⟩) rfl (fun K hK => ?_) AllReadyH.nil; go_simp
              refine hK.out _ _ ⟨q0, q1⟩ (fun hHeld => ?_); clear hK K; (try simp only [Act.put, List.setIfInBounds_toArray, List.set_cons_zero, List.set_cons_succ])
              refine wpAnyH_ready (rs := [17]) (by kernel_rfl) (by simp) ?_; refine AllReadyH.cons (o := ⟨some 108, _, _, _, _, _⟩) rfl (fun K hK => ?_) AllReadyH.nil
              refine step_append_lies _ (by rfl) _ _ _ (by rfl) (w.heap.size + 2) 54 i1 _ 5 40 Try.underlying23 hi1 hy0 hy1 hy2 rfl (by omega) (.slice A5 (nf + 1) c5) (nf + 1) _ (by rfl) HGc.out.pr ⟨w8.heap.size, 0, none⟩ 1 1 [.int .i64 (2 + (x8 : Int)), .int .i64 x0, .int .i64 x1, .int .i64 (-1), .int .i64 0] (by rfl) (by rfl) (cells_new _ _ _ _ rfl) (by simp [Value.oneCell']) (by omega) (by unfold maxLen; omega) (by omega) (by simp; omega) (w8.heap.size + 1) (by simp) ?_
              intro gg cap w9 hown9 hgrow9 hat9 hlt9
              have hgr9 : (w8.alloc (.cells #[.int .i64 (2 + (x8 : Int)), .int .i64 x0, .int .i64 x1, .int .i64 (-1), .int .i64 0] 54)).grownBy w9 (Value.slice A5 (nf + 1) c5).ownBlock := ⟨hgrow9.os, hgrow9.tape, hgrow9.output, hgrow9.size, hgrow9.block⟩
              have hfr9 := HGc.out.frame hgr9 fun k hk => (HGc.out.pr.lt k hk).1
              have z9 := hfr9.2.2.1
              have h0 := hfr9.2.2.2.2.2.1
              have h1 := hfr9.2.2.2.2.2.2.1
              clear hfr9
              have hxr9 := HGc.out.xr.kept hgr9 (blocks_ne HGc.out.xr HGc.out.pr int_ne_part)
              have s0 := (hxr9.cellAt (j + 1) (by omega)).trans HXX.out.1
              have s1 := (hxr9.cellAt (j + 2) (by omega)).trans HXX.out.2
              clear hxr9
              refine hK.out _ _ ⟨s0, s1⟩ (fun hHeld => ?_); clear hK K; (try simp only [Act.put, List.setIfInBounds_toArray, List.set_cons_zero, List.set_cons_succ])
              refine wpAnyH_take (i := 18) (oi := ⟨some 109, _, _, _, _, _⟩) (v := ?_) rfl (by kernel_rfl) (by kernel_rfl) (by kernel_rfl) (fun _ _ _ h => h) (Or.inl ⟨by rfl, ?_⟩) (by assumption) ?_; rotate_left; (focus (intro w hSw; (try dsimp only at hSw); go_simp; (try with_reducible rfl))); (try simp only [Act.put, List.setIfInBounds_toArray, List.set_cons_zero, List.set_cons_succ])
              refine wpAnyH_ready (rs := [19]) (by kernel_rfl) (by simp) ?_; refine AllReadyH.cons (o := ⟨none, _, _, _, _, _⟩) rfl (fun K hK => ?_) AllReadyH.nil; go_simp
              refine hK.out _ _ ⟨(World.cell?_setCell_other _ _ _ _ (hnb1 _)).trans s0, (World.cell?_setCell_other _ _ _ _ (hnb1 _)).trans s1⟩ (fun hHeld => ?_); clear hK K; (try simp only [Act.put, List.setIfInBounds_toArray, List.set_cons_zero, List.set_cons_succ])
              refine wpAnyH_done (by kernel_rfl) ?_ _
              rotate_left
              go_simp
              refine hK.out _ _ ⟨q0, q1⟩ (fun hHeld => ?_); clear hK K; (try simp only [Act.put, List.setIfInBounds_toArray, List.set_cons_zero, List.set_cons_succ])
              refine wpAnyH_ready (rs := [1]) (by kernel_rfl) (by simp) ?_; refine AllReadyH.cons (o := ⟨some 92, _, _, _, _, _⟩) rfl (fun K hK => ?_) AllReadyH.nil; go_simp
              refine hK.out _ _ ⟨q0, q1⟩ (fun hHeld => ?_); clear hK K; (try simp only [Act.put, List.setIfInBounds_toArray, List.set_cons_zero, List.set_cons_succ])
              refine wpAnyH_ready (rs := [17]) (by kernel_rfl) (by simp) ?_; refine AllReadyH.cons (o := ⟨some 108, _, _, _, _, _⟩) rfl (fun K hK => ?_) AllReadyH.nil
              refine step_append_lies _ (by rfl) _ _ _ (by rfl) (w.heap.size + 2) 54 i1 _ 5 40 Try.underlying23 hi1 hy0 hy1 hy2 rfl (by omega) (.slice A5 (nf + 1) c5) (nf + 1) _ (by rfl) HGc.out.pr ⟨w8.heap.size, 0, none⟩ 1 1 [.int .i64 (2 + (x8 : Int)), .int .i64 x0, .int .i64 x1, .int .i64 (-1), .int .i64 0] (by rfl) (by rfl) (cells_new _ _ _ _ rfl) (by simp [Value.oneCell']) (by omega) (by unfold maxLen; omega) (by omega) (by simp; omega) (w8.heap.size + 1) (by simp) ?_
              intro gg cap w9 hown9 hgrow9 hat9 hlt9
              have hgr9 : (w8.alloc (.cells #[.int .i64 (2 + (x8 : Int)), .int .i64 x0, .int .i64 x1, .int .i64 (-1), .int .i64 0] 54)).grownBy w9 (Value.slice A5 (nf + 1) c5).ownBlock := ⟨hgrow9.os, hgrow9.tape, hgrow9.output, hgrow9.size, hgrow9.block⟩
              have hfr9 := HGc.out.frame hgr9 fun k hk => (HGc.out.pr.lt k hk).1
              have z9 := hfr9.2.2.1
              have h0 := hfr9.2.2.2.2.2.1
              have h1 := hfr9.2.2.2.2.2.2.1
              clear hfr9
              have hxr9 := HGc.out.xr.kept hgr9 (blocks_ne HGc.out.xr HGc.out.pr int_ne_part)
              have s0 := (hxr9.cellAt (j + 1) (by omega)).trans HXX.out.1
              have s1 := (hxr9.cellAt (j + 2) (by omega)).trans HXX.out.2
              clear hxr9
              refine hK.out _ _ ⟨s0, s1⟩ (fun hHeld => ?_); clear hK K; (try simp only [Act.put, List.setIfInBounds_toArray, List.set_cons_zero, List.set_cons_succ])
              refine wpAnyH_take (i := 18) (oi := ⟨some 109, _, _, _, _, _⟩) (v := ?_) rfl (by kernel_rfl) (by kernel_rfl) (by kernel_rfl) (fun _ _ _ h => h) (Or.inl ⟨by rfl, ?_⟩) (by assumption) ?_; rotate_left; (focus (intro w hSw; (try dsimp only at hSw); go_simp; (try with_reducible rfl))); (try simp only [Act.put, List.setIfInBounds_toArray, List.set_cons_zero, List.set_cons_succ])
              refine wpAnyH_ready (rs := [19]) (by kernel_rfl) (by simp) ?_; refine AllReadyH.cons (o := ⟨none, _, _, _, _, _⟩) rfl (fun K hK => ?_) AllReadyH.nil; go_simp
              refine hK.out _ _ ⟨(World.cell?_setCell_other _ _ _ _ (hnb1 _)).trans s0, (World.cell?_setCell_other _ _ _ _ (hnb1 _)).trans s1⟩ (fun hHeld => ?_); clear hK K; (try simp only [Act.put, List.setIfInBounds_toArray, List.set_cons_zero, List.set_cons_succ])
              refine wpAnyH_done (by kernel_rfl) ?_ _
              all_goals
                have HG8 := Lib.hid (HGc.out.parted (Af' := some ⟨gg, 0, none⟩) (nf' := nf + 1 + 1) (cf' := cap) (ps' := (ps ++ [q']) ++ [⟨2 + (x8 : Int), x0, x1, -1, 0⟩]) hgr9 (by rw [List.flatMap_append]; exact hown9) (by rw [List.length_append, ← HGc.out.pl]; rfl))
                have HXL8 := Lib.hid (HXL.out)
                clear hown9 hgrow9 hgr9 hat9 hlt9 z9 h0 h1 s0 s1 q0 q1 p0 p1 o0 o1 g0 g1 f0 f1 z1 z8 HGc HGP HGz HXX a8
                go_wp2_with fail
                generalize (w9.setCell ⟨w.heap.size + 1, 0, none⟩ (.slice (some ⟨gg, 0, none⟩) (nf + 1 + 1) cap)) = W8 at *
                have f8 := HG8.out.fb
                have z8 : w.heap.size + 1 < W8.heap.size := HG8.out.lt
                have n1 : IntKind.i64.wrap (((nf : Int) + 1) + 1 - 1) = ((nf : Int) + 1) := by rw [IntKind.wrap_i64]; omega
                have n2 : IntKind.i64.wrap (((nf : Int) + 1)) = ((nf : Int) + 1) := by rw [IntKind.wrap_i64]; omega
                have f8' := (World.cell?_alloc_lt W8 (.cells #[.int .i64 (((nf : Int) + 1))] 3) ⟨w.heap.size + 1, 0, none⟩ z8).trans f8
                have HG9 := Lib.hid (HG8.out.alloc (.cells #[.int .i64 (((nf : Int) + 1))] 3))
                have hcg : j + 2 + 1 ≤ co := by
                  rcases HG8.out.xr.2 with ⟨h', _⟩ | ⟨g', cap', cur, h', _, _, hnc, _⟩
                  · simp at h'
                  · simp at h'
                    omega
                have hcg1 : ((j : Int) + 1) ≤ (co : Int) := by omega
                go_region_held3 (fun w' => w'.cell? ⟨w.heap.size + 1, 0, none⟩ = some (.slice (some ⟨gg, 0, none⟩) (nf + 1 + 1) cap)) (first | exact f8 | exact f8' | exact f9)
                  (first
                    | (refine step_append_lies _ (by rfl) _ _ _ (by rfl) (w.heap.size + 2) 3 i0 (.int .i64 0) 1 8 Try.underlying26 hi0 hz0 hz1 hz2 rfl (by omega) (.slice (some ⟨go, 0, none⟩) (j + 1) co) (j + 1) _ (by rfl) (own_shrink HG9.out.xr (by omega)) ⟨W8.heap.size, 0, none⟩ 1 1 [.int .i64 (((nf : Int) + 1))] (by rfl) (by rfl) (cell_one_new _ _ _) (by simp [Value.oneCell']) (by omega) (by unfold maxLen; omega) (by omega) (by simp; omega) W8.heap.size.succ (by simp) ?_; intro gh cah w10 hown10 hgrow10' hat10 hlt10; have hgrow10 : (W8.alloc (.cells #[.int .i64 (((nf : Int) + 1))] 3)).grownBy w10 (Value.slice (some ⟨go, 0, none⟩) (j + 1) co).ownBlock := ⟨hgrow10'.os, hgrow10'.tape, hgrow10'.output, hgrow10'.size, hgrow10'.block⟩; have HGA := Lib.hid (HG9.out.opened (xs' := X.take (j + 1) ++ [((nf : Int) + 1)]) (own_shrink HG9.out.xr (by omega : j + 1 ≤ j + 2 + 1)) hgrow10 (by first | (simpa using hown10) | (simpa [List.map_take] using hown10) | (rw [List.map_append, List.map_take]; exact hown10)) (by have := HXL8.out; rw [List.length_append, List.length_take]; show _ = _ + 1; omega)); have f9 := HGA.out.fb))
                clear f8 f8' f9 hgrow10 hgrow10' hown10 hat10 hlt10 HG8 HG9 z8 n1 n2 a1 a2 a1' a2' t1 t2
                go_wp2_with fail
                go_roundw
                case rel => exact ⟨k - 1, m + 1, j + 1 + 1, nf + 1 + 1, cap, _, _, _, by omega, by go_num, by omega, by omega, (show GI _ _ _ _ _ _ _ _ _ _ _ _ _ _ _ _ _ _ from HGA.out.mono (by have := HP1.out; omega))⟩
                case measure => simp [intOf]; omega
            · go_wp2_with fail
              go_roundw
              case rel => exact ⟨k - 1, m + 1, j + 2 + 1, nf + 1, c5, A5, _, _, by omega, by go_num, by omega, by omega, (show GI _ _ _ _ _ _ _ _ _ _ _ _ _ _ _ _ _ _ from HGz.out.mono (by have := HP1.out; omega))⟩
              case measure => simp [intOf]; omega
        · by_cases h2 : 2 ≤ no + 1
          · obtain ⟨j, rfl⟩ : ∃ j, no = j + 1 := ⟨no - 1, by omega⟩
            go_wp2_with fail
            generalize (w5.setCell ⟨w.heap.size + 1, 0, none⟩ (.slice A5 (nf + 1) c5)) = W6 at *
            refine (pick_any g A n c bs (P1 + 3) 2 W6 HG6.out.rd HN.out hby hs (by omega) (by omega)).mono ?_
            rintro e wz ⟨xz, rfl, _, _, hrz, htz⟩
            have HGz := Lib.hid (HG6.out.pick hrz htz)
            clear hrz htz HG6
            by_cases hxz : xz = 0
            · subst hxz
              obtain ⟨go, cg, hov⟩ := row_pos HGz.out.xr (by omega)
              cases hov
              have f0 := HGz.out.fb
              have f1 := HGz.out.fz
              have z1 : w.heap.size + 1 < wz.heap.size := HGz.out.lt
              have hxl := HGz.out.xl
              have o0 := HGz.out.xr.cellAt (j) (by omega)
              have o1 := HGz.out.xr.cellAt (j + 1) (by omega)
              rw [List.getElem?_map] at o0 o1
              generalize hX : xs ++ [(nf : Int)] = X at *
              have HX2 := Lib.hid hX
              clear hX
              rw [List.getElem?_eq_getElem (by omega), Option.map_some] at o0 o1
              generalize X[j]'_ = x0 at o0
              generalize X[j + 1]'_ = x1 at o1
              have HXL := Lib.hid hxl
              clear hxl
              have hgo := (HGz.out.xr.lt go rfl).2
              have hgo2 := (HGz.out.xr.lt go rfl).1
              go_wp2_with fail
              have a2 : IntKind.i64.wrap (((j : Int) + 1 + 1) - 2) = (j : Int) := by rw [IntKind.wrap_i64]; omega
              have a1 : IntKind.i64.wrap (((j : Int) + 1 + 1) - 1) = ((j : Int) + 1) := by rw [IntKind.wrap_i64]; omega
              have a2' : IntKind.i64.wrap ((j : Int)) = (j : Int) := by rw [IntKind.wrap_i64]; omega
              have a1' : IntKind.i64.wrap (((j : Int) + 1)) = ((j : Int) + 1) := by rw [IntKind.wrap_i64]; omega
              have b2 : (j : Int) < ((j : Int) + 1 + 1) := by omega
              have b1 : ((j : Int) + 1) < ((j : Int) + 1 + 1) := by omega
              have b0 : 0 ≤ (j : Int) := by omega
              have b00 : 0 ≤ ((j : Int) + 1) := by omega
              have t1 : ((j : Int)).toNat = j := by omega
              have t2 : (((j : Int) + 1)).toNat = j + 1 := by omega
              have HXX := Lib.hid (And.intro ((HGz.out.xr.cellAt (j) (by omega)).symm.trans o0) ((HGz.out.xr.cellAt (j + 1) (by omega)).symm.trans o1))
              have hnb1 : ∀ q : Nat, (⟨w.heap.size + 1, 0, none⟩ : Addr) ≠ ⟨go, q, none⟩ := fun q e => by have := congrArg Addr.block e; simp at this; omega
              refine wp_region_held_drew (S := (fun w' => w'.cell? ⟨go, j, none⟩ = some (.int .i64 x0) ∧ w'.cell? ⟨go, j + 1, none⟩ = some (.int .i64 x1))) (by kernel_rfl) ⟨o0, o1⟩ (fun hHeld => ?_)
              refine wpAnyH_take (i := 0) (oi := ⟨some 91, _, _, _, _, _⟩) (v := ?_) rfl (by kernel_rfl) (by kernel_rfl) (by kernel_rfl) (fun _ _ _ h => h) (Or.inl ⟨by rfl, ?_⟩) (by assumption) ?_; rotate_left; (focus (intro w hSw; (try dsimp only at hSw); go_simp; (try with_reducible rfl))); (try simp only [Act.put, List.setIfInBounds_toArray, List.set_cons_zero, List.set_cons_succ])
              refine wpAnyH_take (i := 2) (oi := ⟨some 93, _, _, _, _, _⟩) (v := ?_) rfl (by kernel_rfl) (by kernel_rfl) (by kernel_rfl) (fun _ _ _ h => h) (Or.inl ⟨by rfl, ?_⟩) (by assumption) ?_; rotate_left; (focus (intro w hSw; (try dsimp only at hSw); go_simp; (try with_reducible rfl))); (try simp only [Act.put, List.setIfInBounds_toArray, List.set_cons_zero, List.set_cons_succ])
              refine wpAnyH_take (i := 5) (oi := ⟨some 96, _, _, _, _, _⟩) (v := ?_) rfl (by kernel_rfl) (by kernel_rfl) (by kernel_rfl) (fun _ _ _ h => h) (Or.inl ⟨by rfl, ?_⟩) (by assumption) ?_; rotate_left; (focus (intro w hSw; (try dsimp only at hSw); go_simp; (try with_reducible rfl))); (try simp only [Act.put, List.setIfInBounds_toArray, List.set_cons_zero, List.set_cons_succ])
              refine wpAnyH_take (i := 6) (oi := ⟨some 97, _, _, _, _, _⟩) (v := ?_) rfl (by kernel_rfl) (by kernel_rfl) (by kernel_rfl) (fun _ _ _ h => h) (Or.inl ⟨by rfl, ?_⟩) (by assumption) ?_; rotate_left; (focus (intro w hSw; (try dsimp only at hSw); go_simp; (try with_reducible rfl))); (try simp only [Act.put, List.setIfInBounds_toArray, List.set_cons_zero, List.set_cons_succ])
              refine wpAnyH_take (i := 7) (oi := ⟨some 98, _, _, _, _, _⟩) (v := ?_) rfl (by kernel_rfl) (by kernel_rfl) (by kernel_rfl) (fun _ _ _ h => h) (Or.inl ⟨by rfl, ?_⟩) (by assumption) ?_; rotate_left; (focus (intro w hSw; (try dsimp only at hSw); go_simp; (try with_reducible rfl))); (try simp only [Act.put, List.setIfInBounds_toArray, List.set_cons_zero, List.set_cons_succ])
              refine wpAnyH_take (i := 8) (oi := ⟨some 99, _, _, _, _, _⟩) (v := ?_) rfl (by kernel_rfl) (by kernel_rfl) (by kernel_rfl) (fun _ _ _ h => h) (Or.inl ⟨by rfl, ?_⟩) (by assumption) ?_; rotate_left; (focus (intro w hSw; (try dsimp only at hSw); go_simp; (try with_reducible rfl))); (try simp only [Act.put, List.setIfInBounds_toArray, List.set_cons_zero, List.set_cons_succ])
              refine wpAnyH_take (i := 9) (oi := ⟨some 100, _, _, _, _, _⟩) (v := ?_) rfl (by kernel_rfl) (by kernel_rfl) (by kernel_rfl) (fun _ _ _ h => h) (Or.inl ⟨by rfl, ?_⟩) (by assumption) ?_; rotate_left; (focus (intro w hSw; (try dsimp only at hSw); go_simp; (try with_reducible rfl))); (try simp only [Act.put, List.setIfInBounds_toArray, List.set_cons_zero, List.set_cons_succ])
              refine wpAnyH_take (i := 10) (oi := ⟨some 101, _, _, _, _, _⟩) (v := ?_) rfl (by kernel_rfl) (by kernel_rfl) (by kernel_rfl) (fun _ _ _ h => h) (Or.inl ⟨by rfl, ?_⟩) (by assumption) ?_; rotate_left; (focus (intro w hSw; (try dsimp only at hSw); go_simp; (try with_reducible rfl))); (try simp only [Act.put, List.setIfInBounds_toArray, List.set_cons_zero, List.set_cons_succ])
              refine wpAnyH_take (i := 11) (oi := ⟨some 102, _, _, _, _, _⟩) (v := ?_) rfl (by kernel_rfl) (by kernel_rfl) (by kernel_rfl) (fun _ _ _ h => h) (Or.inl ⟨by rfl, ?_⟩) (by assumption) ?_; rotate_left; (focus (intro w hSw; (try dsimp only at hSw); go_simp; (try with_reducible rfl))); (try simp only [Act.put, List.setIfInBounds_toArray, List.set_cons_zero, List.set_cons_succ])
              refine wpAnyH_take (i := 12) (oi := ⟨some 103, _, _, _, _, _⟩) (v := ?_) rfl (by kernel_rfl) (by kernel_rfl) (by kernel_rfl) (fun _ _ _ h => h) (Or.inl ⟨by rfl, ?_⟩) (by assumption) ?_; rotate_left; (focus (intro w hSw; (try dsimp only at hSw); go_simp; (try with_reducible rfl))); (try simp only [Act.put, List.setIfInBounds_toArray, List.set_cons_zero, List.set_cons_succ])
              refine wpAnyH_take (i := 13) (oi := ⟨some 104, _, _, _, _, _⟩) (v := ?_) rfl (by kernel_rfl) (by kernel_rfl) (by kernel_rfl) (fun _ _ _ h => h) (Or.inl ⟨by rfl, ?_⟩) (by assumption) ?_; rotate_left; (focus (intro w hSw; (try dsimp only at hSw); go_simp; (try with_reducible rfl))); (try simp only [Act.put, List.setIfInBounds_toArray, List.set_cons_zero, List.set_cons_succ])
              refine wpAnyH_take (i := 14) (oi := ⟨some 105, _, _, _, _, _⟩) (v := ?_) rfl (by kernel_rfl) (by kernel_rfl) (by kernel_rfl) (fun _ _ _ h => h) (Or.inl ⟨by rfl, ?_⟩) (by assumption) ?_; rotate_left; (focus (intro w hSw; (try dsimp only at hSw); go_simp; (try with_reducible rfl))); (try simp only [Act.put, List.setIfInBounds_toArray, List.set_cons_zero, List.set_cons_succ])
              refine wpAnyH_ready (rs := [1, 3]) (by kernel_rfl) (by simp) ?_; refine AllReadyH.cons (o := ⟨some 92, _, _, _, _, _⟩) rfl (fun K hK => ?_) (AllReadyH.cons (o := ⟨some 94, _, _, _, _, _⟩) rfl (fun K hK => ?_) AllReadyH.nil)
              go_simp
              refine hK.out _ _ ⟨o0, o1⟩ (fun hHeld => ?_); clear hK K; (try simp only [Act.put, List.setIfInBounds_toArray, List.set_cons_zero, List.set_cons_succ])
              refine wpAnyH_ready (rs := [3]) (by kernel_rfl) (by simp) ?_; refine AllReadyH.cons (o := ⟨some 94, _, _, _, _, _⟩) rfl (fun K hK => ?_) AllReadyH.nil; go_simp
              go_at_call 66
              refine (pick_any g A n c bs (P1 + 4) 6 _ ?_ HN.out hby hs ?_ ?_).mono ?_
              (first | exact HGz.out.rd | exact HGz.out.rd.drew)
              omega
              omega
              rintro e w8 ⟨x8, rfl, hx8', _, hr8, ht8'⟩
              have hx8 : (x8 : Int) < 6 := hx8' (by omega)
              have ht8 : Tch g (g + 1) wz w8 := ⟨ht8'.os, ht8'.tape, ht8'.output, ht8'.size, ht8'.block⟩
              have HGP := Lib.hid (HGz.out.pick hr8 ht8)
              have p0 := (HGP.out.xr.cellAt (j) (by omega)).trans HXX.out.1
              have p1 := (HGP.out.xr.cellAt (j + 1) (by omega)).trans HXX.out.2
              have g0 := HGP.out.fb
              have g1 := HGP.out.fz
              have z8 : w.heap.size + 1 < w8.heap.size := HGP.out.lt
              have hgo8 := (HGP.out.xr.lt go rfl).2
              have a8 : IntKind.i64.wrap (2 + (x8 : Int)) = 2 + (x8 : Int) := (by rw [IntKind.wrap_i64]; omega)
              have q0 := (World.cell?_alloc_lt w8 (.cells #[.int .i64 (2 + (x8 : Int)), .int .i64 x0, .int .i64 x1, .int .i64 (-1), .int .i64 0] 54) ⟨go, j, none⟩ hgo8).trans p0
              have q1 := (World.cell?_alloc_lt w8 (.cells #[.int .i64 (2 + (x8 : Int)), .int .i64 x0, .int .i64 x1, .int .i64 (-1), .int .i64 0] 54) ⟨go, j + 1, none⟩ hgo8).trans p1
              have HGc := Lib.hid (HGP.out.alloc (.cells #[.int .i64 (2 + (x8 : Int)), .int .i64 x0, .int .i64 x1, .int .i64 (-1), .int .i64 0] 54))
              clear hx8' hr8 ht8'
              refine hK.out _ _ ⟨p0, p1⟩ (fun hHeld => ?_); clear hK K; (try simp only [Act.put, List.setIfInBounds_toArray, List.set_cons_zero, List.set_cons_succ])
              refine wpAnyH_take (i := 4) (oi := ⟨some 95, _, _, _, _, _⟩) (v := ?_) rfl (by kernel_rfl) (by kernel_rfl) (by kernel_rfl) (fun _ _ _ h => h) (Or.inl ⟨by rfl, ?_⟩) (by assumption) ?_; rotate_left; (focus (intro w hSw; (try dsimp only at hSw); go_simp; (try with_reducible rfl))); (try simp only [Act.put, List.setIfInBounds_toArray, List.set_cons_zero, List.set_cons_succ])
              refine wpAnyH_take (i := 15) (oi := ⟨some 106, _, _, _, _, _⟩) (v := ?_) rfl (by kernel_rfl) (by kernel_rfl) (by kernel_rfl) (fun _ _ _ h => h) (Or.inl ⟨by rfl, ?_⟩) (by assumption) ?_; rotate_left; (focus (intro w hSw; (try dsimp only at hSw); go_simp; (try with_reducible rfl))); (try simp only [Act.put, List.setIfInBounds_toArray, List.set_cons_zero, List.set_cons_succ])
              refine wpAnyH_ready (rs := [16]) (by kernel_rfl) (by simp) ?_; refine AllReadyH.cons (o := ⟨some 107, _, _, _, _, _⟩) rfl (fun K hK => ?_) AllReadyH.nil; go_simp
              refine hK.out _ _ ⟨q0, q1⟩ (fun hHeld => ?_); clear hK K; (try simp only [Act.put, List.setIfInBounds_toArray, List.set_cons_zero, List.set_cons_succ])
              refine wpAnyH_ready (rs := [17]) (by kernel_rfl) (by simp) ?_; refine AllReadyH.cons (o := ⟨some 108, _, _, _, _, _⟩) rfl (fun K hK => ?_) AllReadyH.nil
              refine step_append_lies _ (by rfl) _ _ _ (by rfl) (w.heap.size + 2) 54 i1 _ 5 40 Try.underlying23 hi1 hy0 hy1 hy2 rfl (by omega) (.slice A5 (nf + 1) c5) (nf + 1) _ (by rfl) HGc.out.pr ⟨w8.heap.size, 0, none⟩ 1 1 [.int .i64 (2 + (x8 : Int)), .int .i64 x0, .int .i64 x1, .int .i64 (-1), .int .i64 0] (by rfl) (by rfl) (cells_new _ _ _ _ rfl) (by simp [Value.oneCell']) (by omega) (by unfold maxLen; omega) (by omega) (by simp; omega) (w8.heap.size + 1) (by simp) ?_
              intro gg cap w9 hown9 hgrow9 hat9 hlt9
              have hgr9 : (w8.alloc (.cells #[.int .i64 (2 + (x8 : Int)), .int .i64 x0, .int .i64 x1, .int .i64 (-1), .int .i64 0] 54)).grownBy w9 (Value.slice A5 (nf + 1) c5).ownBlock := ⟨hgrow9.os, hgrow9.tape, hgrow9.output, hgrow9.size, hgrow9.block⟩
              have hfr9 := HGc.out.frame hgr9 fun k hk => (HGc.out.pr.lt k hk).1
              have z9 := hfr9.2.2.1
              have h0 := hfr9.2.2.2.2.2.1
              have h1 := hfr9.2.2.2.2.2.2.1
              clear hfr9
              have hxr9 := HGc.out.xr.kept hgr9 (blocks_ne HGc.out.xr HGc.out.pr int_ne_part)
              have s0 := (hxr9.cellAt (j) (by omega)).trans HXX.out.1
              have s1 := (hxr9.cellAt (j + 1) (by omega)).trans HXX.out.2
              clear hxr9
              refine hK.out _ _ ⟨s0, s1⟩ (fun hHeld => ?_); clear hK K; (try simp only [Act.put, List.setIfInBounds_toArray, List.set_cons_zero, List.set_cons_succ])
              refine wpAnyH_take (i := 18) (oi := ⟨some 109, _, _, _, _, _⟩) (v := ?_) rfl (by kernel_rfl) (by kernel_rfl) (by kernel_rfl) (fun _ _ _ h => h) (Or.inl ⟨by rfl, ?_⟩) (by assumption) ?_; rotate_left; (focus (intro w hSw; (try dsimp only at hSw); go_simp; (try with_reducible rfl))); (try simp only [Act.put, List.setIfInBounds_toArray, List.set_cons_zero, List.set_cons_succ])
              refine wpAnyH_ready (rs := [19]) (by kernel_rfl) (by simp) ?_; refine AllReadyH.cons (o := ⟨none, _, _, _, _, _⟩) rfl (fun K hK => ?_) AllReadyH.nil; go_simp
              refine hK.out _ _ ⟨(World.cell?_setCell_other _ _ _ _ (hnb1 _)).trans s0, (World.cell?_setCell_other _ _ _ _ (hnb1 _)).trans s1⟩ (fun hHeld => ?_); clear hK K; (try simp only [Act.put, List.setIfInBounds_toArray, List.set_cons_zero, List.set_cons_succ])
              refine wpAnyH_done (by kernel_rfl) ?_ _
              rotate_left
              go_simp
              go_at_call 66
              refine (pick_any g A n c bs (P1 + 4) 6 _ ?_ HN.out hby hs ?_ ?_).mono ?_
              (first | exact HGz.out.rd | exact HGz.out.rd.drew)
              omega
              omega
              rintro e w8 ⟨x8, rfl, hx8', _, hr8, ht8'⟩
              have hx8 : (x8 : Int) < 6 := hx8' (by omega)
              have ht8 : Tch g (g + 1) wz w8 := ⟨ht8'.os, ht8'.tape, ht8'.output, ht8'.size, ht8'.block⟩
              have HGP := Lib.hid (HGz.out.pick hr8 ht8)
              have p0 := (HGP.out.xr.cellAt (j) (by omega)).trans HXX.out.1
              have p1 := (HGP.out.xr.cellAt (j + 1) (by omega)).trans HXX.out.2
              have g0 := HGP.out.fb
              have g1 := HGP.out.fz
              have z8 : w.heap.size + 1 < w8.heap.size := HGP.out.lt
              have hgo8 := (HGP.out.xr.lt go rfl).2
              have a8 : IntKind.i64.wrap (2 + (x8 : Int)) = 2 + (x8 : Int) := (by rw [IntKind.wrap_i64]; omega)
              have q0 := (World.cell?_alloc_lt w8 (.cells #[.int .i64 (2 + (x8 : Int)), .int .i64 x0, .int .i64 x1, .int .i64 (-1), .int .i64 0] 54) ⟨go, j, none⟩ hgo8).trans p0
              have q1 := (World.cell?_alloc_lt w8 (.cells #[.int .i64 (2 + (x8 : Int)), .int .i64 x0, .int .i64 x1, .int .i64 (-1), .int .i64 0] 54) ⟨go, j + 1, none⟩ hgo8).trans p1
              have HGc := Lib.hid (HGP.out.alloc (.cells #[.int .i64 (2 + (x8 : Int)), .int .i64 x0, .int .i64 x1, .int .i64 (-1), .int .i64 0] 54))
              clear hx8' hr8 ht8'
              refine hK.out _ _ ⟨p0, p1⟩ (fun hHeld => ?_); clear hK K; (try simp only [Act.put, List.setIfInBounds_toArray, List.set_cons_zero, List.set_cons_succ])
              refine wpAnyH_take (i := 4) (oi := ⟨some 95, _, _, _, _, _⟩) (v := ?_) rfl (by kernel_rfl) (by kernel_rfl) (by kernel_rfl) (fun _ _ _ h => h) (Or.inl ⟨by rfl, ?_⟩) (by assumption) ?_; rotate_left; (focus (intro w hSw; (try dsimp only at hSw); go_simp; (try with_reducible rfl))); (try simp only [Act.put, List.setIfInBounds_toArray, List.set_cons_zero, List.set_cons_succ])
              refine wpAnyH_take (i := 15) (oi := ⟨some 106, _, _, _, _, _⟩) (v := ?_) rfl (by kernel_rfl) (by kernel_rfl) (by kernel_rfl) (fun _ _ _ h => h) (Or.inl ⟨by rfl, ?_⟩) (by assumption) ?_; rotate_left; (focus (intro w hSw; (try dsimp only at hSw); go_simp; (try with_reducible rfl))); (try simp only [Act.put, List.setIfInBounds_toArray, List.set_cons_zero, List.set_cons_succ])
              refine wpAnyH_ready (rs := [1, 16]) (by kernel_rfl) (by simp) ?_; refine AllReadyH.cons (o := ⟨some 92, _, _, _, _, _⟩) rfl (fun K hK => ?_) (AllReadyH.cons (o := ⟨some 107, _, _, _, _, _⟩) rfl (fun K hK => ?_) AllReadyH.nil)
              go_simp
              refine hK.out _ _ ⟨p0, p1⟩ (fun hHeld => ?_); clear hK K; (try simp only [Act.put, List.setIfInBounds_toArray, List.set_cons_zero, List.set_cons_succ])
              refine wpAnyH_ready (rs := [16]) (by kernel_rfl) (by simp) ?_; refine AllReadyH.cons (o := ⟨some 107, _, _, _, _, _⟩) rfl (fun K hK => ?_) AllReadyH.nil; go_simp
              refine hK.out _ _ ⟨q0, q1⟩ (fun hHeld => ?_); clear hK K; (try simp only [Act.put, List.setIfInBounds_toArray, List.set_cons_zero, List.set_cons_succ])
              refine wpAnyH_ready (rs := [17]) (by kernel_rfl) (by simp) ?_; refine AllReadyH.cons (o := ⟨some 108, _, _, _, _, _⟩) rfl (fun K hK => ?_) AllReadyH.nil
              refine step_append_lies _ (by rfl) _ _ _ (by rfl) (w.heap.size + 2) 54 i1 _ 5 40 Try.underlying23 hi1 hy0 hy1 hy2 rfl (by omega) (.slice A5 (nf + 1) c5) (nf + 1) _ (by rfl) HGc.out.pr ⟨w8.heap.size, 0, none⟩ 1 1 [.int .i64 (2 + (x8 : Int)), .int .i64 x0, .int .i64 x1, .int .i64 (-1), .int .i64 0] (by rfl) (by rfl) (cells_new _ _ _ _ rfl) (by simp [Value.oneCell']) (by omega) (by unfold maxLen; omega) (by omega) (by simp; omega) (w8.heap.size + 1) (by simp) ?_
              intro gg cap w9 hown9 hgrow9 hat9 hlt9
              have hgr9 : (w8.alloc (.cells #[.int .i64 (2 + (x8 : Int)), .int .i64 x0, .int .i64 x1, .int .i64 (-1), .int .i64 0] 54)).grownBy w9 (Value.slice A5 (nf + 1) c5).ownBlock := ⟨hgrow9.os, hgrow9.tape, hgrow9.output, hgrow9.size, hgrow9.block⟩
              have hfr9 := HGc.out.frame hgr9 fun k hk => (HGc.out.pr.lt k hk).1
              have z9 := hfr9.2.2.1
              have h0 := hfr9.2.2.2.2.2.1
              have h1 := hfr9.2.2.2.2.2.2.1
              clear hfr9
              have hxr9 := HGc.out.xr.kept hgr9 (blocks_ne HGc.out.xr HGc.out.pr int_ne_part)
              have s0 := (hxr9.cellAt (j) (by omega)).trans HXX.out.1
              have s1 := (hxr9.cellAt (j + 1) (by omega)).trans HXX.out.2
              clear hxr9
              refine hK.out _ _ ⟨s0, s1⟩ (fun hHeld => ?_); clear hK K; (try simp only [Act.put, List.setIfInBounds_toArray, List.set_cons_zero, List.set_cons_succ])
              refine wpAnyH_take (i := 18) (oi := ⟨some 109, _, _, _, _, _⟩) (v := ?_) rfl (by kernel_rfl) (by kernel_rfl) (by kernel_rfl) (fun _ _ _ h => h) (Or.inl ⟨by rfl, ?_⟩) (by assumption) ?_; rotate_left; (focus (intro w hSw; (try dsimp only at hSw); go_simp; (try with_reducible rfl))); (try simp only [Act.put, List.setIfInBounds_toArray, List.set_cons_zero, List.set_cons_succ])
              refine wpAnyH_ready (rs := [19]) (by kernel_rfl) (by simp) ?_; refine AllReadyH.cons (o := ⟨none, _, _, _, _, _⟩) rfl (fun K hK => ?_) AllReadyH.nil; go_simp
              refine hK.out _ _ ⟨(World.cell?_setCell_other _ _ _ _ (hnb1 _)).trans s0, (World.cell?_setCell_other _ _ _ _ (hnb1 _)).trans s1⟩ (fun hHeld => ?_); clear hK K; (try simp only [Act.put, List.setIfInBounds_toArray, List.set_cons_zero, List.set_cons_succ])
              refine wpAnyH_done (by kernel_rfl) ?_ _
              rotate_left
              go_simp
              refine hK.out _ _ ⟨q0, q1⟩ (fun hHeld => ?_); clear hK K; (try simp only [Act.put, List.setIfInBounds_toArray, List.set_cons_zero, List.set_cons_succ])
              refine wpAnyH_ready (rs := [1]) (by kernel_rfl) (by simp) ?_; refine AllReadyH.cons (o := ⟨some 92, _, _, _, _, _⟩) rfl (fun K hK => ?_) AllReadyH.nil; go_simp
              refine hK.out _ _ ⟨q0, q1⟩ (fun hHeld => ?_); clear hK K; (try simp only [Act.put, List.setIfInBounds_toArray, List.set_cons_zero, List.set_cons_succ])
              refine wpAnyH_ready (rs := [17]) (by kernel_rfl) (by simp) ?_; refine AllReadyH.cons (o := ⟨some 108, _, _, _, _, _⟩) rfl (fun K hK => ?_) AllReadyH.nil
              refine step_append_lies _ (by rfl) _ _ _ (by rfl) (w.heap.size + 2) 54 i1 _ 5 40 Try.underlying23 hi1 hy0 hy1 hy2 rfl (by omega) (.slice A5 (nf + 1) c5) (nf + 1) _ (by rfl) HGc.out.pr ⟨w8.heap.size, 0, none⟩ 1 1 [.int .i64 (2 + (x8 : Int)), .int .i64 x0, .int .i64 x1, .int .i64 (-1), .int .i64 0] (by rfl) (by rfl) (cells_new _ _ _ _ rfl) (by simp [Value.oneCell']) (by omega) (by unfold maxLen; omega) (by omega) (by simp; omega) (w8.heap.size + 1) (by simp) ?_
              intro gg cap w9 hown9 hgrow9 hat9 hlt9
              have hgr9 : (w8.alloc (.cells #[.int .i64 (2 + (x8 : Int)), .int .i64 x0, .int .i64 x1, .int .i64 (-1), .int .i64 0] 54)).grownBy w9 (Value.slice A5 (nf + 1) c5).ownBlock := ⟨hgrow9.os, hgrow9.tape, hgrow9.output, hgrow9.size, hgrow9.block⟩
              have hfr9 := HGc.out.frame hgr9 fun k hk => (HGc.out.pr.lt k hk).1
              have z9 := hfr9.2.2.1
              have h0 := hfr9.2.2.2.2.2.1
              have h1 := hfr9.2.2.2.2.2.2.1
              clear hfr9
              have hxr9 := HGc.out.xr.kept hgr9 (blocks_ne HGc.out.xr HGc.out.pr int_ne_part)
              have s0 := (hxr9.cellAt (j) (by omega)).trans HXX.out.1
              have s1 := (hxr9.cellAt (j + 1) (by omega)).trans HXX.out.2
              clear hxr9
              refine hK.out _ _ ⟨s0, s1⟩ (fun hHeld => ?_); clear hK K; (try simp only [Act.put, List.setIfInBounds_toArray, List.set_cons_zero, List.set_cons_succ])
              refine wpAnyH_take (i := 18) (oi := ⟨some 109, _, _, _, _, _⟩) (v := ?_) rfl (by kernel_rfl) (by kernel_rfl) (by kernel_rfl) (fun _ _ _ h => h) (Or.inl ⟨by rfl, ?_⟩) (by assumption) ?_; rotate_left; (focus (intro w hSw; (try dsimp only at hSw); go_simp; (try with_reducible rfl))); (try simp only [Act.put, List.setIfInBounds_toArray, List.set_cons_zero, List.set_cons_succ])
              refine wpAnyH_ready (rs := [19]) (by kernel_rfl) (by simp) ?_; refine AllReadyH.cons (o := ⟨none, _, _, _, _, _⟩) rfl (fun K hK => ?_) AllReadyH.nil; go_simp
              refine hK.out _ _ ⟨(World.cell?_setCell_other _ _ _ _ (hnb1 _)).trans s0, (World.cell?_setCell_other _ _ _ _ (hnb1 _)).trans s1⟩ (fun hHeld => ?_); clear hK K; (try simp only [Act.put, List.setIfInBounds_toArray, List.set_cons_zero, List.set_cons_succ])
              refine wpAnyH_done (by kernel_rfl) ?_ _
              all_goals
                have HG8 := Lib.hid (HGc.out.parted (Af' := some ⟨gg, 0, none⟩) (nf' := nf + 1 + 1) (cf' := cap) (ps' := (ps ++ [q']) ++ [⟨2 + (x8 : Int), x0, x1, -1, 0⟩]) hgr9 (by rw [List.flatMap_append]; exact hown9) (by rw [List.length_append, ← HGc.out.pl]; rfl))
                have HXL8 := Lib.hid (HXL.out)
                clear hown9 hgrow9 hgr9 hat9 hlt9 z9 h0 h1 s0 s1 q0 q1 p0 p1 o0 o1 g0 g1 f0 f1 z1 z8 HGc HGP HGz HXX a8
                go_wp2_with fail
                generalize (w9.setCell ⟨w.heap.size + 1, 0, none⟩ (.slice (some ⟨gg, 0, none⟩) (nf + 1 + 1) cap)) = W8 at *
                have f8 := HG8.out.fb
                have z8 : w.heap.size + 1 < W8.heap.size := HG8.out.lt
                have n1 : IntKind.i64.wrap (((nf : Int) + 1) + 1 - 1) = ((nf : Int) + 1) := by rw [IntKind.wrap_i64]; omega
                have n2 : IntKind.i64.wrap (((nf : Int) + 1)) = ((nf : Int) + 1) := by rw [IntKind.wrap_i64]; omega
                have f8' := (World.cell?_alloc_lt W8 (.cells #[.int .i64 (((nf : Int) + 1))] 3) ⟨w.heap.size + 1, 0, none⟩ z8).trans f8
                have HG9 := Lib.hid (HG8.out.alloc (.cells #[.int .i64 (((nf : Int) + 1))] 3))
                have hcg : j + 1 + 1 ≤ co := by
                  rcases HG8.out.xr.2 with ⟨h', _⟩ | ⟨g', cap', cur, h', _, _, hnc, _⟩
                  · simp at h'
                  · simp at h'
                    omega
                have hcg1 : (j : Int) ≤ (co : Int) := by omega
                go_region_held3 (fun w' => w'.cell? ⟨w.heap.size + 1, 0, none⟩ = some (.slice (some ⟨gg, 0, none⟩) (nf + 1 + 1) cap)) (first | exact f8 | exact f8' | exact f9)
                  (first
                    | (refine step_append_lies _ (by rfl) _ _ _ (by rfl) (w.heap.size + 2) 3 i0 (.int .i64 0) 1 8 Try.underlying26 hi0 hz0 hz1 hz2 rfl (by omega) (.slice (some ⟨go, 0, none⟩) (j) co) (j) _ (by rfl) (own_shrink HG9.out.xr (by omega)) ⟨W8.heap.size, 0, none⟩ 1 1 [.int .i64 (((nf : Int) + 1))] (by rfl) (by rfl) (cell_one_new _ _ _) (by simp [Value.oneCell']) (by omega) (by unfold maxLen; omega) (by omega) (by simp; omega) W8.heap.size.succ (by simp) ?_; intro gh cah w10 hown10 hgrow10' hat10 hlt10; have hgrow10 : (W8.alloc (.cells #[.int .i64 (((nf : Int) + 1))] 3)).grownBy w10 (Value.slice (some ⟨go, 0, none⟩) (j) co).ownBlock := ⟨hgrow10'.os, hgrow10'.tape, hgrow10'.output, hgrow10'.size, hgrow10'.block⟩; have HGA := Lib.hid (HG9.out.opened (xs' := X.take (j) ++ [((nf : Int) + 1)]) (own_shrink HG9.out.xr (by omega : j ≤ j + 1 + 1)) hgrow10 (by first | (simpa using hown10) | (simpa [List.map_take] using hown10) | (rw [List.map_append, List.map_take]; exact hown10)) (by have := HXL8.out; rw [List.length_append, List.length_take]; show _ = _ + 1; omega)); have f9 := HGA.out.fb))
                clear f8 f8' f9 hgrow10 hgrow10' hown10 hat10 hlt10 HG8 HG9 z8 n1 n2 a1 a2 a1' a2' t1 t2
                go_wp2_with fail
                go_roundw
                case rel => exact ⟨k - 1, m + 1, j + 1, nf + 1 + 1, cap, _, _, _, by omega, by go_num, by omega, by omega, (show GI _ _ _ _ _ _ _ _ _ _ _ _ _ _ _ _ _ _ from HGA.out.mono (by have := HP1.out; omega))⟩
                case measure => simp [intOf]; omega
            · go_wp2_with fail
              go_roundw
              case rel => exact ⟨k - 1, m + 1, j + 1 + 1, nf + 1, c5, A5, _, _, by omega, by go_num, by omega, by omega, (show GI _ _ _ _ _ _ _ _ _ _ _ _ _ _ _ _ _ _ from HGz.out.mono (by have := HP1.out; omega))⟩
              case measure => simp [intOf]; omega
          · go_wp2_with fail
            go_roundw
            case rel => exact ⟨k - 1, m + 1, no + 1, nf + 1, c5, A5, _, _, by omega, by go_num, by omega, by omega, (show GI _ _ _ _ _ _ _ _ _ _ _ _ _ _ _ _ _ _ from HG6.out.mono (by have := HP1.out; omega))⟩
            case measure => simp [intOf]; omega
    · obtain ⟨Av0, cv0, hv0⟩ := row_form' HG.out.xr
      have HGs := HG
      subst hv0
      clear HG
      go_wp2_with fail
      go_loopw [6] (fun v wr => ∃ (no nf cf Q : Nat) (Af : Option Addr) (ps : List Pt) (xs : List Int), no ≤ 6 ∧ nf + no ≤ 18 ∧ Q + 2 * no ≤ P + 100 ∧ Hid (GI g w.heap.size A n c bs An nodes w Q Af nf cf ps v no xs wr)) (fun v _ => slcLen v)
      case atStart => exact ⟨no, nf, cf, P + 1 + 10 * m, Af, ps, xs, by omega, by omega, by omega, HGs.out⟩
      case round =>
        obtain ⟨no, nf, cf, Q, Af, ps, xs, hno, hnf, hQ, HG⟩ := hrel
        by_cases hlt : 1 < no
        · obtain ⟨j, rfl⟩ : ∃ j, no = j + 2 := ⟨no - 2, by omega⟩
          obtain ⟨go, cg, hov⟩ := row_pos HG.out.xr (by omega)
          cases hov
          have f0 := HG.out.fb
          have f1 := HG.out.fz
          have z1 : w.heap.size + 1 < wr.heap.size := HG.out.lt
          have hxl := HG.out.xl
          have o0 := HG.out.xr.cellAt (j) (by omega)
          have o1 := HG.out.xr.cellAt (j + 1) (by omega)
          rw [List.getElem?_map] at o0 o1
          generalize hX : xs = X at *
          have HX2 := Lib.hid hX
          clear hX
          rw [List.getElem?_eq_getElem (by omega), Option.map_some] at o0 o1
          generalize X[j]'_ = x0 at o0
          generalize X[j + 1]'_ = x1 at o1
          have HXL := Lib.hid hxl
          clear hxl
          have hgo := (HG.out.xr.lt go rfl).2
          have hgo2 := (HG.out.xr.lt go rfl).1
          go_wp2_with fail
          have a2 : IntKind.i64.wrap (((j : Int) + 2) - 2) = (j : Int) := by rw [IntKind.wrap_i64]; omega
          have a1 : IntKind.i64.wrap (((j : Int) + 2) - 1) = ((j : Int) + 1) := by rw [IntKind.wrap_i64]; omega
          have a2' : IntKind.i64.wrap ((j : Int)) = (j : Int) := by rw [IntKind.wrap_i64]; omega
          have a1' : IntKind.i64.wrap (((j : Int) + 1)) = ((j : Int) + 1) := by rw [IntKind.wrap_i64]; omega
          have b2 : (j : Int) < ((j : Int) + 2) := by omega
          have b1 : ((j : Int) + 1) < ((j : Int) + 2) := by omega
          have b0 : 0 ≤ (j : Int) := by omega
          have b00 : 0 ≤ ((j : Int) + 1) := by omega
          have t1 : ((j : Int)).toNat = j := by omega
          have t2 : (((j : Int) + 1)).toNat = j + 1 := by omega
          have HXX := Lib.hid (And.intro ((HG.out.xr.cellAt (j) (by omega)).symm.trans o0) ((HG.out.xr.cellAt (j + 1) (by omega)).symm.trans o1))
          have hnb1 : ∀ q : Nat, (⟨w.heap.size + 1, 0, none⟩ : Addr) ≠ ⟨go, q, none⟩ := fun q e => by have := congrArg Addr.block e; simp at this; omega
          refine wp_region_held_drew (S := (fun w' => w'.cell? ⟨go, j, none⟩ = some (.int .i64 x0) ∧ w'.cell? ⟨go, j + 1, none⟩ = some (.int .i64 x1))) (by kernel_rfl) ⟨o0, o1⟩ (fun hHeld => ?_)
          refine wpAnyH_take (i := 0) (oi := ⟨some 125, _, _, _, _, _⟩) (v := ?_) rfl (by kernel_rfl) (by kernel_rfl) (by kernel_rfl) (fun _ _ _ h => h) (Or.inl ⟨by rfl, ?_⟩) (by assumption) ?_; rotate_left; (focus (intro w hSw; (try dsimp only at hSw); go_simp; (try with_reducible rfl))); (try simp only [Act.put, List.setIfInBounds_toArray, List.set_cons_zero, List.set_cons_succ])
          refine wpAnyH_take (i := 2) (oi := ⟨some 127, _, _, _, _, _⟩) (v := ?_) rfl (by kernel_rfl) (by kernel_rfl) (by kernel_rfl) (fun _ _ _ h => h) (Or.inl ⟨by rfl, ?_⟩) (by assumption) ?_; rotate_left; (focus (intro w hSw; (try dsimp only at hSw); go_simp; (try with_reducible rfl))); (try simp only [Act.put, List.setIfInBounds_toArray, List.set_cons_zero, List.set_cons_succ])
          refine wpAnyH_take (i := 5) (oi := ⟨some 130, _, _, _, _, _⟩) (v := ?_) rfl (by kernel_rfl) (by kernel_rfl) (by kernel_rfl) (fun _ _ _ h => h) (Or.inl ⟨by rfl, ?_⟩) (by assumption) ?_; rotate_left; (focus (intro w hSw; (try dsimp only at hSw); go_simp; (try with_reducible rfl))); (try simp only [Act.put, List.setIfInBounds_toArray, List.set_cons_zero, List.set_cons_succ])
          refine wpAnyH_take (i := 6) (oi := ⟨some 131, _, _, _, _, _⟩) (v := ?_) rfl (by kernel_rfl) (by kernel_rfl) (by kernel_rfl) (fun _ _ _ h => h) (Or.inl ⟨by rfl, ?_⟩) (by assumption) ?_; rotate_left; (focus (intro w hSw; (try dsimp only at hSw); go_simp; (try with_reducible rfl))); (try simp only [Act.put, List.setIfInBounds_toArray, List.set_cons_zero, List.set_cons_succ])
          refine wpAnyH_take (i := 7) (oi := ⟨some 132, _, _, _, _, _⟩) (v := ?_) rfl (by kernel_rfl) (by kernel_rfl) (by kernel_rfl) (fun _ _ _ h => h) (Or.inl ⟨by rfl, ?_⟩) (by assumption) ?_; rotate_left; (focus (intro w hSw; (try dsimp only at hSw); go_simp; (try with_reducible rfl))); (try simp only [Act.put, List.setIfInBounds_toArray, List.set_cons_zero, List.set_cons_succ])
          refine wpAnyH_take (i := 8) (oi := ⟨some 133, _, _, _, _, _⟩) (v := ?_) rfl (by kernel_rfl) (by kernel_rfl) (by kernel_rfl) (fun _ _ _ h => h) (Or.inl ⟨by rfl, ?_⟩) (by assumption) ?_; rotate_left; (focus (intro w hSw; (try dsimp only at hSw); go_simp; (try with_reducible rfl))); (try simp only [Act.put, List.setIfInBounds_toArray, List.set_cons_zero, List.set_cons_succ])
          refine wpAnyH_take (i := 9) (oi := ⟨some 134, _, _, _, _, _⟩) (v := ?_) rfl (by kernel_rfl) (by kernel_rfl) (by kernel_rfl) (fun _ _ _ h => h) (Or.inl ⟨by rfl, ?_⟩) (by assumption) ?_; rotate_left; (focus (intro w hSw; (try dsimp only at hSw); go_simp; (try with_reducible rfl))); (try simp only [Act.put, List.setIfInBounds_toArray, List.set_cons_zero, List.set_cons_succ])
          refine wpAnyH_take (i := 10) (oi := ⟨some 135, _, _, _, _, _⟩) (v := ?_) rfl (by kernel_rfl) (by kernel_rfl) (by kernel_rfl) (fun _ _ _ h => h) (Or.inl ⟨by rfl, ?_⟩) (by assumption) ?_; rotate_left; (focus (intro w hSw; (try dsimp only at hSw); go_simp; (try with_reducible rfl))); (try simp only [Act.put, List.setIfInBounds_toArray, List.set_cons_zero, List.set_cons_succ])
          refine wpAnyH_take (i := 11) (oi := ⟨some 136, _, _, _, _, _⟩) (v := ?_) rfl (by kernel_rfl) (by kernel_rfl) (by kernel_rfl) (fun _ _ _ h => h) (Or.inl ⟨by rfl, ?_⟩) (by assumption) ?_; rotate_left; (focus (intro w hSw; (try dsimp only at hSw); go_simp; (try with_reducible rfl))); (try simp only [Act.put, List.setIfInBounds_toArray, List.set_cons_zero, List.set_cons_succ])
          refine wpAnyH_take (i := 12) (oi := ⟨some 137, _, _, _, _, _⟩) (v := ?_) rfl (by kernel_rfl) (by kernel_rfl) (by kernel_rfl) (fun _ _ _ h => h) (Or.inl ⟨by rfl, ?_⟩) (by assumption) ?_; rotate_left; (focus (intro w hSw; (try dsimp only at hSw); go_simp; (try with_reducible rfl))); (try simp only [Act.put, List.setIfInBounds_toArray, List.set_cons_zero, List.set_cons_succ])
          refine wpAnyH_take (i := 13) (oi := ⟨some 138, _, _, _, _, _⟩) (v := ?_) rfl (by kernel_rfl) (by kernel_rfl) (by kernel_rfl) (fun _ _ _ h => h) (Or.inl ⟨by rfl, ?_⟩) (by assumption) ?_; rotate_left; (focus (intro w hSw; (try dsimp only at hSw); go_simp; (try with_reducible rfl))); (try simp only [Act.put, List.setIfInBounds_toArray, List.set_cons_zero, List.set_cons_succ])
          refine wpAnyH_take (i := 14) (oi := ⟨some 139, _, _, _, _, _⟩) (v := ?_) rfl (by kernel_rfl) (by kernel_rfl) (by kernel_rfl) (fun _ _ _ h => h) (Or.inl ⟨by rfl, ?_⟩) (by assumption) ?_; rotate_left; (focus (intro w hSw; (try dsimp only at hSw); go_simp; (try with_reducible rfl))); (try simp only [Act.put, List.setIfInBounds_toArray, List.set_cons_zero, List.set_cons_succ])
          refine wpAnyH_ready (rs := [1, 3]) (by kernel_rfl) (by simp) ?_; refine AllReadyH.cons (o := ⟨some 126, _, _, _, _, _⟩) rfl (fun K hK => ?_) (AllReadyH.cons (o := ⟨some 128, _, _, _, _, _⟩) rfl (fun K hK => ?_) AllReadyH.nil)
          go_simp
          refine hK.out _ _ ⟨o0, o1⟩ (fun hHeld => ?_); clear hK K; (try simp only [Act.put, List.setIfInBounds_toArray, List.set_cons_zero, List.set_cons_succ])
          refine wpAnyH_ready (rs := [3]) (by kernel_rfl) (by simp) ?_; refine AllReadyH.cons (o := ⟨some 128, _, _, _, _, _⟩) rfl (fun K hK => ?_) AllReadyH.nil; go_simp
          go_at_call 66
          refine (pick_any g A n c bs (Q) 6 _ ?_ HN.out hby hs ?_ ?_).mono ?_
          (first | exact HG.out.rd | exact HG.out.rd.drew)
          omega
          omega
          rintro e w8 ⟨x8, rfl, hx8', _, hr8, ht8'⟩
          have hx8 : (x8 : Int) < 6 := hx8' (by omega)
          have ht8 : Tch g (g + 1) wr w8 := ⟨ht8'.os, ht8'.tape, ht8'.output, ht8'.size, ht8'.block⟩
          have HGP := Lib.hid (HG.out.pick hr8 ht8)
          have p0 := (HGP.out.xr.cellAt (j) (by omega)).trans HXX.out.1
          have p1 := (HGP.out.xr.cellAt (j + 1) (by omega)).trans HXX.out.2
          have g0 := HGP.out.fb
          have g1 := HGP.out.fz
          have z8 : w.heap.size + 1 < w8.heap.size := HGP.out.lt
          have hgo8 := (HGP.out.xr.lt go rfl).2
          have a8 : IntKind.i64.wrap (2 + (x8 : Int)) = 2 + (x8 : Int) := (by rw [IntKind.wrap_i64]; omega)
          have q0 := (World.cell?_alloc_lt w8 (.cells #[.int .i64 (2 + (x8 : Int)), .int .i64 x0, .int .i64 x1, .int .i64 (-1), .int .i64 0] 54) ⟨go, j, none⟩ hgo8).trans p0
          have q1 := (World.cell?_alloc_lt w8 (.cells #[.int .i64 (2 + (x8 : Int)), .int .i64 x0, .int .i64 x1, .int .i64 (-1), .int .i64 0] 54) ⟨go, j + 1, none⟩ hgo8).trans p1
          have HGc := Lib.hid (HGP.out.alloc (.cells #[.int .i64 (2 + (x8 : Int)), .int .i64 x0, .int .i64 x1, .int .i64 (-1), .int .i64 0] 54))
          clear hx8' hr8 ht8'
          refine hK.out _ _ ⟨p0, p1⟩ (fun hHeld => ?_); clear hK K; (try simp only [Act.put, List.setIfInBounds_toArray, List.set_cons_zero, List.set_cons_succ])
          refine wpAnyH_take (i := 4) (oi := ⟨some 129, _, _, _, _, _⟩) (v := ?_) rfl (by kernel_rfl) (by kernel_rfl) (by kernel_rfl) (fun _ _ _ h => h) (Or.inl ⟨by rfl, ?_⟩) (by assumption) ?_; rotate_left; (focus (intro w hSw; (try dsimp only at hSw); go_simp; (try with_reducible rfl))); (try simp only [Act.put, List.setIfInBounds_toArray, List.set_cons_zero, List.set_cons_succ])
          refine wpAnyH_take (i := 15) (oi := ⟨some 140, _, _, _, _, _⟩) (v := ?_) rfl (by kernel_rfl) (by kernel_rfl) (by kernel_rfl) (fun _ _ _ h => h) (Or.inl ⟨by rfl, ?_⟩) (by assumption) ?_; rotate_left; (focus (intro w hSw; (try dsimp only at hSw); go_simp; (try with_reducible rfl))); (try simp only [Act.put, List.setIfInBounds_toArray, List.set_cons_zero, List.set_cons_succ])
          refine wpAnyH_ready (rs := [16]) (by kernel_rfl) (by simp) ?_; refine AllReadyH.cons (o := ⟨some 141, _, _, _, _, _⟩) rfl (fun K hK => ?_) AllReadyH.nil; go_simp
          refine hK.out _ _ ⟨q0, q1⟩ (fun hHeld => ?_); clear hK K; (try simp only [Act.put, List.setIfInBounds_toArray, List.set_cons_zero, List.set_cons_succ])
          refine wpAnyH_ready (rs := [17]) (by kernel_rfl) (by simp) ?_; refine AllReadyH.cons (o := ⟨some 142, _, _, _, _, _⟩) rfl (fun K hK => ?_) AllReadyH.nil
          refine step_append_lies _ (by rfl) _ _ _ (by rfl) (w.heap.size + 2) 54 i1 _ 5 40 Try.underlying23 hi1 hy0 hy1 hy2 rfl (by omega) (.slice Af (nf) cf) (nf) _ (by rfl) HGc.out.pr ⟨w8.heap.size, 0, none⟩ 1 1 [.int .i64 (2 + (x8 : Int)), .int .i64 x0, .int .i64 x1, .int .i64 (-1), .int .i64 0] (by rfl) (by rfl) (cells_new _ _ _ _ rfl) (by simp [Value.oneCell']) (by omega) (by unfold maxLen; omega) (by omega) (by simp; omega) (w8.heap.size + 1) (by simp) ?_
          intro gg cap w9 hown9 hgrow9 hat9 hlt9
          have hgr9 : (w8.alloc (.cells #[.int .i64 (2 + (x8 : Int)), .int .i64 x0, .int .i64 x1, .int .i64 (-1), .int .i64 0] 54)).grownBy w9 (Value.slice Af (nf) cf).ownBlock := ⟨hgrow9.os, hgrow9.tape, hgrow9.output, hgrow9.size, hgrow9.block⟩
          have hfr9 := HGc.out.frame hgr9 fun k hk => (HGc.out.pr.lt k hk).1
          have z9 := hfr9.2.2.1
          have h0 := hfr9.2.2.2.2.2.1
          have h1 := hfr9.2.2.2.2.2.2.1
          clear hfr9
          have hxr9 := HGc.out.xr.kept hgr9 (blocks_ne HGc.out.xr HGc.out.pr int_ne_part)
          have s0 := (hxr9.cellAt (j) (by omega)).trans HXX.out.1
          have s1 := (hxr9.cellAt (j + 1) (by omega)).trans HXX.out.2
          clear hxr9
          refine hK.out _ _ ⟨s0, s1⟩ (fun hHeld => ?_); clear hK K; (try simp only [Act.put, List.setIfInBounds_toArray, List.set_cons_zero, List.set_cons_succ])
          refine wpAnyH_take (i := 18) (oi := ⟨some 143, _, _, _, _, _⟩) (v := ?_) rfl (by kernel_rfl) (by kernel_rfl) (by kernel_rfl) (fun _ _ _ h => h) (Or.inl ⟨by rfl, ?_⟩) (by assumption) ?_; rotate_left; (focus (intro w hSw; (try dsimp only at hSw); go_simp; (try with_reducible rfl))); (try simp only [Act.put, List.setIfInBounds_toArray, List.set_cons_zero, List.set_cons_succ])
          refine wpAnyH_ready (rs := [19]) (by kernel_rfl) (by simp) ?_; refine AllReadyH.cons (o := ⟨none, _, _, _, _, _⟩) rfl (fun K hK => ?_) AllReadyH.nil; go_simp
          refine hK.out _ _ ⟨(World.cell?_setCell_other _ _ _ _ (hnb1 _)).trans s0, (World.cell?_setCell_other _ _ _ _ (hnb1 _)).trans s1⟩ (fun hHeld => ?_); clear hK K; (try simp only [Act.put, List.setIfInBounds_toArray, List.set_cons_zero, List.set_cons_succ])
          refine wpAnyH_done (by kernel_rfl) ?_ _
          rotate_left
          go_simp
          go_at_call 66
          refine (pick_any g A n c bs (Q) 6 _ ?_ HN.out hby hs ?_ ?_).mono ?_
          (first | exact HG.out.rd | exact HG.out.rd.drew)
          omega
          omega
          rintro e w8 ⟨x8, rfl, hx8', _, hr8, ht8'⟩
          have hx8 : (x8 : Int) < 6 := hx8' (by omega)
          have ht8 : Tch g (g + 1) wr w8 := ⟨ht8'.os, ht8'.tape, ht8'.output, ht8'.size, ht8'.block⟩
          have HGP := Lib.hid (HG.out.pick hr8 ht8)
          have p0 := (HGP.out.xr.cellAt (j) (by omega)).trans HXX.out.1
          have p1 := (HGP.out.xr.cellAt (j + 1) (by omega)).trans HXX.out.2
          have g0 := HGP.out.fb
          have g1 := HGP.out.fz
          have z8 : w.heap.size + 1 < w8.heap.size := HGP.out.lt
          have hgo8 := (HGP.out.xr.lt go rfl).2
          have a8 : IntKind.i64.wrap (2 + (x8 : Int)) = 2 + (x8 : Int) := (by rw [IntKind.wrap_i64]; omega)
          have q0 := (World.cell?_alloc_lt w8 (.cells #[.int .i64 (2 + (x8 : Int)), .int .i64 x0, .int .i64 x1, .int .i64 (-1), .int .i64 0] 54) ⟨go, j, none⟩ hgo8).trans p0
          have q1 := (World.cell?_alloc_lt w8 (.cells #[.int .i64 (2 + (x8 : Int)), .int .i64 x0, .int .i64 x1, .int .i64 (-1), .int .i64 0] 54) ⟨go, j + 1, none⟩ hgo8).trans p1
          have HGc := Lib.hid (HGP.out.alloc (.cells #[.int .i64 (2 + (x8 : Int)), .int .i64 x0, .int .i64 x1, .int .i64 (-1), .int .i64 0] 54))
          clear hx8' hr8 ht8'
          refine hK.out _ _ ⟨p0, p1⟩ (fun hHeld => ?_); clear hK K; (try simp only [Act.put, List.setIfInBounds_toArray, List.set_cons_zero, List.set_cons_succ])
          refine wpAnyH_take (i := 4) (oi := ⟨some 129, _, _, _, _, _⟩) (v := ?_) rfl (by kernel_rfl) (by kernel_rfl) (by kernel_rfl) (fun _ _ _ h => h) (Or.inl ⟨by rfl, ?_⟩) (by assumption) ?_; rotate_left; (focus (intro w hSw; (try dsimp only at hSw); go_simp; (try with_reducible rfl))); (try simp only [Act.put, List.setIfInBounds_toArray, List.set_cons_zero, List.set_cons_succ])
          refine wpAnyH_take (i := 15) (oi := ⟨some 140, _, _, _, _, _⟩) (v := ?_) rfl (by kernel_rfl) (by kernel_rfl) (by kernel_rfl) (fun _ _ _ h => h) (Or.inl ⟨by rfl, ?_⟩) (by assumption) ?_; rotate_left; (focus (intro w hSw; (try dsimp only at hSw); go_simp; (try with_reducible rfl))); (try simp only [Act.put, List.setIfInBounds_toArray, List.set_cons_zero, List.set_cons_succ])
          refine wpAnyH_ready (rs := [1, 16]) (by kernel_rfl) (by simp) ?_; refine AllReadyH.cons (o := ⟨some 126, _, _, _, _, _⟩) rfl (fun K hK => ?_) (AllReadyH.cons (o := ⟨some 141, _, _, _, _, _⟩) rfl (fun K hK => ?_) AllReadyH.nil)
          go_simp
          refine hK.out _ _ ⟨p0, p1⟩ (fun hHeld => ?_); clear hK K; (try simp only [Act.put, List.setIfInBounds_toArray, List.set_cons_zero, List.set_cons_succ])
          refine wpAnyH_ready (rs := [16]) (by kernel_rfl) (by simp) ?_; refine AllReadyH.cons (o := ⟨some 141, _, _, _, _, _⟩) rfl (fun K hK => ?_) AllReadyH.nil; go_simp
          refine hK.out _ _ ⟨q0, q1⟩ (fun hHeld => ?_); clear hK K; (try simp only [Act.put, List.setIfInBounds_toArray, List.set_cons_zero, List.set_cons_succ])
          refine wpAnyH_ready (rs := [17]) (by kernel_rfl) (by simp) ?_; refine AllReadyH.cons (o := ⟨some 142, _, _, _, _, _⟩) rfl (fun K hK => ?_) AllReadyH.nil
          refine step_append_lies _ (by rfl) _ _ _ (by rfl) (w.heap.size + 2) 54 i1 _ 5 40 Try.underlying23 hi1 hy0 hy1 hy2 rfl (by omega) (.slice Af (nf) cf) (nf) _ (by rfl) HGc.out.pr ⟨w8.heap.size, 0, none⟩ 1 1 [.int .i64 (2 + (x8 : Int)), .int .i64 x0, .int .i64 x1, .int .i64 (-1), .int .i64 0] (by rfl) (by rfl) (cells_new _ _ _ _ rfl) (by simp [Value.oneCell']) (by omega) (by unfold maxLen; omega) (by omega) (by simp; omega) (w8.heap.size + 1) (by simp) ?_
          intro gg cap w9 hown9 hgrow9 hat9 hlt9
          have hgr9 : (w8.alloc (.cells #[.int .i64 (2 + (x8 : Int)), .int .i64 x0, .int .i64 x1, .int .i64 (-1), .int .i64 0] 54)).grownBy w9 (Value.slice Af (nf) cf).ownBlock := ⟨hgrow9.os, hgrow9.tape, hgrow9.output, hgrow9.size, hgrow9.block⟩
          have hfr9 := HGc.out.frame hgr9 fun k hk => (HGc.out.pr.lt k hk).1
          have z9 := hfr9.2.2.1
          have h0 := hfr9.2.2.2.2.2.1
          have h1 := hfr9.2.2.2.2.2.2.1
          clear hfr9
          have hxr9 := HGc.out.xr.kept hgr9 (blocks_ne HGc.out.xr HGc.out.pr int_ne_part)
          have s0 := (hxr9.cellAt (j) (by omega)).trans HXX.out.1
          have s1 := (hxr9.cellAt (j + 1) (by omega)).trans HXX.out.2
          clear hxr9
          refine hK.out _ _ ⟨s0, s1⟩ (fun hHeld => ?_); clear hK K; (try simp only [Act.put, List.setIfInBounds_toArray, List.set_cons_zero, List.set_cons_succ])
          refine wpAnyH_take (i := 18) (oi := ⟨some 143, _, _, _, _, _⟩) (v := ?_) rfl (by kernel_rfl) (by kernel_rfl) (by kernel_rfl) (fun _ _ _ h => h) (Or.inl ⟨by rfl, ?_⟩) (by assumption) ?_; rotate_left; (focus (intro w hSw; (try dsimp only at hSw); go_simp; (try with_reducible rfl))); (try simp only [Act.put, List.setIfInBounds_toArray, List.set_cons_zero, List.set_cons_succ])
          refine wpAnyH_ready (rs := [19]) (by kernel_rfl) (by simp) ?_; refine AllReadyH.cons (o := ⟨none, _, _, _, _, _⟩) rfl (fun K hK => ?_) AllReadyH.nil; go_simp
          refine hK.out _ _ ⟨(World.cell?_setCell_other _ _ _ _ (hnb1 _)).trans s0, (World.cell?_setCell_other _ _ _ _ (hnb1 _)).trans s1⟩ (fun hHeld => ?_); clear hK K; (try simp only [Act.put, List.setIfInBounds_toArray, List.set_cons_zero, List.set_cons_succ])
          refine wpAnyH_done (by kernel_rfl) ?_ _
          rotate_left
          go_simp
          refine hK.out _ _ ⟨q0, q1⟩ (fun hHeld => ?_); clear hK K; (try simp only [Act.put, List.setIfInBounds_toArray, List.set_cons_zero, List.set_cons_succ])
          refine wpAnyH_ready (rs := [1]) (by kernel_rfl) (by simp) ?_; refine AllReadyH.cons (o := ⟨some 126, _, _, _, _, _⟩) rfl (fun K hK => ?_) AllReadyH.nil; go_simp
          refine hK.out _ _ ⟨q0, q1⟩ (fun hHeld => ?_); clear hK K; (try simp only [Act.put, List.setIfInBounds_toArray, List.set_cons_zero, List.set_cons_succ])
          refine wpAnyH_ready (rs := [17]) (by kernel_rfl) (by simp) ?_; refine AllReadyH.cons (o := ⟨some 142, _, _, _, _, _⟩) rfl (fun K hK => ?_) AllReadyH.nil
          refine step_append_lies _ (by rfl) _ _ _ (by rfl) (w.heap.size + 2) 54 i1 _ 5 40 Try.underlying23 hi1 hy0 hy1 hy2 rfl (by omega) (.slice Af (nf) cf) (nf) _ (by rfl) HGc.out.pr ⟨w8.heap.size, 0, none⟩ 1 1 [.int .i64 (2 + (x8 : Int)), .int .i64 x0, .int .i64 x1, .int .i64 (-1), .int .i64 0] (by rfl) (by rfl) (cells_new _ _ _ _ rfl) (by simp [Value.oneCell']) (by omega) (by unfold maxLen; omega) (by omega) (by simp; omega) (w8.heap.size + 1) (by simp) ?_
          intro gg cap w9 hown9 hgrow9 hat9 hlt9
          have hgr9 : (w8.alloc (.cells #[.int .i64 (2 + (x8 : Int)), .int .i64 x0, .int .i64 x1, .int .i64 (-1), .int .i64 0] 54)).grownBy w9 (Value.slice Af (nf) cf).ownBlock := ⟨hgrow9.os, hgrow9.tape, hgrow9.output, hgrow9.size, hgrow9.block⟩
          have hfr9 := HGc.out.frame hgr9 fun k hk => (HGc.out.pr.lt k hk).1
          have z9 := hfr9.2.2.1
          have h0 := hfr9.2.2.2.2.2.1
          have h1 := hfr9.2.2.2.2.2.2.1
          clear hfr9
          have hxr9 := HGc.out.xr.kept hgr9 (blocks_ne HGc.out.xr HGc.out.pr int_ne_part)
          have s0 := (hxr9.cellAt (j) (by omega)).trans HXX.out.1
          have s1 := (hxr9.cellAt (j + 1) (by omega)).trans HXX.out.2
          clear hxr9
          refine hK.out _ _ ⟨s0, s1⟩ (fun hHeld => ?_); clear hK K; (try simp only [Act.put, List.setIfInBounds_toArray, List.set_cons_zero, List.set_cons_succ])
          refine wpAnyH_take (i := 18) (oi := ⟨some 143, _, _, _, _, _⟩) (v := ?_) rfl (by kernel_rfl) (by kernel_rfl) (by kernel_rfl) (fun _ _ _ h => h) (Or.inl ⟨by rfl, ?_⟩) (by assumption) ?_; rotate_left; (focus (intro w hSw; (try dsimp only at hSw); go_simp; (try with_reducible rfl))); (try simp only [Act.put, List.setIfInBounds_toArray, List.set_cons_zero, List.set_cons_succ])
          refine wpAnyH_ready (rs := [19]) (by kernel_rfl) (by simp) ?_; refine AllReadyH.cons (o := ⟨none, _, _, _, _, _⟩) rfl (fun K hK => ?_) AllReadyH.nil; go_simp
          refine hK.out _ _ ⟨(World.cell?_setCell_other _ _ _ _ (hnb1 _)).trans s0, (World.cell?_setCell_other _ _ _ _ (hnb1 _)).trans s1⟩ (fun hHeld => ?_); clear hK K; (try simp only [Act.put, List.setIfInBounds_toArray, List.set_cons_zero, List.set_cons_succ])
          refine wpAnyH_done (by kernel_rfl) ?_ _
          all_goals
            have HG8 := Lib.hid (HGc.out.parted (Af' := some ⟨gg, 0, none⟩) (nf' := nf + 1) (cf' := cap) (ps' := ps ++ [⟨2 + (x8 : Int), x0, x1, -1, 0⟩]) hgr9 (by rw [List.flatMap_append]; exact hown9) (by rw [List.length_append, ← HGc.out.pl]; rfl))
            have HXL8 := Lib.hid (HXL.out)
            clear hown9 hgrow9 hgr9 hat9 hlt9 z9 h0 h1 s0 s1 q0 q1 p0 p1 o0 o1 g0 g1 f0 f1 z1 z8 HGc HGP HG HXX a8
            go_wp2_with fail
            generalize (w9.setCell ⟨w.heap.size + 1, 0, none⟩ (.slice (some ⟨gg, 0, none⟩) (nf + 1) cap)) = W8 at *
            have f8 := HG8.out.fb
            have z8 : w.heap.size + 1 < W8.heap.size := HG8.out.lt
            have n1 : IntKind.i64.wrap ((nf : Int) + 1 - 1) = (nf : Int) := by rw [IntKind.wrap_i64]; omega
            have n2 : IntKind.i64.wrap ((nf : Int)) = (nf : Int) := by rw [IntKind.wrap_i64]; omega
            have f8' := (World.cell?_alloc_lt W8 (.cells #[.int .i64 ((nf : Int))] 3) ⟨w.heap.size + 1, 0, none⟩ z8).trans f8
            have HG9 := Lib.hid (HG8.out.alloc (.cells #[.int .i64 ((nf : Int))] 3))
            have hcg : j + 2 ≤ cg := by
              rcases HG8.out.xr.2 with ⟨h', _⟩ | ⟨g', cap', cur, h', _, _, hnc, _⟩
              · simp at h'
              · simp at h'
                omega
            have hcg1 : (j : Int) ≤ (cg : Int) := by omega
            go_region_held3 (fun w' => w'.cell? ⟨w.heap.size + 1, 0, none⟩ = some (.slice (some ⟨gg, 0, none⟩) (nf + 1) cap)) (first | exact f8 | exact f8' | exact f9)
              (first
                | (refine step_append_lies _ (by rfl) _ _ _ (by rfl) (w.heap.size + 2) 3 i0 (.int .i64 0) 1 8 Try.underlying26 hi0 hz0 hz1 hz2 rfl (by omega) (.slice (some ⟨go, 0, none⟩) (j) cg) (j) _ (by rfl) (own_shrink HG9.out.xr (by omega)) ⟨W8.heap.size, 0, none⟩ 1 1 [.int .i64 ((nf : Int))] (by rfl) (by rfl) (cell_one_new _ _ _) (by simp [Value.oneCell']) (by omega) (by unfold maxLen; omega) (by omega) (by simp; omega) W8.heap.size.succ (by simp) ?_; intro gh cah w10 hown10 hgrow10' hat10 hlt10; have hgrow10 : (W8.alloc (.cells #[.int .i64 ((nf : Int))] 3)).grownBy w10 (Value.slice (some ⟨go, 0, none⟩) (j) cg).ownBlock := ⟨hgrow10'.os, hgrow10'.tape, hgrow10'.output, hgrow10'.size, hgrow10'.block⟩; have HGA := Lib.hid (HG9.out.opened (xs' := X.take (j) ++ [(nf : Int)]) (own_shrink HG9.out.xr (by omega : j ≤ j + 2)) hgrow10 (by first | (simpa using hown10) | (simpa [List.map_take] using hown10) | (rw [List.map_append, List.map_take]; exact hown10)) (by have := HXL8.out; rw [List.length_append, List.length_take]; show _ = _ + 1; omega)); have f9 := HGA.out.fb))
            clear f8 f8' f9 hgrow10 hgrow10' hown10 hat10 hlt10 HG8 HG9 z8 n1 n2 a1 a2 a1' a2' t1 t2
            go_wp2_with fail
            go_roundw
            case rel => exact ⟨j + 1, nf + 1, cap, _, _, _, _, by omega, by omega, by omega, HGA.out⟩
            case measure => simp [slcLen]
        · obtain ⟨Avz, cvz, rfl⟩ := row_form' HG.out.xr
          have hgs := HG.out.gs
          have hVF := Lib.hid fun (hv : validF ps = true) => validF_good ps hv
          have HVC := Lib.hid (spec_validFormula Af nf cf ps wr wr.heap.size (Nat.le_refl _) HG.out.pl (PS.of_own HG.out.pr) (by omega))
          have HPL := Lib.hid HG.out.pl
          have f0 := HG.out.fb
          have z1 : w.heap.size + 1 < wr.heap.size := HG.out.lt
          generalize validF ps = bv at *
          go_wp2_with fail
          refine HVC.out.mono ?_
          rintro e w2 ⟨rfl, hb2⟩
          have HG2 := Lib.hid (HG.out.step hb2)
          clear hb2 HVC f0 z1 HG
          cases bv
          · go_wp2_with fail
            refine (readPart_any g A n c bs Q An l c' nodes _ HG2.out.rd HN.out hby hs (by omega) HL.out hl2 (HG2.out.nd.more (by have := HG2.out.lt; omega)) HG2.out.ng).mono ?_
            rintro e w3 ⟨q, rfl, hr3, ht3⟩
            have HG3 := Lib.hid (HG2.out.pick hr3 ht3)
            have z3 : w.heap.size < w3.heap.size := by have := HG3.out.lt; omega
            obtain ⟨V, hV⟩ : ∃ V : Value, V = .slice (some ⟨w3.heap.size, 0, none⟩) 1 1 := ⟨_, rfl⟩
            have hsz : (w3.setCell ⟨w.heap.size, 0, none⟩ V).heap.size = w3.heap.size := by simp [World.setCell]
            have hrow := World.ownsRow_lit (e := 54) (size := 5) (base := w.heap.size + 2) (w3.setCell ⟨w.heap.size, 0, none⟩ V) #[.int .i64 q.k, .int .i64 q.a, .int .i64 q.b, .int .i64 q.c, .int .i64 q.n] 1 (by rw [hsz]; have := HG3.out.lt; omega) (by unfold maxLen; omega) (by simp)
            rw [hsz] at hrow
            have HROW := Lib.hid hrow
            have r0 := HG3.out.rb
            have r1 := HG3.out.rz
            have HZ := Lib.hid ((World.cell?_alloc_lt (w3.setCell ⟨w.heap.size, 0, none⟩ V) (.cells #[.int .i64 q.k, .int .i64 q.a, .int .i64 q.b, .int .i64 q.c, .int .i64 q.n] 54) ⟨w.heap.size, 0, none⟩ (by rw [hsz]; exact z3)).trans (World.cell?_setCell_same _ _ _ r0))
            have HRD := Lib.hid (((HG3.out.rd.mono (show _ ≤ P + 200 by omega)).set1 hgw 0 V).alloc (.cells #[.int .i64 q.k, .int .i64 q.a, .int .i64 q.b, .int .i64 q.c, .int .i64 q.n] 54))
            have HFR := Lib.hid (HG3.out.fr.trans (Frd.of_below (((Below.refl w.heap.size w3).setCell (p := ⟨w.heap.size, 0, none⟩) (Nat.le_refl _) V).alloc (by rw [hsz]; omega) (.cells #[.int .i64 q.k, .int .i64 q.a, .int .i64 q.b, .int .i64 q.c, .int .i64 q.n] 54)) (Nat.le_refl _)))
            rw [hV] at HROW HZ HRD HFR
            clear hr3 ht3 HG2 HG3 hrow hsz hV
            go_wp2
            have hz := HZ.out
            refine bodyPost_ret (v := .agg #[.slice (some ⟨w3.heap.size, 0, none⟩) 1 1]) (by simp [results, Try.results77, go_sem, hz]) rfl ?_
            exact ⟨_, 1, 1, [q], rfl, rfl, by omega, by omega, own_mono HROW.out (by omega), HRD.out, HFR.out.tch⟩
          · obtain ⟨_, hv1, hv12⟩ := hVF.out (by first | rfl | trivial)
            have r0 := HG2.out.rb
            have r1 := HG2.out.rz
            have f0 := HG2.out.fb
            have z1 : w.heap.size + 1 < w2.heap.size := HG2.out.lt
            have z0 : w.heap.size < w2.heap.size := by omega
            have hnf1 : 1 ≤ nf := by have := HPL.out; omega
            clear hv1 hv12
            go_wp2
            refine bodyPost_ret (v := .agg #[.slice Af nf cf]) (by simp [results, Try.results77, go_sem, r0]) rfl ?_
            refine ⟨_, _, _, ps, rfl, HPL.out, hnf1, by omega, ?_, (HG2.out.rd.mono (by omega)).set1 hgw 0 _, (HG2.out.fr.trans (Frd.of_below ((Below.refl w.heap.size _).setCell (p := ⟨w.heap.size, 0, none⟩) (Nat.le_refl _) _) (Nat.le_refl _))).tch⟩
            exact own_mono (own_keep HG2.out.pr fun y hy hy' => Below.heap_setCell _ _ _ _ (by show y ≠ w.heap.size; omega)) (by omega)
end Go.Proofs.Ytnbohohoceghnaa

/- The drawing of values: someValues. -/
namespace Go.Proofs.Ytnbohohoceghnaa
set_option linter.unusedSimpArgs false
set_option linter.unusedVariables false
open Go.RowKit

/-- Returns a list of 3 to 10 numbers in a fresh block; the reader has picked Q times at most. -/
def SvP (g : Nat) (A : Option Addr) (n c : Nat) (bs : List Int) (Q : Nat) (w : World) (e : Ending) (w' : World) : Prop :=
  ∃ (v : Value) (xs : List Int), e = .returned v ∧ 3 ≤ xs.length ∧ xs.length ≤ 10 ∧ OwnI w' w.heap.size v xs ∧ Rdr g A n c bs Q w' ∧ Tch g (g + 1) w w'

theorem row_form2 {w : World} {base n size : Nat} {e : TypeId} {v : Value} {xs : List Value} (h : w.ownsRow base e size v n xs) (hn : 0 < n) : ∃ g cap, v = .slice (some ⟨g, 0, none⟩) n cap := by
  rcases h.2 with ⟨hv, h0⟩ | ⟨g, cap, cur, hv, _⟩
  · omega
  · exact ⟨g, cap, hv⟩

set_option maxRecDepth 100000 in
set_option maxHeartbeats 3200000 in
theorem someValues_any (g : Nat) (A : Option Addr) (n c : Nat) (bs : List Int) (P : Nat) (w : World) (h : Rdr g A n c bs P w) (hn : n = bs.length) (hby : BY bs) (hs : n ≤ 2000) (hP : P ≤ 900000) :
    Calls Try.prog 56 #[.pointer (some ⟨g, 0, none⟩)] w fun e w' => SvP g A n c bs (P + 100) w e w' := by
  obtain ⟨i0, hi, hz0, hz1, hz2⟩ := info_parts info_int
  have hgw := h.lt
  have HN := Lib.hid hn
  have HR0 := Lib.hid ((h.alloc (.cells #[] 3)).alloc (.cells #[.int .i64 4, .int .i64 5, .int .i64 6, .int .i64 10, .int .i64 3] 3))
  have hrow0 := World.ownsRow_lit (e := 3) (size := 1) (base := w.heap.size) w #[] 0 (Nat.le_refl _) (by unfold maxLen; omega) (by simp)
  have HROW := Lib.hid (OwR.start (hrow0.alloc (.cells #[.int .i64 4, .int .i64 5, .int .i64 6, .int .i64 10, .int .i64 3] 3)))
  have hBW : Below w.heap.size w ((w.alloc (.cells #[] 3)).alloc (.cells #[.int .i64 4, .int .i64 5, .int .i64 6, .int .i64 10, .int .i64 3] 3)) := ((Below.refl _ _).alloc (Nat.le_refl _) _).alloc (by simp) _
  have HF0 := Lib.hid (Frd.of_below (g := g) (s := w.heap.size) hBW (Nat.le_refl _))
  clear h hn hrow0 hBW
  go_enter Try.func56, Try.ntmps56
  go_wp2_with fail
  refine (one_any g A n c bs P (w.heap.size + 1) 0 5 5 [4, 5, 6, 10, 3] _ HR0.out HN.out hby hs (by omega) rfl (by omega) (by omega) ?_ (by omega) (by simp)).mono ?_
  · intro j hj
    have : j = 0 ∨ j = 1 ∨ j = 2 ∨ j = 3 ∨ j = 4 := by omega
    rcases this with rfl | rfl | rfl | rfl | rfl <;> go_simp
  rintro e w1 ⟨x, rfl, hxm, hr1, ht1⟩
  obtain ⟨N, rfl, hN3, hN10⟩ : ∃ N : Nat, x = (N : Int) ∧ 3 ≤ N ∧ N ≤ 10 := by
    simp only [List.mem_cons, List.not_mem_nil, or_false] at hxm
    exact ⟨x.toNat, by omega, by omega, by omega⟩
  have HR1 := Lib.hid hr1
  have HF1 := Lib.hid (HF0.out.trans (Frd.of_tch ht1 (by simp; omega)))
  have HO1 : Hid (OwR w.heap.size w1.heap.size 3 1 (.slice (some ⟨w.heap.size, 0, none⟩) 0 0) 0 [] w1) := (HROW.out.keep fun k hk hk' => ht1.block k hk' (.inr (by omega))).mono (Nat.le_refl _) ht1.size
  have hs1 : w.heap.size ≤ w1.heap.size := by have := ht1.size; simp at this; omega
  clear hxm hr1 ht1 HR0 HF0 HROW
  go_wp2
  go_loopw [3, 4] (fun v u wr => ∃ (k : Nat) (xs : List Int), xs.length + k = N ∧ u = .int .i64 k ∧ Hid (OwR w.heap.size wr.heap.size 3 1 v xs.length (xs.map (Value.int .i64)) wr) ∧ Hid (Rdr g A n c bs (P + 1 + 2 * xs.length) wr) ∧ Hid (Frd g w.heap.size w wr)) (fun _ u _ => (intOf u).toNat)
  case atStart => exact ⟨N, [], by simp, rfl, by simpa using HO1, by simpa using HR1, HF1.out⟩
  case round =>
    obtain ⟨k, xs, hkx, rfl, HO, HR, HF⟩ := hrel
    obtain ⟨l, hl⟩ : ∃ l : Nat, l = xs.length := ⟨_, rfl⟩
    have HL := Lib.hid hl
    rw [← hl] at HO HR hkx
    have hl10 : l ≤ 10 := by omega
    have hwr : w.heap.size ≤ wr.heap.size := HF.out.size
    clear hl
    by_cases hlt : 0 < k
    · go_wp2_with fail
      refine (pick_any g A n c bs (P + 1 + 2 * l) 1000 _ HR.out HN.out hby hs (by omega) (by omega)).mono ?_
      rintro e w3 ⟨y, rfl, _, _, hr3, ht3⟩
      have HR3 := Lib.hid (hr3.alloc (.cells #[.int .i64 0, .int .i64 1, .int .i64 y, .int .i64 2, .int .i64 5] 3))
      have hs3 := ht3.size
      have HF3 := Lib.hid ((HF.out.trans (Frd.of_tch ht3 hwr)).trans (Frd.of_below (w' := w3.alloc (.cells #[.int .i64 0, .int .i64 1, .int .i64 y, .int .i64 2, .int .i64 5] 3)) ((Below.refl w3.heap.size w3).alloc (Nat.le_refl _) _) (by omega)))
      have HO3 := Lib.hid ((HO.out.keep (w' := w3) fun q hq hq' => ht3.block q hq' (.inr (by omega))).keep (w' := w3.alloc (.cells #[.int .i64 0, .int .i64 1, .int .i64 y, .int .i64 2, .int .i64 5] 3)) fun q hq hq' => Below.heap_alloc _ _ _ (by omega))
      have hg3 : g < w3.heap.size := by omega
      clear hr3 ht3
      go_wp2_with fail
      refine (one_any g A n c bs (P + 1 + 2 * l + 1) w3.heap.size 0 5 5 [0, 1, y, 2, 5] _ HR3.out HN.out hby hs (by omega) rfl (by omega) (by omega) ?_ (by omega) (by simp)).mono ?_
      · intro j hj
        have : j = 0 ∨ j = 1 ∨ j = 2 ∨ j = 3 ∨ j = 4 := by omega
        rcases this with rfl | rfl | rfl | rfl | rfl <;> go_simp
      rintro e w4 ⟨z, rfl, _, hr4, ht4⟩
      have hs4 : w3.heap.size + 1 ≤ w4.heap.size := by have := ht4.size; simpa using this
      have HR4 := Lib.hid (hr4.alloc (.cells #[.int .i64 z] 3))
      have HF4 := Lib.hid ((HF3.out.trans (Frd.of_tch ht4 (by simp; omega))).trans (Frd.of_below (w' := w4.alloc (.cells #[.int .i64 z] 3)) ((Below.refl w4.heap.size w4).alloc (Nat.le_refl _) _) (by omega)))
      have HO4 := Lib.hid (HO3.out.keep (w' := w4) fun q hq hq' => ht4.block q (by simp; omega) (.inr (by omega)))
      clear hr4 ht4
      go_wp2_with (at_builtin; refine wpList_append_own _ rfl _ _ 26 rfl w.heap.size 3 i0 (.int .i64 0) 1 8 Try.underlying26 hi hz0 hz1 hz2 rfl (by decide) _ _ _ rfl (HO4.out.1.alloc _) ⟨_, 0, none⟩ 1 1 [.int .i64 z] rfl rfl (cell_one_new _ _ _) ?c2 ?c3 ?c4 ?c5 ?_)
      case c2 => first | rfl | (intro u hu; simp at hu; subst hu; rfl)
      case c3 => unfold maxLen; omega
      case c4 => omega
      case c5 => first | omega | (simp; omega)
      intro v' w5 hown' hgrow _
      have hpos := (HO4.out.1.alloc (.cells #[.int .i64 z] 3)).lt
      have hb5 : Below w.heap.size (w4.alloc (.cells #[.int .i64 z] 3)) w5 := (Below.refl _ _).grown hgrow (by simp; omega) (fun q hq => (hpos q hq).1)
      have ht5 : Tch w.heap.size (w4.heap.size + 1) (w4.alloc (.cells #[.int .i64 z] 3)) w5 := Tch.of_grown hgrow fun q hq => by have := hpos q hq; simp at this; omega
      have HR5 := Lib.hid (HR4.out.turn ht5 hgw)
      have HF5 := Lib.hid (HF4.out.trans (Frd.of_below hb5 (Nat.le_refl _)))
      have HO5 : Hid (OwR w.heap.size w5.heap.size 3 1 v' (l + 1) ((xs ++ [(z : Int)]).map (Value.int .i64)) w5) := ⟨by simpa using hown', fun q hq => (hown'.lt q hq).2⟩
      clear hown' hgrow hpos hb5 ht5
      go_wp2
      go_roundw
      case rel => exact ⟨k - 1, xs ++ [(z : Int)], by rw [List.length_append, ← HL.out]; simp; omega, by go_num, by rw [List.length_append, ← HL.out]; exact HO5.out, by rw [List.length_append, ← HL.out]; exact HR5.out.mono (by simp; omega), HF5.out⟩
      case measure => simp [intOf]; omega
    · obtain rfl : k = 0 := by omega
      obtain rfl : l = N := by omega
      obtain ⟨go, cg, hov⟩ := row_form2 HO.out.1 (by omega)
      have HR9 := Lib.hid (HR.out.mono (show P + 1 + 2 * l ≤ P + 21 by omega))
      go_wp2_with fail
      refine (pick_any g A n c bs (P + 21) 20 _ HR9.out HN.out hby hs (by omega) (by omega)).mono ?_
      rintro e w3 ⟨y, rfl, _, _, hr3, ht3⟩
      have HR3 := Lib.hid hr3
      have HF3 := Lib.hid (HF.out.trans (Frd.of_tch ht3 hwr))
      have HO3 := Lib.hid (HO.out.keep (w' := w3) fun q hq hq' => ht3.block q hq' (.inr (by omega)))
      have hs3 := ht3.size
      have hog := (HO.out.2 go (by rw [hov]; rfl))
      have hol : w.heap.size ≤ go := (HO.out.1.lt go (by rw [hov]; rfl)).1
      clear hr3 ht3
      cases hov
      by_cases hy : y = 0
      · subst hy
        have HR4 := Lib.hid (HR3.out.alloc (.cells #[.int .i64 (-1), .int .i64 1000] 3))
        have hg3 : g < w3.heap.size := by omega
        have HF4 := Lib.hid (HF3.out.trans (Frd.of_below (w' := w3.alloc (.cells #[.int .i64 (-1), .int .i64 1000] 3)) ((Below.refl w3.heap.size w3).alloc (Nat.le_refl _) _) (by omega)))
        have HO4 := Lib.hid (HO3.out.keep (w' := w3.alloc (.cells #[.int .i64 (-1), .int .i64 1000] 3)) fun q hq hq' => Below.heap_alloc _ _ _ (by omega))
        go_wp2_with fail
        refine (one_any g A n c bs (P + 21 + 1) w3.heap.size 0 2 2 [-1, 1000] _ HR4.out HN.out hby hs (by omega) rfl (by omega) (by omega) ?_ (by omega) (by simp)).mono ?_
        · intro j hj
          have : j = 0 ∨ j = 1 := by omega
          rcases this with rfl | rfl <;> go_simp
        rintro e w4 ⟨z, rfl, _, hr4, ht4⟩
        have hs4 : w3.heap.size + 1 ≤ w4.heap.size := by have := ht4.size; simpa using this
        have HR5 := Lib.hid (hr4.turn (w' := w4.setCell ⟨go, 0, none⟩ (.int .i64 z)) (Tch.of_grown (grown_setCell0 w4 go 0 (.int .i64 z)) fun k hk => by cases hk; exact ⟨Nat.le_refl _, Nat.lt_succ_self _⟩) (by omega))
        have HF5 := Lib.hid ((HF4.out.trans (Frd.of_tch ht4 (by simp; omega))).trans (Frd.of_below (w' := w4.setCell ⟨go, 0, none⟩ (.int .i64 z)) ((Below.refl w.heap.size w4).setCell hol _) (Nat.le_refl _)))
        have HO5 := Lib.hid (HO4.out.keep (w' := w4) fun q hq hq' => ht4.block q (by simp; omega) (.inr (by omega)))
        have u0 := HO5.out.1.cellAt 0 (by omega)
        have hxl : xs.length = l := HL.out.symm
        rw [List.getElem?_eq_getElem (by rw [List.length_map]; omega)] at u0
        have f0 := HO5.out.1.frozenAt 0
        have hst := (HO5.out.1.stored 0 (.int .i64 z)).1
        rw [← List.map_set] at hst
        have HST := Lib.hid hst
        generalize (xs.map (Value.int .i64))[0]'_ = vv at u0
        have HXL := Lib.hid hxl
        clear hr4 ht4 hst hxl
        go_wp2
        go_ret
        exact ⟨_, xs.set 0 z, rfl, by rw [List.length_set, HXL.out]; omega, by rw [List.length_set, HXL.out]; omega, by unfold OwnI; rw [List.length_set, HXL.out]; exact HST.out, HR5.out.mono (by omega), HF5.out.tch⟩
      · go_wp2
        go_ret
        exact ⟨_, xs, rfl, by rw [← HL.out]; omega, by rw [← HL.out]; omega, by unfold OwnI; rw [← HL.out]; exact HO3.out.1, HR3.out.mono (by omega), HF3.out.tch⟩
end Go.Proofs.Ytnbohohoceghnaa

/- Parts in order: impl.appendParts, formulaOf, OrderParts. -/
namespace Go.Proofs.Ytnbohohoceghnaa
set_option linter.unusedSimpArgs false
set_option linter.unusedVariables false
open Go.RowKit

set_option maxRecDepth 100000 in
set_option maxHeartbeats 3200000 in
theorem impl_appendParts (D : Nat) : ∀ (t : Tm) (v : Value) (n : Nat) (ps : List Pt) (base : Nat) (w : World), t.deep ≤ D → n = ps.length → n + t.size ≤ 1000000 → base ≤ w.heap.size → w.ownsRow base 54 5 v n (ps.flatMap Pt.cells) →
    Calls Try.prog 79 #[v, t.val] w fun e w' => RetG w v base (n + t.size) (ps ++ t.post n) e w' := by
  obtain ⟨i0, hi, hz0, hz1, hz2⟩ := info_parts info_int
  obtain ⟨i1, hi1, hy0, hy1, hy2⟩ := info_parts info_part
  induction D with
  | zero => intro t v n ps base w ht; have := t.deep_kids; omega
  | succ D ih =>
    intro t v n ps base w ht hn hsz hbase hown
    obtain ⟨T, x, fn, fp, hv, hme, hcf, hbe, hme2, hcf2, hpa⟩ := both_inv t
    rw [hv]
    have HPK := Lib.hid (t.post_kids n)
    have hsk := t.size_kids
    have IH := Lib.hid ih
    have HBE := Lib.hid hbe
    have HPA := Lib.hid hpa
    have HDK := Lib.hid t.deep_kids
    have HTD := Lib.hid ht
    have HN := Lib.hid hn
    obtain ⟨A, c, rfl⟩ := own_form hown
    have HO := Lib.hid hown
    clear ih hbe hv ht hpa hn hown
    have hk3 : t.kids.length ≤ 3 := by cases t <;> simp [Tm.kids]
    generalize hK : t.kids = ks at *
    generalize hd : t.deep = d at *
    generalize t.size = z at *
    generalize hL : ks.length = L at *
    have HL := Lib.hid hL
    have hdk : ∀ t ∈ ks, t.deep ≤ D := by
      intro t ht
      have := le_foldl_max (ks.map Tm.deep) 0 t.deep (List.mem_map_of_mem ht)
      have := HDK.out
      have := HTD.out
      omega
    have HDD := Lib.hid hdk
    have HK := Lib.hid hK
    have HSK := Lib.hid hsk
    have hnz : n + z ≤ 1000000 := hsz
    clear hL hdk hK hsk
    go_enter Try.func79, Try.ntmps79
    go_wp2_with fail
    refine (HBE.out _).mono ?_
    rintro e w1 ⟨vk, rfl, hownk, hb1⟩
    obtain ⟨A2, c2, rfl⟩ := own_form hownk
    clear hme hcf HBE
    have hkr : w1.ownsRow w.heap.size 46 1 (.slice A2 L c2) L (ks.map Tm.val) := by
      have := hownk; rw [OwnT, HL.out] at this; exact this
    have HKR := Lib.hid hkr
    have HO1 := Lib.hid (own_below HO.out hb1)
    have G1 := Lib.hid ((Gr.refl w (.slice A n c)).below hb1)
    have hw1 : w.heap.size ≤ w1.heap.size := hb1.size
    have hkap : Apart (.slice A n c) (.slice A2 L c2) := by
      intro k hk e
      have h1 := (HO.out.lt k hk).2
      have h2 := (hkr.lt k e).1
      omega
    have HKAP := Lib.hid hkap
    rw [HL.out]
    clear hownk hkr hb1 hkap HO
    have hLP : LP w (.slice A n c) (.slice A2 L c2) base n L ps ks 0 n (.slice A n c) (.slice none 0 0) w1 :=
      ⟨by simp [ksize], by simpa [kpost] using HO1.out, World.ownsRow_nil _ _ _ _, HKR.out, G1.out, fun k _ => by simp [Value.ownBlock], HKAP.out, fun k hk => by simp [Value.ownBlock] at hk⟩
    have HLP0 := Lib.hid hLP
    clear HO1 HKR G1 HKAP hLP
    go_wp2
    go_loopw [0, 5, 11] (fun v u i wr => ∃ m nm : Nat, m ≤ L ∧ i = .int .i64 m ∧ Hid (LP w (.slice A n c) (.slice A2 L c2) base n L ps ks m nm v u wr)) (fun _ _ i _ => L - (intOf i).toNat)
    case atStart => exact ⟨0, n, Nat.zero_le _, rfl, HLP0.out⟩
    case round =>
      clear HLP0
      obtain ⟨m, nm, hm, rfl, HLP⟩ := hrel
      by_cases hml : m < L
      · obtain ⟨b, off, rfl, hbl, hc⟩ := (VS.of_own HLP.out.kids) (by have := HL.out; simp; omega)
        have hcm := hc m (by have := HL.out; simp; omega)
        have hcm' : wr.cell? ⟨b, off + m, none⟩ = some (ks.getD m default).val := by
          have hlm : m < ks.length := by have := HL.out; omega
          rw [hcm]; simp [List.getD, hlm]
        clear hc hcm
        have hdm : (ks.getD m default).deep ≤ D := HDD.out _ (getD_mem ks m (by have := HL.out; omega))
        have HTS := Lib.hid (take_succ_tm ks m (by have := HL.out; omega))
        have hks1 := ksize_take ks (m + 1)
        rw [HTS.out, ksize_snoc] at hks1
        have hnum := HLP.out.num
        have hsz1 : nm + (ks.getD m default).size ≤ 1000000 := by have := HSK.out; omega
        have HHS := Lib.hid hnum
        clear hks1 hnum
        generalize hx : ks.getD m default = tm at *
        clear hx
        obtain ⟨Av, cv, rfl⟩ := own_form HLP.out.row
        obtain ⟨Au, cu, rfl⟩ := own_form HLP.out.at_
        have hbw : base ≤ wr.heap.size := by have := HLP.out.gr.size; omega
        have hlen : nm = (ps ++ kpost (ks.take m) n).length := by
          have h1 := HHS.out
          have h2 := HN.out
          rw [List.length_append, kpost_len]; omega
        have HLEN := Lib.hid hlen
        clear hlen
        go_wp2_with fail
        refine (IH.out tm _ nm _ base _ hdm HLEN.out hsz1 hbw HLP.out.row).mono ?_
        rintro e w2 ⟨v2, rfl, hown2, hgr2⟩
        obtain ⟨A3, c3, rfl⟩ := own_form hown2
        have LA := Lib.hid (hgr2.other HLP.out.at_ HLP.out.avu)
        have LK := Lib.hid (hgr2.other HLP.out.kids HLP.out.avk)
        have LG := Lib.hid (HLP.out.gr.trans hgr2)
        have LU := Lib.hid HLP.out.auk
        have LO := Lib.hid hown2
        have hws2 : w.heap.size ≤ w2.heap.size := LG.out.size
        clear hown2 hgr2 HLP hcm'
        obtain ⟨n2, hn2⟩ : ∃ n2 : Nat, n2 = nm + tm.size := ⟨_, rfl⟩
        rw [← hn2] at LO LA LK LG
        have hn2b : n2 ≤ 1000000 := by omega
        have hn20 : 1 ≤ n2 := by have := tm.size_pos; omega
        have HN2 := Lib.hid hn2
        rw [← HN2.out]
        clear hn2 hsz1
        go_wp2_with (at_builtin; refine wpList_append_own_at _ rfl _ _ 26 rfl w.heap.size 3 i0 (.int .i64 0) 1 8 Try.underlying26 hi hz0 hz1 hz2 rfl (by decide) _ _ _ rfl (LA.out.1.alloc _) ⟨_, 0, none⟩ 1 1 [.int .i64 (n2 - 1)] rfl rfl (cell_one_new _ _ _) ?c2 ?c3 ?c4 ?c5 ?_)
        case c2 => intro u hu; simp at hu; subst hu; rfl
        case c3 => unfold maxLen; omega
        case c4 => omega
        case c5 => simp; omega
        intro v' w3 hown' hgrow _ hwhere
        have hapk : Gr w2 (.slice Au m cu) w3 v' := (Gr.refl w2 _).alloc (.cells #[.int .i64 (n2 - 1)] 3) |>.trans (Gr.of_append hgrow (by rw [World.size_alloc]; exact hwhere))
        have hkk := hapk.other LK.out.1 LU.out
        have hvv := hapk.other LO.out (LA.out.2.symm)
        have HLP' : Hid (LP w (.slice A n c) (.slice (some ⟨b, off, none⟩) L c2) base n L ps ks (m + 1) n2 (.slice A3 n2 c3) v' w3) := by
          refine ⟨?_, ?_, ?_, hkk.1, LG.out.elsewhere hapk.1 (fun k hk => (LA.out.1.lt k hk).1), hvv.2.symm, LK.out.2, hkk.2⟩
          · rw [HTS.out, ksize_snoc]; have := HN2.out; have := HHS.out; omega
          · have h1 := hvv.1
            rw [HTS.out, kpost_snoc, ← HHS.out, ← List.append_assoc]
            exact h1
          · rw [HTS.out, kat_snoc, ← HHS.out, ← HN2.out, List.map_append]
            exact hown'
        clear hown' hgrow hwhere hapk hkk hvv LA LK LG LU LO
        go_wp2
        go_roundw
        case rel => exact ⟨m + 1, n2, by omega, by go_num, HLP'.out⟩
        case measure => simp [intOf]; omega
      · obtain rfl : m = L := by omega
        have htk : ks.take m = ks := List.take_of_length_le (by have := HL.out; omega)
        have hrow := HLP.out.row
        have hat := HLP.out.at_
        have hnum := HLP.out.num
        rw [htk] at hrow hat hnum
        obtain ⟨Av, cv, rfl⟩ := own_form hrow
        obtain ⟨Au, cu, rfl⟩ := own_form hat
        have hkl : (kat ks n).length = m := by rw [kat_len]; exact HL.out
        have hnm : nm ≤ 1000000 := by have := HSK.out; omega
        have HR := Lib.hid hrow
        have HAT := Lib.hid hat
        have HG := Lib.hid HLP.out.gr
        have HNM := Lib.hid hnum
        have hpt := HPA.out wr Au m cu (kat ks n) hkl rfl (IS.of_own hat)
        have HPT := Lib.hid hpt
        clear HPA hpt hrow hat hnum hkl HLP htk hml hm
        generalize t.own (kat ks n) = q at *
        go_wp2_with fail
        refine HPT.out.mono ?_
        rintro e w2 ⟨rfl, hb2⟩
        have HR2 := Lib.hid (own_below HR.out hb2)
        have HG2 := Lib.hid (HG.out.below hb2)
        have hw2 : w.heap.size ≤ w2.heap.size := HG2.out.size
        clear hb2 HR HG HPT HAT hme2 hcf2
        go_wp2_with (at_builtin; refine wpList_append_own_at _ rfl _ _ 23 rfl base 54 i1 _ 5 40 Try.underlying23 hi1 hy0 hy1 hy2 rfl (by decide) _ _ _ rfl (HR2.out.alloc _) ⟨_, 0, none⟩ 1 1 q.cells rfl rfl (cells_new _ _ _ _ rfl) ?d2 ?d3 ?d4 ?d5 ?_)
        case d2 => intro u hu; simp [Pt.cells] at hu; rcases hu with rfl | rfl | rfl | rfl | rfl <;> rfl
        case d3 => unfold maxLen; omega
        case d4 => omega
        case d5 => simp; omega
        intro v' w3 hown' hgrow _ hwhere
        have hap : Gr w2 (.slice Av nm cv) w3 v' := (Gr.refl w2 _).alloc (.cells #[.int .i64 q.k, .int .i64 q.a, .int .i64 q.b, .int .i64 q.c, .int .i64 q.n] 54) |>.trans (Gr.of_append hgrow (by rw [World.size_alloc]; exact hwhere))
        have HF := Lib.hid (HG2.out.trans hap)
        have hN : nm + 1 = n + z := by have := HNM.out; have := HSK.out; omega
        rw [hN] at hown'
        have hL : (ps ++ kpost ks n).flatMap Pt.cells ++ q.cells = (ps ++ t.post n).flatMap Pt.cells := by
          rw [HPK.out, ← List.append_assoc, List.flatMap_append (xs := ps ++ kpost ks n)]; simp
        have HW := Lib.hid (show w3.ownsRow base 54 5 v' (n + z) ((ps ++ t.post n).flatMap Pt.cells) by rw [← hL]; simpa using hown')
        clear hown' hgrow hwhere hap hN hL
        go_wp2
        go_ret
        exact ⟨v', rfl, HW.out, HF.out⟩

/-- Returns a formula with fresh parts. -/
def RetP (w : World) (ps : List Pt) (e : Ending) (w' : World) : Prop := ∃ v, e = .returned (.agg #[v]) ∧ w'.ownsRow w.heap.size 54 5 v ps.length (ps.flatMap Pt.cells) ∧ Below w.heap.size w w'

set_option maxHeartbeats 400000 in
theorem impl_formulaOf (t : Tm) (w : World) (hs : t.size ≤ 1000000) :
    Calls Try.prog 60 #[t.val] w fun e w' => RetP w (t.post 0) e w' := by
  have HP := Lib.hid (t.post_len 0)
  go_enter Try.func60, Try.ntmps60
  go_wp2_with fail
  refine (impl_appendParts t.deep t (.slice none 0 0) 0 [] (w.heap.size + 1) _ (Nat.le_refl _) rfl (by omega) (by simp) (World.ownsRow_nil _ _ _ _)).mono ?_
  rintro e w1 ⟨v, rfl, hown, hgr⟩
  have hb := hgr.bel (B := w.heap.size + 1) (fun k hk => by simp [Value.ownBlock] at hk) (by simp)
  obtain ⟨A, c, rfl⟩ := own_form hown
  have HO := Lib.hid hown
  have HB := Lib.hid hb
  have hz : w.heap.size < w1.heap.size := by have := hb.size; simp at this; omega
  have hf : w1.frozen? ⟨w.heap.size, 0, none⟩ = false := (hb.frozen (p := ⟨w.heap.size, 0, none⟩) (by simp)).trans (by go_simp)
  have hc : w1.cell? ⟨w.heap.size, 0, none⟩ = some (.slice none 0 0) := (hb.cell (p := ⟨w.heap.size, 0, none⟩) (by simp)).trans (by go_simp)
  clear hown hgr hb
  go_wp2
  refine bodyPost_ret (v := .agg #[.slice A t.size c]) (by simp [results, Try.results60, go_sem, hz, hc]) rfl ⟨_, rfl, ?_, ?_⟩
  · have h1 := HO.out
    simp only [Nat.zero_add, List.nil_append] at h1
    rw [HP.out]
    exact own_mono (ownsRow_setCell_below h1 (by simp) _) (by omega)
  · exact (((Below.refl _ _).alloc (Nat.le_refl _) _).trans (HB.out.mono (by simp))).setCell (by simp) _
end Go.Proofs.Ytnbohohoceghnaa
