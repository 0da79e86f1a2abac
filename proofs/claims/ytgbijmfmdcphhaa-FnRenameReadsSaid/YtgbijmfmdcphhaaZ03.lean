/- Texts put together: D3 G2 G4 D6 D4 A22 A23 A24 A25. -/
import Derived.Test.YtgbijmfmdcphhaaZ02
import Derived.Deep.RegionHeld3
import Derived.Deep.RegionLaw
import Derived.Deep.RegionWith
import Derived.Deep.AppendLies
import Derived.Deep.Cut
import Derived.Deep.DeepCutAuto
import Derived.StillTailTactics
/- The drawing of formulas: goodFormula. -/
namespace Go.Proofs.Ytgbijmfmdcphhaa
set_option linter.unusedSimpArgs false
set_option linter.unusedVariables false
open Go.RowKit

theorem row_form' {w : World} {base n size : Nat} {e : TypeId} {v : Value} {xs : List Value} (h : w.ownsRow base e size v n xs) : ∃ A c, v = .slice A n c := by
  rcases h.2 with ⟨rfl, rfl⟩ | ⟨g, cap, cur, rfl, _⟩
  · exact ⟨none, 0, rfl⟩
  · exact ⟨some ⟨g, 0, none⟩, cap, rfl⟩
theorem row_pos {w : World} {base n size : Nat} {e : TypeId} {v : Value} {xs : List Value} (h : w.ownsRow base e size v n xs) (hn : 0 < n) : ∃ g cap, v = .slice (some ⟨g, 0, none⟩) n cap := by
  rcases h.2 with ⟨hv, h0⟩ | ⟨g, cap, cur, hv, _⟩
  · omega
  · exact ⟨g, cap, hv⟩

/-- A part in a box. -/
structure PB (b : Nat) (q : Pt) (w : World) : Prop where
  lt : b < w.heap.size
  c0 : w.cell? ⟨b, 0, none⟩ = some (.int .i64 q.k)
  c1 : w.cell? ⟨b, 1, none⟩ = some (.int .i64 q.a)
  c2 : w.cell? ⟨b, 2, none⟩ = some (.int .i64 q.b)
  c3 : w.cell? ⟨b, 3, none⟩ = some (.int .i64 q.c)
  c4 : w.cell? ⟨b, 4, none⟩ = some (.int .i64 q.n)
  fz : ∀ j, w.frozen? ⟨b, j, none⟩ = false
theorem PB.keep {b : Nat} {q : Pt} {w w' : World} (h : PB b q w) (hk : w'.heap[b]? = w.heap[b]?) (hs : w.heap.size ≤ w'.heap.size) : PB b q w' := by
  have c (j : Nat) : w'.cell? ⟨b, j, none⟩ = w.cell? ⟨b, j, none⟩ := World.cell?_of_block (a := ⟨b, j, none⟩) hk
  have f (j : Nat) : w'.frozen? ⟨b, j, none⟩ = w.frozen? ⟨b, j, none⟩ := World.frozen?_of_block (a := ⟨b, j, none⟩) hk
  exact ⟨Nat.lt_of_lt_of_le h.lt hs, (c 0).trans h.c0, (c 1).trans h.c1, (c 2).trans h.c2, (c 3).trans h.c3, (c 4).trans h.c4, fun j => (f j).trans (h.fz j)⟩
theorem PB.pick {g b : Nat} {q : Pt} {w w' : World} (h : PB b q w) (ht : Tch g (g + 1) w w') (hb : b ≠ g) : PB b q w' := h.keep (ht.block b h.lt (by omega)) ht.size
theorem PB.step {b : Nat} {q : Pt} {w w' : World} (h : PB b q w) (hb : Below w.heap.size w w') : PB b q w' := h.keep (hb.block b h.lt) hb.size
theorem PB.alloc {b : Nat} {q : Pt} {w : World} (h : PB b q w) (o : Obj) : PB b q (w.alloc o) := h.step ((Below.refl _ _).alloc (Nat.le_refl _) o)

theorem PB.grown {b : Nat} {q : Pt} {w w' : World} {row : Option Nat} (h : PB b q w) (hg : w.grownBy w' row) (hr : ∀ k, row = some k → k < b) : PB b q w' :=
  h.keep (hg.block b h.lt fun e => absurd (hr b e.symm) (Nat.lt_irrefl _)) hg.size
theorem PB.set5 {b : Nat} {q : Pt} {w : World} (h : PB b q w) (k a b' c' n' : Int) : PB b ⟨k, a, b', c', n'⟩ (((((w.setCell ⟨b, 0, none⟩ (.int .i64 k)).setCell ⟨b, 1, none⟩ (.int .i64 a)).setCell ⟨b, 2, none⟩ (.int .i64 b')).setCell ⟨b, 3, none⟩ (.int .i64 c')).setCell ⟨b, 4, none⟩ (.int .i64 n')) := by
  have o (w : World) (i j : Nat) (x : Value) (hij : i ≠ j) : (w.setCell ⟨b, i, none⟩ x).cell? ⟨b, j, none⟩ = w.cell? ⟨b, j, none⟩ := World.cell?_setCell_other _ _ _ _ (by intro e; cases e; exact hij rfl)
  have sm (w : World) (i : Nat) (x u : Value) (hu : w.cell? ⟨b, i, none⟩ = some u) : (w.setCell ⟨b, i, none⟩ x).cell? ⟨b, i, none⟩ = some x := World.cell?_setCell_same _ _ _ hu
  refine ⟨by simpa [World.setCell] using h.lt, ?_, ?_, ?_, ?_, ?_, fun j => ?_⟩
  · rw [o _ 4 0 _ (by decide), o _ 3 0 _ (by decide), o _ 2 0 _ (by decide), o _ 1 0 _ (by decide)]; exact sm _ 0 _ _ h.c0
  · rw [o _ 4 1 _ (by decide), o _ 3 1 _ (by decide), o _ 2 1 _ (by decide)]; exact sm _ 1 _ _ ((o _ 0 1 _ (by decide)).trans h.c1)
  · rw [o _ 4 2 _ (by decide), o _ 3 2 _ (by decide)]; exact sm _ 2 _ _ ((o _ 1 2 _ (by decide)).trans ((o _ 0 2 _ (by decide)).trans h.c2))
  · rw [o _ 4 3 _ (by decide)]; exact sm _ 3 _ _ ((o _ 2 3 _ (by decide)).trans ((o _ 1 3 _ (by decide)).trans ((o _ 0 3 _ (by decide)).trans h.c3)))
  · exact sm _ 4 _ _ ((o _ 3 4 _ (by decide)).trans ((o _ 2 4 _ (by decide)).trans ((o _ 1 4 _ (by decide)).trans ((o _ 0 4 _ (by decide)).trans h.c4))))
  · simp only [World.frozen?_setCell]; exact h.fz j

theorem Rdr.drew {g n c P : Nat} {A : Option Addr} {bs : List Int} {w : World} (h : Rdr g A n c bs P w) : Rdr g A n c bs P w.drew := ⟨h.lt, h.c0, h.pos, h.fz, h.by_⟩
def slcLen : Value → Nat
  | .slice _ n _ => n
  | _ => 0

/-- Returns a formula of some parts in fresh blocks; the reader has picked Q times at most. -/
def GfP (g : Nat) (A : Option Addr) (n c : Nat) (bs : List Int) (Q : Nat) (w : World) (e : Ending) (w' : World) : Prop :=
  ∃ (A' : Option Addr) (n' c' : Nat) (ps : List Pt), e = .returned (.agg #[.slice A' n' c']) ∧ n' = ps.length ∧ 1 ≤ n' ∧ n' ≤ 40 ∧ w'.ownsRow w.heap.size 73 5 (.slice A' n' c') n' (ps.flatMap Pt.cells) ∧ Rdr g A n c bs Q w' ∧ Tch g (g + 1) w w'

set_option maxRecDepth 100000 in
set_option maxHeartbeats 40000000 in
theorem goodFormula_any (g : Nat) (A : Option Addr) (n c : Nat) (bs : List Int) (P : Nat) (An : Option Addr) (l c' : Nat) (nodes : List Int) (w : World) (h : Rdr g A n c bs P w) (hn : n = bs.length) (hby : BY bs) (hs : n ≤ 2000) (hP : P ≤ 900000)
    (hl : l = nodes.length) (hl2 : l ≤ 1000) (hx : IS w w.heap.size An nodes) (hne : ∀ b' o', An = some ⟨b', o', none⟩ → b' ≠ g) :
    Calls Try.prog 93 #[.pointer (some ⟨g, 0, none⟩), .slice An l c'] w fun e w' => GfP g A n c bs (P + 200) w e w' := by
  obtain ⟨i1, hi1, hy0, hy1, hy2⟩ := info_parts info_part
  obtain ⟨i0, hi0, hz0, hz1, hz2⟩ := info_parts info_int
  have hgw := h.lt
  obtain ⟨s, hs0⟩ : ∃ s, s = w.heap.size := ⟨_, rfl⟩
  have HN := Lib.hid hn
  have HL := Lib.hid hl
  have HX := Lib.hid hx
  have HNE := Lib.hid hne
  have HR0 := Lib.hid ((((h.alloc (.cells #[.slice none 0 0] 25)).alloc (.cells #[.slice none 0 0] 25)).alloc (.cells #[] 3)).alloc (.cells #[.int .i64 3, .int .i64 4, .int .i64 5, .int .i64 6, .int .i64 2, .int .i64 1] 3))
  have hrow0 := World.ownsRow_lit (e := 3) (size := 1) (base := w.heap.size + 2) ((w.alloc (.cells #[.slice none 0 0] 25)).alloc (.cells #[.slice none 0 0] 25)) #[] 0 (by simp) (by unfold maxLen; omega) (by simp)
  have HROW := Lib.hid hrow0
  have hBW : Below w.heap.size w ((((w.alloc (.cells #[.slice none 0 0] 25)).alloc (.cells #[.slice none 0 0] 25)).alloc (.cells #[] 3)).alloc (.cells #[.int .i64 3, .int .i64 4, .int .i64 5, .int .i64 6, .int .i64 2, .int .i64 1] 3)) := ((((Below.refl _ _).alloc (Nat.le_refl _) _).alloc (by simp) _).alloc (by simp; omega) _).alloc (by simp; omega) _
  have HGI : Hid (GI g w.heap.size A n c bs An nodes w P none 0 0 [] (.slice (some ⟨w.heap.size + 1 + 1, 0, none⟩) 0 0) 0 [] ((((w.alloc (.cells #[.slice none 0 0] 25)).alloc (.cells #[.slice none 0 0] 25)).alloc (.cells #[] 3)).alloc (.cells #[.int .i64 3, .int .i64 4, .int .i64 5, .int .i64 6, .int .i64 2, .int .i64 1] 3))) :=
    ⟨hgw, Frd.of_below hBW (Nat.le_refl _), HR0.out, by simp, by go_simp, by go_simp, by go_simp, by go_simp, rfl, World.ownsRow_nil _ _ _ _, rfl, by simpa using HROW.out.alloc (.cells #[.int .i64 3, .int .i64 4, .int .i64 5, .int .i64 6, .int .i64 2, .int .i64 1] 3), hx.below hBW (Nat.le_refl _), hne⟩
  clear h hn hl hx hne hrow0 hBW HROW
  go_enter Try.func93, Try.ntmps93
  go_wp2_with fail
  refine (one_any g A n c bs P (w.heap.size + 3) 0 6 6 [3, 4, 5, 6, 2, 1] _ HR0.out HN.out hby hs (by omega) rfl (by omega) (by omega) ?_ (by omega) (by simp)).mono ?_
  · intro j hj
    have : j = 0 ∨ j = 1 ∨ j = 2 ∨ j = 3 ∨ j = 4 ∨ j = 5 := by omega
    rcases this with rfl | rfl | rfl | rfl | rfl | rfl <;> go_simp
  rintro e w1 ⟨x, rfl, hxm, hr1, ht1⟩
  obtain ⟨N, rfl, hN1, hN6⟩ : ∃ N : Nat, x = (N : Int) ∧ 1 ≤ N ∧ N ≤ 6 := by
    simp only [List.mem_cons, List.not_mem_nil, or_false] at hxm
    exact ⟨x.toNat, by omega, by omega, by omega⟩
  have HG1 := Lib.hid (HGI.out.pick hr1 ht1)
  clear hxm hr1 ht1 HGI HR0
  go_wp2
  go_loopw [6, 7] (fun v u wr => ∃ (k m no nf cf : Nat) (Af : Option Addr) (ps : List Pt) (xs : List Int), k + m = N ∧ u = .int .i64 k ∧ no ≤ m ∧ nf ≤ 2 * m ∧ Hid (GI g w.heap.size A n c bs An nodes w (P + 1 + 10 * m) Af nf cf ps v no xs wr)) (fun _ u _ => (intOf u).toNat)
  case atStart => exact ⟨N, 0, 0, 0, 0, none, [], [], by omega, rfl, Nat.le_refl _, Nat.zero_le _, HG1.out⟩
  case round =>
    obtain ⟨k, m, no, nf, cf, Af, ps, xs, hkm, rfl, hno, hnf, HG⟩ := hrel
    by_cases hk : 0 < k
    · have hPm : P + 1 + 10 * m ≤ 900100 := by omega
      obtain ⟨P1, hP1⟩ : ∃ P1, P1 = P + 1 + 10 * m := ⟨_, rfl⟩
      have HP1 := Lib.hid hP1
      rw [← hP1] at HG hPm
      clear hP1
      go_wp2_with fail
      refine (readPart_any g A n c bs P1 An l c' nodes _ HG.out.rd HN.out hby hs (by omega) HL.out hl2 (HG.out.nd.more (by have := HG.out.lt; omega)) HG.out.ng).mono ?_
      rintro e w2 ⟨q, rfl, hr2, ht2⟩
      have HGq := Lib.hid (HG.out.pick hr2 ht2)
      obtain ⟨b8, hb8⟩ : ∃ b8, b8 = w2.heap.size := ⟨_, rfl⟩
      have HB8 := Lib.hid hb8
      have HPB : Hid (PB b8 q (w2.alloc (.cells #[.int .i64 q.k, .int .i64 q.a, .int .i64 q.b, .int .i64 q.c, .int .i64 q.n] 73))) := by
        rw [hb8]; exact ⟨by simp, by go_simp, by go_simp, by go_simp, by go_simp, by go_simp, fun j => by go_simp⟩
      have HO8 : Hid ((∀ k, (Value.slice Af nf cf).ownBlock = some k → k < b8) ∧ (∀ k, u6.ownBlock = some k → k < b8)) := by
        rw [hb8]; exact ⟨fun k hk => (HGq.out.pr.lt k hk).2, fun k hk => (HGq.out.xr.lt k hk).2⟩
      have HG2 := Lib.hid (HGq.out.alloc (.cells #[.int .i64 q.k, .int .i64 q.a, .int .i64 q.b, .int .i64 q.c, .int .i64 q.n] 73))
      have hb8s : w.heap.size + 2 ≤ b8 := by rw [hb8]; exact HGq.out.lt
      clear hr2 ht2 HG HGq hb8
      go_wp2_with fail
      rw [← HB8.out]
      generalize w2.alloc (.cells #[.int .i64 q.k, .int .i64 q.a, .int .i64 q.b, .int .i64 q.c, .int .i64 q.n] 73) = W2 at *
      refine (pick_any g A n c bs (P1 + 1) 4 W2 HG2.out.rd HN.out hby hs (by omega) (by omega)).mono ?_
      rintro e w3 ⟨x3, rfl, _, _, hr3, ht3⟩
      have HG3 := Lib.hid (HG2.out.pick hr3 ht3)
      have HPB3 := Lib.hid (HPB.out.pick ht3 (by omega))
      clear hr3 ht3 HG2 HPB
      go_upto_if 25 with fail
      go_cut [] from 16 to 119 (fun wx => ∃ q' : Pt, Hid (PB b8 q' wx) ∧ Hid (GI g w.heap.size A n c bs An nodes w (P1 + 3) Af nf cf ps u6 no xs wx))
      case first =>
        cases hx3 : ((x3 : Int) == 0)
        · go_wp2_with fail
          go_meet
          exact ⟨q, HPB3.out, HG3.out.mono (by omega)⟩
        · obtain rfl : x3 = 0 := by simpa using hx3
          clear hx3
          have HG3a := Lib.hid (HG3.out.alloc (.cells #[.int .i64 0, .int .i64 1, .int .i64 2, .int .i64 5, .int .i64 99, .int .i64 10] 3))
          have HPB3a := Lib.hid (HPB3.out.alloc (.cells #[.int .i64 0, .int .i64 1, .int .i64 2, .int .i64 5, .int .i64 99, .int .i64 10] 3))
          go_wp2_with fail
          refine (one_any g A n c bs (P1 + 2) w3.heap.size 0 6 6 [0, 1, 2, 5, 99, 10] _ HG3a.out.rd HN.out hby hs (by omega) rfl (by omega) (by omega) ?_ (by have := HG3.out.rd.lt; omega) (by simp)).mono ?_
          · intro j hj
            have : j = 0 ∨ j = 1 ∨ j = 2 ∨ j = 3 ∨ j = 4 ∨ j = 5 := by omega
            rcases this with rfl | rfl | rfl | rfl | rfl | rfl <;> go_simp
          rintro e w4 ⟨y, rfl, _, hr4, ht4⟩
          have HG4 := Lib.hid (HG3a.out.pick hr4 ht4)
          have HPB4 := Lib.hid (HPB3a.out.pick ht4 (by omega))
          clear hr4 ht4 HG3a HPB3a
          go_wp2_with fail
          refine (spec_numberPart y _).mono ?_
          rintro e w5 ⟨rfl, hb5⟩
          have HG5 := Lib.hid (HG4.out.step hb5)
          have HPB5 := Lib.hid (HPB4.out.step hb5)
          have p0 := HPB5.out.c0
          have p1 := HPB5.out.c1
          have p2 := HPB5.out.c2
          have p3 := HPB5.out.c3
          have p4 := HPB5.out.c4
          have f0 := HPB5.out.fz 0
          have f1 := HPB5.out.fz 1
          have f2 := HPB5.out.fz 2
          have f3 := HPB5.out.fz 3
          have f4 := HPB5.out.fz 4
          clear hb5
          go_wp2_with fail
          go_meet
          exact ⟨⟨0, -1, -1, -1, y⟩, HPB5.out.set5 0 (-1) (-1) (-1) y, ((((HG5.out.poke hb8s HO8.out.1 HO8.out.2 0 _).poke hb8s HO8.out.1 HO8.out.2 1 _).poke hb8s HO8.out.1 HO8.out.2 2 _).poke hb8s HO8.out.1 HO8.out.2 3 _).poke hb8s HO8.out.1 HO8.out.2 4 _⟩
      case rest =>
        obtain ⟨q', HPB9, HG9⟩ := hcut
        have f0 := HG9.out.fb
        have z1 : w.heap.size + 1 < wc.heap.size := HG9.out.lt
        have HGa := Lib.hid (HG9.out.alloc (.cells #[.int .i64 nf] 3))
        have HPBa := Lib.hid (HPB9.out.alloc (.cells #[.int .i64 nf] 3))
        have hnb : no ≤ 6 := by omega
        clear HPB3 HG3
        go_wp2_with (at_builtin; refine wpList_append_own _ rfl _ _ 30 rfl (w.heap.size + 2) 3 i0 (.int .i64 0) 1 8 Try.underlying30 hi0 hz0 hz1 hz2 rfl (by decide) _ _ _ rfl HGa.out.xr ⟨_, 0, none⟩ 1 1 [.int .i64 nf] rfl rfl (cell_one_new _ _ _) ?c2 ?c3 ?c4 ?c5 ?_)
        case c2 => first | rfl | (intro u hu; simp at hu; subst hu; rfl)
        case c3 => unfold maxLen; omega
        case c4 => omega
        case c5 => first | omega | (simp; omega)
        intro v' w4 hown' hgrow _
        obtain ⟨Ao, co, rfl⟩ := row_form' hown'
        have HG4 := Lib.hid (HGa.out.opened (xs' := xs ++ [(nf : Int)]) HGa.out.xr hgrow (by simpa using hown') (by rw [List.length_append, ← HGa.out.xl]; rfl))
        have HPB4 := Lib.hid (HPBa.out.grown hgrow HO8.out.2)
        clear hown' hgrow HGa HPBa f0 z1 HPB9 HG9
        have f0 := HG4.out.fb
        have f1 := HG4.out.fz
        have z1 : w.heap.size + 1 < w4.heap.size := HG4.out.lt
        have z2 : b8 < w4.heap.size := HPB4.out.lt
        have p0 := HPB4.out.c0
        have p1 := HPB4.out.c1
        have p2 := HPB4.out.c2
        have p3 := HPB4.out.c3
        have p4 := HPB4.out.c4
        have HGb := Lib.hid (HG4.out.alloc (.cells #[.int .i64 q'.k, .int .i64 q'.a, .int .i64 q'.b, .int .i64 q'.c, .int .i64 q'.n] 73))
        go_wp2_with (at_builtin; refine wpList_append_own_at _ rfl _ _ 23 rfl (w.heap.size + 2) 73 i1 _ 5 40 Try.underlying23 hi1 hy0 hy1 hy2 rfl (by decide) _ _ _ rfl HGb.out.pr ⟨_, 0, none⟩ 1 1 q'.cells rfl rfl (cells_new _ _ _ _ rfl) ?d2 ?d3 ?d4 ?d5 ?_)
        case d2 => intro u hu; simp [Pt.cells] at hu; rcases hu with rfl | rfl | rfl | rfl | rfl <;> rfl
        case d3 => unfold maxLen; omega
        case d4 => omega
        case d5 => simp; omega
        intro v5 w5 hown5 hgrow5 _ _
        obtain ⟨A5, c5, rfl⟩ := row_form' hown5
        have hfr := HGb.out.frame hgrow5 fun k hk => (HGb.out.pr.lt k hk).1
        have z5 := hfr.2.2.1
        have e0 := hfr.2.2.2.2.2.1
        have e1 := hfr.2.2.2.2.2.2.1
        clear hfr
        have HG6 := Lib.hid (HGb.out.parted (Af' := A5) (nf' := nf + 1) (cf' := c5) (ps' := ps ++ [q']) hgrow5 (by simpa [List.flatMap_append] using hown5) (by rw [List.length_append, ← HGb.out.pl]; rfl))
        clear hown5 hgrow5 HGb HG4 HPB4 f0 f1 z1 z2 p0 p1 p2 p3 p4 HO8
        by_cases h3 : 3 ≤ no + 1
        · obtain ⟨j, rfl⟩ : ∃ j, no = j + 2 := ⟨no - 2, by omega⟩
          go_wp2_with fail
          generalize (w5.setCell ⟨w.heap.size + 1, 0, none⟩ (.slice A5 (nf + 1) c5)) = W6 at *
          refine (pick_any g A n c bs (P1 + 3) 2 W6 HG6.out.rd HN.out hby hs (by omega) (by omega)).mono ?_
          rintro e w7 ⟨x7, rfl, _, _, hr7, ht7⟩
          have HG7 := Lib.hid (HG6.out.pick hr7 ht7)
          clear hr7 ht7 HG6 h3
          by_cases hx7 : x7 = 0
          · subst hx7
            obtain ⟨go, cg, hov⟩ := row_pos HG7.out.xr (by omega)
            cases hov
            have f0 := HG7.out.fb
            have f1 := HG7.out.fz
            have z1 : w.heap.size + 1 < w7.heap.size := HG7.out.lt
            have hxl := HG7.out.xl
            have o0 := HG7.out.xr.cellAt j (by omega)
            have o1 := HG7.out.xr.cellAt (j + 1) (by omega)
            have o2 := HG7.out.xr.cellAt (j + 2) (by omega)
            rw [List.getElem?_map] at o0 o1 o2
            generalize hX : xs ++ [(nf : Int)] = X at *
            have HX2 := Lib.hid hX
            clear hX
            rw [List.getElem?_eq_getElem (by omega), Option.map_some] at o0 o1 o2
            generalize X[j]'_ = x0 at o0
            generalize X[j + 1]'_ = x1 at o1
            generalize X[j + 2]'_ = x2 at o2
            have HXL := Lib.hid hxl
            clear hxl
            have hgo := (HG7.out.xr.lt go rfl).2
            go_wp2_with fail
            have a3 : IntKind.i64.wrap ((j : Int) + 2 + 1 - 3) = (j : Int) := by rw [IntKind.wrap_i64]; omega
            have a2 : IntKind.i64.wrap ((j : Int) + 2 + 1 - 2) = (j : Int) + 1 := by rw [IntKind.wrap_i64]; omega
            have a1 : IntKind.i64.wrap ((j : Int) + 2 + 1 - 1) = (j : Int) + 2 := by rw [IntKind.wrap_i64]; omega
            have b3 : (j : Int) < (j : Int) + 2 + 1 := by omega
            have b2 : (j : Int) + 1 < (j : Int) + 2 + 1 := by omega
            have b1 : (j : Int) + 2 < (j : Int) + 2 + 1 := by omega
            have b0 : 0 ≤ (j : Int) + 1 := by omega
            have b00 : 0 ≤ (j : Int) + 2 := by omega
            have a1' : IntKind.i64.wrap ((j : Int) + 2) = (j : Int) + 2 := by rw [IntKind.wrap_i64]; omega
            have a2' : IntKind.i64.wrap ((j : Int) + 1) = (j : Int) + 1 := by rw [IntKind.wrap_i64]; omega
            have t1 : ((j : Int) + 1).toNat = j + 1 := by omega
            have t2 : ((j : Int) + 2).toNat = j + 2 := by omega
            have HGc := Lib.hid (HG7.out.alloc (.cells #[.int .i64 8, .int .i64 x0, .int .i64 x1, .int .i64 x2, .int .i64 0] 73))
            have hX0 := (HG7.out.xr.cellAt j (by omega)).symm.trans o0
            have hX1 := (HG7.out.xr.cellAt (j + 1) (by omega)).symm.trans o1
            have hX2 := (HG7.out.xr.cellAt (j + 2) (by omega)).symm.trans o2
            have HXX := Lib.hid (And.intro hX0 (And.intro hX1 hX2))
            clear hX0 hX1 hX2
            have hgo2 := (HG7.out.xr.lt go rfl).1
            have hnb1 : ∀ q : Nat, (⟨w.heap.size + 1, 0, none⟩ : Addr) ≠ ⟨go, q, none⟩ := fun q e => by have := congrArg Addr.block e; simp at this; omega
            have q0 := (World.cell?_alloc_lt w7 (.cells #[.int .i64 8, .int .i64 x0, .int .i64 x1, .int .i64 x2, .int .i64 0] 73) ⟨go, j, none⟩ hgo).trans o0
            have q1 := (World.cell?_alloc_lt w7 (.cells #[.int .i64 8, .int .i64 x0, .int .i64 x1, .int .i64 x2, .int .i64 0] 73) ⟨go, j + 1, none⟩ hgo).trans o1
            have q2 := (World.cell?_alloc_lt w7 (.cells #[.int .i64 8, .int .i64 x0, .int .i64 x1, .int .i64 x2, .int .i64 0] 73) ⟨go, j + 2, none⟩ hgo).trans o2
            refine wp_region_held_drew (S := (fun w' => w'.cell? ⟨go, j, none⟩ = some (.int .i64 x0) ∧ w'.cell? ⟨go, j + 1, none⟩ = some (.int .i64 x1) ∧ w'.cell? ⟨go, j + 2, none⟩ = some (.int .i64 x2))) (by kernel_rfl) ⟨o0, o1, o2⟩ (fun hHeld => ?_)
            refine wpAnyH_take (i := 0) (oi := ⟨some 52, _, _, _, _, _⟩) (v := ?_) rfl (by kernel_rfl) (by kernel_rfl) (by kernel_rfl) (fun _ _ _ h => h) (Or.inl ⟨by rfl, ?_⟩) (by assumption) ?_; rotate_left; (focus (intro w hSw; (try dsimp only at hSw); go_simp; (try with_reducible rfl))); (try simp only [Act.put, List.setIfInBounds_toArray, List.set_cons_zero, List.set_cons_succ])
            refine wpAnyH_take (i := 2) (oi := ⟨some 54, _, _, _, _, _⟩) (v := ?_) rfl (by kernel_rfl) (by kernel_rfl) (by kernel_rfl) (fun _ _ _ h => h) (Or.inl ⟨by rfl, ?_⟩) (by assumption) ?_; rotate_left; (focus (intro w hSw; (try dsimp only at hSw); go_simp; (try with_reducible rfl))); (try simp only [Act.put, List.setIfInBounds_toArray, List.set_cons_zero, List.set_cons_succ])
            refine wpAnyH_take (i := 3) (oi := ⟨some 55, _, _, _, _, _⟩) (v := ?_) rfl (by kernel_rfl) (by kernel_rfl) (by kernel_rfl) (fun _ _ _ h => h) (Or.inl ⟨by rfl, ?_⟩) (by assumption) ?_; rotate_left; (focus (intro w hSw; (try dsimp only at hSw); go_simp; (try with_reducible rfl))); (try simp only [Act.put, List.setIfInBounds_toArray, List.set_cons_zero, List.set_cons_succ])
            refine wpAnyH_take (i := 4) (oi := ⟨some 56, _, _, _, _, _⟩) (v := ?_) rfl (by kernel_rfl) (by kernel_rfl) (by kernel_rfl) (fun _ _ _ h => h) (Or.inl ⟨by rfl, ?_⟩) (by assumption) ?_; rotate_left; (focus (intro w hSw; (try dsimp only at hSw); go_simp; (try with_reducible rfl))); (try simp only [Act.put, List.setIfInBounds_toArray, List.set_cons_zero, List.set_cons_succ])
            refine wpAnyH_take (i := 5) (oi := ⟨some 57, _, _, _, _, _⟩) (v := ?_) rfl (by kernel_rfl) (by kernel_rfl) (by kernel_rfl) (fun _ _ _ h => h) (Or.inl ⟨by rfl, ?_⟩) (by assumption) ?_; rotate_left; (focus (intro w hSw; (try dsimp only at hSw); go_simp; (try with_reducible rfl))); (try simp only [Act.put, List.setIfInBounds_toArray, List.set_cons_zero, List.set_cons_succ])
            refine wpAnyH_take (i := 6) (oi := ⟨some 58, _, _, _, _, _⟩) (v := ?_) rfl (by kernel_rfl) (by kernel_rfl) (by kernel_rfl) (fun _ _ _ h => h) (Or.inl ⟨by rfl, ?_⟩) (by assumption) ?_; rotate_left; (focus (intro w hSw; (try dsimp only at hSw); go_simp; (try with_reducible rfl))); (try simp only [Act.put, List.setIfInBounds_toArray, List.set_cons_zero, List.set_cons_succ])
            refine wpAnyH_take (i := 7) (oi := ⟨some 59, _, _, _, _, _⟩) (v := ?_) rfl (by kernel_rfl) (by kernel_rfl) (by kernel_rfl) (fun _ _ _ h => h) (Or.inl ⟨by rfl, ?_⟩) (by assumption) ?_; rotate_left; (focus (intro w hSw; (try dsimp only at hSw); go_simp; (try with_reducible rfl))); (try simp only [Act.put, List.setIfInBounds_toArray, List.set_cons_zero, List.set_cons_succ])
            refine wpAnyH_take (i := 8) (oi := ⟨some 60, _, _, _, _, _⟩) (v := ?_) rfl (by kernel_rfl) (by kernel_rfl) (by kernel_rfl) (fun _ _ _ h => h) (Or.inl ⟨by rfl, ?_⟩) (by assumption) ?_; rotate_left; (focus (intro w hSw; (try dsimp only at hSw); go_simp; (try with_reducible rfl))); (try simp only [Act.put, List.setIfInBounds_toArray, List.set_cons_zero, List.set_cons_succ])
            refine wpAnyH_take (i := 9) (oi := ⟨some 61, _, _, _, _, _⟩) (v := ?_) rfl (by kernel_rfl) (by kernel_rfl) (by kernel_rfl) (fun _ _ _ h => h) (Or.inl ⟨by rfl, ?_⟩) (by assumption) ?_; rotate_left; (focus (intro w hSw; (try dsimp only at hSw); go_simp; (try with_reducible rfl))); (try simp only [Act.put, List.setIfInBounds_toArray, List.set_cons_zero, List.set_cons_succ])
            refine wpAnyH_take (i := 10) (oi := ⟨some 62, _, _, _, _, _⟩) (v := ?_) rfl (by kernel_rfl) (by kernel_rfl) (by kernel_rfl) (fun _ _ _ h => h) (Or.inl ⟨by rfl, ?_⟩) (by assumption) ?_; rotate_left; (focus (intro w hSw; (try dsimp only at hSw); go_simp; (try with_reducible rfl))); (try simp only [Act.put, List.setIfInBounds_toArray, List.set_cons_zero, List.set_cons_succ])
            refine wpAnyH_take (i := 11) (oi := ⟨some 63, _, _, _, _, _⟩) (v := ?_) rfl (by kernel_rfl) (by kernel_rfl) (by kernel_rfl) (fun _ _ _ h => h) (Or.inl ⟨by rfl, ?_⟩) (by assumption) ?_; rotate_left; (focus (intro w hSw; (try dsimp only at hSw); go_simp; (try with_reducible rfl))); (try simp only [Act.put, List.setIfInBounds_toArray, List.set_cons_zero, List.set_cons_succ])
            refine wpAnyH_take (i := 12) (oi := ⟨some 64, _, _, _, _, _⟩) (v := ?_) rfl (by kernel_rfl) (by kernel_rfl) (by kernel_rfl) (fun _ _ _ h => h) (Or.inl ⟨by rfl, ?_⟩) (by assumption) ?_; rotate_left; (focus (intro w hSw; (try dsimp only at hSw); go_simp; (try with_reducible rfl))); (try simp only [Act.put, List.setIfInBounds_toArray, List.set_cons_zero, List.set_cons_succ])
            refine wpAnyH_take (i := 13) (oi := ⟨some 65, _, _, _, _, _⟩) (v := ?_) rfl (by kernel_rfl) (by kernel_rfl) (by kernel_rfl) (fun _ _ _ h => h) (Or.inl ⟨by rfl, ?_⟩) (by assumption) ?_; rotate_left; (focus (intro w hSw; (try dsimp only at hSw); go_simp; (try with_reducible rfl))); (try simp only [Act.put, List.setIfInBounds_toArray, List.set_cons_zero, List.set_cons_succ])
            refine wpAnyH_take (i := 14) (oi := ⟨some 66, _, _, _, _, _⟩) (v := ?_) rfl (by kernel_rfl) (by kernel_rfl) (by kernel_rfl) (fun _ _ _ h => h) (Or.inl ⟨by rfl, ?_⟩) (by assumption) ?_; rotate_left; (focus (intro w hSw; (try dsimp only at hSw); go_simp; (try with_reducible rfl))); (try simp only [Act.put, List.setIfInBounds_toArray, List.set_cons_zero, List.set_cons_succ])
            refine wpAnyH_take (i := 15) (oi := ⟨some 67, _, _, _, _, _⟩) (v := ?_) rfl (by kernel_rfl) (by kernel_rfl) (by kernel_rfl) (fun _ _ _ h => h) (Or.inl ⟨by rfl, ?_⟩) (by assumption) ?_; rotate_left; (focus (intro w hSw; (try dsimp only at hSw); go_simp; (try with_reducible rfl))); (try simp only [Act.put, List.setIfInBounds_toArray, List.set_cons_zero, List.set_cons_succ])
            refine wpAnyH_take (i := 16) (oi := ⟨some 68, _, _, _, _, _⟩) (v := ?_) rfl (by kernel_rfl) (by kernel_rfl) (by kernel_rfl) (fun _ _ _ h => h) (Or.inl ⟨by rfl, ?_⟩) (by assumption) ?_; rotate_left; (focus (intro w hSw; (try dsimp only at hSw); go_simp; (try with_reducible rfl))); (try simp only [Act.put, List.setIfInBounds_toArray, List.set_cons_zero, List.set_cons_succ])
            refine wpAnyH_take (i := 17) (oi := ⟨some 69, _, _, _, _, _⟩) (v := ?_) rfl (by kernel_rfl) (by kernel_rfl) (by kernel_rfl) (fun _ _ _ h => h) (Or.inl ⟨by rfl, ?_⟩) (by assumption) ?_; rotate_left; (focus (intro w hSw; (try dsimp only at hSw); go_simp; (try with_reducible rfl))); (try simp only [Act.put, List.setIfInBounds_toArray, List.set_cons_zero, List.set_cons_succ])
            refine wpAnyH_ready (rs := [1, 18]) (by kernel_rfl) (by simp) ?_; refine AllReadyH.cons (o := ⟨some 53, _, _, _, _, _⟩) rfl (fun K hK => ?_) (AllReadyH.cons (o := ⟨some 70, _, _, _, _, _⟩) rfl (fun K hK => ?_) AllReadyH.nil)
            go_simp
            refine hK.out _ _ ⟨o0, o1, o2⟩ (fun hHeld => ?_); clear hK K; (try simp only [Act.put, List.setIfInBounds_toArray, List.set_cons_zero, List.set_cons_succ])
            refine wpAnyH_ready (rs := [18]) (by kernel_rfl) (by simp) ?_; refine AllReadyH.cons (o := ⟨some 70, _, _, _, _, _⟩) rfl (fun K hK => ?_) AllReadyH.nil; go_simp
            refine hK.out _ _ ⟨q0, q1, q2⟩ (fun hHeld => ?_); clear hK K; (try simp only [Act.put, List.setIfInBounds_toArray, List.set_cons_zero, List.set_cons_succ])
            refine wpAnyH_ready (rs := [19]) (by kernel_rfl) (by simp) ?_; refine AllReadyH.cons (o := ⟨some 71, _, _, _, _, _⟩) rfl (fun K hK => ?_) AllReadyH.nil
            refine step_append_lies _ (by rfl) _ _ _ (by rfl) (w.heap.size + 2) 73 i1 _ 5 40 Try.underlying23 hi1 hy0 hy1 hy2 rfl (by omega) (.slice A5 (nf + 1) c5) (nf + 1) _ (by rfl) HGc.out.pr ⟨w7.heap.size, 0, none⟩ 1 1 [.int .i64 8, .int .i64 x0, .int .i64 x1, .int .i64 x2, .int .i64 0] (by rfl) (by rfl) (cells_new _ _ _ _ rfl) (by simp [Value.oneCell']) (by omega) (by unfold maxLen; omega) (by omega) (by simp; omega) (w7.heap.size + 1) (by simp) ?_
            intro gg cap w8 hown8 hgrow8 hat8 hlt8
            have hgr8 : (w7.alloc (.cells #[.int .i64 8, .int .i64 x0, .int .i64 x1, .int .i64 x2, .int .i64 0] 73)).grownBy w8 (Value.slice A5 (nf + 1) c5).ownBlock := ⟨hgrow8.os, hgrow8.tape, hgrow8.output, hgrow8.size, hgrow8.block⟩
            have hfr8 := HGc.out.frame hgr8 fun k hk => (HGc.out.pr.lt k hk).1
            have z8 := hfr8.2.2.1
            have g0 := hfr8.2.2.2.2.2.1
            have g1 := hfr8.2.2.2.2.2.2.1
            clear hfr8
            have hxr8 := HGc.out.xr.kept hgr8 (blocks_ne HGc.out.xr HGc.out.pr int_ne_part)
            have s0 := (hxr8.cellAt j (by omega)).trans HXX.out.1
            have s1 := (hxr8.cellAt (j + 1) (by omega)).trans HXX.out.2.1
            have s2 := (hxr8.cellAt (j + 2) (by omega)).trans HXX.out.2.2
            clear hxr8
            refine hK.out _ _ ⟨s0, s1, s2⟩ (fun hHeld => ?_); clear hK K; (try simp only [Act.put, List.setIfInBounds_toArray, List.set_cons_zero, List.set_cons_succ])
            refine wpAnyH_take (i := 20) (oi := ⟨some 72, _, _, _, _, _⟩) (v := ?_) rfl (by kernel_rfl) (by kernel_rfl) (by kernel_rfl) (fun _ _ _ h => h) (Or.inl ⟨by rfl, ?_⟩) (by assumption) ?_; rotate_left; (focus (intro w hSw; (try dsimp only at hSw); go_simp; (try with_reducible rfl))); (try simp only [Act.put, List.setIfInBounds_toArray, List.set_cons_zero, List.set_cons_succ])
            refine wpAnyH_ready (rs := [21]) (by kernel_rfl) (by simp) ?_; refine AllReadyH.cons (o := ⟨none, _, _, _, _, _⟩) rfl (fun K hK => ?_) AllReadyH.nil; go_simp
            refine hK.out _ _ ⟨(World.cell?_setCell_other _ _ _ _ (hnb1 _)).trans s0, (World.cell?_setCell_other _ _ _ _ (hnb1 _)).trans s1, (World.cell?_setCell_other _ _ _ _ (hnb1 _)).trans s2⟩ (fun hHeld => ?_); clear hK K; (try simp only [Act.put, List.setIfInBounds_toArray, List.set_cons_zero, List.set_cons_succ])
            refine wpAnyH_done (by kernel_rfl) ?_ _
            rotate_left
            go_simp
            refine hK.out _ _ ⟨q0, q1, q2⟩ (fun hHeld => ?_); clear hK K; (try simp only [Act.put, List.setIfInBounds_toArray, List.set_cons_zero, List.set_cons_succ])
            refine wpAnyH_ready (rs := [1]) (by kernel_rfl) (by simp) ?_; refine AllReadyH.cons (o := ⟨some 53, _, _, _, _, _⟩) rfl (fun K hK => ?_) AllReadyH.nil; go_simp
            refine hK.out _ _ ⟨q0, q1, q2⟩ (fun hHeld => ?_); clear hK K; (try simp only [Act.put, List.setIfInBounds_toArray, List.set_cons_zero, List.set_cons_succ])
            refine wpAnyH_ready (rs := [19]) (by kernel_rfl) (by simp) ?_; refine AllReadyH.cons (o := ⟨some 71, _, _, _, _, _⟩) rfl (fun K hK => ?_) AllReadyH.nil
            refine step_append_lies _ (by rfl) _ _ _ (by rfl) (w.heap.size + 2) 73 i1 _ 5 40 Try.underlying23 hi1 hy0 hy1 hy2 rfl (by omega) (.slice A5 (nf + 1) c5) (nf + 1) _ (by rfl) HGc.out.pr ⟨w7.heap.size, 0, none⟩ 1 1 [.int .i64 8, .int .i64 x0, .int .i64 x1, .int .i64 x2, .int .i64 0] (by rfl) (by rfl) (cells_new _ _ _ _ rfl) (by simp [Value.oneCell']) (by omega) (by unfold maxLen; omega) (by omega) (by simp; omega) (w7.heap.size + 1) (by simp) ?_
            intro gg cap w8 hown8 hgrow8 hat8 hlt8
            have hgr8 : (w7.alloc (.cells #[.int .i64 8, .int .i64 x0, .int .i64 x1, .int .i64 x2, .int .i64 0] 73)).grownBy w8 (Value.slice A5 (nf + 1) c5).ownBlock := ⟨hgrow8.os, hgrow8.tape, hgrow8.output, hgrow8.size, hgrow8.block⟩
            have hfr8 := HGc.out.frame hgr8 fun k hk => (HGc.out.pr.lt k hk).1
            have z8 := hfr8.2.2.1
            have g0 := hfr8.2.2.2.2.2.1
            have g1 := hfr8.2.2.2.2.2.2.1
            clear hfr8
            have hxr8 := HGc.out.xr.kept hgr8 (blocks_ne HGc.out.xr HGc.out.pr int_ne_part)
            have s0 := (hxr8.cellAt j (by omega)).trans HXX.out.1
            have s1 := (hxr8.cellAt (j + 1) (by omega)).trans HXX.out.2.1
            have s2 := (hxr8.cellAt (j + 2) (by omega)).trans HXX.out.2.2
            clear hxr8
            refine hK.out _ _ ⟨s0, s1, s2⟩ (fun hHeld => ?_); clear hK K; (try simp only [Act.put, List.setIfInBounds_toArray, List.set_cons_zero, List.set_cons_succ])
            refine wpAnyH_take (i := 20) (oi := ⟨some 72, _, _, _, _, _⟩) (v := ?_) rfl (by kernel_rfl) (by kernel_rfl) (by kernel_rfl) (fun _ _ _ h => h) (Or.inl ⟨by rfl, ?_⟩) (by assumption) ?_; rotate_left; (focus (intro w hSw; (try dsimp only at hSw); go_simp; (try with_reducible rfl))); (try simp only [Act.put, List.setIfInBounds_toArray, List.set_cons_zero, List.set_cons_succ])
            refine wpAnyH_ready (rs := [21]) (by kernel_rfl) (by simp) ?_; refine AllReadyH.cons (o := ⟨none, _, _, _, _, _⟩) rfl (fun K hK => ?_) AllReadyH.nil; go_simp
            refine hK.out _ _ ⟨(World.cell?_setCell_other _ _ _ _ (hnb1 _)).trans s0, (World.cell?_setCell_other _ _ _ _ (hnb1 _)).trans s1, (World.cell?_setCell_other _ _ _ _ (hnb1 _)).trans s2⟩ (fun hHeld => ?_); clear hK K; (try simp only [Act.put, List.setIfInBounds_toArray, List.set_cons_zero, List.set_cons_succ])
            refine wpAnyH_done (by kernel_rfl) ?_ _
            all_goals
              have HG8 := Lib.hid (HGc.out.parted (Af' := some ⟨gg, 0, none⟩) (nf' := nf + 1 + 1) (cf' := cap) (ps' := (ps ++ [q']) ++ [⟨8, x0, x1, x2, 0⟩]) hgr8 (by rw [List.flatMap_append]; exact hown8) (by rw [List.length_append, ← HGc.out.pl]; rfl))
              have HXL8 := Lib.hid (HXL.out)
              clear hown8 hgrow8 hgr8 hat8 hlt8 z8 g0 g1 s0 s1 s2 q0 q1 q2 o0 o1 o2 f0 f1 z1 HGc HG7 HXX
              go_wp2_with fail
              generalize (w8.setCell ⟨w.heap.size + 1, 0, none⟩ (.slice (some ⟨gg, 0, none⟩) (nf + 1 + 1) cap)) = W8 at *
              have f8 := HG8.out.fb
              have z8 : w.heap.size + 1 < W8.heap.size := HG8.out.lt
              have n1 : IntKind.i64.wrap ((nf : Int) + 1 + 1 - 1) = (nf : Int) + 1 := by rw [IntKind.wrap_i64]; omega
              have n2 : IntKind.i64.wrap ((nf : Int) + 1) = (nf : Int) + 1 := by rw [IntKind.wrap_i64]; omega
              have f8' := (World.cell?_alloc_lt W8 (.cells #[.int .i64 ((nf : Int) + 1)] 3) ⟨w.heap.size + 1, 0, none⟩ z8).trans f8
              have HG9 := Lib.hid (HG8.out.alloc (.cells #[.int .i64 ((nf : Int) + 1)] 3))
              have hcg : j + 2 + 1 ≤ co := by
                rcases HG8.out.xr.2 with ⟨h', _⟩ | ⟨g', cap', cur, h', _, _, hnc, _⟩
                · simp at h'
                · simp at h'
                  omega
              have hcg1 : (j : Int) ≤ (co : Int) := by omega
              have hcg0 : (0 : Int) ≤ (j : Int) := by omega
              go_region_held3 (fun w' => w'.cell? ⟨w.heap.size + 1, 0, none⟩ = some (.slice (some ⟨gg, 0, none⟩) (nf + 1 + 1) cap)) (first | exact f8 | exact f8' | exact f9)
                (first
                  | (refine step_append_lies _ (by rfl) _ _ _ (by rfl) (w.heap.size + 2) 3 i0 (.int .i64 0) 1 8 Try.underlying30 hi0 hz0 hz1 hz2 rfl (by omega) (.slice (some ⟨go, 0, none⟩) j co) j _ (by rfl) (own_shrink HG9.out.xr (by omega)) ⟨W8.heap.size, 0, none⟩ 1 1 [.int .i64 ((nf : Int) + 1)] (by rfl) (by rfl) (cell_one_new _ _ _) (by simp [Value.oneCell']) (by omega) (by unfold maxLen; omega) (by omega) (by simp; omega) W8.heap.size.succ (by simp) ?_; intro gh cah w9 hown9 hgrow9' hat9 hlt9; have hgrow9 : (W8.alloc (.cells #[.int .i64 ((nf : Int) + 1)] 3)).grownBy w9 (Value.slice (some ⟨go, 0, none⟩) j co).ownBlock := ⟨hgrow9'.os, hgrow9'.tape, hgrow9'.output, hgrow9'.size, hgrow9'.block⟩; have HGA := Lib.hid (HG9.out.opened (xs' := X.take j ++ [(nf : Int) + 1]) (own_shrink HG9.out.xr (by omega : j ≤ j + 2 + 1)) hgrow9 (by first | (simpa using hown9) | (simpa [List.map_take] using hown9) | (rw [List.map_append, List.map_take]; exact hown9)) (by have := HXL8.out; rw [List.length_append, List.length_take]; show _ = _ + 1; omega)); have f9 := HGA.out.fb))
              clear f8 f8' f9 hgrow9 hgrow9' hown9 hat9 hlt9 HG8 HG9 z8 n1 n2
              go_wp2_with fail
              go_roundw
              case rel => exact ⟨k - 1, m + 1, j + 1, nf + 1 + 1, cap, _, _, _, by omega, by go_num, by omega, by omega, (show GI _ _ _ _ _ _ _ _ _ _ _ _ _ _ _ _ _ _ from HGA.out.mono (by have := HP1.out; omega))⟩
              case measure => simp [intOf]; omega
          · have hx7' : ¬ (x7 : Int) = 0 := by omega
            go_wp2_with fail
            refine (pick_any g A n c bs (P1 + 4) 2 _ HG7.out.rd HN.out hby hs (by omega) (by omega)).mono ?_
            rintro e wz ⟨xz, rfl, _, _, hrz, htz⟩
            have HGz := Lib.hid (HG7.out.pick hrz htz)
            clear hrz htz HG7
            by_cases hxz : xz = 0
            · subst hxz
              obtain ⟨go, cg, hov⟩ := row_pos HGz.out.xr (by omega)
              cases hov
              have f0 := HGz.out.fb
              have f1 := HGz.out.fz
              have z1 : w.heap.size + 1 < wz.heap.size := HGz.out.lt
              have hxl := HGz.out.xl
              have o0 := HGz.out.xr.cellAt (j + 1) (by omega)
              have o1 := HGz.out.xr.cellAt (j + 2) (by omega)
              rw [List.getElem?_map] at o0 o1
              generalize hX : xs ++ [(nf : Int)] = X at *
              have HX2 := Lib.hid hX
              clear hX
              rw [List.getElem?_eq_getElem (by omega), Option.map_some] at o0 o1
              generalize X[j + 1]'_ = x0 at o0
              generalize X[j + 2]'_ = x1 at o1
              have HXL := Lib.hid hxl
              clear hxl
              have hgo := (HGz.out.xr.lt go rfl).2
              have hgo2 := (HGz.out.xr.lt go rfl).1
              go_wp2_with fail
              have a2 : IntKind.i64.wrap (((j : Int) + 2 + 1) - 2) = ((j : Int) + 1) := by rw [IntKind.wrap_i64]; omega
              have a1 : IntKind.i64.wrap (((j : Int) + 2 + 1) - 1) = ((j : Int) + 2) := by rw [IntKind.wrap_i64]; omega
              have a2' : IntKind.i64.wrap (((j : Int) + 1)) = ((j : Int) + 1) := by rw [IntKind.wrap_i64]; omega
              have a1' : IntKind.i64.wrap (((j : Int) + 2)) = ((j : Int) + 2) := by rw [IntKind.wrap_i64]; omega
              have b2 : ((j : Int) + 1) < ((j : Int) + 2 + 1) := by omega
              have b1 : ((j : Int) + 2) < ((j : Int) + 2 + 1) := by omega
              have b0 : 0 ≤ ((j : Int) + 1) := by omega
              have b00 : 0 ≤ ((j : Int) + 2) := by omega
              have t1 : (((j : Int) + 1)).toNat = j + 1 := by omega
              have t2 : (((j : Int) + 2)).toNat = j + 2 := by omega
              have HXX := Lib.hid (And.intro ((HGz.out.xr.cellAt (j + 1) (by omega)).symm.trans o0) ((HGz.out.xr.cellAt (j + 2) (by omega)).symm.trans o1))
              have hnb1 : ∀ q : Nat, (⟨w.heap.size + 1, 0, none⟩ : Addr) ≠ ⟨go, q, none⟩ := fun q e => by have := congrArg Addr.block e; simp at this; omega
              refine wp_region_held_drew (S := (fun w' => w'.cell? ⟨go, j + 1, none⟩ = some (.int .i64 x0) ∧ w'.cell? ⟨go, j + 2, none⟩ = some (.int .i64 x1))) (by kernel_rfl) ⟨o0, o1⟩ (fun hHeld => ?_)
              refine wpAnyH_take (i := 0) (oi := ⟨some 91, _, _, _, _, _⟩) (v := ?_) rfl (by kernel_rfl) (by kernel_rfl) (by kernel_rfl) (fun _ _ _ h => h) (Or.inl ⟨by rfl, ?_⟩) (by assumption) ?_; rotate_left; (focus (intro w hSw; (try dsimp only at hSw); go_simp; (try with_reducible rfl))); (try simp only [Act.put, List.setIfInBounds_toArray, List.set_cons_zero, List.set_cons_succ])
              refine wpAnyH_take (i := 2) (oi := ⟨some 93, _, _, _, _, _⟩) (v := ?_) rfl (by kernel_rfl) (by kernel_rfl) (by kernel_rfl) (fun _ _ _ h => h) (Or.inl ⟨by rfl, ?_⟩) (by assumption) ?_; rotate_left; (focus (intro w hSw; (try dsimp only at hSw); go_simp; (try with_reducible rfl))); (try simp only [Act.put, List.setIfInBounds_toArray, List.set_cons_zero, List.set_cons_succ])
              refine wpAnyH_take (i := 5) (oi := ⟨some 96, _, _, _, _, _⟩) (v := ?_) rfl (by kernel_rfl) (by kernel_rfl) (by kernel_rfl) (fun _ _ _ h => h) (Or.inl ⟨by rfl, ?_⟩) (by assumption) ?_; rotate_left; (focus (intro w hSw; (try dsimp only at hSw); go_simp; (try with_reducible rfl))); (try simp only [Act.put, List.setIfInBounds_toArray, List.set_cons_zero, List.set_cons_succ])
              refine wpAnyH_take (i := 6) (oi := ⟨some 97, _, _, _, _, _⟩) (v := ?_) rfl (by kernel_rfl) (by kernel_rfl) (by kernel_rfl) (fun _ _ _ h => h) (Or.inl ⟨by rfl, ?_⟩) (by assumption) ?_; rotate_left; (focus (intro w hSw; (try dsimp only at hSw); go_simp; (try with_reducible rfl))); (try simp only [Act.put, List.setIfInBounds_toArray, List.set_cons_zero, List.set_cons_succ])
              refine wpAnyH_take (i := 7) (oi := ⟨some 98, _, _, _, _, _⟩) (v := ?_) rfl (by kernel_rfl) (by kernel_rfl) (by kernel_rfl) (fun _ _ _ h => h) (Or.inl ⟨by rfl, ?_⟩) (by assumption) ?_; rotate_left; (focus (intro w hSw; (try dsimp only at hSw); go_simp; (try with_reducible rfl))); (try simp only [Act.put, List.setIfInBounds_toArray, List.set_cons_zero, List.set_cons_succ])
              refine wpAnyH_take (i := 8) (oi := ⟨some 99, _, _, _, _, _⟩) (v := ?_) rfl (by kernel_rfl) (by kernel_rfl) (by kernel_rfl) (fun _ _ _ h => h) (Or.inl ⟨by rfl, ?_⟩) (by assumption) ?_; rotate_left; (focus (intro w hSw; (try dsimp only at hSw); go_simp; (try with_reducible rfl))); (try simp only [Act.put, List.setIfInBounds_toArray, List.set_cons_zero, List.set_cons_succ])
              refine wpAnyH_take (i := 9) (oi := ⟨some 100, _, _, _, _, _⟩) (v := ?_) rfl (by kernel_rfl) (by kernel_rfl) (by kernel_rfl) (fun _ _ _ h => h) (Or.inl ⟨by rfl, ?_⟩) (by assumption) ?_; rotate_left; (focus (intro w hSw; (try dsimp only at hSw); go_simp; (try with_reducible rfl))); (try simp only [Act.put, List.setIfInBounds_toArray, List.set_cons_zero, List.set_cons_succ])
              refine wpAnyH_take (i := 10) (oi := ⟨some 101, _, _, _, _, _⟩) (v := ?_) rfl (by kernel_rfl) (by kernel_rfl) (by kernel_rfl) (fun _ _ _ h => h) (Or.inl ⟨by rfl, ?_⟩) (by assumption) ?_; rotate_left; (focus (intro w hSw; (try dsimp only at hSw); go_simp; (try with_reducible rfl))); (try simp only [Act.put, List.setIfInBounds_toArray, List.set_cons_zero, List.set_cons_succ])
              refine wpAnyH_take (i := 11) (oi := ⟨some 102, _, _, _, _, _⟩) (v := ?_) rfl (by kernel_rfl) (by kernel_rfl) (by kernel_rfl) (fun _ _ _ h => h) (Or.inl ⟨by rfl, ?_⟩) (by assumption) ?_; rotate_left; (focus (intro w hSw; (try dsimp only at hSw); go_simp; (try with_reducible rfl))); (try simp only [Act.put, List.setIfInBounds_toArray, List.set_cons_zero, List.set_cons_succ])
              refine wpAnyH_take (i := 12) (oi := ⟨some 103, _, _, _, _, _⟩) (v := ?_) rfl (by kernel_rfl) (by kernel_rfl) (by kernel_rfl) (fun _ _ _ h => h) (Or.inl ⟨by rfl, ?_⟩) (by assumption) ?_; rotate_left; (focus (intro w hSw; (try dsimp only at hSw); go_simp; (try with_reducible rfl))); (try simp only [Act.put, List.setIfInBounds_toArray, List.set_cons_zero, List.set_cons_succ])
              refine wpAnyH_take (i := 13) (oi := ⟨some 104, _, _, _, _, _⟩) (v := ?_) rfl (by kernel_rfl) (by kernel_rfl) (by kernel_rfl) (fun _ _ _ h => h) (Or.inl ⟨by rfl, ?_⟩) (by assumption) ?_; rotate_left; (focus (intro w hSw; (try dsimp only at hSw); go_simp; (try with_reducible rfl))); (try simp only [Act.put, List.setIfInBounds_toArray, List.set_cons_zero, List.set_cons_succ])
              refine wpAnyH_take (i := 14) (oi := ⟨some 105, _, _, _, _, _⟩) (v := ?_) rfl (by kernel_rfl) (by kernel_rfl) (by kernel_rfl) (fun _ _ _ h => h) (Or.inl ⟨by rfl, ?_⟩) (by assumption) ?_; rotate_left; (focus (intro w hSw; (try dsimp only at hSw); go_simp; (try with_reducible rfl))); (try simp only [Act.put, List.setIfInBounds_toArray, List.set_cons_zero, List.set_cons_succ])
              refine wpAnyH_ready (rs := [1, 3]) (by kernel_rfl) (by simp) ?_; refine AllReadyH.cons (o := ⟨some 92, _, _, _, _, _⟩) rfl (fun K hK => ?_) (AllReadyH.cons (o := ⟨some 94, _, _, _, _, _⟩) rfl (fun K hK => ?_) AllReadyH.nil)
              go_simp
              refine hK.out _ _ ⟨o0, o1⟩ (fun hHeld => ?_); clear hK K; (try simp only [Act.put, List.setIfInBounds_toArray, List.set_cons_zero, List.set_cons_succ])
              refine wpAnyH_ready (rs := [3]) (by kernel_rfl) (by simp) ?_; refine AllReadyH.cons (o := ⟨some 94, _, _, _, _, _⟩) rfl (fun K hK => ?_) AllReadyH.nil; go_simp
              go_at_call 65
              refine (pick_any g A n c bs (P1 + 4 + 1) 6 _ ?_ HN.out hby hs ?_ ?_).mono ?_
              (first | exact HGz.out.rd | exact HGz.out.rd.drew)
              omega
              omega
              rintro e w8 ⟨x8, rfl, hx8', _, hr8, ht8'⟩
              have hx8 : (x8 : Int) < 6 := hx8' (by omega)
              have ht8 : Tch g (g + 1) wz w8 := ⟨ht8'.os, ht8'.tape, ht8'.output, ht8'.size, ht8'.block⟩
              have HGP := Lib.hid (HGz.out.pick hr8 ht8)
              have p0 := (HGP.out.xr.cellAt (j + 1) (by omega)).trans HXX.out.1
              have p1 := (HGP.out.xr.cellAt (j + 2) (by omega)).trans HXX.out.2
              have g0 := HGP.out.fb
              have g1 := HGP.out.fz
              have z8 : w.heap.size + 1 < w8.heap.size := HGP.out.lt
              have hgo8 := (HGP.out.xr.lt go rfl).2
              have a8 : IntKind.i64.wrap (2 + (x8 : Int)) = 2 + (x8 : Int) := (by rw [IntKind.wrap_i64]; omega)
              have q0 := (World.cell?_alloc_lt w8 (.cells #[.int .i64 (2 + (x8 : Int)), .int .i64 x0, .int .i64 x1, .int .i64 (-1), .int .i64 0] 73) ⟨go, j + 1, none⟩ hgo8).trans p0
              have q1 := (World.cell?_alloc_lt w8 (.cells #[.int .i64 (2 + (x8 : Int)), .int .i64 x0, .int .i64 x1, .int .i64 (-1), .int .i64 0] 73) ⟨go, j + 2, none⟩ hgo8).trans p1
              have HGc := Lib.hid (HGP.out.alloc (.cells #[.int .i64 (2 + (x8 : Int)), .int .i64 x0, .int .i64 x1, .int .i64 (-1), .int .i64 0] 73))
              clear hx8' hr8 ht8'
              refine hK.out _ _ ⟨p0, p1⟩ (fun hHeld => ?_); clear hK K; (try simp only [Act.put, List.setIfInBounds_toArray, List.set_cons_zero, List.set_cons_succ])
              refine wpAnyH_take (i := 4) (oi := ⟨some 95, _, _, _, _, _⟩) (v := ?_) rfl (by kernel_rfl) (by kernel_rfl) (by kernel_rfl) (fun _ _ _ h => h) (Or.inl ⟨by rfl, ?_⟩) (by assumption) ?_; rotate_left; (focus (intro w hSw; (try dsimp only at hSw); go_simp; (try with_reducible rfl))); (try simp only [Act.put, List.setIfInBounds_toArray, List.set_cons_zero, List.set_cons_succ])
              refine wpAnyH_take (i := 15) (oi := ⟨some 106, _, _, _, _, _⟩) (v := ?_) rfl (by kernel_rfl) (by kernel_rfl) (by kernel_rfl) (fun _ _ _ h => h) (Or.inl ⟨by rfl, ?_⟩) (by assumption) ?_; rotate_left; (focus (intro w hSw; (try dsimp only at hSw); go_simp; (try with_reducible rfl))); (try simp only [Act.put, List.setIfInBounds_toArray, List.set_cons_zero, List.set_cons_succ])
              refine wpAnyH_ready (rs := [16]) (by kernel_rfl) (by simp) ?_; refine AllReadyH.cons (o := ⟨some 107, _, _, _, _, _⟩) rfl (fun K hK => ?_) AllReadyH.nil; go_simp
              refine hK.out _ _ ⟨q0, q1⟩ (fun hHeld => ?_); clear hK K; (try simp only [Act.put, List.setIfInBounds_toArray, List.set_cons_zero, List.set_cons_succ])
              refine wpAnyH_ready (rs := [17]) (by kernel_rfl) (by simp) ?_; refine AllReadyH.cons (o := ⟨some 108, _, _, _, _, _⟩) rfl (fun K hK => ?_) AllReadyH.nil
              refine step_append_lies _ (by rfl) _ _ _ (by rfl) (w.heap.size + 2) 73 i1 _ 5 40 Try.underlying23 hi1 hy0 hy1 hy2 rfl (by omega) (.slice A5 (nf + 1) c5) (nf + 1) _ (by rfl) HGc.out.pr ⟨w8.heap.size, 0, none⟩ 1 1 [.int .i64 (2 + (x8 : Int)), .int .i64 x0, .int .i64 x1, .int .i64 (-1), .int .i64 0] (by rfl) (by rfl) (cells_new _ _ _ _ rfl) (by simp [Value.oneCell']) (by omega) (by unfold maxLen; omega) (by omega) (by simp; omega) (w8.heap.size + 1) (by simp) ?_
              intro gg cap w9 hown9 hgrow9 hat9 hlt9
              have hgr9 : (w8.alloc (.cells #[.int .i64 (2 + (x8 : Int)), .int .i64 x0, .int .i64 x1, .int .i64 (-1), .int .i64 0] 73)).grownBy w9 (Value.slice A5 (nf + 1) c5).ownBlock := ⟨hgrow9.os, hgrow9.tape, hgrow9.output, hgrow9.size, hgrow9.block⟩
              have hfr9 := HGc.out.frame hgr9 fun k hk => (HGc.out.pr.lt k hk).1
              have z9 := hfr9.2.2.1
              have h0 := hfr9.2.2.2.2.2.1
              have h1 := hfr9.2.2.2.2.2.2.1
              clear hfr9
              have hxr9 := HGc.out.xr.kept hgr9 (blocks_ne HGc.out.xr HGc.out.pr int_ne_part)
              have s0 := (hxr9.cellAt (j + 1) (by omega)).trans HXX.out.1
              have s1 := (hxr9.cellAt (j + 2) (by omega)).trans HXX.out.2
              clear hxr9
              refine hK.out _ _ ⟨s0, s1⟩ (fun hHeld => ?_); clear hK K; (try simp only [Act.put, List.setIfInBounds_toArray, List.set_cons_zero, List.set_cons_succ])
              refine wpAnyH_take (i := 18) (oi := ⟨some 109, _, _, _, _, _⟩) (v := ?_) rfl (by kernel_rfl) (by kernel_rfl) (by kernel_rfl) (fun _ _ _ h => h) (Or.inl ⟨by rfl, ?_⟩) (by assumption) ?_; rotate_left; (focus (intro w hSw; (try dsimp only at hSw); go_simp; (try with_reducible rfl))); (try simp only [Act.put, List.setIfInBounds_toArray, List.set_cons_zero, List.set_cons_succ])
              refine wpAnyH_ready (rs := [19]) (by kernel_rfl) (by simp) ?_; refine AllReadyH.cons (o := ⟨none, _, _, _, _, _⟩) rfl (fun K hK => ?_) AllReadyH.nil; go_simp
              refine hK.out _ _ ⟨(World.cell?_setCell_other _ _ _ _ (hnb1 _)).trans s0, (World.cell?_setCell_other _ _ _ _ (hnb1 _)).trans s1⟩ (fun hHeld => ?_); clear hK K; (try simp only [Act.put, List.setIfInBounds_toArray, List.set_cons_zero, List.set_cons_succ])
              refine wpAnyH_done (by kernel_rfl) ?_ _
              rotate_left
              go_simp
              go_at_call 65
              refine (pick_any g A n c bs (P1 + 4 + 1) 6 _ ?_ HN.out hby hs ?_ ?_).mono ?_
              (first | exact HGz.out.rd | exact HGz.out.rd.drew)
              omega
              omega
              rintro e w8 ⟨x8, rfl, hx8', _, hr8, ht8'⟩
              have hx8 : (x8 : Int) < 6 := hx8' (by omega)
              have ht8 : Tch g (g + 1) wz w8 := ⟨ht8'.os, ht8'.tape, ht8'.output, ht8'.size, ht8'.block⟩
              have HGP := Lib.hid (HGz.out.pick hr8 ht8)
              have p0 := (HGP.out.xr.cellAt (j + 1) (by omega)).trans HXX.out.1
              have p1 := (HGP.out.xr.cellAt (j + 2) (by omega)).trans HXX.out.2
              have g0 := HGP.out.fb
              have g1 := HGP.out.fz
              have z8 : w.heap.size + 1 < w8.heap.size := HGP.out.lt
              have hgo8 := (HGP.out.xr.lt go rfl).2
              have a8 : IntKind.i64.wrap (2 + (x8 : Int)) = 2 + (x8 : Int) := (by rw [IntKind.wrap_i64]; omega)
              have q0 := (World.cell?_alloc_lt w8 (.cells #[.int .i64 (2 + (x8 : Int)), .int .i64 x0, .int .i64 x1, .int .i64 (-1), .int .i64 0] 73) ⟨go, j + 1, none⟩ hgo8).trans p0
              have q1 := (World.cell?_alloc_lt w8 (.cells #[.int .i64 (2 + (x8 : Int)), .int .i64 x0, .int .i64 x1, .int .i64 (-1), .int .i64 0] 73) ⟨go, j + 2, none⟩ hgo8).trans p1
              have HGc := Lib.hid (HGP.out.alloc (.cells #[.int .i64 (2 + (x8 : Int)), .int .i64 x0, .int .i64 x1, .int .i64 (-1), .int .i64 0] 73))
              clear hx8' hr8 ht8'
              refine hK.out _ _ ⟨p0, p1⟩ (fun hHeld => ?_); clear hK K; (try simp only [Act.put, List.setIfInBounds_toArray, List.set_cons_zero, List.set_cons_succ])
              refine wpAnyH_take (i := 4) (oi := ⟨some 95, _, _, _, _, _⟩) (v := ?_) rfl (by kernel_rfl) (by kernel_rfl) (by kernel_rfl) (fun _ _ _ h => h) (Or.inl ⟨by rfl, ?_⟩) (by assumption) ?_; rotate_left; (focus (intro w hSw; (try dsimp only at hSw); go_simp; (try with_reducible rfl))); (try simp only [Act.put, List.setIfInBounds_toArray, List.set_cons_zero, List.set_cons_succ])
              refine wpAnyH_take (i := 15) (oi := ⟨some 106, _, _, _, _, _⟩) (v := ?_) rfl (by kernel_rfl) (by kernel_rfl) (by kernel_rfl) (fun _ _ _ h => h) (Or.inl ⟨by rfl, ?_⟩) (by assumption) ?_; rotate_left; (focus (intro w hSw; (try dsimp only at hSw); go_simp; (try with_reducible rfl))); (try simp only [Act.put, List.setIfInBounds_toArray, List.set_cons_zero, List.set_cons_succ])
              refine wpAnyH_ready (rs := [1, 16]) (by kernel_rfl) (by simp) ?_; refine AllReadyH.cons (o := ⟨some 92, _, _, _, _, _⟩) rfl (fun K hK => ?_) (AllReadyH.cons (o := ⟨some 107, _, _, _, _, _⟩) rfl (fun K hK => ?_) AllReadyH.nil)
              go_simp
              refine hK.out _ _ ⟨p0, p1⟩ (fun hHeld => ?_); clear hK K; (try simp only [Act.put, List.setIfInBounds_toArray, List.set_cons_zero, List.set_cons_succ])
              refine wpAnyH_ready (rs := [16]) (by kernel_rfl) (by simp) ?_; refine AllReadyH.cons (o := ⟨some 107, _, _, _, _, _⟩) rfl (fun K hK => ?_) AllReadyH.nil; go_simp
              refine hK.out _ _ ⟨q0, q1⟩ (fun hHeld => ?_); clear hK K; (try simp only [Act.put, List.setIfInBounds_toArray, List.set_cons_zero, List.set_cons_succ])
              refine wpAnyH_ready (rs := [17]) (by kernel_rfl) (by simp) ?_; refine AllReadyH.cons (o := ⟨some 108, _, _, _, _, _⟩) rfl (fun K hK => ?_) AllReadyH.nil
              refine step_append_lies _ (by rfl) _ _ _ (by rfl) (w.heap.size + 2) 73 i1 _ 5 40 Try.underlying23 hi1 hy0 hy1 hy2 rfl (by omega) (.slice A5 (nf + 1) c5) (nf + 1) _ (by rfl) HGc.out.pr ⟨w8.heap.size, 0, none⟩ 1 1 [.int .i64 (2 + (x8 : Int)), .int .i64 x0, .int .i64 x1, .int .i64 (-1), .int .i64 0] (by rfl) (by rfl) (cells_new _ _ _ _ rfl) (by simp [Value.oneCell']) (by omega) (by unfold maxLen; omega) (by omega) (by simp; omega) (w8.heap.size + 1) (by simp) ?_
              intro gg cap w9 hown9 hgrow9 hat9 hlt9
              have hgr9 : (w8.alloc (.cells #[.int .i64 (2 + (x8 : Int)), .int .i64 x0, .int .i64 x1, .int .i64 (-1), .int .i64 0] 73)).grownBy w9 (Value.slice A5 (nf + 1) c5).ownBlock := ⟨hgrow9.os, hgrow9.tape, hgrow9.output, hgrow9.size, hgrow9.block⟩
              have hfr9 := HGc.out.frame hgr9 fun k hk => (HGc.out.pr.lt k hk).1
              have z9 := hfr9.2.2.1
              have h0 := hfr9.2.2.2.2.2.1
              have h1 := hfr9.2.2.2.2.2.2.1
              clear hfr9
              have hxr9 := HGc.out.xr.kept hgr9 (blocks_ne HGc.out.xr HGc.out.pr int_ne_part)
              have s0 := (hxr9.cellAt (j + 1) (by omega)).trans HXX.out.1
              have s1 := (hxr9.cellAt (j + 2) (by omega)).trans HXX.out.2
              clear hxr9
              refine hK.out _ _ ⟨s0, s1⟩ (fun hHeld => ?_); clear hK K; (try simp only [Act.put, List.setIfInBounds_toArray, List.set_cons_zero, List.set_cons_succ])
              refine wpAnyH_take (i := 18) (oi := ⟨some 109, _, _, _, _, _⟩) (v := ?_) rfl (by kernel_rfl) (by kernel_rfl) (by kernel_rfl) (fun _ _ _ h => h) (Or.inl ⟨by rfl, ?_⟩) (by assumption) ?_; rotate_left; (focus (intro w hSw; (try dsimp only at hSw); go_simp; (try with_reducible rfl))); (try simp only [Act.put, List.setIfInBounds_toArray, List.set_cons_zero, List.set_cons_succ])
              refine wpAnyH_ready (rs := [19]) (by kernel_rfl) (by simp) ?_; refine AllReadyH.cons (o := ⟨none, _, _, _, _, _⟩) rfl (fun K hK => ?_) AllReadyH.nil; go_simp
              refine hK.out _ _ ⟨(World.cell?_setCell_other _ _ _ _ (hnb1 _)).trans s0, (World.cell?_setCell_other _ _ _ _ (hnb1 _)).trans s1⟩ (fun hHeld => ?_); clear hK K; (try simp only [Act.put, List.setIfInBounds_toArray, List.set_cons_zero, List.set_cons_succ])
              refine wpAnyH_done (by kernel_rfl) ?_ _
              rotate_left
              go_simp
              refine hK.out _ _ ⟨q0, q1⟩ (fun hHeld => ?_); clear hK K; (try simp only [Act.put, List.setIfInBounds_toArray, List.set_cons_zero, List.set_cons_succ])
              refine wpAnyH_ready (rs := [1]) (by kernel_rfl) (by simp) ?_; refine AllReadyH.cons (o := ⟨some 92, _, _, _, _, _⟩) rfl (fun K hK => ?_) AllReadyH.nil; go_simp
              refine hK.out _ _ ⟨q0, q1⟩ (fun hHeld => ?_); clear hK K; (try simp only [Act.put, List.setIfInBounds_toArray, List.set_cons_zero, List.set_cons_succ])
              refine wpAnyH_ready (rs := [17]) (by kernel_rfl) (by simp) ?_; refine AllReadyH.cons (o := ⟨some 108, _, _, _, _, _⟩) rfl (fun K hK => ?_) AllReadyH.nil
              refine step_append_lies _ (by rfl) _ _ _ (by rfl) (w.heap.size + 2) 73 i1 _ 5 40 Try.underlying23 hi1 hy0 hy1 hy2 rfl (by omega) (.slice A5 (nf + 1) c5) (nf + 1) _ (by rfl) HGc.out.pr ⟨w8.heap.size, 0, none⟩ 1 1 [.int .i64 (2 + (x8 : Int)), .int .i64 x0, .int .i64 x1, .int .i64 (-1), .int .i64 0] (by rfl) (by rfl) (cells_new _ _ _ _ rfl) (by simp [Value.oneCell']) (by omega) (by unfold maxLen; omega) (by omega) (by simp; omega) (w8.heap.size + 1) (by simp) ?_
              intro gg cap w9 hown9 hgrow9 hat9 hlt9
              have hgr9 : (w8.alloc (.cells #[.int .i64 (2 + (x8 : Int)), .int .i64 x0, .int .i64 x1, .int .i64 (-1), .int .i64 0] 73)).grownBy w9 (Value.slice A5 (nf + 1) c5).ownBlock := ⟨hgrow9.os, hgrow9.tape, hgrow9.output, hgrow9.size, hgrow9.block⟩
              have hfr9 := HGc.out.frame hgr9 fun k hk => (HGc.out.pr.lt k hk).1
              have z9 := hfr9.2.2.1
              have h0 := hfr9.2.2.2.2.2.1
              have h1 := hfr9.2.2.2.2.2.2.1
              clear hfr9
              have hxr9 := HGc.out.xr.kept hgr9 (blocks_ne HGc.out.xr HGc.out.pr int_ne_part)
              have s0 := (hxr9.cellAt (j + 1) (by omega)).trans HXX.out.1
              have s1 := (hxr9.cellAt (j + 2) (by omega)).trans HXX.out.2
              clear hxr9
              refine hK.out _ _ ⟨s0, s1⟩ (fun hHeld => ?_); clear hK K; (try simp only [Act.put, List.setIfInBounds_toArray, List.set_cons_zero, List.set_cons_succ])
              refine wpAnyH_take (i := 18) (oi := ⟨some 109, _, _, _, _, _⟩) (v := ?_) rfl (by kernel_rfl) (by kernel_rfl) (by kernel_rfl) (fun _ _ _ h => h) (Or.inl ⟨by rfl, ?_⟩) (by assumption) ?_; rotate_left; (focus (intro w hSw; (try dsimp only at hSw); go_simp; (try with_reducible rfl))); (try simp only [Act.put, List.setIfInBounds_toArray, List.set_cons_zero, List.set_cons_succ])
              refine wpAnyH_ready (rs := [19]) (by kernel_rfl) (by simp) ?_; refine AllReadyH.cons (o := ⟨none, _, _, _, _, _⟩) rfl (fun K hK => ?_) AllReadyH.nil; go_simp
              refine hK.out _ _ ⟨(World.cell?_setCell_other _ _ _ _ (hnb1 _)).trans s0, (World.cell?_setCell_other _ _ _ _ (hnb1 _)).trans s1⟩ (fun hHeld => ?_); clear hK K; (try simp only [Act.put, List.setIfInBounds_toArray, List.set_cons_zero, List.set_cons_succ])
              refine wpAnyH_done (by kernel_rfl) ?_ _
              all_goals
                have HG8 := Lib.hid (HGc.out.parted (Af' := some ⟨gg, 0, none⟩) (nf' := nf + 1 + 1) (cf' := cap) (ps' := (ps ++ [q']) ++ [⟨2 + (x8 : Int), x0, x1, -1, 0⟩]) hgr9 (by rw [List.flatMap_append]; exact hown9) (by rw [List.length_append, ← HGc.out.pl]; rfl))
                have HXL8 := Lib.hid (HXL.out)
                clear hown9 hgrow9 hgr9 hat9 hlt9 z9 h0 h1 s0 s1 q0 q1 p0 p1 o0 o1 g0 g1 f0 f1 z1 z8 HGc HGP HGz HXX a8
                go_wp2_with fail
                generalize (w9.setCell ⟨w.heap.size + 1, 0, none⟩ (.slice (some ⟨gg, 0, none⟩) (nf + 1 + 1) cap)) = W8 at *
                have f8 := HG8.out.fb
                have z8 : w.heap.size + 1 < W8.heap.size := HG8.out.lt
                have n1 : IntKind.i64.wrap (((nf : Int) + 1) + 1 - 1) = ((nf : Int) + 1) := by rw [IntKind.wrap_i64]; omega
                have n2 : IntKind.i64.wrap (((nf : Int) + 1)) = ((nf : Int) + 1) := by rw [IntKind.wrap_i64]; omega
                have f8' := (World.cell?_alloc_lt W8 (.cells #[.int .i64 (((nf : Int) + 1))] 3) ⟨w.heap.size + 1, 0, none⟩ z8).trans f8
                have HG9 := Lib.hid (HG8.out.alloc (.cells #[.int .i64 (((nf : Int) + 1))] 3))
                have hcg : j + 2 + 1 ≤ co := by
                  rcases HG8.out.xr.2 with ⟨h', _⟩ | ⟨g', cap', cur, h', _, _, hnc, _⟩
                  · simp at h'
                  · simp at h'
                    omega
                have hcg1 : ((j : Int) + 1) ≤ (co : Int) := by omega
                go_region_held3 (fun w' => w'.cell? ⟨w.heap.size + 1, 0, none⟩ = some (.slice (some ⟨gg, 0, none⟩) (nf + 1 + 1) cap)) (first | exact f8 | exact f8' | exact f9)
                  (first
                    | (refine step_append_lies _ (by rfl) _ _ _ (by rfl) (w.heap.size + 2) 3 i0 (.int .i64 0) 1 8 Try.underlying30 hi0 hz0 hz1 hz2 rfl (by omega) (.slice (some ⟨go, 0, none⟩) (j + 1) co) (j + 1) _ (by rfl) (own_shrink HG9.out.xr (by omega)) ⟨W8.heap.size, 0, none⟩ 1 1 [.int .i64 (((nf : Int) + 1))] (by rfl) (by rfl) (cell_one_new _ _ _) (by simp [Value.oneCell']) (by omega) (by unfold maxLen; omega) (by omega) (by simp; omega) W8.heap.size.succ (by simp) ?_; intro gh cah w10 hown10 hgrow10' hat10 hlt10; have hgrow10 : (W8.alloc (.cells #[.int .i64 (((nf : Int) + 1))] 3)).grownBy w10 (Value.slice (some ⟨go, 0, none⟩) (j + 1) co).ownBlock := ⟨hgrow10'.os, hgrow10'.tape, hgrow10'.output, hgrow10'.size, hgrow10'.block⟩; have HGA := Lib.hid (HG9.out.opened (xs' := X.take (j + 1) ++ [((nf : Int) + 1)]) (own_shrink HG9.out.xr (by omega : j + 1 ≤ j + 2 + 1)) hgrow10 (by first | (simpa using hown10) | (simpa [List.map_take] using hown10) | (rw [List.map_append, List.map_take]; exact hown10)) (by have := HXL8.out; rw [List.length_append, List.length_take]; show _ = _ + 1; omega)); have f9 := HGA.out.fb))
                clear f8 f8' f9 hgrow10 hgrow10' hown10 hat10 hlt10 HG8 HG9 z8 n1 n2 a1 a2 a1' a2' t1 t2
                go_wp2_with fail
                go_roundw
                case rel => exact ⟨k - 1, m + 1, j + 1 + 1, nf + 1 + 1, cap, _, _, _, by omega, by go_num, by omega, by omega, (show GI _ _ _ _ _ _ _ _ _ _ _ _ _ _ _ _ _ _ from HGA.out.mono (by have := HP1.out; omega))⟩
                case measure => simp [intOf]; omega
            · go_wp2_with fail
              go_roundw
              case rel => exact ⟨k - 1, m + 1, j + 2 + 1, nf + 1, c5, A5, _, _, by omega, by go_num, by omega, by omega, (show GI _ _ _ _ _ _ _ _ _ _ _ _ _ _ _ _ _ _ from HGz.out.mono (by have := HP1.out; omega))⟩
              case measure => simp [intOf]; omega
        · by_cases h2 : 2 ≤ no + 1
          · obtain ⟨j, rfl⟩ : ∃ j, no = j + 1 := ⟨no - 1, by omega⟩
            go_wp2_with fail
            generalize (w5.setCell ⟨w.heap.size + 1, 0, none⟩ (.slice A5 (nf + 1) c5)) = W6 at *
            refine (pick_any g A n c bs (P1 + 3) 2 W6 HG6.out.rd HN.out hby hs (by omega) (by omega)).mono ?_
            rintro e wz ⟨xz, rfl, _, _, hrz, htz⟩
            have HGz := Lib.hid (HG6.out.pick hrz htz)
            clear hrz htz HG6
            by_cases hxz : xz = 0
            · subst hxz
              obtain ⟨go, cg, hov⟩ := row_pos HGz.out.xr (by omega)
              cases hov
              have f0 := HGz.out.fb
              have f1 := HGz.out.fz
              have z1 : w.heap.size + 1 < wz.heap.size := HGz.out.lt
              have hxl := HGz.out.xl
              have o0 := HGz.out.xr.cellAt (j) (by omega)
              have o1 := HGz.out.xr.cellAt (j + 1) (by omega)
              rw [List.getElem?_map] at o0 o1
              generalize hX : xs ++ [(nf : Int)] = X at *
              have HX2 := Lib.hid hX
              clear hX
              rw [List.getElem?_eq_getElem (by omega), Option.map_some] at o0 o1
              generalize X[j]'_ = x0 at o0
              generalize X[j + 1]'_ = x1 at o1
              have HXL := Lib.hid hxl
              clear hxl
              have hgo := (HGz.out.xr.lt go rfl).2
              have hgo2 := (HGz.out.xr.lt go rfl).1
              go_wp2_with fail
              have a2 : IntKind.i64.wrap (((j : Int) + 1 + 1) - 2) = (j : Int) := by rw [IntKind.wrap_i64]; omega
              have a1 : IntKind.i64.wrap (((j : Int) + 1 + 1) - 1) = ((j : Int) + 1) := by rw [IntKind.wrap_i64]; omega
              have a2' : IntKind.i64.wrap ((j : Int)) = (j : Int) := by rw [IntKind.wrap_i64]; omega
              have a1' : IntKind.i64.wrap (((j : Int) + 1)) = ((j : Int) + 1) := by rw [IntKind.wrap_i64]; omega
              have b2 : (j : Int) < ((j : Int) + 1 + 1) := by omega
              have b1 : ((j : Int) + 1) < ((j : Int) + 1 + 1) := by omega
              have b0 : 0 ≤ (j : Int) := by omega
              have b00 : 0 ≤ ((j : Int) + 1) := by omega
              have t1 : ((j : Int)).toNat = j := by omega
              have t2 : (((j : Int) + 1)).toNat = j + 1 := by omega
              have HXX := Lib.hid (And.intro ((HGz.out.xr.cellAt (j) (by omega)).symm.trans o0) ((HGz.out.xr.cellAt (j + 1) (by omega)).symm.trans o1))
              have hnb1 : ∀ q : Nat, (⟨w.heap.size + 1, 0, none⟩ : Addr) ≠ ⟨go, q, none⟩ := fun q e => by have := congrArg Addr.block e; simp at this; omega
              refine wp_region_held_drew (S := (fun w' => w'.cell? ⟨go, j, none⟩ = some (.int .i64 x0) ∧ w'.cell? ⟨go, j + 1, none⟩ = some (.int .i64 x1))) (by kernel_rfl) ⟨o0, o1⟩ (fun hHeld => ?_)
              refine wpAnyH_take (i := 0) (oi := ⟨some 91, _, _, _, _, _⟩) (v := ?_) rfl (by kernel_rfl) (by kernel_rfl) (by kernel_rfl) (fun _ _ _ h => h) (Or.inl ⟨by rfl, ?_⟩) (by assumption) ?_; rotate_left; (focus (intro w hSw; (try dsimp only at hSw); go_simp; (try with_reducible rfl))); (try simp only [Act.put, List.setIfInBounds_toArray, List.set_cons_zero, List.set_cons_succ])
              refine wpAnyH_take (i := 2) (oi := ⟨some 93, _, _, _, _, _⟩) (v := ?_) rfl (by kernel_rfl) (by kernel_rfl) (by kernel_rfl) (fun _ _ _ h => h) (Or.inl ⟨by rfl, ?_⟩) (by assumption) ?_; rotate_left; (focus (intro w hSw; (try dsimp only at hSw); go_simp; (try with_reducible rfl))); (try simp only [Act.put, List.setIfInBounds_toArray, List.set_cons_zero, List.set_cons_succ])
              refine wpAnyH_take (i := 5) (oi := ⟨some 96, _, _, _, _, _⟩) (v := ?_) rfl (by kernel_rfl) (by kernel_rfl) (by kernel_rfl) (fun _ _ _ h => h) (Or.inl ⟨by rfl, ?_⟩) (by assumption) ?_; rotate_left; (focus (intro w hSw; (try dsimp only at hSw); go_simp; (try with_reducible rfl))); (try simp only [Act.put, List.setIfInBounds_toArray, List.set_cons_zero, List.set_cons_succ])
              refine wpAnyH_take (i := 6) (oi := ⟨some 97, _, _, _, _, _⟩) (v := ?_) rfl (by kernel_rfl) (by kernel_rfl) (by kernel_rfl) (fun _ _ _ h => h) (Or.inl ⟨by rfl, ?_⟩) (by assumption) ?_; rotate_left; (focus (intro w hSw; (try dsimp only at hSw); go_simp; (try with_reducible rfl))); (try simp only [Act.put, List.setIfInBounds_toArray, List.set_cons_zero, List.set_cons_succ])
              refine wpAnyH_take (i := 7) (oi := ⟨some 98, _, _, _, _, _⟩) (v := ?_) rfl (by kernel_rfl) (by kernel_rfl) (by kernel_rfl) (fun _ _ _ h => h) (Or.inl ⟨by rfl, ?_⟩) (by assumption) ?_; rotate_left; (focus (intro w hSw; (try dsimp only at hSw); go_simp; (try with_reducible rfl))); (try simp only [Act.put, List.setIfInBounds_toArray, List.set_cons_zero, List.set_cons_succ])
              refine wpAnyH_take (i := 8) (oi := ⟨some 99, _, _, _, _, _⟩) (v := ?_) rfl (by kernel_rfl) (by kernel_rfl) (by kernel_rfl) (fun _ _ _ h => h) (Or.inl ⟨by rfl, ?_⟩) (by assumption) ?_; rotate_left; (focus (intro w hSw; (try dsimp only at hSw); go_simp; (try with_reducible rfl))); (try simp only [Act.put, List.setIfInBounds_toArray, List.set_cons_zero, List.set_cons_succ])
              refine wpAnyH_take (i := 9) (oi := ⟨some 100, _, _, _, _, _⟩) (v := ?_) rfl (by kernel_rfl) (by kernel_rfl) (by kernel_rfl) (fun _ _ _ h => h) (Or.inl ⟨by rfl, ?_⟩) (by assumption) ?_; rotate_left; (focus (intro w hSw; (try dsimp only at hSw); go_simp; (try with_reducible rfl))); (try simp only [Act.put, List.setIfInBounds_toArray, List.set_cons_zero, List.set_cons_succ])
              refine wpAnyH_take (i := 10) (oi := ⟨some 101, _, _, _, _, _⟩) (v := ?_) rfl (by kernel_rfl) (by kernel_rfl) (by kernel_rfl) (fun _ _ _ h => h) (Or.inl ⟨by rfl, ?_⟩) (by assumption) ?_; rotate_left; (focus (intro w hSw; (try dsimp only at hSw); go_simp; (try with_reducible rfl))); (try simp only [Act.put, List.setIfInBounds_toArray, List.set_cons_zero, List.set_cons_succ])
              refine wpAnyH_take (i := 11) (oi := ⟨some 102, _, _, _, _, _⟩) (v := ?_) rfl (by kernel_rfl) (by kernel_rfl) (by kernel_rfl) (fun _ _ _ h => h) (Or.inl ⟨by rfl, ?_⟩) (by assumption) ?_; rotate_left; (focus (intro w hSw; (try dsimp only at hSw); go_simp; (try with_reducible rfl))); (try simp only [Act.put, List.setIfInBounds_toArray, List.set_cons_zero, List.set_cons_succ])
              refine wpAnyH_take (i := 12) (oi := ⟨some 103, _, _, _, _, _⟩) (v := ?_) rfl (by kernel_rfl) (by kernel_rfl) (by kernel_rfl) (fun _ _ _ h => h) (Or.inl ⟨by rfl, ?_⟩) (by assumption) ?_; rotate_left; (focus (intro w hSw; (try dsimp only at hSw); go_simp; (try with_reducible rfl))); (try simp only [Act.put, List.setIfInBounds_toArray, List.set_cons_zero, List.set_cons_succ])
              refine wpAnyH_take (i := 13) (oi := ⟨some 104, _, _, _, _, _⟩) (v := ?_) rfl (by kernel_rfl) (by kernel_rfl) (by kernel_rfl) (fun _ _ _ h => h) (Or.inl ⟨by rfl, ?_⟩) (by assumption) ?_; rotate_left; (focus (intro w hSw; (try dsimp only at hSw); go_simp; (try with_reducible rfl))); (try simp only [Act.put, List.setIfInBounds_toArray, List.set_cons_zero, List.set_cons_succ])
              refine wpAnyH_take (i := 14) (oi := ⟨some 105, _, _, _, _, _⟩) (v := ?_) rfl (by kernel_rfl) (by kernel_rfl) (by kernel_rfl) (fun _ _ _ h => h) (Or.inl ⟨by rfl, ?_⟩) (by assumption) ?_; rotate_left; (focus (intro w hSw; (try dsimp only at hSw); go_simp; (try with_reducible rfl))); (try simp only [Act.put, List.setIfInBounds_toArray, List.set_cons_zero, List.set_cons_succ])
              refine wpAnyH_ready (rs := [1, 3]) (by kernel_rfl) (by simp) ?_; refine AllReadyH.cons (o := ⟨some 92, _, _, _, _, _⟩) rfl (fun K hK => ?_) (AllReadyH.cons (o := ⟨some 94, _, _, _, _, _⟩) rfl (fun K hK => ?_) AllReadyH.nil)
              go_simp
              refine hK.out _ _ ⟨o0, o1⟩ (fun hHeld => ?_); clear hK K; (try simp only [Act.put, List.setIfInBounds_toArray, List.set_cons_zero, List.set_cons_succ])
              refine wpAnyH_ready (rs := [3]) (by kernel_rfl) (by simp) ?_; refine AllReadyH.cons (o := ⟨some 94, _, _, _, _, _⟩) rfl (fun K hK => ?_) AllReadyH.nil; go_simp
              go_at_call 65
              refine (pick_any g A n c bs (P1 + 4) 6 _ ?_ HN.out hby hs ?_ ?_).mono ?_
              (first | exact HGz.out.rd | exact HGz.out.rd.drew)
              omega
              omega
              rintro e w8 ⟨x8, rfl, hx8', _, hr8, ht8'⟩
              have hx8 : (x8 : Int) < 6 := hx8' (by omega)
              have ht8 : Tch g (g + 1) wz w8 := ⟨ht8'.os, ht8'.tape, ht8'.output, ht8'.size, ht8'.block⟩
              have HGP := Lib.hid (HGz.out.pick hr8 ht8)
              have p0 := (HGP.out.xr.cellAt (j) (by omega)).trans HXX.out.1
              have p1 := (HGP.out.xr.cellAt (j + 1) (by omega)).trans HXX.out.2
              have g0 := HGP.out.fb
              have g1 := HGP.out.fz
              have z8 : w.heap.size + 1 < w8.heap.size := HGP.out.lt
              have hgo8 := (HGP.out.xr.lt go rfl).2
              have a8 : IntKind.i64.wrap (2 + (x8 : Int)) = 2 + (x8 : Int) := (by rw [IntKind.wrap_i64]; omega)
              have q0 := (World.cell?_alloc_lt w8 (.cells #[.int .i64 (2 + (x8 : Int)), .int .i64 x0, .int .i64 x1, .int .i64 (-1), .int .i64 0] 73) ⟨go, j, none⟩ hgo8).trans p0
              have q1 := (World.cell?_alloc_lt w8 (.cells #[.int .i64 (2 + (x8 : Int)), .int .i64 x0, .int .i64 x1, .int .i64 (-1), .int .i64 0] 73) ⟨go, j + 1, none⟩ hgo8).trans p1
              have HGc := Lib.hid (HGP.out.alloc (.cells #[.int .i64 (2 + (x8 : Int)), .int .i64 x0, .int .i64 x1, .int .i64 (-1), .int .i64 0] 73))
              clear hx8' hr8 ht8'
              refine hK.out _ _ ⟨p0, p1⟩ (fun hHeld => ?_); clear hK K; (try simp only [Act.put, List.setIfInBounds_toArray, List.set_cons_zero, List.set_cons_succ])
              refine wpAnyH_take (i := 4) (oi := ⟨some 95, _, _, _, _, _⟩) (v := ?_) rfl (by kernel_rfl) (by kernel_rfl) (by kernel_rfl) (fun _ _ _ h => h) (Or.inl ⟨by rfl, ?_⟩) (by assumption) ?_; rotate_left; (focus (intro w hSw; (try dsimp only at hSw); go_simp; (try with_reducible rfl))); (try simp only [Act.put, List.setIfInBounds_toArray, List.set_cons_zero, List.set_cons_succ])
              refine wpAnyH_take (i := 15) (oi := ⟨some 106, _, _, _, _, _⟩) (v := ?_) rfl (by kernel_rfl) (by kernel_rfl) (by kernel_rfl) (fun _ _ _ h => h) (Or.inl ⟨by rfl, ?_⟩) (by assumption) ?_; rotate_left; (focus (intro w hSw; (try dsimp only at hSw); go_simp; (try with_reducible rfl))); (try simp only [Act.put, List.setIfInBounds_toArray, List.set_cons_zero, List.set_cons_succ])
              refine wpAnyH_ready (rs := [16]) (by kernel_rfl) (by simp) ?_; refine AllReadyH.cons (o := ⟨some 107, _, _, _, _, _⟩) rfl (fun K hK => ?_) AllReadyH.nil; go_simp
              refine hK.out _ _ ⟨q0, q1⟩ (fun hHeld => ?_); clear hK K; (try simp only [Act.put, List.setIfInBounds_toArray, List.set_cons_zero, List.set_cons_succ])
              refine wpAnyH_ready (rs := [17]) (by kernel_rfl) (by simp) ?_; refine AllReadyH.cons (o := ⟨some 108, _, _, _, _, _⟩) rfl (fun K hK => ?_) AllReadyH.nil
              refine step_append_lies _ (by rfl) _ _ _ (by rfl) (w.heap.size + 2) 73 i1 _ 5 40 Try.underlying23 hi1 hy0 hy1 hy2 rfl (by omega) (.slice A5 (nf + 1) c5) (nf + 1) _ (by rfl) HGc.out.pr ⟨w8.heap.size, 0, none⟩ 1 1 [.int .i64 (2 + (x8 : Int)), .int .i64 x0, .int .i64 x1, .int .i64 (-1), .int .i64 0] (by rfl) (by rfl) (cells_new _ _ _ _ rfl) (by simp [Value.oneCell']) (by omega) (by unfold maxLen; omega) (by omega) (by simp; omega) (w8.heap.size + 1) (by simp) ?_
              intro gg cap w9 hown9 hgrow9 hat9 hlt9
              have hgr9 : (w8.alloc (.cells #[.int .i64 (2 + (x8 : Int)), .int .i64 x0, .int .i64 x1, .int .i64 (-1), .int .i64 0] 73)).grownBy w9 (Value.slice A5 (nf + 1) c5).ownBlock := ⟨hgrow9.os, hgrow9.tape, hgrow9.output, hgrow9.size, hgrow9.block⟩
              have hfr9 := HGc.out.frame hgr9 fun k hk => (HGc.out.pr.lt k hk).1
              have z9 := hfr9.2.2.1
              have h0 := hfr9.2.2.2.2.2.1
              have h1 := hfr9.2.2.2.2.2.2.1
              clear hfr9
              have hxr9 := HGc.out.xr.kept hgr9 (blocks_ne HGc.out.xr HGc.out.pr int_ne_part)
              have s0 := (hxr9.cellAt (j) (by omega)).trans HXX.out.1
              have s1 := (hxr9.cellAt (j + 1) (by omega)).trans HXX.out.2
              clear hxr9
              refine hK.out _ _ ⟨s0, s1⟩ (fun hHeld => ?_); clear hK K; (try simp only [Act.put, List.setIfInBounds_toArray, List.set_cons_zero, List.set_cons_succ])
              refine wpAnyH_take (i := 18) (oi := ⟨some 109, _, _, _, _, _⟩) (v := ?_) rfl (by kernel_rfl) (by kernel_rfl) (by kernel_rfl) (fun _ _ _ h => h) (Or.inl ⟨by rfl, ?_⟩) (by assumption) ?_; rotate_left; (focus (intro w hSw; (try dsimp only at hSw); go_simp; (try with_reducible rfl))); (try simp only [Act.put, List.setIfInBounds_toArray, List.set_cons_zero, List.set_cons_succ])
              refine wpAnyH_ready (rs := [19]) (by kernel_rfl) (by simp) ?_; refine AllReadyH.cons (o := ⟨none, _, _, _, _, _⟩) rfl (fun K hK => ?_) AllReadyH.nil; go_simp
              refine hK.out _ _ ⟨(World.cell?_setCell_other _ _ _ _ (hnb1 _)).trans s0, (World.cell?_setCell_other _ _ _ _ (hnb1 _)).trans s1⟩ (fun hHeld => ?_); clear hK K; (try simp only [Act.put, List.setIfInBounds_toArray, List.set_cons_zero, List.set_cons_succ])
              refine wpAnyH_done (by kernel_rfl) ?_ _
              rotate_left
              go_simp
              go_at_call 65
              refine (pick_any g A n c bs (P1 + 4) 6 _ ?_ HN.out hby hs ?_ ?_).mono ?_
              (first | exact HGz.out.rd | exact HGz.out.rd.drew)
              omega
              omega
              rintro e w8 ⟨x8, rfl, hx8', _, hr8, ht8'⟩
              have hx8 : (x8 : Int) < 6 := hx8' (by omega)
              have ht8 : Tch g (g + 1) wz w8 := ⟨ht8'.os, ht8'.tape, ht8'.output, ht8'.size, ht8'.block⟩
              have HGP := Lib.hid (HGz.out.pick hr8 ht8)
              have p0 := (HGP.out.xr.cellAt (j) (by omega)).trans HXX.out.1
              have p1 := (HGP.out.xr.cellAt (j + 1) (by omega)).trans HXX.out.2
              have g0 := HGP.out.fb
              have g1 := HGP.out.fz
              have z8 : w.heap.size + 1 < w8.heap.size := HGP.out.lt
              have hgo8 := (HGP.out.xr.lt go rfl).2
              have a8 : IntKind.i64.wrap (2 + (x8 : Int)) = 2 + (x8 : Int) := (by rw [IntKind.wrap_i64]; omega)
              have q0 := (World.cell?_alloc_lt w8 (.cells #[.int .i64 (2 + (x8 : Int)), .int .i64 x0, .int .i64 x1, .int .i64 (-1), .int .i64 0] 73) ⟨go, j, none⟩ hgo8).trans p0
              have q1 := (World.cell?_alloc_lt w8 (.cells #[.int .i64 (2 + (x8 : Int)), .int .i64 x0, .int .i64 x1, .int .i64 (-1), .int .i64 0] 73) ⟨go, j + 1, none⟩ hgo8).trans p1
              have HGc := Lib.hid (HGP.out.alloc (.cells #[.int .i64 (2 + (x8 : Int)), .int .i64 x0, .int .i64 x1, .int .i64 (-1), .int .i64 0] 73))
              clear hx8' hr8 ht8'
              refine hK.out _ _ ⟨p0, p1⟩ (fun hHeld => ?_); clear hK K; (try simp only [Act.put, List.setIfInBounds_toArray, List.set_cons_zero, List.set_cons_succ])
              refine wpAnyH_take (i := 4) (oi := ⟨some 95, _, _, _, _, _⟩) (v := ?_) rfl (by kernel_rfl) (by kernel_rfl) (by kernel_rfl) (fun _ _ _ h => h) (Or.inl ⟨by rfl, ?_⟩) (by assumption) ?_; rotate_left; (focus (intro w hSw; (try dsimp only at hSw); go_simp; (try with_reducible rfl))); (try simp only [Act.put, List.setIfInBounds_toArray, List.set_cons_zero, List.set_cons_succ])
              refine wpAnyH_take (i := 15) (oi := ⟨some 106, _, _, _, _, _⟩) (v := ?_) rfl (by kernel_rfl) (by kernel_rfl) (by kernel_rfl) (fun _ _ _ h => h) (Or.inl ⟨by rfl, ?_⟩) (by assumption) ?_; rotate_left; (focus (intro w hSw; (try dsimp only at hSw); go_simp; (try with_reducible rfl))); (try simp only [Act.put, List.setIfInBounds_toArray, List.set_cons_zero, List.set_cons_succ])
              refine wpAnyH_ready (rs := [1, 16]) (by kernel_rfl) (by simp) ?_; refine AllReadyH.cons (o := ⟨some 92, _, _, _, _, _⟩) rfl (fun K hK => ?_) (AllReadyH.cons (o := ⟨some 107, _, _, _, _, _⟩) rfl (fun K hK => ?_) AllReadyH.nil)
              go_simp
              refine hK.out _ _ ⟨p0, p1⟩ (fun hHeld => ?_); clear hK K; (try simp only [Act.put, List.setIfInBounds_toArray, List.set_cons_zero, List.set_cons_succ])
              refine wpAnyH_ready (rs := [16]) (by kernel_rfl) (by simp) ?_; refine AllReadyH.cons (o := ⟨some 107, _, _, _, _, _⟩) rfl (fun K hK => ?_) AllReadyH.nil; go_simp
              refine hK.out _ _ ⟨q0, q1⟩ (fun hHeld => ?_); clear hK K; (try simp only [Act.put, List.setIfInBounds_toArray, List.set_cons_zero, List.set_cons_succ])
              refine wpAnyH_ready (rs := [17]) (by kernel_rfl) (by simp) ?_; refine AllReadyH.cons (o := ⟨some 108, _, _, _, _, _⟩) rfl (fun K hK => ?_) AllReadyH.nil
              refine step_append_lies _ (by rfl) _ _ _ (by rfl) (w.heap.size + 2) 73 i1 _ 5 40 Try.underlying23 hi1 hy0 hy1 hy2 rfl (by omega) (.slice A5 (nf + 1) c5) (nf + 1) _ (by rfl) HGc.out.pr ⟨w8.heap.size, 0, none⟩ 1 1 [.int .i64 (2 + (x8 : Int)), .int .i64 x0, .int .i64 x1, .int .i64 (-1), .int .i64 0] (by rfl) (by rfl) (cells_new _ _ _ _ rfl) (by simp [Value.oneCell']) (by omega) (by unfold maxLen; omega) (by omega) (by simp; omega) (w8.heap.size + 1) (by simp) ?_
              intro gg cap w9 hown9 hgrow9 hat9 hlt9
              have hgr9 : (w8.alloc (.cells #[.int .i64 (2 + (x8 : Int)), .int .i64 x0, .int .i64 x1, .int .i64 (-1), .int .i64 0] 73)).grownBy w9 (Value.slice A5 (nf + 1) c5).ownBlock := ⟨hgrow9.os, hgrow9.tape, hgrow9.output, hgrow9.size, hgrow9.block⟩
              have hfr9 := HGc.out.frame hgr9 fun k hk => (HGc.out.pr.lt k hk).1
              have z9 := hfr9.2.2.1
              have h0 := hfr9.2.2.2.2.2.1
              have h1 := hfr9.2.2.2.2.2.2.1
              clear hfr9
              have hxr9 := HGc.out.xr.kept hgr9 (blocks_ne HGc.out.xr HGc.out.pr int_ne_part)
              have s0 := (hxr9.cellAt (j) (by omega)).trans HXX.out.1
              have s1 := (hxr9.cellAt (j + 1) (by omega)).trans HXX.out.2
              clear hxr9
              refine hK.out _ _ ⟨s0, s1⟩ (fun hHeld => ?_); clear hK K; (try simp only [Act.put, List.setIfInBounds_toArray, List.set_cons_zero, List.set_cons_succ])
              refine wpAnyH_take (i := 18) (oi := ⟨some 109, _, _, _, _, _⟩) (v := ?_) rfl (by kernel_rfl) (by kernel_rfl) (by kernel_rfl) (fun _ _ _ h => h) (Or.inl ⟨by rfl, ?_⟩) (by assumption) ?_; rotate_left; (focus (intro w hSw; (try dsimp only at hSw); go_simp; (try with_reducible rfl))); (try simp only [Act.put, List.setIfInBounds_toArray, List.set_cons_zero, List.set_cons_succ])
              refine wpAnyH_ready (rs := [19]) (by kernel_rfl) (by simp) ?_; refine AllReadyH.cons (o := ⟨none, _, _, _, _, _⟩) rfl (fun K hK => ?_) AllReadyH.nil; go_simp
              refine hK.out _ _ ⟨(World.cell?_setCell_other _ _ _ _ (hnb1 _)).trans s0, (World.cell?_setCell_other _ _ _ _ (hnb1 _)).trans s1⟩ (fun hHeld => ?_); clear hK K; (try simp only [Act.put, List.setIfInBounds_toArray, List.set_cons_zero, List.set_cons_succ])
              refine wpAnyH_done (by kernel_rfl) ?_ _
              rotate_left
              go_simp
              refine hK.out _ _ ⟨q0, q1⟩ (fun hHeld => ?_); clear hK K; (try simp only [Act.put, List.setIfInBounds_toArray, List.set_cons_zero, List.set_cons_succ])
              refine wpAnyH_ready (rs := [1]) (by kernel_rfl) (by simp) ?_; refine AllReadyH.cons (o := ⟨some 92, _, _, _, _, _⟩) rfl (fun K hK => ?_) AllReadyH.nil; go_simp
              refine hK.out _ _ ⟨q0, q1⟩ (fun hHeld => ?_); clear hK K; (try simp only [Act.put, List.setIfInBounds_toArray, List.set_cons_zero, List.set_cons_succ])
              refine wpAnyH_ready (rs := [17]) (by kernel_rfl) (by simp) ?_; refine AllReadyH.cons (o := ⟨some 108, _, _, _, _, _⟩) rfl (fun K hK => ?_) AllReadyH.nil
              refine step_append_lies _ (by rfl) _ _ _ (by rfl) (w.heap.size + 2) 73 i1 _ 5 40 Try.underlying23 hi1 hy0 hy1 hy2 rfl (by omega) (.slice A5 (nf + 1) c5) (nf + 1) _ (by rfl) HGc.out.pr ⟨w8.heap.size, 0, none⟩ 1 1 [.int .i64 (2 + (x8 : Int)), .int .i64 x0, .int .i64 x1, .int .i64 (-1), .int .i64 0] (by rfl) (by rfl) (cells_new _ _ _ _ rfl) (by simp [Value.oneCell']) (by omega) (by unfold maxLen; omega) (by omega) (by simp; omega) (w8.heap.size + 1) (by simp) ?_
              intro gg cap w9 hown9 hgrow9 hat9 hlt9
              have hgr9 : (w8.alloc (.cells #[.int .i64 (2 + (x8 : Int)), .int .i64 x0, .int .i64 x1, .int .i64 (-1), .int .i64 0] 73)).grownBy w9 (Value.slice A5 (nf + 1) c5).ownBlock := ⟨hgrow9.os, hgrow9.tape, hgrow9.output, hgrow9.size, hgrow9.block⟩
              have hfr9 := HGc.out.frame hgr9 fun k hk => (HGc.out.pr.lt k hk).1
              have z9 := hfr9.2.2.1
              have h0 := hfr9.2.2.2.2.2.1
              have h1 := hfr9.2.2.2.2.2.2.1
              clear hfr9
              have hxr9 := HGc.out.xr.kept hgr9 (blocks_ne HGc.out.xr HGc.out.pr int_ne_part)
              have s0 := (hxr9.cellAt (j) (by omega)).trans HXX.out.1
              have s1 := (hxr9.cellAt (j + 1) (by omega)).trans HXX.out.2
              clear hxr9
              refine hK.out _ _ ⟨s0, s1⟩ (fun hHeld => ?_); clear hK K; (try simp only [Act.put, List.setIfInBounds_toArray, List.set_cons_zero, List.set_cons_succ])
              refine wpAnyH_take (i := 18) (oi := ⟨some 109, _, _, _, _, _⟩) (v := ?_) rfl (by kernel_rfl) (by kernel_rfl) (by kernel_rfl) (fun _ _ _ h => h) (Or.inl ⟨by rfl, ?_⟩) (by assumption) ?_; rotate_left; (focus (intro w hSw; (try dsimp only at hSw); go_simp; (try with_reducible rfl))); (try simp only [Act.put, List.setIfInBounds_toArray, List.set_cons_zero, List.set_cons_succ])
              refine wpAnyH_ready (rs := [19]) (by kernel_rfl) (by simp) ?_; refine AllReadyH.cons (o := ⟨none, _, _, _, _, _⟩) rfl (fun K hK => ?_) AllReadyH.nil; go_simp
              refine hK.out _ _ ⟨(World.cell?_setCell_other _ _ _ _ (hnb1 _)).trans s0, (World.cell?_setCell_other _ _ _ _ (hnb1 _)).trans s1⟩ (fun hHeld => ?_); clear hK K; (try simp only [Act.put, List.setIfInBounds_toArray, List.set_cons_zero, List.set_cons_succ])
              refine wpAnyH_done (by kernel_rfl) ?_ _
              all_goals
                have HG8 := Lib.hid (HGc.out.parted (Af' := some ⟨gg, 0, none⟩) (nf' := nf + 1 + 1) (cf' := cap) (ps' := (ps ++ [q']) ++ [⟨2 + (x8 : Int), x0, x1, -1, 0⟩]) hgr9 (by rw [List.flatMap_append]; exact hown9) (by rw [List.length_append, ← HGc.out.pl]; rfl))
                have HXL8 := Lib.hid (HXL.out)
                clear hown9 hgrow9 hgr9 hat9 hlt9 z9 h0 h1 s0 s1 q0 q1 p0 p1 o0 o1 g0 g1 f0 f1 z1 z8 HGc HGP HGz HXX a8
                go_wp2_with fail
                generalize (w9.setCell ⟨w.heap.size + 1, 0, none⟩ (.slice (some ⟨gg, 0, none⟩) (nf + 1 + 1) cap)) = W8 at *
                have f8 := HG8.out.fb
                have z8 : w.heap.size + 1 < W8.heap.size := HG8.out.lt
                have n1 : IntKind.i64.wrap (((nf : Int) + 1) + 1 - 1) = ((nf : Int) + 1) := by rw [IntKind.wrap_i64]; omega
                have n2 : IntKind.i64.wrap (((nf : Int) + 1)) = ((nf : Int) + 1) := by rw [IntKind.wrap_i64]; omega
                have f8' := (World.cell?_alloc_lt W8 (.cells #[.int .i64 (((nf : Int) + 1))] 3) ⟨w.heap.size + 1, 0, none⟩ z8).trans f8
                have HG9 := Lib.hid (HG8.out.alloc (.cells #[.int .i64 (((nf : Int) + 1))] 3))
                have hcg : j + 1 + 1 ≤ co := by
                  rcases HG8.out.xr.2 with ⟨h', _⟩ | ⟨g', cap', cur, h', _, _, hnc, _⟩
                  · simp at h'
                  · simp at h'
                    omega
                have hcg1 : (j : Int) ≤ (co : Int) := by omega
                go_region_held3 (fun w' => w'.cell? ⟨w.heap.size + 1, 0, none⟩ = some (.slice (some ⟨gg, 0, none⟩) (nf + 1 + 1) cap)) (first | exact f8 | exact f8' | exact f9)
                  (first
                    | (refine step_append_lies _ (by rfl) _ _ _ (by rfl) (w.heap.size + 2) 3 i0 (.int .i64 0) 1 8 Try.underlying30 hi0 hz0 hz1 hz2 rfl (by omega) (.slice (some ⟨go, 0, none⟩) (j) co) (j) _ (by rfl) (own_shrink HG9.out.xr (by omega)) ⟨W8.heap.size, 0, none⟩ 1 1 [.int .i64 (((nf : Int) + 1))] (by rfl) (by rfl) (cell_one_new _ _ _) (by simp [Value.oneCell']) (by omega) (by unfold maxLen; omega) (by omega) (by simp; omega) W8.heap.size.succ (by simp) ?_; intro gh cah w10 hown10 hgrow10' hat10 hlt10; have hgrow10 : (W8.alloc (.cells #[.int .i64 (((nf : Int) + 1))] 3)).grownBy w10 (Value.slice (some ⟨go, 0, none⟩) (j) co).ownBlock := ⟨hgrow10'.os, hgrow10'.tape, hgrow10'.output, hgrow10'.size, hgrow10'.block⟩; have HGA := Lib.hid (HG9.out.opened (xs' := X.take (j) ++ [((nf : Int) + 1)]) (own_shrink HG9.out.xr (by omega : j ≤ j + 1 + 1)) hgrow10 (by first | (simpa using hown10) | (simpa [List.map_take] using hown10) | (rw [List.map_append, List.map_take]; exact hown10)) (by have := HXL8.out; rw [List.length_append, List.length_take]; show _ = _ + 1; omega)); have f9 := HGA.out.fb))
                clear f8 f8' f9 hgrow10 hgrow10' hown10 hat10 hlt10 HG8 HG9 z8 n1 n2 a1 a2 a1' a2' t1 t2
                go_wp2_with fail
                go_roundw
                case rel => exact ⟨k - 1, m + 1, j + 1, nf + 1 + 1, cap, _, _, _, by omega, by go_num, by omega, by omega, (show GI _ _ _ _ _ _ _ _ _ _ _ _ _ _ _ _ _ _ from HGA.out.mono (by have := HP1.out; omega))⟩
                case measure => simp [intOf]; omega
            · go_wp2_with fail
              go_roundw
              case rel => exact ⟨k - 1, m + 1, j + 1 + 1, nf + 1, c5, A5, _, _, by omega, by go_num, by omega, by omega, (show GI _ _ _ _ _ _ _ _ _ _ _ _ _ _ _ _ _ _ from HGz.out.mono (by have := HP1.out; omega))⟩
              case measure => simp [intOf]; omega
          · go_wp2_with fail
            go_roundw
            case rel => exact ⟨k - 1, m + 1, no + 1, nf + 1, c5, A5, _, _, by omega, by go_num, by omega, by omega, (show GI _ _ _ _ _ _ _ _ _ _ _ _ _ _ _ _ _ _ from HG6.out.mono (by have := HP1.out; omega))⟩
            case measure => simp [intOf]; omega
    · obtain ⟨Av0, cv0, hv0⟩ := row_form' HG.out.xr
      have HGs := HG
      subst hv0
      clear HG
      go_wp2_with fail
      go_loopw [6] (fun v wr => ∃ (no nf cf Q : Nat) (Af : Option Addr) (ps : List Pt) (xs : List Int), no ≤ 6 ∧ nf + no ≤ 18 ∧ Q + 2 * no ≤ P + 100 ∧ Hid (GI g w.heap.size A n c bs An nodes w Q Af nf cf ps v no xs wr)) (fun v _ => slcLen v)
      case atStart => exact ⟨no, nf, cf, P + 1 + 10 * m, Af, ps, xs, by omega, by omega, by omega, HGs.out⟩
      case round =>
        obtain ⟨no, nf, cf, Q, Af, ps, xs, hno, hnf, hQ, HG⟩ := hrel
        by_cases hlt : 1 < no
        · obtain ⟨j, rfl⟩ : ∃ j, no = j + 2 := ⟨no - 2, by omega⟩
          obtain ⟨go, cg, hov⟩ := row_pos HG.out.xr (by omega)
          cases hov
          have f0 := HG.out.fb
          have f1 := HG.out.fz
          have z1 : w.heap.size + 1 < wr.heap.size := HG.out.lt
          have hxl := HG.out.xl
          have o0 := HG.out.xr.cellAt (j) (by omega)
          have o1 := HG.out.xr.cellAt (j + 1) (by omega)
          rw [List.getElem?_map] at o0 o1
          generalize hX : xs = X at *
          have HX2 := Lib.hid hX
          clear hX
          rw [List.getElem?_eq_getElem (by omega), Option.map_some] at o0 o1
          generalize X[j]'_ = x0 at o0
          generalize X[j + 1]'_ = x1 at o1
          have HXL := Lib.hid hxl
          clear hxl
          have hgo := (HG.out.xr.lt go rfl).2
          have hgo2 := (HG.out.xr.lt go rfl).1
          go_wp2_with fail
          have a2 : IntKind.i64.wrap (((j : Int) + 2) - 2) = (j : Int) := by rw [IntKind.wrap_i64]; omega
          have a1 : IntKind.i64.wrap (((j : Int) + 2) - 1) = ((j : Int) + 1) := by rw [IntKind.wrap_i64]; omega
          have a2' : IntKind.i64.wrap ((j : Int)) = (j : Int) := by rw [IntKind.wrap_i64]; omega
          have a1' : IntKind.i64.wrap (((j : Int) + 1)) = ((j : Int) + 1) := by rw [IntKind.wrap_i64]; omega
          have b2 : (j : Int) < ((j : Int) + 2) := by omega
          have b1 : ((j : Int) + 1) < ((j : Int) + 2) := by omega
          have b0 : 0 ≤ (j : Int) := by omega
          have b00 : 0 ≤ ((j : Int) + 1) := by omega
          have t1 : ((j : Int)).toNat = j := by omega
          have t2 : (((j : Int) + 1)).toNat = j + 1 := by omega
          have HXX := Lib.hid (And.intro ((HG.out.xr.cellAt (j) (by omega)).symm.trans o0) ((HG.out.xr.cellAt (j + 1) (by omega)).symm.trans o1))
          have hnb1 : ∀ q : Nat, (⟨w.heap.size + 1, 0, none⟩ : Addr) ≠ ⟨go, q, none⟩ := fun q e => by have := congrArg Addr.block e; simp at this; omega
          refine wp_region_held_drew (S := (fun w' => w'.cell? ⟨go, j, none⟩ = some (.int .i64 x0) ∧ w'.cell? ⟨go, j + 1, none⟩ = some (.int .i64 x1))) (by kernel_rfl) ⟨o0, o1⟩ (fun hHeld => ?_)
          refine wpAnyH_take (i := 0) (oi := ⟨some 125, _, _, _, _, _⟩) (v := ?_) rfl (by kernel_rfl) (by kernel_rfl) (by kernel_rfl) (fun _ _ _ h => h) (Or.inl ⟨by rfl, ?_⟩) (by assumption) ?_; rotate_left; (focus (intro w hSw; (try dsimp only at hSw); go_simp; (try with_reducible rfl))); (try simp only [Act.put, List.setIfInBounds_toArray, List.set_cons_zero, List.set_cons_succ])
          refine wpAnyH_take (i := 2) (oi := ⟨some 127, _, _, _, _, _⟩) (v := ?_) rfl (by kernel_rfl) (by kernel_rfl) (by kernel_rfl) (fun _ _ _ h => h) (Or.inl ⟨by rfl, ?_⟩) (by assumption) ?_; rotate_left; (focus (intro w hSw; (try dsimp only at hSw); go_simp; (try with_reducible rfl))); (try simp only [Act.put, List.setIfInBounds_toArray, List.set_cons_zero, List.set_cons_succ])
          refine wpAnyH_take (i := 5) (oi := ⟨some 130, _, _, _, _, _⟩) (v := ?_) rfl (by kernel_rfl) (by kernel_rfl) (by kernel_rfl) (fun _ _ _ h => h) (Or.inl ⟨by rfl, ?_⟩) (by assumption) ?_; rotate_left; (focus (intro w hSw; (try dsimp only at hSw); go_simp; (try with_reducible rfl))); (try simp only [Act.put, List.setIfInBounds_toArray, List.set_cons_zero, List.set_cons_succ])
          refine wpAnyH_take (i := 6) (oi := ⟨some 131, _, _, _, _, _⟩) (v := ?_) rfl (by kernel_rfl) (by kernel_rfl) (by kernel_rfl) (fun _ _ _ h => h) (Or.inl ⟨by rfl, ?_⟩) (by assumption) ?_; rotate_left; (focus (intro w hSw; (try dsimp only at hSw); go_simp; (try with_reducible rfl))); (try simp only [Act.put, List.setIfInBounds_toArray, List.set_cons_zero, List.set_cons_succ])
          refine wpAnyH_take (i := 7) (oi := ⟨some 132, _, _, _, _, _⟩) (v := ?_) rfl (by kernel_rfl) (by kernel_rfl) (by kernel_rfl) (fun _ _ _ h => h) (Or.inl ⟨by rfl, ?_⟩) (by assumption) ?_; rotate_left; (focus (intro w hSw; (try dsimp only at hSw); go_simp; (try with_reducible rfl))); (try simp only [Act.put, List.setIfInBounds_toArray, List.set_cons_zero, List.set_cons_succ])
          refine wpAnyH_take (i := 8) (oi := ⟨some 133, _, _, _, _, _⟩) (v := ?_) rfl (by kernel_rfl) (by kernel_rfl) (by kernel_rfl) (fun _ _ _ h => h) (Or.inl ⟨by rfl, ?_⟩) (by assumption) ?_; rotate_left; (focus (intro w hSw; (try dsimp only at hSw); go_simp; (try with_reducible rfl))); (try simp only [Act.put, List.setIfInBounds_toArray, List.set_cons_zero, List.set_cons_succ])
          refine wpAnyH_take (i := 9) (oi := ⟨some 134, _, _, _, _, _⟩) (v := ?_) rfl (by kernel_rfl) (by kernel_rfl) (by kernel_rfl) (fun _ _ _ h => h) (Or.inl ⟨by rfl, ?_⟩) (by assumption) ?_; rotate_left; (focus (intro w hSw; (try dsimp only at hSw); go_simp; (try with_reducible rfl))); (try simp only [Act.put, List.setIfInBounds_toArray, List.set_cons_zero, List.set_cons_succ])
          refine wpAnyH_take (i := 10) (oi := ⟨some 135, _, _, _, _, _⟩) (v := ?_) rfl (by kernel_rfl) (by kernel_rfl) (by kernel_rfl) (fun _ _ _ h => h) (Or.inl ⟨by rfl, ?_⟩) (by assumption) ?_; rotate_left; (focus (intro w hSw; (try dsimp only at hSw); go_simp; (try with_reducible rfl))); (try simp only [Act.put, List.setIfInBounds_toArray, List.set_cons_zero, List.set_cons_succ])
          refine wpAnyH_take (i := 11) (oi := ⟨some 136, _, _, _, _, _⟩) (v := ?_) rfl (by kernel_rfl) (by kernel_rfl) (by kernel_rfl) (fun _ _ _ h => h) (Or.inl ⟨by rfl, ?_⟩) (by assumption) ?_; rotate_left; (focus (intro w hSw; (try dsimp only at hSw); go_simp; (try with_reducible rfl))); (try simp only [Act.put, List.setIfInBounds_toArray, List.set_cons_zero, List.set_cons_succ])
          refine wpAnyH_take (i := 12) (oi := ⟨some 137, _, _, _, _, _⟩) (v := ?_) rfl (by kernel_rfl) (by kernel_rfl) (by kernel_rfl) (fun _ _ _ h => h) (Or.inl ⟨by rfl, ?_⟩) (by assumption) ?_; rotate_left; (focus (intro w hSw; (try dsimp only at hSw); go_simp; (try with_reducible rfl))); (try simp only [Act.put, List.setIfInBounds_toArray, List.set_cons_zero, List.set_cons_succ])
          refine wpAnyH_take (i := 13) (oi := ⟨some 138, _, _, _, _, _⟩) (v := ?_) rfl (by kernel_rfl) (by kernel_rfl) (by kernel_rfl) (fun _ _ _ h => h) (Or.inl ⟨by rfl, ?_⟩) (by assumption) ?_; rotate_left; (focus (intro w hSw; (try dsimp only at hSw); go_simp; (try with_reducible rfl))); (try simp only [Act.put, List.setIfInBounds_toArray, List.set_cons_zero, List.set_cons_succ])
          refine wpAnyH_take (i := 14) (oi := ⟨some 139, _, _, _, _, _⟩) (v := ?_) rfl (by kernel_rfl) (by kernel_rfl) (by kernel_rfl) (fun _ _ _ h => h) (Or.inl ⟨by rfl, ?_⟩) (by assumption) ?_; rotate_left; (focus (intro w hSw; (try dsimp only at hSw); go_simp; (try with_reducible rfl))); (try simp only [Act.put, List.setIfInBounds_toArray, List.set_cons_zero, List.set_cons_succ])
          refine wpAnyH_ready (rs := [1, 3]) (by kernel_rfl) (by simp) ?_; refine AllReadyH.cons (o := ⟨some 126, _, _, _, _, _⟩) rfl (fun K hK => ?_) (AllReadyH.cons (o := ⟨some 128, _, _, _, _, _⟩) rfl (fun K hK => ?_) AllReadyH.nil)
          go_simp
          refine hK.out _ _ ⟨o0, o1⟩ (fun hHeld => ?_); clear hK K; (try simp only [Act.put, List.setIfInBounds_toArray, List.set_cons_zero, List.set_cons_succ])
          refine wpAnyH_ready (rs := [3]) (by kernel_rfl) (by simp) ?_; refine AllReadyH.cons (o := ⟨some 128, _, _, _, _, _⟩) rfl (fun K hK => ?_) AllReadyH.nil; go_simp
          go_at_call 65
          refine (pick_any g A n c bs (Q) 6 _ ?_ HN.out hby hs ?_ ?_).mono ?_
          (first | exact HG.out.rd | exact HG.out.rd.drew)
          omega
          omega
          rintro e w8 ⟨x8, rfl, hx8', _, hr8, ht8'⟩
          have hx8 : (x8 : Int) < 6 := hx8' (by omega)
          have ht8 : Tch g (g + 1) wr w8 := ⟨ht8'.os, ht8'.tape, ht8'.output, ht8'.size, ht8'.block⟩
          have HGP := Lib.hid (HG.out.pick hr8 ht8)
          have p0 := (HGP.out.xr.cellAt (j) (by omega)).trans HXX.out.1
          have p1 := (HGP.out.xr.cellAt (j + 1) (by omega)).trans HXX.out.2
          have g0 := HGP.out.fb
          have g1 := HGP.out.fz
          have z8 : w.heap.size + 1 < w8.heap.size := HGP.out.lt
          have hgo8 := (HGP.out.xr.lt go rfl).2
          have a8 : IntKind.i64.wrap (2 + (x8 : Int)) = 2 + (x8 : Int) := (by rw [IntKind.wrap_i64]; omega)
          have q0 := (World.cell?_alloc_lt w8 (.cells #[.int .i64 (2 + (x8 : Int)), .int .i64 x0, .int .i64 x1, .int .i64 (-1), .int .i64 0] 73) ⟨go, j, none⟩ hgo8).trans p0
          have q1 := (World.cell?_alloc_lt w8 (.cells #[.int .i64 (2 + (x8 : Int)), .int .i64 x0, .int .i64 x1, .int .i64 (-1), .int .i64 0] 73) ⟨go, j + 1, none⟩ hgo8).trans p1
          have HGc := Lib.hid (HGP.out.alloc (.cells #[.int .i64 (2 + (x8 : Int)), .int .i64 x0, .int .i64 x1, .int .i64 (-1), .int .i64 0] 73))
          clear hx8' hr8 ht8'
          refine hK.out _ _ ⟨p0, p1⟩ (fun hHeld => ?_); clear hK K; (try simp only [Act.put, List.setIfInBounds_toArray, List.set_cons_zero, List.set_cons_succ])
          refine wpAnyH_take (i := 4) (oi := ⟨some 129, _, _, _, _, _⟩) (v := ?_) rfl (by kernel_rfl) (by kernel_rfl) (by kernel_rfl) (fun _ _ _ h => h) (Or.inl ⟨by rfl, ?_⟩) (by assumption) ?_; rotate_left; (focus (intro w hSw; (try dsimp only at hSw); go_simp; (try with_reducible rfl))); (try simp only [Act.put, List.setIfInBounds_toArray, List.set_cons_zero, List.set_cons_succ])
          refine wpAnyH_take (i := 15) (oi := ⟨some 140, _, _, _, _, _⟩) (v := ?_) rfl (by kernel_rfl) (by kernel_rfl) (by kernel_rfl) (fun _ _ _ h => h) (Or.inl ⟨by rfl, ?_⟩) (by assumption) ?_; rotate_left; (focus (intro w hSw; (try dsimp only at hSw); go_simp; (try with_reducible rfl))); (try simp only [Act.put, List.setIfInBounds_toArray, List.set_cons_zero, List.set_cons_succ])
          refine wpAnyH_ready (rs := [16]) (by kernel_rfl) (by simp) ?_; refine AllReadyH.cons (o := ⟨some 141, _, _, _, _, _⟩) rfl (fun K hK => ?_) AllReadyH.nil; go_simp
          refine hK.out _ _ ⟨q0, q1⟩ (fun hHeld => ?_); clear hK K; (try simp only [Act.put, List.setIfInBounds_toArray, List.set_cons_zero, List.set_cons_succ])
          refine wpAnyH_ready (rs := [17]) (by kernel_rfl) (by simp) ?_; refine AllReadyH.cons (o := ⟨some 142, _, _, _, _, _⟩) rfl (fun K hK => ?_) AllReadyH.nil
          refine step_append_lies _ (by rfl) _ _ _ (by rfl) (w.heap.size + 2) 73 i1 _ 5 40 Try.underlying23 hi1 hy0 hy1 hy2 rfl (by omega) (.slice Af (nf) cf) (nf) _ (by rfl) HGc.out.pr ⟨w8.heap.size, 0, none⟩ 1 1 [.int .i64 (2 + (x8 : Int)), .int .i64 x0, .int .i64 x1, .int .i64 (-1), .int .i64 0] (by rfl) (by rfl) (cells_new _ _ _ _ rfl) (by simp [Value.oneCell']) (by omega) (by unfold maxLen; omega) (by omega) (by simp; omega) (w8.heap.size + 1) (by simp) ?_
          intro gg cap w9 hown9 hgrow9 hat9 hlt9
          have hgr9 : (w8.alloc (.cells #[.int .i64 (2 + (x8 : Int)), .int .i64 x0, .int .i64 x1, .int .i64 (-1), .int .i64 0] 73)).grownBy w9 (Value.slice Af (nf) cf).ownBlock := ⟨hgrow9.os, hgrow9.tape, hgrow9.output, hgrow9.size, hgrow9.block⟩
          have hfr9 := HGc.out.frame hgr9 fun k hk => (HGc.out.pr.lt k hk).1
          have z9 := hfr9.2.2.1
          have h0 := hfr9.2.2.2.2.2.1
          have h1 := hfr9.2.2.2.2.2.2.1
          clear hfr9
          have hxr9 := HGc.out.xr.kept hgr9 (blocks_ne HGc.out.xr HGc.out.pr int_ne_part)
          have s0 := (hxr9.cellAt (j) (by omega)).trans HXX.out.1
          have s1 := (hxr9.cellAt (j + 1) (by omega)).trans HXX.out.2
          clear hxr9
          refine hK.out _ _ ⟨s0, s1⟩ (fun hHeld => ?_); clear hK K; (try simp only [Act.put, List.setIfInBounds_toArray, List.set_cons_zero, List.set_cons_succ])
          refine wpAnyH_take (i := 18) (oi := ⟨some 143, _, _, _, _, _⟩) (v := ?_) rfl (by kernel_rfl) (by kernel_rfl) (by kernel_rfl) (fun _ _ _ h => h) (Or.inl ⟨by rfl, ?_⟩) (by assumption) ?_; rotate_left; (focus (intro w hSw; (try dsimp only at hSw); go_simp; (try with_reducible rfl))); (try simp only [Act.put, List.setIfInBounds_toArray, List.set_cons_zero, List.set_cons_succ])
          refine wpAnyH_ready (rs := [19]) (by kernel_rfl) (by simp) ?_; refine AllReadyH.cons (o := ⟨none, _, _, _, _, _⟩) rfl (fun K hK => ?_) AllReadyH.nil; go_simp
          refine hK.out _ _ ⟨(World.cell?_setCell_other _ _ _ _ (hnb1 _)).trans s0, (World.cell?_setCell_other _ _ _ _ (hnb1 _)).trans s1⟩ (fun hHeld => ?_); clear hK K; (try simp only [Act.put, List.setIfInBounds_toArray, List.set_cons_zero, List.set_cons_succ])
          refine wpAnyH_done (by kernel_rfl) ?_ _
          rotate_left
          go_simp
          go_at_call 65
          refine (pick_any g A n c bs (Q) 6 _ ?_ HN.out hby hs ?_ ?_).mono ?_
          (first | exact HG.out.rd | exact HG.out.rd.drew)
          omega
          omega
          rintro e w8 ⟨x8, rfl, hx8', _, hr8, ht8'⟩
          have hx8 : (x8 : Int) < 6 := hx8' (by omega)
          have ht8 : Tch g (g + 1) wr w8 := ⟨ht8'.os, ht8'.tape, ht8'.output, ht8'.size, ht8'.block⟩
          have HGP := Lib.hid (HG.out.pick hr8 ht8)
          have p0 := (HGP.out.xr.cellAt (j) (by omega)).trans HXX.out.1
          have p1 := (HGP.out.xr.cellAt (j + 1) (by omega)).trans HXX.out.2
          have g0 := HGP.out.fb
          have g1 := HGP.out.fz
          have z8 : w.heap.size + 1 < w8.heap.size := HGP.out.lt
          have hgo8 := (HGP.out.xr.lt go rfl).2
          have a8 : IntKind.i64.wrap (2 + (x8 : Int)) = 2 + (x8 : Int) := (by rw [IntKind.wrap_i64]; omega)
          have q0 := (World.cell?_alloc_lt w8 (.cells #[.int .i64 (2 + (x8 : Int)), .int .i64 x0, .int .i64 x1, .int .i64 (-1), .int .i64 0] 73) ⟨go, j, none⟩ hgo8).trans p0
          have q1 := (World.cell?_alloc_lt w8 (.cells #[.int .i64 (2 + (x8 : Int)), .int .i64 x0, .int .i64 x1, .int .i64 (-1), .int .i64 0] 73) ⟨go, j + 1, none⟩ hgo8).trans p1
          have HGc := Lib.hid (HGP.out.alloc (.cells #[.int .i64 (2 + (x8 : Int)), .int .i64 x0, .int .i64 x1, .int .i64 (-1), .int .i64 0] 73))
          clear hx8' hr8 ht8'
          refine hK.out _ _ ⟨p0, p1⟩ (fun hHeld => ?_); clear hK K; (try simp only [Act.put, List.setIfInBounds_toArray, List.set_cons_zero, List.set_cons_succ])
          refine wpAnyH_take (i := 4) (oi := ⟨some 129, _, _, _, _, _⟩) (v := ?_) rfl (by kernel_rfl) (by kernel_rfl) (by kernel_rfl) (fun _ _ _ h => h) (Or.inl ⟨by rfl, ?_⟩) (by assumption) ?_; rotate_left; (focus (intro w hSw; (try dsimp only at hSw); go_simp; (try with_reducible rfl))); (try simp only [Act.put, List.setIfInBounds_toArray, List.set_cons_zero, List.set_cons_succ])
          refine wpAnyH_take (i := 15) (oi := ⟨some 140, _, _, _, _, _⟩) (v := ?_) rfl (by kernel_rfl) (by kernel_rfl) (by kernel_rfl) (fun _ _ _ h => h) (Or.inl ⟨by rfl, ?_⟩) (by assumption) ?_; rotate_left; (focus (intro w hSw; (try dsimp only at hSw); go_simp; (try with_reducible rfl))); (try simp only [Act.put, List.setIfInBounds_toArray, List.set_cons_zero, List.set_cons_succ])
          refine wpAnyH_ready (rs := [1, 16]) (by kernel_rfl) (by simp) ?_; refine AllReadyH.cons (o := ⟨some 126, _, _, _, _, _⟩) rfl (fun K hK => ?_) (AllReadyH.cons (o := ⟨some 141, _, _, _, _, _⟩) rfl (fun K hK => ?_) AllReadyH.nil)
          go_simp
          refine hK.out _ _ ⟨p0, p1⟩ (fun hHeld => ?_); clear hK K; (try simp only [Act.put, List.setIfInBounds_toArray, List.set_cons_zero, List.set_cons_succ])
          refine wpAnyH_ready (rs := [16]) (by kernel_rfl) (by simp) ?_; refine AllReadyH.cons (o := ⟨some 141, _, _, _, _, _⟩) rfl (fun K hK => ?_) AllReadyH.nil; go_simp
          refine hK.out _ _ ⟨q0, q1⟩ (fun hHeld => ?_); clear hK K; (try simp only [Act.put, List.setIfInBounds_toArray, List.set_cons_zero, List.set_cons_succ])
          refine wpAnyH_ready (rs := [17]) (by kernel_rfl) (by simp) ?_; refine AllReadyH.cons (o := ⟨some 142, _, _, _, _, _⟩) rfl (fun K hK => ?_) AllReadyH.nil
          refine step_append_lies _ (by rfl) _ _ _ (by rfl) (w.heap.size + 2) 73 i1 _ 5 40 Try.underlying23 hi1 hy0 hy1 hy2 rfl (by omega) (.slice Af (nf) cf) (nf) _ (by rfl) HGc.out.pr ⟨w8.heap.size, 0, none⟩ 1 1 [.int .i64 (2 + (x8 : Int)), .int .i64 x0, .int .i64 x1, .int .i64 (-1), .int .i64 0] (by rfl) (by rfl) (cells_new _ _ _ _ rfl) (by simp [Value.oneCell']) (by omega) (by unfold maxLen; omega) (by omega) (by simp; omega) (w8.heap.size + 1) (by simp) ?_
          intro gg cap w9 hown9 hgrow9 hat9 hlt9
          have hgr9 : (w8.alloc (.cells #[.int .i64 (2 + (x8 : Int)), .int .i64 x0, .int .i64 x1, .int .i64 (-1), .int .i64 0] 73)).grownBy w9 (Value.slice Af (nf) cf).ownBlock := ⟨hgrow9.os, hgrow9.tape, hgrow9.output, hgrow9.size, hgrow9.block⟩
          have hfr9 := HGc.out.frame hgr9 fun k hk => (HGc.out.pr.lt k hk).1
          have z9 := hfr9.2.2.1
          have h0 := hfr9.2.2.2.2.2.1
          have h1 := hfr9.2.2.2.2.2.2.1
          clear hfr9
          have hxr9 := HGc.out.xr.kept hgr9 (blocks_ne HGc.out.xr HGc.out.pr int_ne_part)
          have s0 := (hxr9.cellAt (j) (by omega)).trans HXX.out.1
          have s1 := (hxr9.cellAt (j + 1) (by omega)).trans HXX.out.2
          clear hxr9
          refine hK.out _ _ ⟨s0, s1⟩ (fun hHeld => ?_); clear hK K; (try simp only [Act.put, List.setIfInBounds_toArray, List.set_cons_zero, List.set_cons_succ])
          refine wpAnyH_take (i := 18) (oi := ⟨some 143, _, _, _, _, _⟩) (v := ?_) rfl (by kernel_rfl) (by kernel_rfl) (by kernel_rfl) (fun _ _ _ h => h) (Or.inl ⟨by rfl, ?_⟩) (by assumption) ?_; rotate_left; (focus (intro w hSw; (try dsimp only at hSw); go_simp; (try with_reducible rfl))); (try simp only [Act.put, List.setIfInBounds_toArray, List.set_cons_zero, List.set_cons_succ])
          refine wpAnyH_ready (rs := [19]) (by kernel_rfl) (by simp) ?_; refine AllReadyH.cons (o := ⟨none, _, _, _, _, _⟩) rfl (fun K hK => ?_) AllReadyH.nil; go_simp
          refine hK.out _ _ ⟨(World.cell?_setCell_other _ _ _ _ (hnb1 _)).trans s0, (World.cell?_setCell_other _ _ _ _ (hnb1 _)).trans s1⟩ (fun hHeld => ?_); clear hK K; (try simp only [Act.put, List.setIfInBounds_toArray, List.set_cons_zero, List.set_cons_succ])
          refine wpAnyH_done (by kernel_rfl) ?_ _
          rotate_left
          go_simp
          refine hK.out _ _ ⟨q0, q1⟩ (fun hHeld => ?_); clear hK K; (try simp only [Act.put, List.setIfInBounds_toArray, List.set_cons_zero, List.set_cons_succ])
          refine wpAnyH_ready (rs := [1]) (by kernel_rfl) (by simp) ?_; refine AllReadyH.cons (o := ⟨some 126, _, _, _, _, _⟩) rfl (fun K hK => ?_) AllReadyH.nil; go_simp
          refine hK.out _ _ ⟨q0, q1⟩ (fun hHeld => ?_); clear hK K; (try simp only [Act.put, List.setIfInBounds_toArray, List.set_cons_zero, List.set_cons_succ])
          refine wpAnyH_ready (rs := [17]) (by kernel_rfl) (by simp) ?_; refine AllReadyH.cons (o := ⟨some 142, _, _, _, _, _⟩) rfl (fun K hK => ?_) AllReadyH.nil
          refine step_append_lies _ (by rfl) _ _ _ (by rfl) (w.heap.size + 2) 73 i1 _ 5 40 Try.underlying23 hi1 hy0 hy1 hy2 rfl (by omega) (.slice Af (nf) cf) (nf) _ (by rfl) HGc.out.pr ⟨w8.heap.size, 0, none⟩ 1 1 [.int .i64 (2 + (x8 : Int)), .int .i64 x0, .int .i64 x1, .int .i64 (-1), .int .i64 0] (by rfl) (by rfl) (cells_new _ _ _ _ rfl) (by simp [Value.oneCell']) (by omega) (by unfold maxLen; omega) (by omega) (by simp; omega) (w8.heap.size + 1) (by simp) ?_
          intro gg cap w9 hown9 hgrow9 hat9 hlt9
          have hgr9 : (w8.alloc (.cells #[.int .i64 (2 + (x8 : Int)), .int .i64 x0, .int .i64 x1, .int .i64 (-1), .int .i64 0] 73)).grownBy w9 (Value.slice Af (nf) cf).ownBlock := ⟨hgrow9.os, hgrow9.tape, hgrow9.output, hgrow9.size, hgrow9.block⟩
          have hfr9 := HGc.out.frame hgr9 fun k hk => (HGc.out.pr.lt k hk).1
          have z9 := hfr9.2.2.1
          have h0 := hfr9.2.2.2.2.2.1
          have h1 := hfr9.2.2.2.2.2.2.1
          clear hfr9
          have hxr9 := HGc.out.xr.kept hgr9 (blocks_ne HGc.out.xr HGc.out.pr int_ne_part)
          have s0 := (hxr9.cellAt (j) (by omega)).trans HXX.out.1
          have s1 := (hxr9.cellAt (j + 1) (by omega)).trans HXX.out.2
          clear hxr9
          refine hK.out _ _ ⟨s0, s1⟩ (fun hHeld => ?_); clear hK K; (try simp only [Act.put, List.setIfInBounds_toArray, List.set_cons_zero, List.set_cons_succ])
          refine wpAnyH_take (i := 18) (oi := ⟨some 143, _, _, _, _, _⟩) (v := ?_) rfl (by kernel_rfl) (by kernel_rfl) (by kernel_rfl) (fun _ _ _ h => h) (Or.inl ⟨by rfl, ?_⟩) (by assumption) ?_; rotate_left; (focus (intro w hSw; (try dsimp only at hSw); go_simp; (try with_reducible rfl))); (try simp only [Act.put, List.setIfInBounds_toArray, List.set_cons_zero, List.set_cons_succ])
          refine wpAnyH_ready (rs := [19]) (by kernel_rfl) (by simp) ?_; refine AllReadyH.cons (o := ⟨none, _, _, _, _, _⟩) rfl (fun K hK => ?_) AllReadyH.nil; go_simp
          refine hK.out _ _ ⟨(World.cell?_setCell_other _ _ _ _ (hnb1 _)).trans s0, (World.cell?_setCell_other _ _ _ _ (hnb1 _)).trans s1⟩ (fun hHeld => ?_); clear hK K; (try simp only [Act.put, List.setIfInBounds_toArray, List.set_cons_zero, List.set_cons_succ])
          refine wpAnyH_done (by kernel_rfl) ?_ _
          all_goals
            have HG8 := Lib.hid (HGc.out.parted (Af' := some ⟨gg, 0, none⟩) (nf' := nf + 1) (cf' := cap) (ps' := ps ++ [⟨2 + (x8 : Int), x0, x1, -1, 0⟩]) hgr9 (by rw [List.flatMap_append]; exact hown9) (by rw [List.length_append, ← HGc.out.pl]; rfl))
            have HXL8 := Lib.hid (HXL.out)
            clear hown9 hgrow9 hgr9 hat9 hlt9 z9 h0 h1 s0 s1 q0 q1 p0 p1 o0 o1 g0 g1 f0 f1 z1 z8 HGc HGP HG HXX a8
            go_wp2_with fail
            generalize (w9.setCell ⟨w.heap.size + 1, 0, none⟩ (.slice (some ⟨gg, 0, none⟩) (nf + 1) cap)) = W8 at *
            have f8 := HG8.out.fb
            have z8 : w.heap.size + 1 < W8.heap.size := HG8.out.lt
            have n1 : IntKind.i64.wrap ((nf : Int) + 1 - 1) = (nf : Int) := by rw [IntKind.wrap_i64]; omega
            have n2 : IntKind.i64.wrap ((nf : Int)) = (nf : Int) := by rw [IntKind.wrap_i64]; omega
            have f8' := (World.cell?_alloc_lt W8 (.cells #[.int .i64 ((nf : Int))] 3) ⟨w.heap.size + 1, 0, none⟩ z8).trans f8
            have HG9 := Lib.hid (HG8.out.alloc (.cells #[.int .i64 ((nf : Int))] 3))
            have hcg : j + 2 ≤ cg := by
              rcases HG8.out.xr.2 with ⟨h', _⟩ | ⟨g', cap', cur, h', _, _, hnc, _⟩
              · simp at h'
              · simp at h'
                omega
            have hcg1 : (j : Int) ≤ (cg : Int) := by omega
            go_region_held3 (fun w' => w'.cell? ⟨w.heap.size + 1, 0, none⟩ = some (.slice (some ⟨gg, 0, none⟩) (nf + 1) cap)) (first | exact f8 | exact f8' | exact f9)
              (first
                | (refine step_append_lies _ (by rfl) _ _ _ (by rfl) (w.heap.size + 2) 3 i0 (.int .i64 0) 1 8 Try.underlying30 hi0 hz0 hz1 hz2 rfl (by omega) (.slice (some ⟨go, 0, none⟩) (j) cg) (j) _ (by rfl) (own_shrink HG9.out.xr (by omega)) ⟨W8.heap.size, 0, none⟩ 1 1 [.int .i64 ((nf : Int))] (by rfl) (by rfl) (cell_one_new _ _ _) (by simp [Value.oneCell']) (by omega) (by unfold maxLen; omega) (by omega) (by simp; omega) W8.heap.size.succ (by simp) ?_; intro gh cah w10 hown10 hgrow10' hat10 hlt10; have hgrow10 : (W8.alloc (.cells #[.int .i64 ((nf : Int))] 3)).grownBy w10 (Value.slice (some ⟨go, 0, none⟩) (j) cg).ownBlock := ⟨hgrow10'.os, hgrow10'.tape, hgrow10'.output, hgrow10'.size, hgrow10'.block⟩; have HGA := Lib.hid (HG9.out.opened (xs' := X.take (j) ++ [(nf : Int)]) (own_shrink HG9.out.xr (by omega : j ≤ j + 2)) hgrow10 (by first | (simpa using hown10) | (simpa [List.map_take] using hown10) | (rw [List.map_append, List.map_take]; exact hown10)) (by have := HXL8.out; rw [List.length_append, List.length_take]; show _ = _ + 1; omega)); have f9 := HGA.out.fb))
            clear f8 f8' f9 hgrow10 hgrow10' hown10 hat10 hlt10 HG8 HG9 z8 n1 n2 a1 a2 a1' a2' t1 t2
            go_wp2_with fail
            go_roundw
            case rel => exact ⟨j + 1, nf + 1, cap, _, _, _, _, by omega, by omega, by omega, HGA.out⟩
            case measure => simp [slcLen]
        · obtain ⟨Avz, cvz, rfl⟩ := row_form' HG.out.xr
          have hgs := HG.out.gs
          have hVF := Lib.hid fun (hv : validF ps = true) => validF_good ps hv
          have HVC := Lib.hid (spec_validFormula Af nf cf ps wr wr.heap.size (Nat.le_refl _) HG.out.pl (PS.of_own HG.out.pr) (by omega))
          have HPL := Lib.hid HG.out.pl
          have f0 := HG.out.fb
          have z1 : w.heap.size + 1 < wr.heap.size := HG.out.lt
          generalize validF ps = bv at *
          go_wp2_with fail
          refine HVC.out.mono ?_
          rintro e w2 ⟨rfl, hb2⟩
          have HG2 := Lib.hid (HG.out.step hb2)
          clear hb2 HVC f0 z1 HG
          cases bv
          · go_wp2_with fail
            refine (readPart_any g A n c bs Q An l c' nodes _ HG2.out.rd HN.out hby hs (by omega) HL.out hl2 (HG2.out.nd.more (by have := HG2.out.lt; omega)) HG2.out.ng).mono ?_
            rintro e w3 ⟨q, rfl, hr3, ht3⟩
            have HG3 := Lib.hid (HG2.out.pick hr3 ht3)
            have z3 : w.heap.size < w3.heap.size := by have := HG3.out.lt; omega
            obtain ⟨V, hV⟩ : ∃ V : Value, V = .slice (some ⟨w3.heap.size, 0, none⟩) 1 1 := ⟨_, rfl⟩
            have hsz : (w3.setCell ⟨w.heap.size, 0, none⟩ V).heap.size = w3.heap.size := by simp [World.setCell]
            have hrow := World.ownsRow_lit (e := 73) (size := 5) (base := w.heap.size + 2) (w3.setCell ⟨w.heap.size, 0, none⟩ V) #[.int .i64 q.k, .int .i64 q.a, .int .i64 q.b, .int .i64 q.c, .int .i64 q.n] 1 (by rw [hsz]; have := HG3.out.lt; omega) (by unfold maxLen; omega) (by simp)
            rw [hsz] at hrow
            have HROW := Lib.hid hrow
            have r0 := HG3.out.rb
            have r1 := HG3.out.rz
            have HZ := Lib.hid ((World.cell?_alloc_lt (w3.setCell ⟨w.heap.size, 0, none⟩ V) (.cells #[.int .i64 q.k, .int .i64 q.a, .int .i64 q.b, .int .i64 q.c, .int .i64 q.n] 73) ⟨w.heap.size, 0, none⟩ (by rw [hsz]; exact z3)).trans (World.cell?_setCell_same _ _ _ r0))
            have HRD := Lib.hid (((HG3.out.rd.mono (show _ ≤ P + 200 by omega)).set1 hgw 0 V).alloc (.cells #[.int .i64 q.k, .int .i64 q.a, .int .i64 q.b, .int .i64 q.c, .int .i64 q.n] 73))
            have HFR := Lib.hid (HG3.out.fr.trans (Frd.of_below (((Below.refl w.heap.size w3).setCell (p := ⟨w.heap.size, 0, none⟩) (Nat.le_refl _) V).alloc (by rw [hsz]; omega) (.cells #[.int .i64 q.k, .int .i64 q.a, .int .i64 q.b, .int .i64 q.c, .int .i64 q.n] 73)) (Nat.le_refl _)))
            rw [hV] at HROW HZ HRD HFR
            clear hr3 ht3 HG2 HG3 hrow hsz hV
            go_wp2
            have hz := HZ.out
            refine bodyPost_ret (v := .agg #[.slice (some ⟨w3.heap.size, 0, none⟩) 1 1]) (by simp [results, Try.results93, go_sem, hz]) rfl ?_
            exact ⟨_, 1, 1, [q], rfl, rfl, by omega, by omega, own_mono HROW.out (by omega), HRD.out, HFR.out.tch⟩
          · obtain ⟨_, hv1, hv12⟩ := hVF.out (by first | rfl | trivial)
            have r0 := HG2.out.rb
            have r1 := HG2.out.rz
            have f0 := HG2.out.fb
            have z1 : w.heap.size + 1 < w2.heap.size := HG2.out.lt
            have z0 : w.heap.size < w2.heap.size := by omega
            have hnf1 : 1 ≤ nf := by have := HPL.out; omega
            clear hv1 hv12
            go_wp2
            refine bodyPost_ret (v := .agg #[.slice Af nf cf]) (by simp [results, Try.results93, go_sem, r0]) rfl ?_
            refine ⟨_, _, _, ps, rfl, HPL.out, hnf1, by omega, ?_, (HG2.out.rd.mono (by omega)).set1 hgw 0 _, (HG2.out.fr.trans (Frd.of_below ((Below.refl w.heap.size _).setCell (p := ⟨w.heap.size, 0, none⟩) (Nat.le_refl _) _) (Nat.le_refl _))).tch⟩
            exact own_mono (own_keep HG2.out.pr fun y hy hy' => Below.heap_setCell _ _ _ _ (by show y ≠ w.heap.size; omega)) (by omega)
end Go.Proofs.Ytgbijmfmdcphhaa

/- Contracts of the laws' own copies of graphs: toNode, toNodeS, toGraph. -/
namespace Go.Proofs.Ytgbijmfmdcphhaa
set_option linter.unusedSimpArgs false
set_option linter.unusedVariables false
open Go.RowKit

/-- Returns a node of fresh parts. -/
def RetNd (w : World) (d : Nd) (e : Ending) (w' : World) : Prop := ∃ (A : Option Addr) (n c : Nat), e = .returned (.agg #[.int .i64 d.k, .slice A n c]) ∧ n = d.ps.length ∧ w'.ownsRow w.heap.size 73 5 (.slice A n c) n (d.ps.flatMap Pt.cells) ∧ Below w.heap.size w w'

/-- Two cells written one after the other. -/
def set2 (xs : List Value) (j : Nat) (x y : Value) : List Value := (xs.set j x).set (j + 1) y

theorem set2_get (xs : List Value) (j : Nat) (x y : Value) (h : j + 1 < xs.length) : (set2 xs j x y)[j]? = some x ∧ (set2 xs j x y)[j + 1]? = some y ∧ ∀ i, i ≠ j → i ≠ j + 1 → (set2 xs j x y)[i]? = xs[i]? := by
  unfold set2
  refine ⟨?_, ?_, fun i h1 h2 => ?_⟩
  · rw [List.getElem?_set, if_neg (by omega), List.getElem?_set, if_pos rfl, if_pos (by omega)]
  · rw [List.getElem?_set, if_pos rfl, if_pos (by simpa using h)]
  · rw [List.getElem?_set, if_neg (by omega), List.getElem?_set, if_neg (by omega)]

theorem own_set2 {w : World} {base e size n cap g : Nat} {xs : List Value} (h : w.ownsRow base e size (.slice (some ⟨g, 0, none⟩) n cap) n xs) (j : Nat) (x y : Value) :
    ((w.setCell ⟨g, j, none⟩ x).setCell ⟨g, j + 1, none⟩ y).ownsRow base e size (.slice (some ⟨g, 0, none⟩) n cap) n (set2 xs j x y) :=
  ((h.stored j x).1.stored (j + 1) y).1

theorem NdO.setCell {lo hi : Nat} {d : Nd} {x y : Value} {w : World} (h : NdO lo hi d x y w) {a : Addr} (ha : a.block < lo) (u : Value) : NdO lo hi d x y (w.setCell a u) :=
  h.keep fun k hk _ => Below.heap_setCell _ _ _ _ (by omega)

theorem info_node : (Try.prog.info? 49).map (fun i => (i.zero, i.size, i.bytes)) = some (some (.agg #[.int .i64 0, .slice none 0 0]), 2, 32) := by kernel_rfl

/-- Returns a graph of fresh nodes. -/
def RetGr (w : World) (gs : List Nd) (e : Ending) (w' : World) : Prop := ∃ (A : Option Addr) (n c : Nat), e = .returned (.agg #[.slice A n c]) ∧ n = gs.length ∧ OwG w.heap.size w'.heap.size (.slice A n c) n gs w' ∧ Below w.heap.size w w'

theorem OwG.setCell {lo hi n : Nat} {v : Value} {gs : List Nd} {w : World} (h : OwG lo hi v n gs w) {a : Addr} (ha : a.block < lo) (u : Value) : OwG lo hi v n gs (w.setCell a u) :=
  OwG.loc _ _ _ _ _ _ _ h fun k hk _ => Below.heap_setCell _ _ _ _ (by omega)

end Go.Proofs.Ytgbijmfmdcphhaa

/- The contract of the laws' own marks on graphs: only blocks of the graph turn. -/
namespace Go.Proofs.Ytgbijmfmdcphhaa
set_option linter.unusedSimpArgs false
set_option linter.unusedVariables false
open Go.RowKit

/-- What a mark leaves, where the marks do not matter. -/
def MkW (lo hi : Nat) (w : World) (k top : Int) (e : Ending) (w' : World) : Prop := ∃ k' : Int, e = .returned (.int .i64 k') ∧ k ≤ k' ∧ k' ≤ top ∧ Tch lo hi w w'

end Go.Proofs.Ytgbijmfmdcphhaa

/- The drawing of graphs: goodGraph. -/
namespace Go.Proofs.Ytgbijmfmdcphhaa
set_option linter.unusedSimpArgs false
set_option linter.unusedVariables false
open Go.RowKit

/-- A node in a box: its kind, its parts as a slice. -/
structure NB (b : Nat) (q : Int) (y : Value) (w : World) : Prop where
  lt : b < w.heap.size
  c0 : w.cell? ⟨b, 0, none⟩ = some (.int .i64 q)
  c1 : w.cell? ⟨b, 1, none⟩ = some y
  fz : ∀ j, w.frozen? ⟨b, j, none⟩ = false
theorem NB.keep {b : Nat} {q : Int} {y : Value} {w w' : World} (h : NB b q y w) (hk : w'.heap[b]? = w.heap[b]?) (hs : w.heap.size ≤ w'.heap.size) : NB b q y w' := by
  have c (j : Nat) : w'.cell? ⟨b, j, none⟩ = w.cell? ⟨b, j, none⟩ := World.cell?_of_block (a := ⟨b, j, none⟩) hk
  have f (j : Nat) : w'.frozen? ⟨b, j, none⟩ = w.frozen? ⟨b, j, none⟩ := World.frozen?_of_block (a := ⟨b, j, none⟩) hk
  exact ⟨Nat.lt_of_lt_of_le h.lt hs, (c 0).trans h.c0, (c 1).trans h.c1, fun j => (f j).trans (h.fz j)⟩
theorem NB.pick {g b : Nat} {q : Int} {y : Value} {w w' : World} (h : NB b q y w) (ht : Tch g (g + 1) w w') (hb : b ≠ g) : NB b q y w' := h.keep (ht.block b h.lt (by omega)) ht.size
theorem NB.step {b : Nat} {q : Int} {y : Value} {w w' : World} (h : NB b q y w) (hb : Below w.heap.size w w') : NB b q y w' := h.keep (hb.block b h.lt) hb.size
theorem NB.alloc {b : Nat} {q : Int} {y : Value} {w : World} (h : NB b q y w) (o : Obj) : NB b q y (w.alloc o) := h.step ((Below.refl _ _).alloc (Nat.le_refl _) o)
theorem NB.set0 {b : Nat} {q : Int} {y : Value} {w : World} (h : NB b q y w) (q' : Int) : NB b q' y (w.setCell ⟨b, 0, none⟩ (.int .i64 q')) :=
  ⟨by simpa [World.setCell] using h.lt, World.cell?_setCell_same _ _ _ h.c0, (World.cell?_setCell_other _ _ _ _ (by intro e; cases e)).trans h.c1, fun j => by simp only [World.frozen?_setCell]; exact h.fz j⟩
theorem NB.set1 {b : Nat} {q : Int} {y : Value} {w : World} (h : NB b q y w) (y' : Value) : NB b q y' (w.setCell ⟨b, 1, none⟩ y') :=
  ⟨by simpa [World.setCell] using h.lt, (World.cell?_setCell_other _ _ _ _ (by intro e; cases e)).trans h.c0, World.cell?_setCell_same _ _ _ h.c1, fun j => by simp only [World.frozen?_setCell]; exact h.fz j⟩

/-- The state of the drawing of a graph: the boxes at s (the answer) and s + 1 (the graph), the nodes gs, the free ones fr; rows in blocks s + 2 to hi - 1. -/
structure GQ (g s hi : Nat) (A : Option Addr) (n c : Nat) (bs : List Int) (w0 : World) (P : Nat) (Vg : Value) (k : Nat) (gs : List Nd) (Vf : Value) (fl : Nat) (fr : List Int) (w : World) : Prop where
  g_s : g < s
  frd : Frd g s w0 w
  rd : Rdr g A n c bs P w
  s2 : s + 2 ≤ hi
  lt : hi ≤ w.heap.size
  rb : w.cell? ⟨s, 0, none⟩ = some (.slice none 0 0)
  rz : w.frozen? ⟨s, 0, none⟩ = false
  gb : w.cell? ⟨s + 1, 0, none⟩ = some Vg
  gz : w.frozen? ⟨s + 1, 0, none⟩ = false
  nd : OwG (s + 2) hi Vg k gs w
  sm : ∀ j, (gs.getD j default).ps.length ≤ 40
  fn : fl = fr.length
  fx : OwR (s + 2) hi 3 1 Vf fl (fr.map (Value.int .i64)) w

section
variable {g s hi : Nat} {A : Option Addr} {n c : Nat} {bs : List Int} {w0 : World} {P P' : Nat} {Vg : Value} {k : Nat} {gs : List Nd} {Vf : Value} {fl : Nat} {fr : List Int} {w w' : World}
theorem GQ.keep (h : GQ g s hi A n c bs w0 P Vg k gs Vf fl fr w) (hk : ∀ b, b ≠ g → b < hi → w'.heap[b]? = w.heap[b]?) (hr : Rdr g A n c bs P' w') (hf : Frd g s w w') : GQ g s hi A n c bs w0 P' Vg k gs Vf fl fr w' := by
  have h1 := h.g_s
  have h2 := h.s2
  have hc : ∀ (b j : Nat), b ≠ g → b < hi → w'.cell? ⟨b, j, none⟩ = w.cell? ⟨b, j, none⟩ := fun b j x y => World.cell?_of_block (a := ⟨b, j, none⟩) (hk b x y)
  have hz : ∀ (b j : Nat), b ≠ g → b < hi → w'.frozen? ⟨b, j, none⟩ = w.frozen? ⟨b, j, none⟩ := fun b j x y => World.frozen?_of_block (a := ⟨b, j, none⟩) (hk b x y)
  exact ⟨h.g_s, h.frd.trans hf, hr, h.s2, Nat.le_trans h.lt hf.size, (hc s 0 (by omega) (by omega)).trans h.rb, (hz s 0 (by omega) (by omega)).trans h.rz, (hc (s + 1) 0 (by omega) (by omega)).trans h.gb, (hz (s + 1) 0 (by omega) (by omega)).trans h.gz,
    OwG.loc _ _ _ _ _ _ _ h.nd fun b x y => hk b (by omega) y, h.sm, h.fn, h.fx.keep fun b x y => hk b (by omega) y⟩
theorem GQ.mono (h : GQ g s hi A n c bs w0 P Vg k gs Vf fl fr w) (hP : P ≤ P') : GQ g s hi A n c bs w0 P' Vg k gs Vf fl fr w :=
  ⟨h.g_s, h.frd, h.rd.mono hP, h.s2, h.lt, h.rb, h.rz, h.gb, h.gz, h.nd, h.sm, h.fn, h.fx⟩
theorem GQ.pick (h : GQ g s hi A n c bs w0 P Vg k gs Vf fl fr w) (hr : Rdr g A n c bs P' w') (ht : Tch g (g + 1) w w') : GQ g s hi A n c bs w0 P' Vg k gs Vf fl fr w' :=
  h.keep (fun b x y => ht.block b (Nat.lt_of_lt_of_le y h.lt) (by omega)) hr (Frd.of_tch ht (by have := h.s2; have := h.lt; omega))
theorem GQ.step (h : GQ g s hi A n c bs w0 P Vg k gs Vf fl fr w) (hb : Below w.heap.size w w') : GQ g s hi A n c bs w0 P Vg k gs Vf fl fr w' :=
  h.keep (fun b _ y => hb.block b (Nat.lt_of_lt_of_le y h.lt)) (h.rd.step hb) (Frd.of_below hb (by have := h.s2; have := h.lt; omega))
theorem GQ.alloc (h : GQ g s hi A n c bs w0 P Vg k gs Vf fl fr w) (o : Obj) : GQ g s hi A n c bs w0 P Vg k gs Vf fl fr (w.alloc o) := h.step ((Below.refl _ _).alloc (Nat.le_refl _) o)
theorem GQ.poke (h : GQ g s hi A n c bs w0 P Vg k gs Vf fl fr w) {b : Nat} (hb : hi ≤ b) (j : Nat) (x : Value) : GQ g s hi A n c bs w0 P Vg k gs Vf fl fr (w.setCell ⟨b, j, none⟩ x) :=
  h.keep (fun b' _ y => Below.heap_setCell _ _ _ _ (by show b' ≠ b; omega)) (h.rd.set1 (by have := h.g_s; have := h.s2; omega) j x)
    (Frd.of_below ((Below.refl hi w).setCell (p := ⟨b, j, none⟩) hb x) (by have := h.s2; omega))
end

theorem int_ne_node : (3 : TypeId) ≠ 49 := by decide

/-- One node more. -/
theorem OwG.snoc {lo hi k : Nat} {v v' : Value} {gs : List Nd} {w w' : World} {d : Nd} {y : Value} {A : Option Addr} {m c : Nat} {xs : List Value}
    (h0 : k = gs.length) (hx : OwR lo hi 49 2 v k xs w) (hn : ∀ j, j < k → ∃ x y, xs[j * 2]? = some x ∧ xs[j * 2 + 1]? = some y ∧ NdO lo hi (gs.getD j default) x y w)
    (hy : y = .slice A m c) (hm : m = d.ps.length) (hp : OwR lo w.heap.size 73 5 (.slice A m c) m (d.ps.flatMap Pt.cells) w) (hle : hi ≤ w.heap.size)
    (hg : w.grownBy w' v.ownBlock) (hv : w'.ownsRow lo 49 2 v' (k + 1) (xs ++ [.int .i64 d.k, y])) : OwG lo w'.heap.size v' (k + 1) (gs ++ [d]) w' := by
  have hxl : xs.length = k * 2 := hx.1.1
  have keep {z : Value} {mm : Nat} {ys : List Value} {t : Nat} (ht : t ≤ w.heap.size) (ho : OwR lo t 73 5 z mm ys w) : OwR lo w'.heap.size 73 5 z mm ys w' :=
    ⟨ho.1.kept hg (blocks_ne ho.1 hx.1 node_ne_part.symm), fun q hq => by have := ho.2 q hq; have := hg.size; omega⟩
  refine ⟨by simp [h0], _, ⟨hv, fun q hq => (hv.lt q hq).2⟩, fun j hj => ?_⟩
  rcases Nat.lt_or_ge j k with h1 | h1
  · obtain ⟨x, y', e1, e2, e3, A', n', c', e4, e5, e6⟩ := hn j h1
    refine ⟨x, y', ?_, ?_, ?_⟩
    · rw [List.getElem?_append_left (by omega)]; exact e1
    · rw [List.getElem?_append_left (by omega)]; exact e2
    · have eg : (gs ++ [d]).getD j default = gs.getD j default := by simp [List.getD, List.getElem?_append, show j < gs.length by omega]
      rw [eg]
      exact ⟨e3, A', n', c', e4, e5, by subst e4; exact keep hle e6⟩
  · obtain rfl : j = k := by omega
    have eg : (gs ++ [d]).getD j default = d := by simp [List.getD, List.getElem?_append, h0]
    refine ⟨.int .i64 d.k, y, ?_, ?_, ?_⟩
    · rw [List.getElem?_append_right (by omega), hxl]; simp
    · rw [List.getElem?_append_right (by omega), hxl, show j * 2 + 1 - j * 2 = 1 by omega]; simp
    · rw [eg]
      exact ⟨rfl, A, m, c, hy, hm, by subst hy; exact keep (Nat.le_refl _) hp⟩

theorem small_snoc {gs : List Nd} {d : Nd} (h : ∀ j, (gs.getD j default).ps.length ≤ 40) (hd : d.ps.length ≤ 40) : ∀ j, ((gs ++ [d]).getD j default).ps.length ≤ 40 := by
  intro j
  rcases Nat.lt_trichotomy j gs.length with h1 | h1 | h1
  · have := h j
    simpa [List.getD, List.getElem?_append, h1] using this
  · subst h1
    simpa [List.getD, List.getElem?_append] using hd
  · have : (gs ++ [d])[j]? = none := List.getElem?_eq_none (by simp; omega)
    simp [List.getD, this]
    exact Nat.zero_le _

/-- Returns a graph of 2 to 10 nodes in fresh blocks, of any content; the reader has picked Q times at most. -/
def GgP (g : Nat) (A : Option Addr) (n c : Nat) (bs : List Int) (Q : Nat) (w : World) (e : Ending) (w' : World) : Prop :=
  ∃ (V : Value) (k : Nat) (gs : List Nd), e = .returned (.agg #[V]) ∧ 2 ≤ k ∧ k ≤ 10 ∧ (∀ j, (gs.getD j default).ps.length ≤ 40) ∧ OwG w.heap.size w'.heap.size V k gs w' ∧ Rdr g A n c bs Q w' ∧ Tch g (g + 1) w w'
theorem IS.drop {w : World} {B b off : Nat} {xs : List Int} (h : IS w B (some ⟨b, off, none⟩) xs) (j : Nat) : IS w B (some ⟨b, off + j, none⟩) (xs.drop j) := by
  intro hn
  simp only [List.length_drop] at hn
  obtain ⟨b', o', e, hb, hc⟩ := h (by omega)
  cases e
  refine ⟨b, off + j, rfl, hb, fun i hi => ?_⟩
  simp only [List.length_drop] at hi
  have := hc (j + i) (by omega)
  rw [Nat.add_assoc, this]
  simp [List.getD]

section
variable {g s hi : Nat} {A : Option Addr} {n c : Nat} {bs : List Int} {w0 : World} {P P' : Nat} {Vg : Value} {k : Nat} {gs : List Nd} {Vf : Value} {fl : Nat} {fr : List Int} {w w' : World}
theorem GQ.raise {hi' : Nat} (h : GQ g s hi A n c bs w0 P Vg k gs Vf fl fr w) (h1 : hi ≤ hi') (h2 : hi' ≤ w.heap.size) : GQ g s hi' A n c bs w0 P Vg k gs Vf fl fr w :=
  ⟨h.g_s, h.frd, h.rd, Nat.le_trans h.s2 h1, h2, h.rb, h.rz, h.gb, h.gz, h.nd.mono (Nat.le_refl _) h1, h.sm, h.fn, h.fx.mono (Nat.le_refl _) h1⟩
/-- What lies in the boxes stays when a row of the call's own is written to. -/
theorem GQ.frame (h : GQ g s hi A n c bs w0 P Vg k gs Vf fl fr w) {row : Option Nat} (hg : w.grownBy w' row) (hr : ∀ k, row = some k → s + 2 ≤ k) :
    Frd g s w0 w' ∧ Rdr g A n c bs P w' ∧ w'.cell? ⟨s, 0, none⟩ = some (.slice none 0 0) ∧ w'.frozen? ⟨s, 0, none⟩ = false ∧ w'.cell? ⟨s + 1, 0, none⟩ = some Vg ∧ w'.frozen? ⟨s + 1, 0, none⟩ = false := by
  have h1 := h.s2
  have h2 := h.lt
  have h3 := h.g_s
  have hb : Below (s + 2) w w' := (Below.refl _ _).grown hg (by omega) hr
  have ht : Tch (s + 2) (w.heap.size + s + 2) w w' := ⟨hg.os, hg.tape, hg.output, hg.size, fun k hk hx => hb.block k (by omega)⟩
  exact ⟨h.frd.trans (Frd.of_below hb (by omega)), h.rd.turn ht (by omega), (hb.cell (p := ⟨s, 0, none⟩) (by show s < s + 2; omega)).trans h.rb, (hb.frozen (p := ⟨s, 0, none⟩) (by show s < s + 2; omega)).trans h.rz,
    (hb.cell (p := ⟨s + 1, 0, none⟩) (by show s + 1 < s + 2; omega)).trans h.gb, (hb.frozen (p := ⟨s + 1, 0, none⟩) (by show s + 1 < s + 2; omega)).trans h.gz⟩
theorem GQ.noded {v' : Value} {gs' : List Nd} {k' : Nat} (h : GQ g s hi A n c bs w0 P Vg k gs Vf fl fr w) (hg : w.grownBy w' Vg.ownBlock) (hv : OwG (s + 2) w'.heap.size v' k' gs' w') (hsm : ∀ j, (gs'.getD j default).ps.length ≤ 40) :
    GQ g s (w'.setCell ⟨s + 1, 0, none⟩ v').heap.size A n c bs w0 P v' k' gs' Vf fl fr (w'.setCell ⟨s + 1, 0, none⟩ v') := by
  obtain ⟨_, xs, hx, _⟩ := h.nd
  obtain ⟨f1, f2, f3, f4, f5, f6⟩ := h.frame hg fun q hq => (hx.1.lt q hq).1
  have h1 := h.s2
  have h2 := h.lt
  have h3 := h.g_s
  have hz : (w'.setCell ⟨s + 1, 0, none⟩ v').heap.size = w'.heap.size := by simp [World.setCell]
  rw [hz]
  have hfx := h.fx.1.kept hg (blocks_ne h.fx.1 hx.1 int_ne_node)
  refine ⟨h.g_s, f1.trans (Frd.of_below ((Below.refl (s + 1) w').setCell (p := ⟨s + 1, 0, none⟩) (Nat.le_refl _) v') (by omega)), f2.set1 (by omega) 0 v', by have := hg.size; omega, by rw [hz]; exact Nat.le_refl _, ?_, by simpa using f4, World.cell?_setCell_same _ _ _ f5, by simpa using f6, ?_, hsm, h.fn, ?_⟩
  · rw [World.cell?_setCell_other _ _ _ _ (by intro e; simp at e)]; exact f3
  · exact OwG.loc _ _ _ _ _ _ _ hv fun b x y => Below.heap_setCell _ _ _ _ (by show b ≠ s + 1; omega)
  · exact (OwR.keep (hi := w'.heap.size) ⟨hfx, fun q hq => (hfx.lt q hq).2⟩ fun b x y => Below.heap_setCell _ _ _ _ (by show b ≠ s + 1; omega))
theorem GQ.freed {v' : Value} {fl' : Nat} {fr' : List Int} (h : GQ g s hi A n c bs w0 P Vg k gs Vf fl fr w) (hg : w.grownBy w' Vf.ownBlock) (hv : w'.ownsRow (s + 2) 3 1 v' fl' (fr'.map (Value.int .i64))) (hl : fl' = fr'.length) :
    GQ g s w'.heap.size A n c bs w0 P Vg k gs v' fl' fr' w' := by
  obtain ⟨h0, xs, hx, hns⟩ := h.nd
  obtain ⟨f1, f2, f3, f4, f5, f6⟩ := h.frame hg fun q hq => (h.fx.1.lt q hq).1
  have h1 := h.s2
  have h2 := h.lt
  have hs := hg.size
  refine ⟨h.g_s, f1, f2, by omega, Nat.le_refl _, f3, f4, f5, f6, ⟨h0, xs, ⟨hx.1.kept hg (blocks_ne hx.1 h.fx.1 int_ne_node.symm), fun q hq => by have := hx.2 q hq; omega⟩, fun j hj => ?_⟩, h.sm, hl, ⟨hv, fun q hq => (hv.lt q hq).2⟩⟩
  obtain ⟨x, y, e1, e2, e3, A', n', c', e4, e5, e6⟩ := hns j hj
  exact ⟨x, y, e1, e2, e3, A', n', c', e4, e5, e6.1.kept hg (blocks_ne e6.1 h.fx.1 int_ne_part.symm), fun q hq => by have := e6.2 q hq; omega⟩
end
theorem row_far {w : World} {lo e size n c : Nat} {A : Option Addr} {xs : List Value} (h : w.ownsRow lo e size (.slice A n c) n xs) {g : Nat} (hg : g < lo) : ∀ b' o', A = some ⟨b', o', none⟩ → b' ≠ g := by
  intro b' o' he
  subst he
  rcases h.2 with ⟨hv, _⟩ | ⟨g', cap, cur, hv, hb, _⟩
  · simp at hv
  · simp at hv
    omega
theorem IS.drop0 {w : World} {B b : Nat} {xs : List Int} (h : IS w B (some ⟨b, 0, none⟩) xs) (j : Nat) : IS w B (some ⟨b, j, none⟩) (xs.drop j) := by
  have := h.drop j
  rwa [Nat.zero_add] at this
end Go.Proofs.Ytgbijmfmdcphhaa

/- The drawing of values: someValues. -/
namespace Go.Proofs.Ytgbijmfmdcphhaa
set_option linter.unusedSimpArgs false
set_option linter.unusedVariables false
open Go.RowKit

/-- Returns a list of 3 to 10 numbers in a fresh block; the reader has picked Q times at most. -/
def SvP (g : Nat) (A : Option Addr) (n c : Nat) (bs : List Int) (Q : Nat) (w : World) (e : Ending) (w' : World) : Prop :=
  ∃ (v : Value) (xs : List Int), e = .returned v ∧ 3 ≤ xs.length ∧ xs.length ≤ 10 ∧ OwnI w' w.heap.size v xs ∧ Rdr g A n c bs Q w' ∧ Tch g (g + 1) w w'

theorem row_form2 {w : World} {base n size : Nat} {e : TypeId} {v : Value} {xs : List Value} (h : w.ownsRow base e size v n xs) (hn : 0 < n) : ∃ g cap, v = .slice (some ⟨g, 0, none⟩) n cap := by
  rcases h.2 with ⟨hv, h0⟩ | ⟨g, cap, cur, hv, _⟩
  · omega
  · exact ⟨g, cap, hv⟩

end Go.Proofs.Ytgbijmfmdcphhaa

/- Parts in order: impl.appendParts, formulaOf, OrderParts. -/
namespace Go.Proofs.Ytgbijmfmdcphhaa
set_option linter.unusedSimpArgs false
set_option linter.unusedVariables false
open Go.RowKit

set_option maxRecDepth 100000 in
set_option maxHeartbeats 3200000 in
theorem impl_appendParts (D : Nat) : ∀ (t : Tm) (v : Value) (n : Nat) (ps : List Pt) (base : Nat) (w : World), t.deep ≤ D → n = ps.length → n + t.size ≤ 1000000 → base ≤ w.heap.size → w.ownsRow base 73 5 v n (ps.flatMap Pt.cells) →
    Calls Try.prog 95 #[v, t.val] w fun e w' => RetG w v base (n + t.size) (ps ++ t.post n) e w' := by
  obtain ⟨i0, hi, hz0, hz1, hz2⟩ := info_parts info_int
  obtain ⟨i1, hi1, hy0, hy1, hy2⟩ := info_parts info_part
  induction D with
  | zero => intro t v n ps base w ht; have := t.deep_kids; omega
  | succ D ih =>
    intro t v n ps base w ht hn hsz hbase hown
    obtain ⟨T, x, fn, fp, hv, hme, hcf, hbe, hme2, hcf2, hpa⟩ := both_inv t
    rw [hv]
    have HPK := Lib.hid (t.post_kids n)
    have hsk := t.size_kids
    have IH := Lib.hid ih
    have HBE := Lib.hid hbe
    have HPA := Lib.hid hpa
    have HDK := Lib.hid t.deep_kids
    have HTD := Lib.hid ht
    have HN := Lib.hid hn
    obtain ⟨A, c, rfl⟩ := own_form hown
    have HO := Lib.hid hown
    clear ih hbe hv ht hpa hn hown
    have hk3 : t.kids.length ≤ 3 := by cases t <;> simp [Tm.kids]
    generalize hK : t.kids = ks at *
    generalize hd : t.deep = d at *
    generalize t.size = z at *
    generalize hL : ks.length = L at *
    have HL := Lib.hid hL
    have hdk : ∀ t ∈ ks, t.deep ≤ D := by
      intro t ht
      have := le_foldl_max (ks.map Tm.deep) 0 t.deep (List.mem_map_of_mem ht)
      have := HDK.out
      have := HTD.out
      omega
    have HDD := Lib.hid hdk
    have HK := Lib.hid hK
    have HSK := Lib.hid hsk
    have hnz : n + z ≤ 1000000 := hsz
    clear hL hdk hK hsk
    go_enter Try.func95, Try.ntmps95
    go_wp2_with fail
    refine (HBE.out _).mono ?_
    rintro e w1 ⟨vk, rfl, hownk, hb1⟩
    obtain ⟨A2, c2, rfl⟩ := own_form hownk
    clear hme hcf HBE
    have hkr : w1.ownsRow w.heap.size 70 1 (.slice A2 L c2) L (ks.map Tm.val) := by
      have := hownk; rw [OwnT, HL.out] at this; exact this
    have HKR := Lib.hid hkr
    have HO1 := Lib.hid (own_below HO.out hb1)
    have G1 := Lib.hid ((Gr.refl w (.slice A n c)).below hb1)
    have hw1 : w.heap.size ≤ w1.heap.size := hb1.size
    have hkap : Apart (.slice A n c) (.slice A2 L c2) := by
      intro k hk e
      have h1 := (HO.out.lt k hk).2
      have h2 := (hkr.lt k e).1
      omega
    have HKAP := Lib.hid hkap
    rw [HL.out]
    clear hownk hkr hb1 hkap HO
    have hLP : LP w (.slice A n c) (.slice A2 L c2) base n L ps ks 0 n (.slice A n c) (.slice none 0 0) w1 :=
      ⟨by simp [ksize], by simpa [kpost] using HO1.out, World.ownsRow_nil _ _ _ _, HKR.out, G1.out, fun k _ => by simp [Value.ownBlock], HKAP.out, fun k hk => by simp [Value.ownBlock] at hk⟩
    have HLP0 := Lib.hid hLP
    clear HO1 HKR G1 HKAP hLP
    go_wp2
    go_loopw [0, 5, 11] (fun v u i wr => ∃ m nm : Nat, m ≤ L ∧ i = .int .i64 m ∧ Hid (LP w (.slice A n c) (.slice A2 L c2) base n L ps ks m nm v u wr)) (fun _ _ i _ => L - (intOf i).toNat)
    case atStart => exact ⟨0, n, Nat.zero_le _, rfl, HLP0.out⟩
    case round =>
      clear HLP0
      obtain ⟨m, nm, hm, rfl, HLP⟩ := hrel
      by_cases hml : m < L
      · obtain ⟨b, off, rfl, hbl, hc⟩ := (VS.of_own HLP.out.kids) (by have := HL.out; simp; omega)
        have hcm := hc m (by have := HL.out; simp; omega)
        have hcm' : wr.cell? ⟨b, off + m, none⟩ = some (ks.getD m default).val := by
          have hlm : m < ks.length := by have := HL.out; omega
          rw [hcm]; simp [List.getD, hlm]
        clear hc hcm
        have hdm : (ks.getD m default).deep ≤ D := HDD.out _ (getD_mem ks m (by have := HL.out; omega))
        have HTS := Lib.hid (take_succ_tm ks m (by have := HL.out; omega))
        have hks1 := ksize_take ks (m + 1)
        rw [HTS.out, ksize_snoc] at hks1
        have hnum := HLP.out.num
        have hsz1 : nm + (ks.getD m default).size ≤ 1000000 := by have := HSK.out; omega
        have HHS := Lib.hid hnum
        clear hks1 hnum
        generalize hx : ks.getD m default = tm at *
        clear hx
        obtain ⟨Av, cv, rfl⟩ := own_form HLP.out.row
        obtain ⟨Au, cu, rfl⟩ := own_form HLP.out.at_
        have hbw : base ≤ wr.heap.size := by have := HLP.out.gr.size; omega
        have hlen : nm = (ps ++ kpost (ks.take m) n).length := by
          have h1 := HHS.out
          have h2 := HN.out
          rw [List.length_append, kpost_len]; omega
        have HLEN := Lib.hid hlen
        clear hlen
        go_wp2_with fail
        refine (IH.out tm _ nm _ base _ hdm HLEN.out hsz1 hbw HLP.out.row).mono ?_
        rintro e w2 ⟨v2, rfl, hown2, hgr2⟩
        obtain ⟨A3, c3, rfl⟩ := own_form hown2
        have LA := Lib.hid (hgr2.other HLP.out.at_ HLP.out.avu)
        have LK := Lib.hid (hgr2.other HLP.out.kids HLP.out.avk)
        have LG := Lib.hid (HLP.out.gr.trans hgr2)
        have LU := Lib.hid HLP.out.auk
        have LO := Lib.hid hown2
        have hws2 : w.heap.size ≤ w2.heap.size := LG.out.size
        clear hown2 hgr2 HLP hcm'
        obtain ⟨n2, hn2⟩ : ∃ n2 : Nat, n2 = nm + tm.size := ⟨_, rfl⟩
        rw [← hn2] at LO LA LK LG
        have hn2b : n2 ≤ 1000000 := by omega
        have hn20 : 1 ≤ n2 := by have := tm.size_pos; omega
        have HN2 := Lib.hid hn2
        rw [← HN2.out]
        clear hn2 hsz1
        go_wp2_with (at_builtin; refine wpList_append_own_at _ rfl _ _ 30 rfl w.heap.size 3 i0 (.int .i64 0) 1 8 Try.underlying30 hi hz0 hz1 hz2 rfl (by decide) _ _ _ rfl (LA.out.1.alloc _) ⟨_, 0, none⟩ 1 1 [.int .i64 (n2 - 1)] rfl rfl (cell_one_new _ _ _) ?c2 ?c3 ?c4 ?c5 ?_)
        case c2 => intro u hu; simp at hu; subst hu; rfl
        case c3 => unfold maxLen; omega
        case c4 => omega
        case c5 => simp; omega
        intro v' w3 hown' hgrow _ hwhere
        have hapk : Gr w2 (.slice Au m cu) w3 v' := (Gr.refl w2 _).alloc (.cells #[.int .i64 (n2 - 1)] 3) |>.trans (Gr.of_append hgrow (by rw [World.size_alloc]; exact hwhere))
        have hkk := hapk.other LK.out.1 LU.out
        have hvv := hapk.other LO.out (LA.out.2.symm)
        have HLP' : Hid (LP w (.slice A n c) (.slice (some ⟨b, off, none⟩) L c2) base n L ps ks (m + 1) n2 (.slice A3 n2 c3) v' w3) := by
          refine ⟨?_, ?_, ?_, hkk.1, LG.out.elsewhere hapk.1 (fun k hk => (LA.out.1.lt k hk).1), hvv.2.symm, LK.out.2, hkk.2⟩
          · rw [HTS.out, ksize_snoc]; have := HN2.out; have := HHS.out; omega
          · have h1 := hvv.1
            rw [HTS.out, kpost_snoc, ← HHS.out, ← List.append_assoc]
            exact h1
          · rw [HTS.out, kat_snoc, ← HHS.out, ← HN2.out, List.map_append]
            exact hown'
        clear hown' hgrow hwhere hapk hkk hvv LA LK LG LU LO
        go_wp2
        go_roundw
        case rel => exact ⟨m + 1, n2, by omega, by go_num, HLP'.out⟩
        case measure => simp [intOf]; omega
      · obtain rfl : m = L := by omega
        have htk : ks.take m = ks := List.take_of_length_le (by have := HL.out; omega)
        have hrow := HLP.out.row
        have hat := HLP.out.at_
        have hnum := HLP.out.num
        rw [htk] at hrow hat hnum
        obtain ⟨Av, cv, rfl⟩ := own_form hrow
        obtain ⟨Au, cu, rfl⟩ := own_form hat
        have hkl : (kat ks n).length = m := by rw [kat_len]; exact HL.out
        have hnm : nm ≤ 1000000 := by have := HSK.out; omega
        have HR := Lib.hid hrow
        have HAT := Lib.hid hat
        have HG := Lib.hid HLP.out.gr
        have HNM := Lib.hid hnum
        have hpt := HPA.out wr Au m cu (kat ks n) hkl rfl (IS.of_own hat)
        have HPT := Lib.hid hpt
        clear HPA hpt hrow hat hnum hkl HLP htk hml hm
        generalize t.own (kat ks n) = q at *
        go_wp2_with fail
        refine HPT.out.mono ?_
        rintro e w2 ⟨rfl, hb2⟩
        have HR2 := Lib.hid (own_below HR.out hb2)
        have HG2 := Lib.hid (HG.out.below hb2)
        have hw2 : w.heap.size ≤ w2.heap.size := HG2.out.size
        clear hb2 HR HG HPT HAT hme2 hcf2
        go_wp2_with (at_builtin; refine wpList_append_own_at _ rfl _ _ 23 rfl base 73 i1 _ 5 40 Try.underlying23 hi1 hy0 hy1 hy2 rfl (by decide) _ _ _ rfl (HR2.out.alloc _) ⟨_, 0, none⟩ 1 1 q.cells rfl rfl (cells_new _ _ _ _ rfl) ?d2 ?d3 ?d4 ?d5 ?_)
        case d2 => intro u hu; simp [Pt.cells] at hu; rcases hu with rfl | rfl | rfl | rfl | rfl <;> rfl
        case d3 => unfold maxLen; omega
        case d4 => omega
        case d5 => simp; omega
        intro v' w3 hown' hgrow _ hwhere
        have hap : Gr w2 (.slice Av nm cv) w3 v' := (Gr.refl w2 _).alloc (.cells #[.int .i64 q.k, .int .i64 q.a, .int .i64 q.b, .int .i64 q.c, .int .i64 q.n] 73) |>.trans (Gr.of_append hgrow (by rw [World.size_alloc]; exact hwhere))
        have HF := Lib.hid (HG2.out.trans hap)
        have hN : nm + 1 = n + z := by have := HNM.out; have := HSK.out; omega
        rw [hN] at hown'
        have hL : (ps ++ kpost ks n).flatMap Pt.cells ++ q.cells = (ps ++ t.post n).flatMap Pt.cells := by
          rw [HPK.out, ← List.append_assoc, List.flatMap_append (xs := ps ++ kpost ks n)]; simp
        have HW := Lib.hid (show w3.ownsRow base 73 5 v' (n + z) ((ps ++ t.post n).flatMap Pt.cells) by rw [← hL]; simpa using hown')
        clear hown' hgrow hwhere hap hN hL
        go_wp2
        go_ret
        exact ⟨v', rfl, HW.out, HF.out⟩

/-- Returns a formula with fresh parts. -/
def RetP (w : World) (ps : List Pt) (e : Ending) (w' : World) : Prop := ∃ v, e = .returned (.agg #[v]) ∧ w'.ownsRow w.heap.size 73 5 v ps.length (ps.flatMap Pt.cells) ∧ Below w.heap.size w w'

set_option maxHeartbeats 400000 in
theorem impl_formulaOf (t : Tm) (w : World) (hs : t.size ≤ 1000000) :
    Calls Try.prog 53 #[t.val] w fun e w' => RetP w (t.post 0) e w' := by
  have HP := Lib.hid (t.post_len 0)
  go_enter Try.func53, Try.ntmps53
  go_wp2_with fail
  refine (impl_appendParts t.deep t (.slice none 0 0) 0 [] (w.heap.size + 1) _ (Nat.le_refl _) rfl (by omega) (by simp) (World.ownsRow_nil _ _ _ _)).mono ?_
  rintro e w1 ⟨v, rfl, hown, hgr⟩
  have hb := hgr.bel (B := w.heap.size + 1) (fun k hk => by simp [Value.ownBlock] at hk) (by simp)
  obtain ⟨A, c, rfl⟩ := own_form hown
  have HO := Lib.hid hown
  have HB := Lib.hid hb
  have hz : w.heap.size < w1.heap.size := by have := hb.size; simp at this; omega
  have hf : w1.frozen? ⟨w.heap.size, 0, none⟩ = false := (hb.frozen (p := ⟨w.heap.size, 0, none⟩) (by simp)).trans (by go_simp)
  have hc : w1.cell? ⟨w.heap.size, 0, none⟩ = some (.slice none 0 0) := (hb.cell (p := ⟨w.heap.size, 0, none⟩) (by simp)).trans (by go_simp)
  clear hown hgr hb
  go_wp2
  refine bodyPost_ret (v := .agg #[.slice A t.size c]) (by simp [results, Try.results53, go_sem, hz, hc]) rfl ⟨_, rfl, ?_, ?_⟩
  · have h1 := HO.out
    simp only [Nat.zero_add, List.nil_append] at h1
    rw [HP.out]
    exact own_mono (ownsRow_setCell_below h1 (by simp) _) (by omega)
  · exact (((Below.refl _ _).alloc (Nat.le_refl _) _).trans (HB.out.mono (by simp))).setCell (by simp) _
end Go.Proofs.Ytgbijmfmdcphhaa

/- Parts in order by the model: spec.post, ordered; both OrderParts. -/
namespace Go.Proofs.Ytgbijmfmdcphhaa
set_option linter.unusedSimpArgs false
set_option linter.unusedVariables false
open Go.RowKit

theorem grown_setCell (w : World) (g j : Nat) (x : Value) : w.grownBy (w.setCell ⟨g, j, none⟩ x) (some g) :=
  ⟨rfl, rfl, rfl, by simp [World.setCell], fun k hk hr => Below.heap_setCell _ _ _ _ (by intro e; exact hr (by rw [e]))⟩

/-- What holds at the head of the loop of spec.post. -/
structure SP (w : World) (v0 vl fv : Value) (base n L : Nat) (qs : List Pt) (ks : List Tm) (xs : List Int) (p : Pt) (m nm : Nat) (v : Value) (wr : World) : Prop where
  num : nm = n + ksize (ks.take m)
  row : wr.ownsRow base 73 5 v nm ((qs ++ kpost (ks.take m) n).flatMap Pt.cells)
  list : wr.ownsRow (w.heap.size + 2) 3 1 vl L (xs.map (Value.int .i64))
  gr : Gr w v0 wr v
  avl : Apart v vl
  o0 : v.ownBlock ≠ some w.heap.size
  o1 : v.ownBlock ≠ some (w.heap.size + 1)
  lt : w.heap.size + 1 < wr.heap.size
  fbox : wr.cell? ⟨w.heap.size, 0, none⟩ = some fv
  p0 : wr.cell? ⟨w.heap.size + 1, 0, none⟩ = some (.int .i64 p.k)
  p1 : wr.cell? ⟨w.heap.size + 1, 1, none⟩ = some (.int .i64 (p.sub (kat (ks.take m) n)).a)
  p2 : wr.cell? ⟨w.heap.size + 1, 2, none⟩ = some (.int .i64 (p.sub (kat (ks.take m) n)).b)
  p3 : wr.cell? ⟨w.heap.size + 1, 3, none⟩ = some (.int .i64 (p.sub (kat (ks.take m) n)).c)
  p4 : wr.cell? ⟨w.heap.size + 1, 4, none⟩ = some (.int .i64 p.n)
  fz : ∀ j, wr.frozen? ⟨w.heap.size + 1, j, none⟩ = false

theorem Gr.off {w w' : World} {v v' : Value} (h : Gr w v w' v') {g : Nat} (hg : g < w.heap.size) (ho : v.ownBlock ≠ some g) : v'.ownBlock ≠ some g ∧ (∀ j, w'.cell? ⟨g, j, none⟩ = w.cell? ⟨g, j, none⟩) ∧ ∀ j, w'.frozen? ⟨g, j, none⟩ = w.frozen? ⟨g, j, none⟩ := by
  have hb := h.1.block g hg (fun e => ho e.symm)
  refine ⟨?_, fun j => World.cell?_of_block (a := ⟨g, j, none⟩) hb, fun j => World.frozen?_of_block (a := ⟨g, j, none⟩) hb⟩
  rcases h.2 with e | e
  · rw [e]; exact ho
  · intro e'; have := e g e'; omega

theorem Gr.of_drew {w w' : World} {v v' : Value} (h : Gr w.drew v w' v') : Gr w v w' v' := ⟨⟨h.1.os, h.1.tape, h.1.output, h.1.size, h.1.block⟩, h.2⟩

theorem list_len0 (l : List Int) (h : l.length = 0) : l = [] := List.eq_nil_of_length_eq_zero h
theorem list_len1 (l : List Int) (h : l.length = 1) : ∃ a, l = [a] := by
  match l, h with
  | [a], _ => exact ⟨a, rfl⟩
theorem list_len2 (l : List Int) (h : l.length = 2) : ∃ a b, l = [a, b] := by
  match l, h with
  | [a, b], _ => exact ⟨a, b, rfl⟩

theorem SP.next {w : World} {v0 vl fv : Value} {base n L : Nat} {qs : List Pt} {ks : List Tm} {xs : List Int} {p : Pt} {m nm : Nat} {v : Value} {wr w2 : World} {v2 : Value} (h : SP w v0 vl fv base n L qs ks xs p m nm v wr) (hm : m < 3) (hg : Gr wr v w2 v2) (tm : Tm) (hts : ks.take (m + 1) = ks.take m ++ [tm]) (n2 : Nat) (hn2 : n2 = nm + tm.size)
    (ho : w2.ownsRow base 73 5 v2 n2 ((qs ++ kpost (ks.take m) n ++ tm.post nm).flatMap Pt.cells)) (j : Nat) (hj : j = m + 1) : SP w v0 vl fv base n L qs ks xs p (m + 1) n2 v2 (w2.setCell ⟨w.heap.size + 1, j, none⟩ (.int .i64 (n2 - 1))) := by
  subst hj
  have hg0 : w.heap.size < wr.heap.size := by have := h.lt; omega
  obtain ⟨o0, c0, f0⟩ := hg.off hg0 h.o0
  obtain ⟨o1, c1, f1⟩ := hg.off h.lt h.o1
  have hsz := hg.size
  have hgs := grown_setCell w2 (w.heap.size + 1) (m + 1) (.int .i64 (n2 - 1))
  have hl := hg.other h.list h.avl
  have hkl : (kat (ks.take m) n).length = m := by
    rw [kat_len]
    have := congrArg List.length hts
    simp at this
    simp; omega
  have hkt : kat (ks.take (m + 1)) n = kat (ks.take m) n ++ [((n2 : Nat) : Int) - 1] := by rw [hts, kat_snoc, hn2, h.num]
  have hcell : ∀ k, k ≠ m + 1 → (w2.setCell ⟨w.heap.size + 1, m + 1, none⟩ (.int .i64 (n2 - 1))).cell? ⟨w.heap.size + 1, k, none⟩ = wr.cell? ⟨w.heap.size + 1, k, none⟩ := fun k hk => by
    rw [World.cell?_setCell_other _ _ _ _ (by intro e; simp at e; try omega)]; exact c1 k
  have hsame : ∀ x, wr.cell? ⟨w.heap.size + 1, m + 1, none⟩ = some x → (w2.setCell ⟨w.heap.size + 1, m + 1, none⟩ (.int .i64 (n2 - 1))).cell? ⟨w.heap.size + 1, m + 1, none⟩ = some (.int .i64 (n2 - 1)) := fun x hx => World.cell?_setCell_same _ _ _ ((c1 (m + 1)).trans hx)
  refine ⟨by rw [hts, ksize_snoc]; have := h.num; omega, ?_, hl.1.kept hgs ?_, (h.gr.trans hg).elsewhere hgs (fun k hk => by cases hk; omega), hl.2, o0, o1, by simp [World.setCell]; have := h.lt; omega, ?_, ?_, ?_, ?_, ?_, ?_, fun j => by simpa using (f1 j).trans (h.fz j)⟩
  · have h1 : qs ++ kpost (ks.take m) n ++ tm.post nm = qs ++ kpost (ks.take (m + 1)) n := by rw [hts, kpost_snoc, h.num, List.append_assoc]
    rw [h1] at ho
    exact ho.kept hgs (.inr o1)
  · right
    intro e
    have := (h.list.lt _ e).1
    omega
  · rw [World.cell?_setCell_other _ _ _ _ (by intro e; simp at e)]; exact (c0 0).trans h.fbox
  · rw [hcell 0 (by omega)]; exact h.p0
  rotate_left 3
  · rw [hcell 4 (by omega)]; exact h.p4
  all_goals
    rw [hkt]
    have h1 := h.p1
    have h2 := h.p2
    have h3 := h.p3
    generalize kat (ks.take m) n = at_ at *
  · rcases (by omega : m = 0 ∨ m = 1 ∨ m = 2) with rfl | rfl | rfl
    · obtain rfl := list_len0 _ hkl; rw [hsame _ h1]; rfl
    · rw [hcell 1 (by omega), h1]
      obtain ⟨a, rfl⟩ := list_len1 _ hkl; rfl
    · rw [hcell 1 (by omega), h1]
      obtain ⟨a, b, rfl⟩ := list_len2 _ hkl; rfl
  · rcases (by omega : m = 0 ∨ m = 1 ∨ m = 2) with rfl | rfl | rfl
    · rw [hcell 2 (by omega), h2]
      obtain rfl := list_len0 _ hkl; rfl
    · obtain ⟨a, rfl⟩ := list_len1 _ hkl; rw [hsame _ h2]; rfl
    · rw [hcell 2 (by omega), h2]
      obtain ⟨a, b, rfl⟩ := list_len2 _ hkl; rfl
  · rcases (by omega : m = 0 ∨ m = 1 ∨ m = 2) with rfl | rfl | rfl
    · rw [hcell 3 (by omega), h3]
      obtain rfl := list_len0 _ hkl; rfl
    · rw [hcell 3 (by omega), h3]
      obtain ⟨a, rfl⟩ := list_len1 _ hkl; rfl
    · obtain ⟨a, b, rfl⟩ := list_len2 _ hkl; rw [hsame _ h3]; rfl

set_option maxRecDepth 100000 in
set_option maxHeartbeats 6400000 in
theorem spec_post (A : Option Addr) (n c : Nat) (ps : List Pt) (B : Nat) (hn : n = ps.length) (hg : AllGood ps) (hs : n ≤ 1999999) (f : Nat) (hfn : f ≤ n) :
    ∀ (i : Nat) (v : Value) (mq : Nat) (qs : List Pt) (base : Nat) (w : World), i < f → i < n → B ≤ base → base ≤ w.heap.size → PS w B A ps → mq = qs.length → mq + (tmAt ps f i).size ≤ 1000000 → w.ownsRow base 73 5 v mq (qs.flatMap Pt.cells) →
    Calls Try.prog 99 #[.agg #[.slice A n c], .int .i64 i, v] w fun e w' => RetG w v base (mq + (tmAt ps f i).size) (qs ++ (tmAt ps f i).post mq) e w' := by
  obtain ⟨i1, hi1, hy0, hy1, hy2⟩ := info_parts info_part
  induction f with
  | zero => intro i v mq qs base w hi; omega
  | succ f ih =>
    intro i v mq qs base w hif hin hBb hbw h hmq hsz hown
    obtain ⟨b, off, rfl, hbB, hc⟩ := h (by omega)
    obtain ⟨c0, c1, c2, c3, c4⟩ := hc i (by omega)
    clear hc
    have hgi := hg i (by omega)
    have hkids := tmAt_kids ps f i hgi
    have hso := sub_own ps f i mq hgi
    have hpk := (tmAt ps (f + 1) i).post_kids mq
    have hsk := (tmAt ps (f + 1) i).size_kids
    rw [← hso] at hpk
    rw [hkids] at hpk hsk
    generalize (tmAt ps (f + 1) i).size = z at *
    generalize (tmAt ps (f + 1) i).post mq = R at *
    have H := Lib.hid h
    have IH := Lib.hid (ih (by omega))
    have HG := Lib.hid hg
    have HN := Lib.hid hn
    have HMQ := Lib.hid hmq
    have HSK := Lib.hid hsk
    have hbws : b < w.heap.size := by omega
    have hbase2 : B ≤ w.heap.size := by omega
    clear h ih hg hn hkids hso hmq hsk
    generalize hp : ps.getD i default = p at *
    generalize hks : (bel p).map (fun b => tmAt ps f b.toNat) = ks at *
    have HKS := Lib.hid hks
    have HPK := Lib.hid hpk
    have HP := Lib.hid hp
    have HGI := Lib.hid hgi
    have hbl3 := bel_len p
    have hkl : ks.length = (bel p).length := by rw [← hks]; simp
    obtain ⟨Av, cv, rfl⟩ := own_form hown
    have HO := Lib.hid hown
    generalize hL : (bel p).length = L at *
    have HL := Lib.hid hL
    have HKL := Lib.hid hkl
    clear hp hgi hks hpk hown hL hkl
    go_enter Try.func99, Try.ntmps99
    go_wp2_with fail
    refine (spec_below p _).mono ?_
    rintro e w1 ⟨vl, rfl, hownl, hb1⟩
    obtain ⟨Al, cl, rfl, _⟩ := hownl.form
    have hSP : SP w (.slice Av mq cv) (.slice Al L cl) (.slice (some ⟨b, off, none⟩) n c) base mq L qs ks (bel p) p 0 mq (.slice Av mq cv) w1 := by
      have hlt := HO.out.lt
      have hz : w.heap.size + 2 ≤ w1.heap.size := by have := hb1.size; simpa using this
      refine ⟨by simp [ksize], by simpa [kpost] using own_below ((HO.out.alloc _).alloc _) hb1, ?_, (((Gr.refl w _).alloc _).alloc _).below hb1, ?_, ?_, ?_, by omega, ?_, ?_, ?_, ?_, ?_, ?_, ?_⟩
      · have h1 := hownl
        rw [OwnI, HL.out] at h1
        simpa using h1
      · intro k hk e
        have h1 := (hlt k hk).2
        have h2 := (hownl.lt k (by rw [HL.out]; exact e)).1
        simp at h2
        omega
      · intro e; have := (hlt _ e).2; omega
      · intro e; have := (hlt _ e).2; omega
      · exact (hb1.cell (p := ⟨w.heap.size, 0, none⟩) (by simp; try omega)).trans (by go_simp)
      · exact (hb1.cell (p := ⟨w.heap.size + 1, 0, none⟩) (by simp; try omega)).trans (by go_simp)
      · exact (hb1.cell (p := ⟨w.heap.size + 1, 1, none⟩) (by simp; try omega)).trans (by go_simp; rfl)
      · exact (hb1.cell (p := ⟨w.heap.size + 1, 2, none⟩) (by simp; try omega)).trans (by go_simp; rfl)
      · exact (hb1.cell (p := ⟨w.heap.size + 1, 3, none⟩) (by simp; try omega)).trans (by go_simp; rfl)
      · exact (hb1.cell (p := ⟨w.heap.size + 1, 4, none⟩) (by simp; try omega)).trans (by go_simp)
      · intro j; exact (hb1.frozen (p := ⟨w.heap.size + 1, j, none⟩) (by simp; try omega)).trans (by go_simp)
    have HSP0 := Lib.hid hSP
    rw [HL.out]
    clear hSP hownl hb1 c0 c1 c2 c3 c4
    go_wp2
    go_loopw [2, 9] (fun v k wr => ∃ m nm : Nat, m ≤ L ∧ k = .int .i64 m ∧ Hid (SP w (.slice Av mq cv) (.slice Al L cl) (.slice (some ⟨b, off, none⟩) n c) base mq L qs ks (bel p) p m nm v wr)) (fun _ k _ => L - (intOf k).toNat)
    case atStart => exact ⟨0, mq, Nat.zero_le _, rfl, HSP0.out⟩
    case round =>
      clear HSP0
      obtain ⟨m, nm, hm, rfl, HSP⟩ := hrel
      have hlt := HSP.out.lt
      by_cases hml : m < L
      · obtain ⟨b2, off2, rfl, hb2, hc2⟩ := (IS.of_own HSP.out.list) (by have := HL.out; omega)
        have hx := hc2 m (by have := HL.out; omega)
        clear hc2
        obtain ⟨t, ht1, ht2⟩ : ∃ t : Nat, (bel p).getD m 0 = (t : Int) ∧ t < i := by
          have hmem : (bel p).getD m 0 ∈ bel p := by
            have hl : m < (bel p).length := by have := HL.out; omega
            simp [List.getD, hl]
          have := good_bel p i HGI.out _ hmem
          exact ⟨((bel p).getD m 0).toNat, by omega, by omega⟩
        rw [ht1] at hx
        have hkd : ks.getD m default = tmAt ps f t := by
          have hl : m < (bel p).length := by have := HL.out; omega
          rw [← HKS.out]
          simp only [List.getD, List.getElem?_map, List.getElem?_eq_getElem hl, Option.map_some, Option.getD_some]
          have : (bel p)[m] = (t : Int) := by have := ht1; simpa [List.getD, hl] using this
          rw [this]; rfl
        have hts : ks.take (m + 1) = ks.take m ++ [tmAt ps f t] := by rw [← hkd]; exact take_succ_tm ks m (by have := HKL.out; omega)
        have HTS := Lib.hid hts
        have hks1 := ksize_take ks (m + 1)
        rw [hts, ksize_snoc] at hks1
        have hnum := HSP.out.num
        have hsz1 : nm + (tmAt ps f t).size ≤ 1000000 := by have := HSK.out; omega
        have hlen : nm = (qs ++ kpost (ks.take m) mq).length := by
          rw [List.length_append, kpost_len]; have := HMQ.out; omega
        obtain ⟨Aw, cw, rfl⟩ := own_form HSP.out.row
        have hbase : Below base w wr := HSP.out.gr.bel (fun k hk => (HO.out.lt k hk).1) hbw
        have HWR := Lib.hid (H.out.below hbase hBb)
        have HIH := Lib.hid (IH.out t (.slice Aw nm cw) nm (qs ++ kpost (ks.take m) mq) base wr.drew (by omega) (by omega) hBb (by show base ≤ wr.heap.size; omega) HWR.out hlen hsz1 HSP.out.row)
        have hbox := HSP.out.fbox
        have hvl := HSP.out.avl
        obtain ⟨n2, hn2⟩ : ∃ n2 : Nat, n2 = nm + (tmAt ps f t).size := ⟨_, rfl⟩
        rw [← hn2] at HIH
        have hn2b : n2 ≤ 1000000 := by omega
        have hn20 : 1 ≤ n2 := by have := (tmAt ps f t).size_pos; omega
        have HN2 := Lib.hid hn2
        have hm3 : m < 3 := by omega
        have hl0 : w.heap.size < wr.heap.size := by omega
        have HOB := Lib.hid (show (Value.slice Aw nm cw).ownBlock ≠ some b2 from fun e => hvl b2 e rfl)
        have HLT := Lib.hid HSP.out.list
        clear hkd hts hks1 hnum hlen hbase HWR hn2 hsz1 IH hvl ht1
        generalize tmAt ps f t = tm at *
        go_wp2
        go_region_held3 (fun w' => w'.cell? ⟨w.heap.size, 0, none⟩ = some (.slice (some ⟨b, off, none⟩) n c) ∧ w'.cell? ⟨b2, off2 + m, none⟩ = some (.int .i64 t)) (first | exact ⟨hbox, hx⟩ | exact ⟨hbox', hx'⟩)
          (first
            | (go_at_call 99; refine HIH.out.mono ?_; rintro e w2 ⟨v2, rfl, hown2, hgr2'⟩; have hgr2 := hgr2'.of_drew; have hbox' := ((hgr2.off hl0 HSP.out.o0).2.1 0).trans hbox; have hx' := ((hgr2.off hb2 HOB.out).2.1 (off2 + m)).trans hx; clear hgr2'))
        have HNX := Lib.hid (fun j hj => HSP.out.next hm3 hgr2 tm HTS.out n2 HN2.out hown2 j hj)
        obtain ⟨A2, c2, rfl⟩ := own_form hown2
        have hlt2 : w.heap.size + 1 < w2.heap.size := by have := hgr2.size; omega
        have p1 := ((hgr2.off hlt HSP.out.o1).2.1 1).trans HSP.out.p1
        have p2 := ((hgr2.off hlt HSP.out.o1).2.1 2).trans HSP.out.p2
        have p3 := ((hgr2.off hlt HSP.out.o1).2.1 3).trans HSP.out.p3
        have f1 := ((hgr2.off hlt HSP.out.o1).2.2 1).trans (HSP.out.fz 1)
        have f2 := ((hgr2.off hlt HSP.out.o1).2.2 2).trans (HSP.out.fz 2)
        have f3 := ((hgr2.off hlt HSP.out.o1).2.2 3).trans (HSP.out.fz 3)
        clear hown2 hgr2 hbox hx hbox' hx' HSP HIH HLT HOB
        rcases (by omega : m = 0 ∨ m = 1 ∨ m = 2) with e | e | e
        · have e0 : ((m : Int) == 0) = true := by simp [e]
          have HNX' := Lib.hid (HNX.out 1 (by omega))
          clear HNX e
          go_wp2
          go_roundw
          case rel => exact ⟨m + 1, n2, by omega, by go_num, HNX'.out⟩
          case measure => simp [intOf]; omega
        · have e0 : ((m : Int) == 0) = false := by simp [e]
          have e1 : ((m : Int) == 1) = true := by simp [e]
          have HNX' := Lib.hid (HNX.out 2 (by omega))
          clear HNX e
          go_wp2
          go_roundw
          case rel => exact ⟨m + 1, n2, by omega, by go_num, HNX'.out⟩
          case measure => simp [intOf]; omega
        · have e0 : ((m : Int) == 0) = false := by simp [e]
          have e1 : ((m : Int) == 1) = false := by simp [e]
          have e2 : ((m : Int) == 2) = true := by simp [e]
          have HNX' := Lib.hid (HNX.out 3 (by omega))
          clear HNX e
          go_wp2
          go_roundw
          case rel => exact ⟨m + 1, n2, by omega, by go_num, HNX'.out⟩
          case measure => simp [intOf]; omega
      · obtain rfl : m = L := by omega
        have htk : ks.take m = ks := List.take_of_length_le (by have := HKL.out; omega)
        have hrow := HSP.out.row
        have hnum := HSP.out.num
        have p0 := HSP.out.p0
        have p1 := HSP.out.p1
        have p2 := HSP.out.p2
        have p3 := HSP.out.p3
        have p4 := HSP.out.p4
        rw [htk] at hrow hnum p1 p2 p3
        obtain ⟨Aw, cw, rfl⟩ := own_form hrow
        have hnm : nm ≤ 1000000 := by have := HSK.out; omega
        have HR := Lib.hid hrow
        have HG2 := Lib.hid HSP.out.gr
        have HNM := Lib.hid hnum
        have hwr : w.heap.size ≤ wr.heap.size := by omega
        have q0 : p.k = (p.sub (kat ks mq)).k := rfl
        have q4 : p.n = (p.sub (kat ks mq)).n := rfl
        rw [q0] at p0
        rw [q4] at p4
        clear hrow hnum HSP htk q0 q4
        generalize p.sub (kat ks mq) = q at *
        go_wp2_with (at_builtin; refine wpList_append_own_at _ rfl _ _ 23 rfl base 73 i1 _ 5 40 Try.underlying23 hi1 hy0 hy1 hy2 rfl (by decide) _ _ _ rfl (HR.out.alloc _) ⟨_, 0, none⟩ 1 1 q.cells rfl rfl (cells_new _ _ _ _ rfl) ?d2 ?d3 ?d4 ?d5 ?_)
        case d2 => intro u hu; simp [Pt.cells] at hu; rcases hu with rfl | rfl | rfl | rfl | rfl <;> rfl
        case d3 => unfold maxLen; omega
        case d4 => omega
        case d5 => simp; omega
        intro v' w3 hown' hgrow _ hwhere
        have hap : Gr wr (.slice Aw nm cw) w3 v' := (Gr.refl wr _).alloc (.cells #[.int .i64 q.k, .int .i64 q.a, .int .i64 q.b, .int .i64 q.c, .int .i64 q.n] 73) |>.trans (Gr.of_append hgrow (by rw [World.size_alloc]; exact hwhere))
        have HF := Lib.hid (HG2.out.trans hap)
        have hN : nm + 1 = mq + z := by have := HNM.out; have := HSK.out; omega
        rw [hN] at hown'
        have hL : (qs ++ kpost ks mq).flatMap Pt.cells ++ q.cells = (qs ++ R).flatMap Pt.cells := by
          rw [HPK.out, ← List.append_assoc, List.flatMap_append (xs := qs ++ kpost ks mq)]; simp
        have HW := Lib.hid (show w3.ownsRow base 73 5 v' (mq + z) ((qs ++ R).flatMap Pt.cells) by rw [← hL]; simpa using hown')
        clear hown' hgrow hwhere hap hN hL
        go_wp2
        go_ret
        exact ⟨v', rfl, HW.out, HF.out⟩
end Go.Proofs.Ytgbijmfmdcphhaa

/- Both OrderParts. -/
namespace Go.Proofs.Ytgbijmfmdcphhaa
set_option linter.unusedSimpArgs false
set_option linter.unusedVariables false
open Go.RowKit

theorem size_whole (ps : List Pt) (h : ps.length ≤ 12) : (whole ps).size ≤ 1000000 := by
  have h1 := size_tmAt ps ps.length (ps.length - 1)
  have h2 : 3 ^ (ps.length + 1) ≤ 3 ^ 13 := Nat.pow_le_pow_right (by omega) (by omega)
  unfold whole
  have h3 : (3 : Nat) ^ 13 = 1594323 := by decide
  omega

/-- What OrderParts answers. -/
def orderF (ps : List Pt) : List Pt := if validF ps then (whole ps).post 0 else []

theorem RetP.zero {w w' : World} {e : Ending} (he : e = .returned (.agg #[.slice none 0 0])) (hb : Below w.heap.size w w') : RetP w [] e w' :=
  ⟨_, he, World.ownsRow_nil _ _ _ _, hb⟩

theorem RetP.mono {w w0 w' : World} {ps : List Pt} {e : Ending} (h : RetP w ps e w') (hb : Below w0.heap.size w0 w) : RetP w0 ps e w' := by
  obtain ⟨v, he, ho, hb'⟩ := h
  exact ⟨v, he, own_mono ho hb.size, hb.trans (hb'.mono hb.size)⟩

set_option maxHeartbeats 800000 in
theorem spec_ordered (A : Option Addr) (n c : Nat) (ps : List Pt) (B : Nat) (hn : n = ps.length) (hg : AllGood ps) (hs : n ≤ 12) (i : Nat) (hin : i < n) (w : World) (hB : B ≤ w.heap.size) (h : PS w B A ps) :
    Calls Try.prog 56 #[.agg #[.slice A n c], .int .i64 i] w fun e w' => RetP w ((tmAt ps n i).post 0) e w' := by
  have H := Lib.hid h
  have hsz := size_tmAt ps n i
  have h2 : 3 ^ (n + 1) ≤ 3 ^ 13 := Nat.pow_le_pow_right (by omega) (by omega)
  have h3 : (3 : Nat) ^ 13 = 1594323 := by decide
  have hsz1 : (tmAt ps n i).size ≤ 1000000 := by omega
  have HPL := Lib.hid ((tmAt ps n i).post_len 0)
  have HPO := Lib.hid (spec_post A n c ps B hn hg (by omega) n (Nat.le_refl _) i)
  clear hsz h2 h3 h hn hg
  generalize (tmAt ps n i).size = z at *
  generalize (tmAt ps n i).post = R at *
  go_enter Try.func56, Try.ntmps56
  go_wp2_with fail
  refine (HPO.out (.slice (some ⟨w.heap.size + 1 + 1, 0, none⟩) 0 0) 0 [] (w.heap.size + 1 + 1) _ hin hin (by omega) (by simp) (((H.out.alloc hB _).alloc (by simp; omega) _).alloc (by simp; omega) _) rfl (by omega) ?_).mono ?_
  · have h1 := World.ownsRow_lit (e := 73) (size := 5) (base := w.heap.size + 1 + 1) ((w.alloc (.cells #[.slice A n c] 25)).alloc (.cells #[.slice none 0 0] 25)) #[] 0 (by simp) (by unfold maxLen; omega) (by simp)
    simpa using h1
  rintro e w1 ⟨v, rfl, hown, hgr⟩
  have hb := hgr.bel (B := w.heap.size + 1 + 1) (fun k hk => by simp [Value.ownBlock] at hk; omega) (by simp)
  obtain ⟨A2, c2, rfl⟩ := own_form hown
  have HO := Lib.hid hown
  have HB := Lib.hid hb
  have hz : w.heap.size + 1 + 1 < w1.heap.size := by have := hgr.size; simp at this; omega
  have hz' : w.heap.size + 1 < w1.heap.size := by omega
  have hf : w1.frozen? ⟨w.heap.size + 1, 0, none⟩ = false := (hb.frozen (p := ⟨w.heap.size + 1, 0, none⟩) (by simp)).trans (by go_simp)
  have hc : w1.cell? ⟨w.heap.size + 1, 0, none⟩ = some (.slice none 0 0) := (hb.cell (p := ⟨w.heap.size + 1, 0, none⟩) (by simp)).trans (by go_simp)
  clear hown hgr hb
  go_wp2
  refine bodyPost_ret (v := .agg #[.slice A2 z c2]) (by simp [results, Try.results56, go_sem, hz', hc]) rfl ⟨_, rfl, ?_, ?_⟩
  · have h1 := HO.out
    simp only [Nat.zero_add, List.nil_append] at h1
    rw [HPL.out]
    exact own_mono (ownsRow_setCell_below h1 (by simp) _) (by omega)
  · exact ((((Below.refl _ _).alloc (Nat.le_refl _) _).alloc (by simp) _).alloc (by simp; omega) _ |>.trans (HB.out.mono (by omega))).setCell (by simp) _

set_option maxHeartbeats 800000 in
theorem spec_OrderParts (A : Option Addr) (n c : Nat) (ps : List Pt) (w : World) (B : Nat) (hB : B ≤ w.heap.size) (hn : n = ps.length) (h : PS w B A ps) (hs : n ≤ 1999999) :
    Calls Try.prog 15 #[.agg #[.slice A n c]] w fun e w' => RetP w (orderF ps) e w' := by
  have H := Lib.hid h
  have HN := Lib.hid hn
  clear h hn
  cases hv : validF ps
  · have hd : orderF ps = [] := by simp [orderF, hv]
    rw [hd]
    have HV := Lib.hid hv
    clear hd hv
    go_enter Try.func15, Try.ntmps15
    go_wp2_with fail
    refine (spec_validFormula _ _ _ ps _ B (by simp; omega) HN.out ((H.out.alloc hB _).alloc (by simp; omega) _) (by omega)).mono ?_
    rintro e w1 ⟨rfl, hb⟩
    rw [HV.out]
    have hz' : w.heap.size + 1 < w1.heap.size := by have := hb.size; simp at this; omega
    have hf : w1.frozen? ⟨w.heap.size + 1, 0, none⟩ = false := (hb.frozen (p := ⟨w.heap.size + 1, 0, none⟩) (by simp)).trans (by go_simp)
    have hc : w1.cell? ⟨w.heap.size + 1, 0, none⟩ = some (.slice none 0 0) := (hb.cell (p := ⟨w.heap.size + 1, 0, none⟩) (by simp)).trans (by go_simp)
    have HB := Lib.hid hb
    clear hb
    go_wp2
    refine bodyPost_ret (v := .agg #[.slice none 0 0]) (by simp [results, Try.results15, go_sem, hz', hc]) rfl (RetP.zero rfl ?_)
    exact ((((Below.refl _ _).alloc (Nat.le_refl _) _).alloc (by simp) _).trans (HB.out.mono (by simp; omega))).setCell (by simp) _
  · obtain ⟨hg, h1, h12⟩ := validF_good ps hv
    have hd : orderF ps = (tmAt ps n (n - 1)).post 0 := by rw [orderF, if_pos hv, HN.out]; rfl
    rw [hd]
    have h1' : 1 ≤ n := by have := HN.out; omega
    have h12' : n ≤ 12 := by have := HN.out; omega
    obtain ⟨m, rfl⟩ : ∃ m, n = m + 1 := ⟨n - 1, by omega⟩
    rw [show m + 1 - 1 = m from rfl]
    have HV := Lib.hid hv
    have HG := Lib.hid hg
    clear hd hv hg h1 h12 h1'
    go_enter Try.func15, Try.ntmps15
    go_wp2_with fail
    refine (spec_validFormula _ _ _ ps _ B (by simp; omega) HN.out ((H.out.alloc hB _).alloc (by simp; omega) _) (by omega)).mono ?_
    rintro e w1 ⟨rfl, hb⟩
    rw [HV.out]
    have hz' : w.heap.size + 1 < w1.heap.size := by have := hb.size; simp at this; omega
    have hbox : w1.cell? ⟨w.heap.size, 0, none⟩ = some (.slice A (m + 1) c) := (hb.cell (p := ⟨w.heap.size, 0, none⟩) (by simp; omega)).trans (by go_simp)
    have hf : w1.frozen? ⟨w.heap.size + 1, 0, none⟩ = false := (hb.frozen (p := ⟨w.heap.size + 1, 0, none⟩) (by simp)).trans (by go_simp)
    have hc : w1.cell? ⟨w.heap.size + 1, 0, none⟩ = some (.slice none 0 0) := (hb.cell (p := ⟨w.heap.size + 1, 0, none⟩) (by simp)).trans (by go_simp)
    have HW := Lib.hid (((H.out.alloc hB (.cells #[.slice A (m + 1) c] 25)).alloc (by simp; omega) (.cells #[.slice none 0 0] 25)).below hb (by simp; omega))
    have HB1 := Lib.hid ((((Below.refl w.heap.size w).alloc (Nat.le_refl _) (.cells #[.slice A (m + 1) c] 25)).alloc (by simp) (.cells #[.slice none 0 0] 25)).trans (hb.mono (by simp; omega)))
    clear hb
    go_wp2_with fail
    refine (spec_ordered A (m + 1) c ps B HN.out HG.out h12' m (by omega) _ (by omega) HW.out).mono ?_
    rintro e w2 ⟨v, rfl, hown, hb2⟩
    obtain ⟨A2, c2, rfl⟩ := own_form hown
    have hz2 : w.heap.size + 1 < w2.heap.size := by have := hb2.size; omega
    have hf2 : w2.frozen? ⟨w.heap.size + 1, 0, none⟩ = false := (hb2.frozen (p := ⟨w.heap.size + 1, 0, none⟩) hz').trans hf
    have hc2 : w2.cell? ⟨w.heap.size + 1, 0, none⟩ = some (.slice none 0 0) := (hb2.cell (p := ⟨w.heap.size + 1, 0, none⟩) hz').trans hc
    have HO := Lib.hid hown
    have HB2 := Lib.hid hb2
    clear hown hb2
    go_wp2
    refine bodyPost_ret (v := .agg #[.slice A2 ((tmAt ps (m + 1) m).post 0).length c2]) (by simp [results, Try.results15, go_sem, hz2, hc2]) rfl ⟨_, rfl, ?_, ?_⟩
    · have h1 := HO.out
      have h2 : w.heap.size ≤ w1.heap.size := by omega
      exact own_mono (ownsRow_setCell_below (a := ⟨w.heap.size + 1, 0, none⟩) h1 (show w.heap.size + 1 < w1.heap.size by omega) _) h2
    · exact (HB1.out.trans (HB2.out.mono (by omega))).setCell (by simp) _

set_option maxHeartbeats 800000 in
theorem impl_OrderParts (A : Option Addr) (n c : Nat) (ps : List Pt) (w : World) (B : Nat) (hB : B ≤ w.heap.size) (hn : n = ps.length) (h : PS w B A ps) (hs : n ≤ 1999999) :
    Calls Try.prog 13 #[.agg #[.slice A n c]] w fun e w' => RetP w (orderF ps) e w' := by
  have H := Lib.hid h
  have HN := Lib.hid hn
  clear h hn
  cases hv : validF ps
  · have hd : orderF ps = [] := by simp [orderF, hv]
    rw [hd]
    have HV := Lib.hid hv
    clear hd hv
    go_enter Try.func13, Try.ntmps13
    go_wp2_with fail
    refine (impl_ValidFormula _ _ _ ps _ B (by simp; omega) HN.out ((H.out.alloc hB _).alloc (by simp; omega) _) (by omega)).mono ?_
    rintro e w1 ⟨rfl, hb⟩
    rw [HV.out]
    have hz' : w.heap.size + 1 < w1.heap.size := by have := hb.size; simp at this; omega
    have hf : w1.frozen? ⟨w.heap.size + 1, 0, none⟩ = false := (hb.frozen (p := ⟨w.heap.size + 1, 0, none⟩) (by simp)).trans (by go_simp)
    have hc : w1.cell? ⟨w.heap.size + 1, 0, none⟩ = some (.slice none 0 0) := (hb.cell (p := ⟨w.heap.size + 1, 0, none⟩) (by simp)).trans (by go_simp)
    have HB := Lib.hid hb
    clear hb
    go_wp2
    refine bodyPost_ret (v := .agg #[.slice none 0 0]) (by simp [results, Try.results13, go_sem, hz', hc]) rfl (RetP.zero rfl ?_)
    exact ((((Below.refl _ _).alloc (Nat.le_refl _) _).alloc (by simp) _).trans (HB.out.mono (by simp; omega))).setCell (by simp) _
  · obtain ⟨hg, h1, h12⟩ := validF_good ps hv
    have hd : orderF ps = (tmAt ps n (n - 1)).post 0 := by rw [orderF, if_pos hv, HN.out]; rfl
    rw [hd]
    have h1' : 1 ≤ n := by have := HN.out; omega
    have hsw := size_whole ps h12
    rw [show whole ps = tmAt ps n (n - 1) by rw [HN.out]; rfl] at hsw
    have HV := Lib.hid hv
    have HWH := Lib.hid (fun (w : World) => impl_wholeOf A n c ps B HN.out hg (by omega) h1' w)
    clear hd hv hg h1 h12
    generalize tmAt ps n (n - 1) = t at *
    go_enter Try.func13, Try.ntmps13
    go_wp2_with fail
    refine (impl_ValidFormula _ _ _ ps _ B (by simp; omega) HN.out ((H.out.alloc hB _).alloc (by simp; omega) _) (by omega)).mono ?_
    rintro e w1 ⟨rfl, hb⟩
    rw [HV.out]
    have hz' : w.heap.size + 1 < w1.heap.size := by have := hb.size; simp at this; omega
    have hbox : w1.cell? ⟨w.heap.size, 0, none⟩ = some (.slice A n c) := (hb.cell (p := ⟨w.heap.size, 0, none⟩) (by simp; omega)).trans (by go_simp)
    have hf : w1.frozen? ⟨w.heap.size + 1, 0, none⟩ = false := (hb.frozen (p := ⟨w.heap.size + 1, 0, none⟩) (by simp)).trans (by go_simp)
    have hc : w1.cell? ⟨w.heap.size + 1, 0, none⟩ = some (.slice none 0 0) := (hb.cell (p := ⟨w.heap.size + 1, 0, none⟩) (by simp)).trans (by go_simp)
    have HW := Lib.hid (((H.out.alloc hB (.cells #[.slice A n c] 25)).alloc (by simp; omega) (.cells #[.slice none 0 0] 25)).below hb (by simp; omega))
    have HB1 := Lib.hid ((((Below.refl w.heap.size w).alloc (Nat.le_refl _) (.cells #[.slice A n c] 25)).alloc (by simp) (.cells #[.slice none 0 0] 25)).trans (hb.mono (by simp; omega)))
    clear hb
    go_wp2_with fail
    refine (HWH.out _ (by omega) HW.out).mono ?_
    rintro e w2 ⟨T, x, rfl, hT, hb2⟩
    have HT := Lib.hid hT
    have hz2 : w.heap.size + 1 < w2.heap.size := by have := hb2.size; omega
    have hf2 : w2.frozen? ⟨w.heap.size + 1, 0, none⟩ = false := (hb2.frozen (p := ⟨w.heap.size + 1, 0, none⟩) hz').trans hf
    have hc2 : w2.cell? ⟨w.heap.size + 1, 0, none⟩ = some (.slice none 0 0) := (hb2.cell (p := ⟨w.heap.size + 1, 0, none⟩) hz').trans hc
    have HB2 := Lib.hid (HB1.out.trans (hb2.mono (by omega)))
    clear hT hb2 HB1
    go_wp2_with fail
    rw [← HT.out]
    refine (impl_formulaOf t _ hsw).mono ?_
    rintro e w3 ⟨v, rfl, hown, hb3⟩
    obtain ⟨A3, c3, rfl⟩ := own_form hown
    have hz3 : w.heap.size + 1 < w3.heap.size := by have := hb3.size; omega
    have hf3 : w3.frozen? ⟨w.heap.size + 1, 0, none⟩ = false := (hb3.frozen (p := ⟨w.heap.size + 1, 0, none⟩) hz2).trans hf2
    have hc3 : w3.cell? ⟨w.heap.size + 1, 0, none⟩ = some (.slice none 0 0) := (hb3.cell (p := ⟨w.heap.size + 1, 0, none⟩) hz2).trans hc2
    have HO := Lib.hid hown
    have HB3 := Lib.hid hb3
    clear hown hb3
    go_wp2
    refine bodyPost_ret (v := .agg #[.slice A3 (t.post 0).length c3]) (by simp [results, Try.results13, go_sem, hz3, hc3]) rfl ⟨_, rfl, ?_, ?_⟩
    · have h1 := HO.out
      have h2 : w.heap.size ≤ w2.heap.size := by omega
      exact own_mono (ownsRow_setCell_below (a := ⟨w.heap.size + 1, 0, none⟩) h1 (show w.heap.size + 1 < w2.heap.size by omega) _) h2
    · exact (HB2.out.trans (HB3.out.mono (by omega))).setCell (by simp) _
end Go.Proofs.Ytgbijmfmdcphhaa

/- RenameReads: plain facts, slices.Clone, impl's side. -/
namespace Go.Proofs.Ytgbijmfmdcphhaa
set_option linter.unusedSimpArgs false
set_option linter.unusedVariables false
open Go.RowKit

/-- A part that reads another node. -/
def ren (tos : List Int) (p : Pt) : Pt := if p.k == 1 then { p with n := tos.getD p.n.toNat 0 } else p

/-- The first k parts are renamed. -/
def mix (tos : List Int) (ps : List Pt) (k : Nat) : List Pt := (ps.take k).map (ren tos) ++ ps.drop k

/-- The nodes serve the formula. -/
def canRen (ps : List Pt) (tos : List Int) : Bool := validF ps && ((decide (tos.length ≤ 10) && allR tos 0 9) && eachOK ps tos.length)

/-- What RenameReads answers. -/
def renF (ps : List Pt) (tos : List Int) : List Pt := if canRen ps tos then ps.map (ren tos) else []

theorem mix_zero (tos : List Int) (ps : List Pt) : mix tos ps 0 = ps := by simp [mix]
theorem mix_all (tos : List Int) (ps : List Pt) (n : Nat) (h : n = ps.length) : mix tos ps n = ps.map (ren tos) := by subst h; simp [mix]
theorem mix_len (tos : List Int) (ps : List Pt) (k : Nat) : (mix tos ps k).length = ps.length := by simp [mix]; omega

theorem mix_getD (tos : List Int) (ps : List Pt) (k : Nat) (h : k < ps.length) : (mix tos ps k).getD k default = ps.getD k default := by
  have h1 : ((ps.take k).map (ren tos)).length = k := by simp; omega
  unfold mix
  simp only [List.getD]
  rw [List.getElem?_append_right (by omega), h1, Nat.sub_self, List.getElem?_drop, Nat.add_zero]

theorem mix_succ (tos : List Int) (ps : List Pt) (k : Nat) (h : k < ps.length) : mix tos ps (k + 1) = (mix tos ps k).set k (ren tos (ps.getD k default)) := by
  have h1 : ((ps.take k).map (ren tos)).length = k := by simp; omega
  have h2 : ps.drop k = ps.getD k default :: ps.drop (k + 1) := by rw [List.drop_eq_getElem_cons h]; simp [List.getD, h]
  unfold mix
  rw [take_succ_getD ps k h, List.map_append, h2, List.set_append_right _ _ (by omega), h1]
  simp

theorem mix_keep (tos : List Int) (ps : List Pt) (k : Nat) (h : k < ps.length) (hk : ((ps.getD k default).k == 1) = false) : mix tos ps (k + 1) = mix tos ps k := by
  have h1 : ren tos (ps.getD k default) = ps.getD k default := by unfold ren; rw [hk]; rfl
  rw [mix_succ tos ps k h, h1, ← mix_getD tos ps k h]
  apply List.ext_getElem?
  intro i
  rw [List.getElem?_set]
  split
  · next e =>
    rw [← e]
    have : k < (mix tos ps k).length := by rw [mix_len]; exact h
    simp [this, List.getD]
  · rfl

theorem cells_set4 (qs : List Pt) (k : Nat) (h : k < qs.length) (x : Int) : (qs.flatMap Pt.cells).set (k * 5 + 4) (.int .i64 x) = (qs.set k { qs.getD k default with n := x }).flatMap Pt.cells := by
  induction qs generalizing k with
  | nil => simp at h
  | cons q l ih =>
    match k with
    | 0 => simp [List.flatMap_cons, Pt.cells]
    | k + 1 =>
      have hk : k < l.length := by simpa using h
      have e : (k + 1) * 5 + 4 = q.cells.length + (k * 5 + 4) := by simp [Pt.cells]; omega
      rw [List.flatMap_cons, e, List.set_append_right _ _ (by omega), Nat.add_sub_cancel_left, ih k hk]
      simp [List.flatMap_cons]

theorem news_of_parts {w : World} {b off : Nat} {ps : List Pt} (hc : ∀ j, j < ps.length →
    w.cell? ⟨b, off + j * 5, none⟩ = some (.int .i64 (ps.getD j default).k) ∧ w.cell? ⟨b, off + j * 5 + 1, none⟩ = some (.int .i64 (ps.getD j default).a) ∧
    w.cell? ⟨b, off + j * 5 + 2, none⟩ = some (.int .i64 (ps.getD j default).b) ∧ w.cell? ⟨b, off + j * 5 + 3, none⟩ = some (.int .i64 (ps.getD j default).c) ∧
    w.cell? ⟨b, off + j * 5 + 4, none⟩ = some (.int .i64 (ps.getD j default).n)) :
    ∀ j u, (ps.flatMap Pt.cells)[j]? = some u → w.cell? ((⟨b, off, none⟩ : Addr).add j) = some u := by
  intro j u hu
  have hadd : (⟨b, off, none⟩ : Addr).add j = ⟨b, off + j, none⟩ := by unfold Addr.add; split <;> simp_all
  rw [hadd]
  have hj : j < ps.length * 5 := by
    rw [← length_cells]
    rcases Nat.lt_or_ge j (ps.flatMap Pt.cells).length with h | h
    · exact h
    · rw [List.getElem?_eq_none h] at hu; cases hu
  obtain ⟨q, r, hq, hr⟩ : ∃ q r, j = q * 5 + r ∧ r < 5 := ⟨j / 5, j % 5, by omega, by omega⟩
  obtain ⟨h0, h1, h2, h3, h4⟩ := hc q (by omega)
  obtain ⟨g0, g1, g2, g3, g4⟩ := cells_get ps q (by omega)
  subst hq
  match r, hr with
  | 0, _ => rw [Nat.add_zero] at hu ⊢; rw [g0] at hu; rw [h0]; exact hu
  | 1, _ => rw [g1] at hu; rw [← Nat.add_assoc, h1]; exact hu
  | 2, _ => rw [g2] at hu; rw [← Nat.add_assoc, h2]; exact hu
  | 3, _ => rw [g3] at hu; rw [← Nat.add_assoc, h3]; exact hu
  | 4, _ => rw [g4] at hu; rw [← Nat.add_assoc, h4]; exact hu

theorem news_alloc {w : World} {b off : Nat} {xs : List Value} (h : ∀ j u, xs[j]? = some u → w.cell? ((⟨b, off, none⟩ : Addr).add j) = some u) (hb : b < w.heap.size) (o : Obj) : ∀ j u, xs[j]? = some u → (w.alloc o).cell? ((⟨b, off, none⟩ : Addr).add j) = some u := by
  intro j u hu
  have hadd : (⟨b, off, none⟩ : Addr).add j = ⟨b, off + j, none⟩ := by unfold Addr.add; split <;> simp_all
  have h1 := h j u hu
  rw [hadd] at h1 ⊢
  rw [World.cell?_alloc_lt _ _ _ hb]
  exact h1

theorem cells_one (ps : List Pt) : ∀ u ∈ ps.flatMap Pt.cells, u.oneCell' = true := by
  intro u hu
  obtain ⟨p, _, hp⟩ := List.mem_flatMap.1 hu
  simp [Pt.cells] at hp
  rcases hp with rfl | rfl | rfl | rfl | rfl <;> rfl

/-- Returns a slice of fresh parts. -/
def RetQ (w : World) (ps : List Pt) (e : Ending) (w' : World) : Prop := ∃ v, e = .returned v ∧ w'.ownsRow w.heap.size 73 5 v ps.length (ps.flatMap Pt.cells) ∧ Below w.heap.size w w'

set_option maxRecDepth 100000 in
set_option maxHeartbeats 400000 in
theorem clone_parts (A : Option Addr) (n c : Nat) (ps : List Pt) (w : World) (B : Nat) (hB : B ≤ w.heap.size) (hn : n = ps.length) (h1 : 1 ≤ n) (h : PS w B A ps) (hs : n ≤ 2000000) :
    Calls Try.prog 68 #[.slice A n c] w fun e w' => RetQ w ps e w' := by
  obtain ⟨i1, hi1, hy0, hy1, hy2⟩ := info_parts info_part
  obtain ⟨b, off, rfl, hbB, hc⟩ := h (by omega)
  have HC := Lib.hid hc
  have HN := Lib.hid hn
  have hbw : b < w.heap.size := by omega
  clear h hc hn
  go_enter Try.func68, Try.ntmps68
  have hnew := World.ownsRow_lit (e := 73) (size := 5) (base := w.heap.size) w #[] 0 (Nat.le_refl _) (by unfold maxLen; omega) (by simp)
  have HNEW := Lib.hid hnew
  have qT : ∀ (w : World) (a : Option Addr) (n c : Nat), (binOp .eql 23 (.slice a n c) (.slice none 0 0)).run Try.prog w = .ok (.bool a.isNone) w := fun w a n c => Lib.run_eql_slice_nil w _ _ a n c 0 0 Try.underlying23
  clear hnew
  go_wp2_with (at_builtin; refine wpList_append_own_at _ rfl _ _ 23 rfl w.heap.size 73 i1 _ 5 40 Try.underlying23 hi1 hy0 hy1 hy2 rfl (by decide) _ _ _ rfl HNEW.out ⟨b, off, none⟩ n c (ps.flatMap Pt.cells) rfl ?d1 ?d6 (cells_one ps) ?d3 ?d4 ?d5 ?_)
  case d1 => rw [← List.length_flatMap, length_cells, HN.out]
  case d6 =>
    intro j u hu
    have h1 := news_of_parts (w := w) HC.out j u hu
    have hadd : (⟨b, off, none⟩ : Addr).add j = ⟨b, off + j, none⟩ := by unfold Addr.add; split <;> simp_all
    rw [hadd] at h1
    exact h1
  case d3 => unfold maxLen; omega
  case d4 => omega
  intro v' w3 hown' hgrow _ hwhere
  have HO := Lib.hid hown'
  have HG := Lib.hid hgrow
  clear hown' hgrow hwhere
  go_wp2
  go_ret
  refine ⟨v', rfl, ?_, ?_⟩
  · have h1 := HO.out
    rw [← HN.out]
    simpa using h1
  · exact ((Below.refl _ _).alloc (Nat.le_refl _) _).grown HG.out (by simp) (fun k hk => by simp [Value.ownBlock] at hk; omega)
end Go.Proofs.Ytgbijmfmdcphhaa
