/- Words and contracts for memory that the texts behind use. -/
import Derived.Test.YtgakgmkonmgblaaGreatA9a
import Derived.WalkKit
import Derived.Laws.OwnMore
import Derived.Deep.Draws
import Derived.Test.YtgakgmkonmgblaaGreatProg
import Derived.WalkSpells
import Derived.WalkLawsBesides
import Derived.Outline
import Derived.Lib.Hide
import Derived.BigQuiet
import Derived.Deep.QuietTactic
import Derived.StillTailTactics
import Derived.Deep.LoopGhost
import Derived.Laws.MakeOwn
import Derived.WalkSmall
import Derived.RegionTactic
import Derived.BigRegion
import Derived.Deep.RegionWith
import Derived.Deep.RegionHeld3
import Derived.Laws.Entries
import Derived.Laws.Bits64
import Derived.IntWalk
import Derived.Maps.AppendAt
import Derived.Deep.RegionLaw
import Derived.Deep.AppendLies
import Derived.Deep.Cut
import Derived.Deep.DeepCutAuto
import Derived.Laws.CopyOwn

namespace Go.Proofs.YtgakgmkonmgblaaGreat
set_option linter.unusedSimpArgs false
set_option linter.unusedVariables false
open Go.RowKit
theorem row_pos {w : World} {base n size : Nat} {e : TypeId} {v : Value} {xs : List Value} (h : w.ownsRow base e size v n xs) (hn : 0 < n) : ∃ g cap, v = .slice (some ⟨g, 0, none⟩) n cap := by
  rcases h.2 with ⟨hv, h0⟩ | ⟨g, cap, cur, hv, _⟩
  · omega
  · exact ⟨g, cap, hv⟩
/-- A part in a box. -/
structure PB (b : Nat) (q : Pt) (w : World) : Prop where
  lt : b < w.heap.size
  c0 : w.cell? ⟨b, 0, none⟩ = some (.int .i64 q.k)
  c1 : w.cell? ⟨b, 1, none⟩ = some (.int .i64 q.a)
  c2 : w.cell? ⟨b, 2, none⟩ = some (.int .i64 q.b)
  c3 : w.cell? ⟨b, 3, none⟩ = some (.int .i64 q.c)
  c4 : w.cell? ⟨b, 4, none⟩ = some (.int .i64 q.n)
  fz : ∀ j, w.frozen? ⟨b, j, none⟩ = false
theorem PB.keep {b : Nat} {q : Pt} {w w' : World} (h : PB b q w) (hk : w'.heap[b]? = w.heap[b]?) (hs : w.heap.size ≤ w'.heap.size) : PB b q w' := by
  have c (j : Nat) : w'.cell? ⟨b, j, none⟩ = w.cell? ⟨b, j, none⟩ := World.cell?_of_block (a := ⟨b, j, none⟩) hk
  have f (j : Nat) : w'.frozen? ⟨b, j, none⟩ = w.frozen? ⟨b, j, none⟩ := World.frozen?_of_block (a := ⟨b, j, none⟩) hk
  exact ⟨Nat.lt_of_lt_of_le h.lt hs, (c 0).trans h.c0, (c 1).trans h.c1, (c 2).trans h.c2, (c 3).trans h.c3, (c 4).trans h.c4, fun j => (f j).trans (h.fz j)⟩
theorem PB.pick {g b : Nat} {q : Pt} {w w' : World} (h : PB b q w) (ht : Tch g (g + 1) w w') (hb : b ≠ g) : PB b q w' := h.keep (ht.block b h.lt (by omega)) ht.size
theorem PB.step {b : Nat} {q : Pt} {w w' : World} (h : PB b q w) (hb : Below w.heap.size w w') : PB b q w' := h.keep (hb.block b h.lt) hb.size
theorem PB.alloc {b : Nat} {q : Pt} {w : World} (h : PB b q w) (o : Obj) : PB b q (w.alloc o) := h.step ((Below.refl _ _).alloc (Nat.le_refl _) o)
theorem PB.grown {b : Nat} {q : Pt} {w w' : World} {row : Option Nat} (h : PB b q w) (hg : w.grownBy w' row) (hr : ∀ k, row = some k → k < b) : PB b q w' :=
  h.keep (hg.block b h.lt fun e => absurd (hr b e.symm) (Nat.lt_irrefl _)) hg.size
theorem PB.set5 {b : Nat} {q : Pt} {w : World} (h : PB b q w) (k a b' c' n' : Int) : PB b ⟨k, a, b', c', n'⟩ (((((w.setCell ⟨b, 0, none⟩ (.int .i64 k)).setCell ⟨b, 1, none⟩ (.int .i64 a)).setCell ⟨b, 2, none⟩ (.int .i64 b')).setCell ⟨b, 3, none⟩ (.int .i64 c')).setCell ⟨b, 4, none⟩ (.int .i64 n')) := by
  have o (w : World) (i j : Nat) (x : Value) (hij : i ≠ j) : (w.setCell ⟨b, i, none⟩ x).cell? ⟨b, j, none⟩ = w.cell? ⟨b, j, none⟩ := World.cell?_setCell_other _ _ _ _ (by intro e; cases e; exact hij rfl)
  have sm (w : World) (i : Nat) (x u : Value) (hu : w.cell? ⟨b, i, none⟩ = some u) : (w.setCell ⟨b, i, none⟩ x).cell? ⟨b, i, none⟩ = some x := World.cell?_setCell_same _ _ _ hu
  refine ⟨by simpa [World.setCell] using h.lt, ?_, ?_, ?_, ?_, ?_, fun j => ?_⟩
  · rw [o _ 4 0 _ (by decide), o _ 3 0 _ (by decide), o _ 2 0 _ (by decide), o _ 1 0 _ (by decide)]; exact sm _ 0 _ _ h.c0
  · rw [o _ 4 1 _ (by decide), o _ 3 1 _ (by decide), o _ 2 1 _ (by decide)]; exact sm _ 1 _ _ ((o _ 0 1 _ (by decide)).trans h.c1)
  · rw [o _ 4 2 _ (by decide), o _ 3 2 _ (by decide)]; exact sm _ 2 _ _ ((o _ 1 2 _ (by decide)).trans ((o _ 0 2 _ (by decide)).trans h.c2))
  · rw [o _ 4 3 _ (by decide)]; exact sm _ 3 _ _ ((o _ 2 3 _ (by decide)).trans ((o _ 1 3 _ (by decide)).trans ((o _ 0 3 _ (by decide)).trans h.c3)))
  · exact sm _ 4 _ _ ((o _ 3 4 _ (by decide)).trans ((o _ 2 4 _ (by decide)).trans ((o _ 1 4 _ (by decide)).trans ((o _ 0 4 _ (by decide)).trans h.c4))))
  · simp only [World.frozen?_setCell]; exact h.fz j
theorem Rdr.drew {g n c P : Nat} {A : Option Addr} {bs : List Int} {w : World} (h : Rdr g A n c bs P w) : Rdr g A n c bs P w.drew := ⟨h.lt, h.c0, h.pos, h.fz, h.by_⟩
def slcLen : Value → Nat
  | .slice _ n _ => n
  | _ => 0
/-- Returns a formula of some parts in fresh blocks; the reader has picked Q times at most. -/
def GfP (g : Nat) (A : Option Addr) (n c : Nat) (bs : List Int) (Q : Nat) (w : World) (e : Ending) (w' : World) : Prop :=
  ∃ (A' : Option Addr) (n' c' : Nat) (ps : List Pt), e = .returned (.agg #[.slice A' n' c']) ∧ n' = ps.length ∧ 1 ≤ n' ∧ n' ≤ 40 ∧ w'.ownsRow w.heap.size 143 5 (.slice A' n' c') n' (ps.flatMap Pt.cells) ∧ Rdr g A n c bs Q w' ∧ Tch g (g + 1) w w'
set_option maxRecDepth 100000 in
set_option maxHeartbeats 40000000 in
theorem goodFormula_any (g : Nat) (A : Option Addr) (n c : Nat) (bs : List Int) (P : Nat) (An : Option Addr) (l c' : Nat) (nodes : List Int) (w : World) (h : Rdr g A n c bs P w) (hn : n = bs.length) (hby : BY bs) (hs : n ≤ 2000) (hP : P ≤ 900000)
    (hl : l = nodes.length) (hl2 : l ≤ 1000) (hx : IS w w.heap.size An nodes) (hne : ∀ b' o', An = some ⟨b', o', none⟩ → b' ≠ g) :
    Calls Tryz.prog 123 #[.pointer (some ⟨g, 0, none⟩), .slice An l c'] w fun e w' => GfP g A n c bs (P + 200) w e w' := by
  obtain ⟨i1, hi1, hy0, hy1, hy2⟩ := info_parts info_part
  obtain ⟨i0, hi0, hz0, hz1, hz2⟩ := info_parts info_int
  have hgw := h.lt
  obtain ⟨s, hs0⟩ : ∃ s, s = w.heap.size := ⟨_, rfl⟩
  have HN := Lib.hid hn
  have HL := Lib.hid hl
  have HX := Lib.hid hx
  have HNE := Lib.hid hne
  have HR0 := Lib.hid ((((h.alloc (.cells #[.slice none 0 0] 78)).alloc (.cells #[.slice none 0 0] 78)).alloc (.cells #[] 3)).alloc (.cells #[.int .i64 3, .int .i64 4, .int .i64 5, .int .i64 6, .int .i64 2, .int .i64 1] 3))
  have hrow0 := World.ownsRow_lit (e := 3) (size := 1) (base := w.heap.size + 2) ((w.alloc (.cells #[.slice none 0 0] 78)).alloc (.cells #[.slice none 0 0] 78)) #[] 0 (by simp) (by unfold maxLen; omega) (by simp)
  have HROW := Lib.hid hrow0
  have hBW : Below w.heap.size w ((((w.alloc (.cells #[.slice none 0 0] 78)).alloc (.cells #[.slice none 0 0] 78)).alloc (.cells #[] 3)).alloc (.cells #[.int .i64 3, .int .i64 4, .int .i64 5, .int .i64 6, .int .i64 2, .int .i64 1] 3)) := ((((Below.refl _ _).alloc (Nat.le_refl _) _).alloc (by simp) _).alloc (by simp; omega) _).alloc (by simp; omega) _
  have HGI : Hid (GI g w.heap.size A n c bs An nodes w P none 0 0 [] (.slice (some ⟨w.heap.size + 1 + 1, 0, none⟩) 0 0) 0 [] ((((w.alloc (.cells #[.slice none 0 0] 78)).alloc (.cells #[.slice none 0 0] 78)).alloc (.cells #[] 3)).alloc (.cells #[.int .i64 3, .int .i64 4, .int .i64 5, .int .i64 6, .int .i64 2, .int .i64 1] 3))) :=
    ⟨hgw, Frd.of_below hBW (Nat.le_refl _), HR0.out, by simp, by go_simp, by go_simp, by go_simp, by go_simp, rfl, World.ownsRow_nil _ _ _ _, rfl, by simpa using HROW.out.alloc (.cells #[.int .i64 3, .int .i64 4, .int .i64 5, .int .i64 6, .int .i64 2, .int .i64 1] 3), hx.below hBW (Nat.le_refl _), hne⟩
  clear h hn hl hx hne hrow0 hBW HROW
  go_enter Tryz.func123, Tryz.ntmps123
  go_wp2_with fail
  refine (one_any g A n c bs P (w.heap.size + 3) 0 6 6 [3, 4, 5, 6, 2, 1] _ HR0.out HN.out hby hs (by omega) rfl (by omega) (by omega) ?_ (by omega) (by simp)).mono ?_
  · intro j hj
    have : j = 0 ∨ j = 1 ∨ j = 2 ∨ j = 3 ∨ j = 4 ∨ j = 5 := by omega
    rcases this with rfl | rfl | rfl | rfl | rfl | rfl <;> go_simp
  rintro e w1 ⟨x, rfl, hxm, hr1, ht1⟩
  obtain ⟨N, rfl, hN1, hN6⟩ : ∃ N : Nat, x = (N : Int) ∧ 1 ≤ N ∧ N ≤ 6 := by
    simp only [List.mem_cons, List.not_mem_nil, or_false] at hxm
    exact ⟨x.toNat, by omega, by omega, by omega⟩
  have HG1 := Lib.hid (HGI.out.pick hr1 ht1)
  clear hxm hr1 ht1 HGI HR0
  go_wp2
  go_loopw [6, 7] (fun v u wr => ∃ (k m no nf cf : Nat) (Af : Option Addr) (ps : List Pt) (xs : List Int), k + m = N ∧ u = .int .i64 k ∧ no ≤ m ∧ nf ≤ 2 * m ∧ Hid (GI g w.heap.size A n c bs An nodes w (P + 1 + 10 * m) Af nf cf ps v no xs wr)) (fun _ u _ => (intOf u).toNat)
  case atStart => exact ⟨N, 0, 0, 0, 0, none, [], [], by omega, rfl, Nat.le_refl _, Nat.zero_le _, HG1.out⟩
  case round =>
    obtain ⟨k, m, no, nf, cf, Af, ps, xs, hkm, rfl, hno, hnf, HG⟩ := hrel
    by_cases hk : 0 < k
    · have hPm : P + 1 + 10 * m ≤ 900100 := by omega
      obtain ⟨P1, hP1⟩ : ∃ P1, P1 = P + 1 + 10 * m := ⟨_, rfl⟩
      have HP1 := Lib.hid hP1
      rw [← hP1] at HG hPm
      clear hP1
      go_wp2_with fail
      refine (readPart_any g A n c bs P1 An l c' nodes _ HG.out.rd HN.out hby hs (by omega) HL.out hl2 (HG.out.nd.more (by have := HG.out.lt; omega)) HG.out.ng).mono ?_
      rintro e w2 ⟨q, rfl, hr2, ht2⟩
      have HGq := Lib.hid (HG.out.pick hr2 ht2)
      obtain ⟨b8, hb8⟩ : ∃ b8, b8 = w2.heap.size := ⟨_, rfl⟩
      have HB8 := Lib.hid hb8
      have HPB : Hid (PB b8 q (w2.alloc (.cells #[.int .i64 q.k, .int .i64 q.a, .int .i64 q.b, .int .i64 q.c, .int .i64 q.n] 143))) := by
        rw [hb8]; exact ⟨by simp, by go_simp, by go_simp, by go_simp, by go_simp, by go_simp, fun j => by go_simp⟩
      have HO8 : Hid ((∀ k, (Value.slice Af nf cf).ownBlock = some k → k < b8) ∧ (∀ k, u6.ownBlock = some k → k < b8)) := by
        rw [hb8]; exact ⟨fun k hk => (HGq.out.pr.lt k hk).2, fun k hk => (HGq.out.xr.lt k hk).2⟩
      have HG2 := Lib.hid (HGq.out.alloc (.cells #[.int .i64 q.k, .int .i64 q.a, .int .i64 q.b, .int .i64 q.c, .int .i64 q.n] 143))
      have hb8s : w.heap.size + 2 ≤ b8 := by rw [hb8]; exact HGq.out.lt
      clear hr2 ht2 HG HGq hb8
      go_wp2_with fail
      rw [← HB8.out]
      generalize w2.alloc (.cells #[.int .i64 q.k, .int .i64 q.a, .int .i64 q.b, .int .i64 q.c, .int .i64 q.n] 143) = W2 at *
      refine (pick_any g A n c bs (P1 + 1) 4 W2 HG2.out.rd HN.out hby hs (by omega) (by omega)).mono ?_
      rintro e w3 ⟨x3, rfl, _, _, hr3, ht3⟩
      have HG3 := Lib.hid (HG2.out.pick hr3 ht3)
      have HPB3 := Lib.hid (HPB.out.pick ht3 (by omega))
      clear hr3 ht3 HG2 HPB
      go_upto_if 25 with fail
      go_cut [] from 16 to 119 (fun wx => ∃ q' : Pt, Hid (PB b8 q' wx) ∧ Hid (GI g w.heap.size A n c bs An nodes w (P1 + 3) Af nf cf ps u6 no xs wx))
      case first =>
        cases hx3 : ((x3 : Int) == 0)
        · go_wp2_with fail
          go_meet
          exact ⟨q, HPB3.out, HG3.out.mono (by omega)⟩
        · obtain rfl : x3 = 0 := by simpa using hx3
          clear hx3
          have HG3a := Lib.hid (HG3.out.alloc (.cells #[.int .i64 0, .int .i64 1, .int .i64 2, .int .i64 5, .int .i64 99, .int .i64 10] 3))
          have HPB3a := Lib.hid (HPB3.out.alloc (.cells #[.int .i64 0, .int .i64 1, .int .i64 2, .int .i64 5, .int .i64 99, .int .i64 10] 3))
          go_wp2_with fail
          refine (one_any g A n c bs (P1 + 2) w3.heap.size 0 6 6 [0, 1, 2, 5, 99, 10] _ HG3a.out.rd HN.out hby hs (by omega) rfl (by omega) (by omega) ?_ (by have := HG3.out.rd.lt; omega) (by simp)).mono ?_
          · intro j hj
            have : j = 0 ∨ j = 1 ∨ j = 2 ∨ j = 3 ∨ j = 4 ∨ j = 5 := by omega
            rcases this with rfl | rfl | rfl | rfl | rfl | rfl <;> go_simp
          rintro e w4 ⟨y, rfl, _, hr4, ht4⟩
          have HG4 := Lib.hid (HG3a.out.pick hr4 ht4)
          have HPB4 := Lib.hid (HPB3a.out.pick ht4 (by omega))
          clear hr4 ht4 HG3a HPB3a
          go_wp2_with fail
          refine (spec_numberPart y _).mono ?_
          rintro e w5 ⟨rfl, hb5⟩
          have HG5 := Lib.hid (HG4.out.step hb5)
          have HPB5 := Lib.hid (HPB4.out.step hb5)
          have p0 := HPB5.out.c0
          have p1 := HPB5.out.c1
          have p2 := HPB5.out.c2
          have p3 := HPB5.out.c3
          have p4 := HPB5.out.c4
          have f0 := HPB5.out.fz 0
          have f1 := HPB5.out.fz 1
          have f2 := HPB5.out.fz 2
          have f3 := HPB5.out.fz 3
          have f4 := HPB5.out.fz 4
          clear hb5
          go_wp2_with fail
          go_meet
          exact ⟨⟨0, -1, -1, -1, y⟩, HPB5.out.set5 0 (-1) (-1) (-1) y, ((((HG5.out.poke hb8s HO8.out.1 HO8.out.2 0 _).poke hb8s HO8.out.1 HO8.out.2 1 _).poke hb8s HO8.out.1 HO8.out.2 2 _).poke hb8s HO8.out.1 HO8.out.2 3 _).poke hb8s HO8.out.1 HO8.out.2 4 _⟩
      case rest =>
        obtain ⟨q', HPB9, HG9⟩ := hcut
        have f0 := HG9.out.fb
        have z1 : w.heap.size + 1 < wc.heap.size := HG9.out.lt
        have HGa := Lib.hid (HG9.out.alloc (.cells #[.int .i64 nf] 3))
        have HPBa := Lib.hid (HPB9.out.alloc (.cells #[.int .i64 nf] 3))
        have hnb : no ≤ 6 := by omega
        clear HPB3 HG3
        go_wp2_with (at_builtin; refine wpList_append_own _ rfl _ _ 26 rfl (w.heap.size + 2) 3 i0 (.int .i64 0) 1 8 Tryz.underlying26 hi0 hz0 hz1 hz2 rfl (by decide) _ _ _ rfl HGa.out.xr ⟨_, 0, none⟩ 1 1 [.int .i64 nf] rfl rfl (cell_one_new _ _ _) ?c2 ?c3 ?c4 ?c5 ?_)
        case c2 => first | rfl | (intro u hu; simp at hu; subst hu; rfl)
        case c3 => unfold maxLen; omega
        case c4 => omega
        case c5 => first | omega | (simp; omega)
        intro v' w4 hown' hgrow _
        obtain ⟨Ao, co, rfl⟩ := row_form' hown'
        have HG4 := Lib.hid (HGa.out.opened (xs' := xs ++ [(nf : Int)]) HGa.out.xr hgrow (by simpa using hown') (by rw [List.length_append, ← HGa.out.xl]; rfl))
        have HPB4 := Lib.hid (HPBa.out.grown hgrow HO8.out.2)
        clear hown' hgrow HGa HPBa f0 z1 HPB9 HG9
        have f0 := HG4.out.fb
        have f1 := HG4.out.fz
        have z1 : w.heap.size + 1 < w4.heap.size := HG4.out.lt
        have z2 : b8 < w4.heap.size := HPB4.out.lt
        have p0 := HPB4.out.c0
        have p1 := HPB4.out.c1
        have p2 := HPB4.out.c2
        have p3 := HPB4.out.c3
        have p4 := HPB4.out.c4
        have HGb := Lib.hid (HG4.out.alloc (.cells #[.int .i64 q'.k, .int .i64 q'.a, .int .i64 q'.b, .int .i64 q'.c, .int .i64 q'.n] 143))
        go_wp2_with (at_builtin; refine wpList_append_own_at _ rfl _ _ 76 rfl (w.heap.size + 2) 143 i1 _ 5 40 Tryz.underlying76 hi1 hy0 hy1 hy2 rfl (by decide) _ _ _ rfl HGb.out.pr ⟨_, 0, none⟩ 1 1 q'.cells rfl rfl (cells_new _ _ _ _ rfl) ?d2 ?d3 ?d4 ?d5 ?_)
        case d2 => intro u hu; simp [Pt.cells] at hu; rcases hu with rfl | rfl | rfl | rfl | rfl <;> rfl
        case d3 => unfold maxLen; omega
        case d4 => omega
        case d5 => simp; omega
        intro v5 w5 hown5 hgrow5 _ _
        obtain ⟨A5, c5, rfl⟩ := row_form' hown5
        have hfr := HGb.out.frame hgrow5 fun k hk => (HGb.out.pr.lt k hk).1
        have z5 := hfr.2.2.1
        have e0 := hfr.2.2.2.2.2.1
        have e1 := hfr.2.2.2.2.2.2.1
        clear hfr
        have HG6 := Lib.hid (HGb.out.parted (Af' := A5) (nf' := nf + 1) (cf' := c5) (ps' := ps ++ [q']) hgrow5 (by simpa [List.flatMap_append] using hown5) (by rw [List.length_append, ← HGb.out.pl]; rfl))
        clear hown5 hgrow5 HGb HG4 HPB4 f0 f1 z1 z2 p0 p1 p2 p3 p4 HO8
        by_cases h3 : 3 ≤ no + 1
        · obtain ⟨j, rfl⟩ : ∃ j, no = j + 2 := ⟨no - 2, by omega⟩
          go_wp2_with fail
          generalize (w5.setCell ⟨w.heap.size + 1, 0, none⟩ (.slice A5 (nf + 1) c5)) = W6 at *
          refine (pick_any g A n c bs (P1 + 3) 2 W6 HG6.out.rd HN.out hby hs (by omega) (by omega)).mono ?_
          rintro e w7 ⟨x7, rfl, _, _, hr7, ht7⟩
          have HG7 := Lib.hid (HG6.out.pick hr7 ht7)
          clear hr7 ht7 HG6 h3
          by_cases hx7 : x7 = 0
          · subst hx7
            obtain ⟨go, cg, hov⟩ := row_pos HG7.out.xr (by omega)
            cases hov
            have f0 := HG7.out.fb
            have f1 := HG7.out.fz
            have z1 : w.heap.size + 1 < w7.heap.size := HG7.out.lt
            have hxl := HG7.out.xl
            have o0 := HG7.out.xr.cellAt j (by omega)
            have o1 := HG7.out.xr.cellAt (j + 1) (by omega)
            have o2 := HG7.out.xr.cellAt (j + 2) (by omega)
            rw [List.getElem?_map] at o0 o1 o2
            generalize hX : xs ++ [(nf : Int)] = X at *
            have HX2 := Lib.hid hX
            clear hX
            rw [List.getElem?_eq_getElem (by omega), Option.map_some] at o0 o1 o2
            generalize X[j]'_ = x0 at o0
            generalize X[j + 1]'_ = x1 at o1
            generalize X[j + 2]'_ = x2 at o2
            have HXL := Lib.hid hxl
            clear hxl
            have hgo := (HG7.out.xr.lt go rfl).2
            go_wp2_with fail
            have a3 : IntKind.i64.wrap ((j : Int) + 2 + 1 - 3) = (j : Int) := by rw [IntKind.wrap_i64]; omega
            have a2 : IntKind.i64.wrap ((j : Int) + 2 + 1 - 2) = (j : Int) + 1 := by rw [IntKind.wrap_i64]; omega
            have a1 : IntKind.i64.wrap ((j : Int) + 2 + 1 - 1) = (j : Int) + 2 := by rw [IntKind.wrap_i64]; omega
            have b3 : (j : Int) < (j : Int) + 2 + 1 := by omega
            have b2 : (j : Int) + 1 < (j : Int) + 2 + 1 := by omega
            have b1 : (j : Int) + 2 < (j : Int) + 2 + 1 := by omega
            have b0 : 0 ≤ (j : Int) + 1 := by omega
            have b00 : 0 ≤ (j : Int) + 2 := by omega
            have a1' : IntKind.i64.wrap ((j : Int) + 2) = (j : Int) + 2 := by rw [IntKind.wrap_i64]; omega
            have a2' : IntKind.i64.wrap ((j : Int) + 1) = (j : Int) + 1 := by rw [IntKind.wrap_i64]; omega
            have t1 : ((j : Int) + 1).toNat = j + 1 := by omega
            have t2 : ((j : Int) + 2).toNat = j + 2 := by omega
            have HGc := Lib.hid (HG7.out.alloc (.cells #[.int .i64 8, .int .i64 x0, .int .i64 x1, .int .i64 x2, .int .i64 0] 143))
            have hX0 := (HG7.out.xr.cellAt j (by omega)).symm.trans o0
            have hX1 := (HG7.out.xr.cellAt (j + 1) (by omega)).symm.trans o1
            have hX2 := (HG7.out.xr.cellAt (j + 2) (by omega)).symm.trans o2
            have HXX := Lib.hid (And.intro hX0 (And.intro hX1 hX2))
            clear hX0 hX1 hX2
            have hgo2 := (HG7.out.xr.lt go rfl).1
            have hnb1 : ∀ q : Nat, (⟨w.heap.size + 1, 0, none⟩ : Addr) ≠ ⟨go, q, none⟩ := fun q e => by have := congrArg Addr.block e; simp at this; omega
            have q0 := (World.cell?_alloc_lt w7 (.cells #[.int .i64 8, .int .i64 x0, .int .i64 x1, .int .i64 x2, .int .i64 0] 143) ⟨go, j, none⟩ hgo).trans o0
            have q1 := (World.cell?_alloc_lt w7 (.cells #[.int .i64 8, .int .i64 x0, .int .i64 x1, .int .i64 x2, .int .i64 0] 143) ⟨go, j + 1, none⟩ hgo).trans o1
            have q2 := (World.cell?_alloc_lt w7 (.cells #[.int .i64 8, .int .i64 x0, .int .i64 x1, .int .i64 x2, .int .i64 0] 143) ⟨go, j + 2, none⟩ hgo).trans o2
            refine wp_region_held_drew (S := (fun w' => w'.cell? ⟨go, j, none⟩ = some (.int .i64 x0) ∧ w'.cell? ⟨go, j + 1, none⟩ = some (.int .i64 x1) ∧ w'.cell? ⟨go, j + 2, none⟩ = some (.int .i64 x2))) (by kernel_rfl) ⟨o0, o1, o2⟩ (fun hHeld => ?_)
            refine wpAnyH_take (i := 0) (oi := ⟨some 52, _, _, _, _, _⟩) (v := ?_) rfl (by kernel_rfl) (by kernel_rfl) (by kernel_rfl) (fun _ _ _ h => h) (Or.inl ⟨by rfl, ?_⟩) (by assumption) ?_; rotate_left; (focus (intro w hSw; (try dsimp only at hSw); go_simp; (try with_reducible rfl))); (try simp only [Act.put, List.setIfInBounds_toArray, List.set_cons_zero, List.set_cons_succ])
            refine wpAnyH_take (i := 2) (oi := ⟨some 54, _, _, _, _, _⟩) (v := ?_) rfl (by kernel_rfl) (by kernel_rfl) (by kernel_rfl) (fun _ _ _ h => h) (Or.inl ⟨by rfl, ?_⟩) (by assumption) ?_; rotate_left; (focus (intro w hSw; (try dsimp only at hSw); go_simp; (try with_reducible rfl))); (try simp only [Act.put, List.setIfInBounds_toArray, List.set_cons_zero, List.set_cons_succ])
            refine wpAnyH_take (i := 3) (oi := ⟨some 55, _, _, _, _, _⟩) (v := ?_) rfl (by kernel_rfl) (by kernel_rfl) (by kernel_rfl) (fun _ _ _ h => h) (Or.inl ⟨by rfl, ?_⟩) (by assumption) ?_; rotate_left; (focus (intro w hSw; (try dsimp only at hSw); go_simp; (try with_reducible rfl))); (try simp only [Act.put, List.setIfInBounds_toArray, List.set_cons_zero, List.set_cons_succ])
            refine wpAnyH_take (i := 4) (oi := ⟨some 56, _, _, _, _, _⟩) (v := ?_) rfl (by kernel_rfl) (by kernel_rfl) (by kernel_rfl) (fun _ _ _ h => h) (Or.inl ⟨by rfl, ?_⟩) (by assumption) ?_; rotate_left; (focus (intro w hSw; (try dsimp only at hSw); go_simp; (try with_reducible rfl))); (try simp only [Act.put, List.setIfInBounds_toArray, List.set_cons_zero, List.set_cons_succ])
            refine wpAnyH_take (i := 5) (oi := ⟨some 57, _, _, _, _, _⟩) (v := ?_) rfl (by kernel_rfl) (by kernel_rfl) (by kernel_rfl) (fun _ _ _ h => h) (Or.inl ⟨by rfl, ?_⟩) (by assumption) ?_; rotate_left; (focus (intro w hSw; (try dsimp only at hSw); go_simp; (try with_reducible rfl))); (try simp only [Act.put, List.setIfInBounds_toArray, List.set_cons_zero, List.set_cons_succ])
            refine wpAnyH_take (i := 6) (oi := ⟨some 58, _, _, _, _, _⟩) (v := ?_) rfl (by kernel_rfl) (by kernel_rfl) (by kernel_rfl) (fun _ _ _ h => h) (Or.inl ⟨by rfl, ?_⟩) (by assumption) ?_; rotate_left; (focus (intro w hSw; (try dsimp only at hSw); go_simp; (try with_reducible rfl))); (try simp only [Act.put, List.setIfInBounds_toArray, List.set_cons_zero, List.set_cons_succ])
            refine wpAnyH_take (i := 7) (oi := ⟨some 59, _, _, _, _, _⟩) (v := ?_) rfl (by kernel_rfl) (by kernel_rfl) (by kernel_rfl) (fun _ _ _ h => h) (Or.inl ⟨by rfl, ?_⟩) (by assumption) ?_; rotate_left; (focus (intro w hSw; (try dsimp only at hSw); go_simp; (try with_reducible rfl))); (try simp only [Act.put, List.setIfInBounds_toArray, List.set_cons_zero, List.set_cons_succ])
            refine wpAnyH_take (i := 8) (oi := ⟨some 60, _, _, _, _, _⟩) (v := ?_) rfl (by kernel_rfl) (by kernel_rfl) (by kernel_rfl) (fun _ _ _ h => h) (Or.inl ⟨by rfl, ?_⟩) (by assumption) ?_; rotate_left; (focus (intro w hSw; (try dsimp only at hSw); go_simp; (try with_reducible rfl))); (try simp only [Act.put, List.setIfInBounds_toArray, List.set_cons_zero, List.set_cons_succ])
            refine wpAnyH_take (i := 9) (oi := ⟨some 61, _, _, _, _, _⟩) (v := ?_) rfl (by kernel_rfl) (by kernel_rfl) (by kernel_rfl) (fun _ _ _ h => h) (Or.inl ⟨by rfl, ?_⟩) (by assumption) ?_; rotate_left; (focus (intro w hSw; (try dsimp only at hSw); go_simp; (try with_reducible rfl))); (try simp only [Act.put, List.setIfInBounds_toArray, List.set_cons_zero, List.set_cons_succ])
            refine wpAnyH_take (i := 10) (oi := ⟨some 62, _, _, _, _, _⟩) (v := ?_) rfl (by kernel_rfl) (by kernel_rfl) (by kernel_rfl) (fun _ _ _ h => h) (Or.inl ⟨by rfl, ?_⟩) (by assumption) ?_; rotate_left; (focus (intro w hSw; (try dsimp only at hSw); go_simp; (try with_reducible rfl))); (try simp only [Act.put, List.setIfInBounds_toArray, List.set_cons_zero, List.set_cons_succ])
            refine wpAnyH_take (i := 11) (oi := ⟨some 63, _, _, _, _, _⟩) (v := ?_) rfl (by kernel_rfl) (by kernel_rfl) (by kernel_rfl) (fun _ _ _ h => h) (Or.inl ⟨by rfl, ?_⟩) (by assumption) ?_; rotate_left; (focus (intro w hSw; (try dsimp only at hSw); go_simp; (try with_reducible rfl))); (try simp only [Act.put, List.setIfInBounds_toArray, List.set_cons_zero, List.set_cons_succ])
            refine wpAnyH_take (i := 12) (oi := ⟨some 64, _, _, _, _, _⟩) (v := ?_) rfl (by kernel_rfl) (by kernel_rfl) (by kernel_rfl) (fun _ _ _ h => h) (Or.inl ⟨by rfl, ?_⟩) (by assumption) ?_; rotate_left; (focus (intro w hSw; (try dsimp only at hSw); go_simp; (try with_reducible rfl))); (try simp only [Act.put, List.setIfInBounds_toArray, List.set_cons_zero, List.set_cons_succ])
            refine wpAnyH_take (i := 13) (oi := ⟨some 65, _, _, _, _, _⟩) (v := ?_) rfl (by kernel_rfl) (by kernel_rfl) (by kernel_rfl) (fun _ _ _ h => h) (Or.inl ⟨by rfl, ?_⟩) (by assumption) ?_; rotate_left; (focus (intro w hSw; (try dsimp only at hSw); go_simp; (try with_reducible rfl))); (try simp only [Act.put, List.setIfInBounds_toArray, List.set_cons_zero, List.set_cons_succ])
            refine wpAnyH_take (i := 14) (oi := ⟨some 66, _, _, _, _, _⟩) (v := ?_) rfl (by kernel_rfl) (by kernel_rfl) (by kernel_rfl) (fun _ _ _ h => h) (Or.inl ⟨by rfl, ?_⟩) (by assumption) ?_; rotate_left; (focus (intro w hSw; (try dsimp only at hSw); go_simp; (try with_reducible rfl))); (try simp only [Act.put, List.setIfInBounds_toArray, List.set_cons_zero, List.set_cons_succ])
            refine wpAnyH_take (i := 15) (oi := ⟨some 67, _, _, _, _, _⟩) (v := ?_) rfl (by kernel_rfl) (by kernel_rfl) (by kernel_rfl) (fun _ _ _ h => h) (Or.inl ⟨by rfl, ?_⟩) (by assumption) ?_; rotate_left; (focus (intro w hSw; (try dsimp only at hSw); go_simp; (try with_reducible rfl))); (try simp only [Act.put, List.setIfInBounds_toArray, List.set_cons_zero, List.set_cons_succ])
            refine wpAnyH_take (i := 16) (oi := ⟨some 68, _, _, _, _, _⟩) (v := ?_) rfl (by kernel_rfl) (by kernel_rfl) (by kernel_rfl) (fun _ _ _ h => h) (Or.inl ⟨by rfl, ?_⟩) (by assumption) ?_; rotate_left; (focus (intro w hSw; (try dsimp only at hSw); go_simp; (try with_reducible rfl))); (try simp only [Act.put, List.setIfInBounds_toArray, List.set_cons_zero, List.set_cons_succ])
            refine wpAnyH_take (i := 17) (oi := ⟨some 69, _, _, _, _, _⟩) (v := ?_) rfl (by kernel_rfl) (by kernel_rfl) (by kernel_rfl) (fun _ _ _ h => h) (Or.inl ⟨by rfl, ?_⟩) (by assumption) ?_; rotate_left; (focus (intro w hSw; (try dsimp only at hSw); go_simp; (try with_reducible rfl))); (try simp only [Act.put, List.setIfInBounds_toArray, List.set_cons_zero, List.set_cons_succ])
            refine wpAnyH_ready (rs := [1, 18]) (by kernel_rfl) (by simp) ?_; refine AllReadyH.cons (o := ⟨some 53, _, _, _, _, _⟩) rfl (fun K hK => ?_) (AllReadyH.cons (o := ⟨some 70, _, _, _, _, _⟩) rfl (fun K hK => ?_) AllReadyH.nil)
            go_simp
            refine hK.out _ _ ⟨o0, o1, o2⟩ (fun hHeld => ?_); clear hK K; (try simp only [Act.put, List.setIfInBounds_toArray, List.set_cons_zero, List.set_cons_succ])
            refine wpAnyH_ready (rs := [18]) (by kernel_rfl) (by simp) ?_; refine AllReadyH.cons (o := ⟨some 70, _, _, _, _, _⟩) rfl (fun K hK => ?_) AllReadyH.nil; go_simp
            refine hK.out _ _ ⟨q0, q1, q2⟩ (fun hHeld => ?_); clear hK K; (try simp only [Act.put, List.setIfInBounds_toArray, List.set_cons_zero, List.set_cons_succ])
            refine wpAnyH_ready (rs := [19]) (by kernel_rfl) (by simp) ?_; refine AllReadyH.cons (o := ⟨some 71, _, _, _, _, _⟩) rfl (fun K hK => ?_) AllReadyH.nil
            refine step_append_lies _ (by rfl) _ _ _ (by rfl) (w.heap.size + 2) 143 i1 _ 5 40 Tryz.underlying76 hi1 hy0 hy1 hy2 rfl (by omega) (.slice A5 (nf + 1) c5) (nf + 1) _ (by rfl) HGc.out.pr ⟨w7.heap.size, 0, none⟩ 1 1 [.int .i64 8, .int .i64 x0, .int .i64 x1, .int .i64 x2, .int .i64 0] (by rfl) (by rfl) (cells_new _ _ _ _ rfl) (by simp [Value.oneCell']) (by omega) (by unfold maxLen; omega) (by omega) (by simp; omega) (w7.heap.size + 1) (by simp) ?_
            intro gg cap w8 hown8 hgrow8 hat8 hlt8
            have hgr8 : (w7.alloc (.cells #[.int .i64 8, .int .i64 x0, .int .i64 x1, .int .i64 x2, .int .i64 0] 143)).grownBy w8 (Value.slice A5 (nf + 1) c5).ownBlock := ⟨hgrow8.os, hgrow8.tape, hgrow8.output, hgrow8.size, hgrow8.block⟩
            have hfr8 := HGc.out.frame hgr8 fun k hk => (HGc.out.pr.lt k hk).1
            have z8 := hfr8.2.2.1
            have g0 := hfr8.2.2.2.2.2.1
            have g1 := hfr8.2.2.2.2.2.2.1
            clear hfr8
            have hxr8 := HGc.out.xr.kept hgr8 (blocks_ne HGc.out.xr HGc.out.pr int_ne_part)
            have s0 := (hxr8.cellAt j (by omega)).trans HXX.out.1
            have s1 := (hxr8.cellAt (j + 1) (by omega)).trans HXX.out.2.1
            have s2 := (hxr8.cellAt (j + 2) (by omega)).trans HXX.out.2.2
            clear hxr8
            refine hK.out _ _ ⟨s0, s1, s2⟩ (fun hHeld => ?_); clear hK K; (try simp only [Act.put, List.setIfInBounds_toArray, List.set_cons_zero, List.set_cons_succ])
            refine wpAnyH_take (i := 20) (oi := ⟨some 72, _, _, _, _, _⟩) (v := ?_) rfl (by kernel_rfl) (by kernel_rfl) (by kernel_rfl) (fun _ _ _ h => h) (Or.inl ⟨by rfl, ?_⟩) (by assumption) ?_; rotate_left; (focus (intro w hSw; (try dsimp only at hSw); go_simp; (try with_reducible rfl))); (try simp only [Act.put, List.setIfInBounds_toArray, List.set_cons_zero, List.set_cons_succ])
            refine wpAnyH_ready (rs := [21]) (by kernel_rfl) (by simp) ?_; refine AllReadyH.cons (o := ⟨none, _, _, _, _, _⟩) rfl (fun K hK => ?_) AllReadyH.nil; go_simp
            refine hK.out _ _ ⟨(World.cell?_setCell_other _ _ _ _ (hnb1 _)).trans s0, (World.cell?_setCell_other _ _ _ _ (hnb1 _)).trans s1, (World.cell?_setCell_other _ _ _ _ (hnb1 _)).trans s2⟩ (fun hHeld => ?_); clear hK K; (try simp only [Act.put, List.setIfInBounds_toArray, List.set_cons_zero, List.set_cons_succ])
            refine wpAnyH_done (by kernel_rfl) ?_ _
            rotate_left
            go_simp
            refine hK.out _ _ ⟨q0, q1, q2⟩ (fun hHeld => ?_); clear hK K; (try simp only [Act.put, List.setIfInBounds_toArray, List.set_cons_zero, List.set_cons_succ])
            refine wpAnyH_ready (rs := [1]) (by kernel_rfl) (by simp) ?_; refine AllReadyH.cons (o := ⟨some 53, _, _, _, _, _⟩) rfl (fun K hK => ?_) AllReadyH.nil; go_simp
            refine hK.out _ _ ⟨q0, q1, q2⟩ (fun hHeld => ?_); clear hK K; (try simp only [Act.put, List.setIfInBounds_toArray, List.set_cons_zero, List.set_cons_succ])
            refine wpAnyH_ready (rs := [19]) (by kernel_rfl) (by simp) ?_; refine AllReadyH.cons (o := ⟨some 71, _, _, _, _, _⟩) rfl (fun K hK => ?_) AllReadyH.nil
            refine step_append_lies _ (by rfl) _ _ _ (by rfl) (w.heap.size + 2) 143 i1 _ 5 40 Tryz.underlying76 hi1 hy0 hy1 hy2 rfl (by omega) (.slice A5 (nf + 1) c5) (nf + 1) _ (by rfl) HGc.out.pr ⟨w7.heap.size, 0, none⟩ 1 1 [.int .i64 8, .int .i64 x0, .int .i64 x1, .int .i64 x2, .int .i64 0] (by rfl) (by rfl) (cells_new _ _ _ _ rfl) (by simp [Value.oneCell']) (by omega) (by unfold maxLen; omega) (by omega) (by simp; omega) (w7.heap.size + 1) (by simp) ?_
            intro gg cap w8 hown8 hgrow8 hat8 hlt8
            have hgr8 : (w7.alloc (.cells #[.int .i64 8, .int .i64 x0, .int .i64 x1, .int .i64 x2, .int .i64 0] 143)).grownBy w8 (Value.slice A5 (nf + 1) c5).ownBlock := ⟨hgrow8.os, hgrow8.tape, hgrow8.output, hgrow8.size, hgrow8.block⟩
            have hfr8 := HGc.out.frame hgr8 fun k hk => (HGc.out.pr.lt k hk).1
            have z8 := hfr8.2.2.1
            have g0 := hfr8.2.2.2.2.2.1
            have g1 := hfr8.2.2.2.2.2.2.1
            clear hfr8
            have hxr8 := HGc.out.xr.kept hgr8 (blocks_ne HGc.out.xr HGc.out.pr int_ne_part)
            have s0 := (hxr8.cellAt j (by omega)).trans HXX.out.1
            have s1 := (hxr8.cellAt (j + 1) (by omega)).trans HXX.out.2.1
            have s2 := (hxr8.cellAt (j + 2) (by omega)).trans HXX.out.2.2
            clear hxr8
            refine hK.out _ _ ⟨s0, s1, s2⟩ (fun hHeld => ?_); clear hK K; (try simp only [Act.put, List.setIfInBounds_toArray, List.set_cons_zero, List.set_cons_succ])
            refine wpAnyH_take (i := 20) (oi := ⟨some 72, _, _, _, _, _⟩) (v := ?_) rfl (by kernel_rfl) (by kernel_rfl) (by kernel_rfl) (fun _ _ _ h => h) (Or.inl ⟨by rfl, ?_⟩) (by assumption) ?_; rotate_left; (focus (intro w hSw; (try dsimp only at hSw); go_simp; (try with_reducible rfl))); (try simp only [Act.put, List.setIfInBounds_toArray, List.set_cons_zero, List.set_cons_succ])
            refine wpAnyH_ready (rs := [21]) (by kernel_rfl) (by simp) ?_; refine AllReadyH.cons (o := ⟨none, _, _, _, _, _⟩) rfl (fun K hK => ?_) AllReadyH.nil; go_simp
            refine hK.out _ _ ⟨(World.cell?_setCell_other _ _ _ _ (hnb1 _)).trans s0, (World.cell?_setCell_other _ _ _ _ (hnb1 _)).trans s1, (World.cell?_setCell_other _ _ _ _ (hnb1 _)).trans s2⟩ (fun hHeld => ?_); clear hK K; (try simp only [Act.put, List.setIfInBounds_toArray, List.set_cons_zero, List.set_cons_succ])
            refine wpAnyH_done (by kernel_rfl) ?_ _
            all_goals
              have HG8 := Lib.hid (HGc.out.parted (Af' := some ⟨gg, 0, none⟩) (nf' := nf + 1 + 1) (cf' := cap) (ps' := (ps ++ [q']) ++ [⟨8, x0, x1, x2, 0⟩]) hgr8 (by rw [List.flatMap_append]; exact hown8) (by rw [List.length_append, ← HGc.out.pl]; rfl))
              have HXL8 := Lib.hid (HXL.out)
              clear hown8 hgrow8 hgr8 hat8 hlt8 z8 g0 g1 s0 s1 s2 q0 q1 q2 o0 o1 o2 f0 f1 z1 HGc HG7 HXX
              go_wp2_with fail
              generalize (w8.setCell ⟨w.heap.size + 1, 0, none⟩ (.slice (some ⟨gg, 0, none⟩) (nf + 1 + 1) cap)) = W8 at *
              have f8 := HG8.out.fb
              have z8 : w.heap.size + 1 < W8.heap.size := HG8.out.lt
              have n1 : IntKind.i64.wrap ((nf : Int) + 1 + 1 - 1) = (nf : Int) + 1 := by rw [IntKind.wrap_i64]; omega
              have n2 : IntKind.i64.wrap ((nf : Int) + 1) = (nf : Int) + 1 := by rw [IntKind.wrap_i64]; omega
              have f8' := (World.cell?_alloc_lt W8 (.cells #[.int .i64 ((nf : Int) + 1)] 3) ⟨w.heap.size + 1, 0, none⟩ z8).trans f8
              have HG9 := Lib.hid (HG8.out.alloc (.cells #[.int .i64 ((nf : Int) + 1)] 3))
              have hcg : j + 2 + 1 ≤ co := by
                rcases HG8.out.xr.2 with ⟨h', _⟩ | ⟨g', cap', cur, h', _, _, hnc, _⟩
                · simp at h'
                · simp at h'
                  omega
              have hcg1 : (j : Int) ≤ (co : Int) := by omega
              have hcg0 : (0 : Int) ≤ (j : Int) := by omega
              go_region_held3 (fun w' => w'.cell? ⟨w.heap.size + 1, 0, none⟩ = some (.slice (some ⟨gg, 0, none⟩) (nf + 1 + 1) cap)) (first | exact f8 | exact f8' | exact f9)
                (first
                  | (refine step_append_lies _ (by rfl) _ _ _ (by rfl) (w.heap.size + 2) 3 i0 (.int .i64 0) 1 8 Tryz.underlying26 hi0 hz0 hz1 hz2 rfl (by omega) (.slice (some ⟨go, 0, none⟩) j co) j _ (by rfl) (own_shrink HG9.out.xr (by omega)) ⟨W8.heap.size, 0, none⟩ 1 1 [.int .i64 ((nf : Int) + 1)] (by rfl) (by rfl) (cell_one_new _ _ _) (by simp [Value.oneCell']) (by omega) (by unfold maxLen; omega) (by omega) (by simp; omega) W8.heap.size.succ (by simp) ?_; intro gh cah w9 hown9 hgrow9' hat9 hlt9; have hgrow9 : (W8.alloc (.cells #[.int .i64 ((nf : Int) + 1)] 3)).grownBy w9 (Value.slice (some ⟨go, 0, none⟩) j co).ownBlock := ⟨hgrow9'.os, hgrow9'.tape, hgrow9'.output, hgrow9'.size, hgrow9'.block⟩; have HGA := Lib.hid (HG9.out.opened (xs' := X.take j ++ [(nf : Int) + 1]) (own_shrink HG9.out.xr (by omega : j ≤ j + 2 + 1)) hgrow9 (by first | (simpa using hown9) | (simpa [List.map_take] using hown9) | (rw [List.map_append, List.map_take]; exact hown9)) (by have := HXL8.out; rw [List.length_append, List.length_take]; show _ = _ + 1; omega)); have f9 := HGA.out.fb))
              clear f8 f8' f9 hgrow9 hgrow9' hown9 hat9 hlt9 HG8 HG9 z8 n1 n2
              go_wp2_with fail
              go_roundw
              case rel => exact ⟨k - 1, m + 1, j + 1, nf + 1 + 1, cap, _, _, _, by omega, by go_num, by omega, by omega, (show GI _ _ _ _ _ _ _ _ _ _ _ _ _ _ _ _ _ _ from HGA.out.mono (by have := HP1.out; omega))⟩
              case measure => simp [intOf]; omega
          · have hx7' : ¬ (x7 : Int) = 0 := by omega
            go_wp2_with fail
            refine (pick_any g A n c bs (P1 + 4) 2 _ HG7.out.rd HN.out hby hs (by omega) (by omega)).mono ?_
            rintro e wz ⟨xz, rfl, _, _, hrz, htz⟩
            have HGz := Lib.hid (HG7.out.pick hrz htz)
            clear hrz htz HG7
            by_cases hxz : xz = 0
            · subst hxz
              obtain ⟨go, cg, hov⟩ := row_pos HGz.out.xr (by omega)
              cases hov
              have f0 := HGz.out.fb
              have f1 := HGz.out.fz
              have z1 : w.heap.size + 1 < wz.heap.size := HGz.out.lt
              have hxl := HGz.out.xl
              have o0 := HGz.out.xr.cellAt (j + 1) (by omega)
              have o1 := HGz.out.xr.cellAt (j + 2) (by omega)
              rw [List.getElem?_map] at o0 o1
              generalize hX : xs ++ [(nf : Int)] = X at *
              have HX2 := Lib.hid hX
              clear hX
              rw [List.getElem?_eq_getElem (by omega), Option.map_some] at o0 o1
              generalize X[j + 1]'_ = x0 at o0
              generalize X[j + 2]'_ = x1 at o1
              have HXL := Lib.hid hxl
              clear hxl
              have hgo := (HGz.out.xr.lt go rfl).2
              have hgo2 := (HGz.out.xr.lt go rfl).1
              go_wp2_with fail
              have a2 : IntKind.i64.wrap (((j : Int) + 2 + 1) - 2) = ((j : Int) + 1) := by rw [IntKind.wrap_i64]; omega
              have a1 : IntKind.i64.wrap (((j : Int) + 2 + 1) - 1) = ((j : Int) + 2) := by rw [IntKind.wrap_i64]; omega
              have a2' : IntKind.i64.wrap (((j : Int) + 1)) = ((j : Int) + 1) := by rw [IntKind.wrap_i64]; omega
              have a1' : IntKind.i64.wrap (((j : Int) + 2)) = ((j : Int) + 2) := by rw [IntKind.wrap_i64]; omega
              have b2 : ((j : Int) + 1) < ((j : Int) + 2 + 1) := by omega
              have b1 : ((j : Int) + 2) < ((j : Int) + 2 + 1) := by omega
              have b0 : 0 ≤ ((j : Int) + 1) := by omega
              have b00 : 0 ≤ ((j : Int) + 2) := by omega
              have t1 : (((j : Int) + 1)).toNat = j + 1 := by omega
              have t2 : (((j : Int) + 2)).toNat = j + 2 := by omega
              have HXX := Lib.hid (And.intro ((HGz.out.xr.cellAt (j + 1) (by omega)).symm.trans o0) ((HGz.out.xr.cellAt (j + 2) (by omega)).symm.trans o1))
              have hnb1 : ∀ q : Nat, (⟨w.heap.size + 1, 0, none⟩ : Addr) ≠ ⟨go, q, none⟩ := fun q e => by have := congrArg Addr.block e; simp at this; omega
              refine wp_region_held_drew (S := (fun w' => w'.cell? ⟨go, j + 1, none⟩ = some (.int .i64 x0) ∧ w'.cell? ⟨go, j + 2, none⟩ = some (.int .i64 x1))) (by kernel_rfl) ⟨o0, o1⟩ (fun hHeld => ?_)
              refine wpAnyH_take (i := 0) (oi := ⟨some 91, _, _, _, _, _⟩) (v := ?_) rfl (by kernel_rfl) (by kernel_rfl) (by kernel_rfl) (fun _ _ _ h => h) (Or.inl ⟨by rfl, ?_⟩) (by assumption) ?_; rotate_left; (focus (intro w hSw; (try dsimp only at hSw); go_simp; (try with_reducible rfl))); (try simp only [Act.put, List.setIfInBounds_toArray, List.set_cons_zero, List.set_cons_succ])
              refine wpAnyH_take (i := 2) (oi := ⟨some 93, _, _, _, _, _⟩) (v := ?_) rfl (by kernel_rfl) (by kernel_rfl) (by kernel_rfl) (fun _ _ _ h => h) (Or.inl ⟨by rfl, ?_⟩) (by assumption) ?_; rotate_left; (focus (intro w hSw; (try dsimp only at hSw); go_simp; (try with_reducible rfl))); (try simp only [Act.put, List.setIfInBounds_toArray, List.set_cons_zero, List.set_cons_succ])
              refine wpAnyH_take (i := 5) (oi := ⟨some 96, _, _, _, _, _⟩) (v := ?_) rfl (by kernel_rfl) (by kernel_rfl) (by kernel_rfl) (fun _ _ _ h => h) (Or.inl ⟨by rfl, ?_⟩) (by assumption) ?_; rotate_left; (focus (intro w hSw; (try dsimp only at hSw); go_simp; (try with_reducible rfl))); (try simp only [Act.put, List.setIfInBounds_toArray, List.set_cons_zero, List.set_cons_succ])
              refine wpAnyH_take (i := 6) (oi := ⟨some 97, _, _, _, _, _⟩) (v := ?_) rfl (by kernel_rfl) (by kernel_rfl) (by kernel_rfl) (fun _ _ _ h => h) (Or.inl ⟨by rfl, ?_⟩) (by assumption) ?_; rotate_left; (focus (intro w hSw; (try dsimp only at hSw); go_simp; (try with_reducible rfl))); (try simp only [Act.put, List.setIfInBounds_toArray, List.set_cons_zero, List.set_cons_succ])
              refine wpAnyH_take (i := 7) (oi := ⟨some 98, _, _, _, _, _⟩) (v := ?_) rfl (by kernel_rfl) (by kernel_rfl) (by kernel_rfl) (fun _ _ _ h => h) (Or.inl ⟨by rfl, ?_⟩) (by assumption) ?_; rotate_left; (focus (intro w hSw; (try dsimp only at hSw); go_simp; (try with_reducible rfl))); (try simp only [Act.put, List.setIfInBounds_toArray, List.set_cons_zero, List.set_cons_succ])
              refine wpAnyH_take (i := 8) (oi := ⟨some 99, _, _, _, _, _⟩) (v := ?_) rfl (by kernel_rfl) (by kernel_rfl) (by kernel_rfl) (fun _ _ _ h => h) (Or.inl ⟨by rfl, ?_⟩) (by assumption) ?_; rotate_left; (focus (intro w hSw; (try dsimp only at hSw); go_simp; (try with_reducible rfl))); (try simp only [Act.put, List.setIfInBounds_toArray, List.set_cons_zero, List.set_cons_succ])
              refine wpAnyH_take (i := 9) (oi := ⟨some 100, _, _, _, _, _⟩) (v := ?_) rfl (by kernel_rfl) (by kernel_rfl) (by kernel_rfl) (fun _ _ _ h => h) (Or.inl ⟨by rfl, ?_⟩) (by assumption) ?_; rotate_left; (focus (intro w hSw; (try dsimp only at hSw); go_simp; (try with_reducible rfl))); (try simp only [Act.put, List.setIfInBounds_toArray, List.set_cons_zero, List.set_cons_succ])
              refine wpAnyH_take (i := 10) (oi := ⟨some 101, _, _, _, _, _⟩) (v := ?_) rfl (by kernel_rfl) (by kernel_rfl) (by kernel_rfl) (fun _ _ _ h => h) (Or.inl ⟨by rfl, ?_⟩) (by assumption) ?_; rotate_left; (focus (intro w hSw; (try dsimp only at hSw); go_simp; (try with_reducible rfl))); (try simp only [Act.put, List.setIfInBounds_toArray, List.set_cons_zero, List.set_cons_succ])
              refine wpAnyH_take (i := 11) (oi := ⟨some 102, _, _, _, _, _⟩) (v := ?_) rfl (by kernel_rfl) (by kernel_rfl) (by kernel_rfl) (fun _ _ _ h => h) (Or.inl ⟨by rfl, ?_⟩) (by assumption) ?_; rotate_left; (focus (intro w hSw; (try dsimp only at hSw); go_simp; (try with_reducible rfl))); (try simp only [Act.put, List.setIfInBounds_toArray, List.set_cons_zero, List.set_cons_succ])
              refine wpAnyH_take (i := 12) (oi := ⟨some 103, _, _, _, _, _⟩) (v := ?_) rfl (by kernel_rfl) (by kernel_rfl) (by kernel_rfl) (fun _ _ _ h => h) (Or.inl ⟨by rfl, ?_⟩) (by assumption) ?_; rotate_left; (focus (intro w hSw; (try dsimp only at hSw); go_simp; (try with_reducible rfl))); (try simp only [Act.put, List.setIfInBounds_toArray, List.set_cons_zero, List.set_cons_succ])
              refine wpAnyH_take (i := 13) (oi := ⟨some 104, _, _, _, _, _⟩) (v := ?_) rfl (by kernel_rfl) (by kernel_rfl) (by kernel_rfl) (fun _ _ _ h => h) (Or.inl ⟨by rfl, ?_⟩) (by assumption) ?_; rotate_left; (focus (intro w hSw; (try dsimp only at hSw); go_simp; (try with_reducible rfl))); (try simp only [Act.put, List.setIfInBounds_toArray, List.set_cons_zero, List.set_cons_succ])
              refine wpAnyH_take (i := 14) (oi := ⟨some 105, _, _, _, _, _⟩) (v := ?_) rfl (by kernel_rfl) (by kernel_rfl) (by kernel_rfl) (fun _ _ _ h => h) (Or.inl ⟨by rfl, ?_⟩) (by assumption) ?_; rotate_left; (focus (intro w hSw; (try dsimp only at hSw); go_simp; (try with_reducible rfl))); (try simp only [Act.put, List.setIfInBounds_toArray, List.set_cons_zero, List.set_cons_succ])
              refine wpAnyH_ready (rs := [1, 3]) (by kernel_rfl) (by simp) ?_; refine AllReadyH.cons (o := ⟨some 92, _, _, _, _, _⟩) rfl (fun K hK => ?_) (AllReadyH.cons (o := ⟨some 94, _, _, _, _, _⟩) rfl (fun K hK => ?_) AllReadyH.nil)
              go_simp
              refine hK.out _ _ ⟨o0, o1⟩ (fun hHeld => ?_); clear hK K; (try simp only [Act.put, List.setIfInBounds_toArray, List.set_cons_zero, List.set_cons_succ])
              refine wpAnyH_ready (rs := [3]) (by kernel_rfl) (by simp) ?_; refine AllReadyH.cons (o := ⟨some 94, _, _, _, _, _⟩) rfl (fun K hK => ?_) AllReadyH.nil; go_simp
              go_at_call 76
              refine (pick_any g A n c bs (P1 + 4 + 1) 6 _ ?_ HN.out hby hs ?_ ?_).mono ?_
              (first | exact HGz.out.rd | exact HGz.out.rd.drew)
              omega
              omega
              rintro e w8 ⟨x8, rfl, hx8', _, hr8, ht8'⟩
              have hx8 : (x8 : Int) < 6 := hx8' (by omega)
              have ht8 : Tch g (g + 1) wz w8 := ⟨ht8'.os, ht8'.tape, ht8'.output, ht8'.size, ht8'.block⟩
              have HGP := Lib.hid (HGz.out.pick hr8 ht8)
              have p0 := (HGP.out.xr.cellAt (j + 1) (by omega)).trans HXX.out.1
              have p1 := (HGP.out.xr.cellAt (j + 2) (by omega)).trans HXX.out.2
              have g0 := HGP.out.fb
              have g1 := HGP.out.fz
              have z8 : w.heap.size + 1 < w8.heap.size := HGP.out.lt
              have hgo8 := (HGP.out.xr.lt go rfl).2
              have a8 : IntKind.i64.wrap (2 + (x8 : Int)) = 2 + (x8 : Int) := (by rw [IntKind.wrap_i64]; omega)
              have q0 := (World.cell?_alloc_lt w8 (.cells #[.int .i64 (2 + (x8 : Int)), .int .i64 x0, .int .i64 x1, .int .i64 (-1), .int .i64 0] 143) ⟨go, j + 1, none⟩ hgo8).trans p0
              have q1 := (World.cell?_alloc_lt w8 (.cells #[.int .i64 (2 + (x8 : Int)), .int .i64 x0, .int .i64 x1, .int .i64 (-1), .int .i64 0] 143) ⟨go, j + 2, none⟩ hgo8).trans p1
              have HGc := Lib.hid (HGP.out.alloc (.cells #[.int .i64 (2 + (x8 : Int)), .int .i64 x0, .int .i64 x1, .int .i64 (-1), .int .i64 0] 143))
              clear hx8' hr8 ht8'
              refine hK.out _ _ ⟨p0, p1⟩ (fun hHeld => ?_); clear hK K; (try simp only [Act.put, List.setIfInBounds_toArray, List.set_cons_zero, List.set_cons_succ])
              refine wpAnyH_take (i := 4) (oi := ⟨some 95, _, _, _, _, _⟩) (v := ?_) rfl (by kernel_rfl) (by kernel_rfl) (by kernel_rfl) (fun _ _ _ h => h) (Or.inl ⟨by rfl, ?_⟩) (by assumption) ?_; rotate_left; (focus (intro w hSw; (try dsimp only at hSw); go_simp; (try with_reducible rfl))); (try simp only [Act.put, List.setIfInBounds_toArray, List.set_cons_zero, List.set_cons_succ])
              refine wpAnyH_take (i := 15) (oi := ⟨some 106, _, _, _, _, _⟩) (v := ?_) rfl (by kernel_rfl) (by kernel_rfl) (by kernel_rfl) (fun _ _ _ h => h) (Or.inl ⟨by rfl, ?_⟩) (by assumption) ?_; rotate_left; (focus (intro w hSw; (try dsimp only at hSw); go_simp; (try with_reducible rfl))); (try simp only [Act.put, List.setIfInBounds_toArray, List.set_cons_zero, List.set_cons_succ])
              refine wpAnyH_ready (rs := [16]) (by kernel_rfl) (by simp) ?_; refine AllReadyH.cons (o := ⟨some 107, _, _, _, _, _⟩) rfl (fun K hK => ?_) AllReadyH.nil; go_simp
              refine hK.out _ _ ⟨q0, q1⟩ (fun hHeld => ?_); clear hK K; (try simp only [Act.put, List.setIfInBounds_toArray, List.set_cons_zero, List.set_cons_succ])
              refine wpAnyH_ready (rs := [17]) (by kernel_rfl) (by simp) ?_; refine AllReadyH.cons (o := ⟨some 108, _, _, _, _, _⟩) rfl (fun K hK => ?_) AllReadyH.nil
              refine step_append_lies _ (by rfl) _ _ _ (by rfl) (w.heap.size + 2) 143 i1 _ 5 40 Tryz.underlying76 hi1 hy0 hy1 hy2 rfl (by omega) (.slice A5 (nf + 1) c5) (nf + 1) _ (by rfl) HGc.out.pr ⟨w8.heap.size, 0, none⟩ 1 1 [.int .i64 (2 + (x8 : Int)), .int .i64 x0, .int .i64 x1, .int .i64 (-1), .int .i64 0] (by rfl) (by rfl) (cells_new _ _ _ _ rfl) (by simp [Value.oneCell']) (by omega) (by unfold maxLen; omega) (by omega) (by simp; omega) (w8.heap.size + 1) (by simp) ?_
              intro gg cap w9 hown9 hgrow9 hat9 hlt9
              have hgr9 : (w8.alloc (.cells #[.int .i64 (2 + (x8 : Int)), .int .i64 x0, .int .i64 x1, .int .i64 (-1), .int .i64 0] 143)).grownBy w9 (Value.slice A5 (nf + 1) c5).ownBlock := ⟨hgrow9.os, hgrow9.tape, hgrow9.output, hgrow9.size, hgrow9.block⟩
              have hfr9 := HGc.out.frame hgr9 fun k hk => (HGc.out.pr.lt k hk).1
              have z9 := hfr9.2.2.1
              have h0 := hfr9.2.2.2.2.2.1
              have h1 := hfr9.2.2.2.2.2.2.1
              clear hfr9
              have hxr9 := HGc.out.xr.kept hgr9 (blocks_ne HGc.out.xr HGc.out.pr int_ne_part)
              have s0 := (hxr9.cellAt (j + 1) (by omega)).trans HXX.out.1
              have s1 := (hxr9.cellAt (j + 2) (by omega)).trans HXX.out.2
              clear hxr9
              refine hK.out _ _ ⟨s0, s1⟩ (fun hHeld => ?_); clear hK K; (try simp only [Act.put, List.setIfInBounds_toArray, List.set_cons_zero, List.set_cons_succ])
              refine wpAnyH_take (i := 18) (oi := ⟨some 109, _, _, _, _, _⟩) (v := ?_) rfl (by kernel_rfl) (by kernel_rfl) (by kernel_rfl) (fun _ _ _ h => h) (Or.inl ⟨by rfl, ?_⟩) (by assumption) ?_; rotate_left; (focus (intro w hSw; (try dsimp only at hSw); go_simp; (try with_reducible rfl))); (try simp only [Act.put, List.setIfInBounds_toArray, List.set_cons_zero, List.set_cons_succ])
              refine wpAnyH_ready (rs := [19]) (by kernel_rfl) (by simp) ?_; refine AllReadyH.cons (o := ⟨none, _, _, _, _, _⟩) rfl (fun K hK => ?_) AllReadyH.nil; go_simp
              refine hK.out _ _ ⟨(World.cell?_setCell_other _ _ _ _ (hnb1 _)).trans s0, (World.cell?_setCell_other _ _ _ _ (hnb1 _)).trans s1⟩ (fun hHeld => ?_); clear hK K; (try simp only [Act.put, List.setIfInBounds_toArray, List.set_cons_zero, List.set_cons_succ])
              refine wpAnyH_done (by kernel_rfl) ?_ _
              rotate_left
              go_simp
              go_at_call 76
              refine (pick_any g A n c bs (P1 + 4 + 1) 6 _ ?_ HN.out hby hs ?_ ?_).mono ?_
              (first | exact HGz.out.rd | exact HGz.out.rd.drew)
              omega
              omega
              rintro e w8 ⟨x8, rfl, hx8', _, hr8, ht8'⟩
              have hx8 : (x8 : Int) < 6 := hx8' (by omega)
              have ht8 : Tch g (g + 1) wz w8 := ⟨ht8'.os, ht8'.tape, ht8'.output, ht8'.size, ht8'.block⟩
              have HGP := Lib.hid (HGz.out.pick hr8 ht8)
              have p0 := (HGP.out.xr.cellAt (j + 1) (by omega)).trans HXX.out.1
              have p1 := (HGP.out.xr.cellAt (j + 2) (by omega)).trans HXX.out.2
              have g0 := HGP.out.fb
              have g1 := HGP.out.fz
              have z8 : w.heap.size + 1 < w8.heap.size := HGP.out.lt
              have hgo8 := (HGP.out.xr.lt go rfl).2
              have a8 : IntKind.i64.wrap (2 + (x8 : Int)) = 2 + (x8 : Int) := (by rw [IntKind.wrap_i64]; omega)
              have q0 := (World.cell?_alloc_lt w8 (.cells #[.int .i64 (2 + (x8 : Int)), .int .i64 x0, .int .i64 x1, .int .i64 (-1), .int .i64 0] 143) ⟨go, j + 1, none⟩ hgo8).trans p0
              have q1 := (World.cell?_alloc_lt w8 (.cells #[.int .i64 (2 + (x8 : Int)), .int .i64 x0, .int .i64 x1, .int .i64 (-1), .int .i64 0] 143) ⟨go, j + 2, none⟩ hgo8).trans p1
              have HGc := Lib.hid (HGP.out.alloc (.cells #[.int .i64 (2 + (x8 : Int)), .int .i64 x0, .int .i64 x1, .int .i64 (-1), .int .i64 0] 143))
              clear hx8' hr8 ht8'
              refine hK.out _ _ ⟨p0, p1⟩ (fun hHeld => ?_); clear hK K; (try simp only [Act.put, List.setIfInBounds_toArray, List.set_cons_zero, List.set_cons_succ])
              refine wpAnyH_take (i := 4) (oi := ⟨some 95, _, _, _, _, _⟩) (v := ?_) rfl (by kernel_rfl) (by kernel_rfl) (by kernel_rfl) (fun _ _ _ h => h) (Or.inl ⟨by rfl, ?_⟩) (by assumption) ?_; rotate_left; (focus (intro w hSw; (try dsimp only at hSw); go_simp; (try with_reducible rfl))); (try simp only [Act.put, List.setIfInBounds_toArray, List.set_cons_zero, List.set_cons_succ])
              refine wpAnyH_take (i := 15) (oi := ⟨some 106, _, _, _, _, _⟩) (v := ?_) rfl (by kernel_rfl) (by kernel_rfl) (by kernel_rfl) (fun _ _ _ h => h) (Or.inl ⟨by rfl, ?_⟩) (by assumption) ?_; rotate_left; (focus (intro w hSw; (try dsimp only at hSw); go_simp; (try with_reducible rfl))); (try simp only [Act.put, List.setIfInBounds_toArray, List.set_cons_zero, List.set_cons_succ])
              refine wpAnyH_ready (rs := [1, 16]) (by kernel_rfl) (by simp) ?_; refine AllReadyH.cons (o := ⟨some 92, _, _, _, _, _⟩) rfl (fun K hK => ?_) (AllReadyH.cons (o := ⟨some 107, _, _, _, _, _⟩) rfl (fun K hK => ?_) AllReadyH.nil)
              go_simp
              refine hK.out _ _ ⟨p0, p1⟩ (fun hHeld => ?_); clear hK K; (try simp only [Act.put, List.setIfInBounds_toArray, List.set_cons_zero, List.set_cons_succ])
              refine wpAnyH_ready (rs := [16]) (by kernel_rfl) (by simp) ?_; refine AllReadyH.cons (o := ⟨some 107, _, _, _, _, _⟩) rfl (fun K hK => ?_) AllReadyH.nil; go_simp
              refine hK.out _ _ ⟨q0, q1⟩ (fun hHeld => ?_); clear hK K; (try simp only [Act.put, List.setIfInBounds_toArray, List.set_cons_zero, List.set_cons_succ])
              refine wpAnyH_ready (rs := [17]) (by kernel_rfl) (by simp) ?_; refine AllReadyH.cons (o := ⟨some 108, _, _, _, _, _⟩) rfl (fun K hK => ?_) AllReadyH.nil
              refine step_append_lies _ (by rfl) _ _ _ (by rfl) (w.heap.size + 2) 143 i1 _ 5 40 Tryz.underlying76 hi1 hy0 hy1 hy2 rfl (by omega) (.slice A5 (nf + 1) c5) (nf + 1) _ (by rfl) HGc.out.pr ⟨w8.heap.size, 0, none⟩ 1 1 [.int .i64 (2 + (x8 : Int)), .int .i64 x0, .int .i64 x1, .int .i64 (-1), .int .i64 0] (by rfl) (by rfl) (cells_new _ _ _ _ rfl) (by simp [Value.oneCell']) (by omega) (by unfold maxLen; omega) (by omega) (by simp; omega) (w8.heap.size + 1) (by simp) ?_
              intro gg cap w9 hown9 hgrow9 hat9 hlt9
              have hgr9 : (w8.alloc (.cells #[.int .i64 (2 + (x8 : Int)), .int .i64 x0, .int .i64 x1, .int .i64 (-1), .int .i64 0] 143)).grownBy w9 (Value.slice A5 (nf + 1) c5).ownBlock := ⟨hgrow9.os, hgrow9.tape, hgrow9.output, hgrow9.size, hgrow9.block⟩
              have hfr9 := HGc.out.frame hgr9 fun k hk => (HGc.out.pr.lt k hk).1
              have z9 := hfr9.2.2.1
              have h0 := hfr9.2.2.2.2.2.1
              have h1 := hfr9.2.2.2.2.2.2.1
              clear hfr9
              have hxr9 := HGc.out.xr.kept hgr9 (blocks_ne HGc.out.xr HGc.out.pr int_ne_part)
              have s0 := (hxr9.cellAt (j + 1) (by omega)).trans HXX.out.1
              have s1 := (hxr9.cellAt (j + 2) (by omega)).trans HXX.out.2
              clear hxr9
              refine hK.out _ _ ⟨s0, s1⟩ (fun hHeld => ?_); clear hK K; (try simp only [Act.put, List.setIfInBounds_toArray, List.set_cons_zero, List.set_cons_succ])
              refine wpAnyH_take (i := 18) (oi := ⟨some 109, _, _, _, _, _⟩) (v := ?_) rfl (by kernel_rfl) (by kernel_rfl) (by kernel_rfl) (fun _ _ _ h => h) (Or.inl ⟨by rfl, ?_⟩) (by assumption) ?_; rotate_left; (focus (intro w hSw; (try dsimp only at hSw); go_simp; (try with_reducible rfl))); (try simp only [Act.put, List.setIfInBounds_toArray, List.set_cons_zero, List.set_cons_succ])
              refine wpAnyH_ready (rs := [19]) (by kernel_rfl) (by simp) ?_; refine AllReadyH.cons (o := ⟨none, _, _, _, _, _⟩) rfl (fun K hK => ?_) AllReadyH.nil; go_simp
              refine hK.out _ _ ⟨(World.cell?_setCell_other _ _ _ _ (hnb1 _)).trans s0, (World.cell?_setCell_other _ _ _ _ (hnb1 _)).trans s1⟩ (fun hHeld => ?_); clear hK K; (try simp only [Act.put, List.setIfInBounds_toArray, List.set_cons_zero, List.set_cons_succ])
              refine wpAnyH_done (by kernel_rfl) ?_ _
              rotate_left
              go_simp
              refine hK.out _ _ ⟨q0, q1⟩ (fun hHeld => ?_); clear hK K; (try simp only [Act.put, List.setIfInBounds_toArray, List.set_cons_zero, List.set_cons_succ])
              refine wpAnyH_ready (rs := [1]) (by kernel_rfl) (by simp) ?_; refine AllReadyH.cons (o := ⟨some 92, _, _, _, _, _⟩) rfl (fun K hK => ?_) AllReadyH.nil; go_simp
              refine hK.out _ _ ⟨q0, q1⟩ (fun hHeld => ?_); clear hK K; (try simp only [Act.put, List.setIfInBounds_toArray, List.set_cons_zero, List.set_cons_succ])
              refine wpAnyH_ready (rs := [17]) (by kernel_rfl) (by simp) ?_; refine AllReadyH.cons (o := ⟨some 108, _, _, _, _, _⟩) rfl (fun K hK => ?_) AllReadyH.nil
              refine step_append_lies _ (by rfl) _ _ _ (by rfl) (w.heap.size + 2) 143 i1 _ 5 40 Tryz.underlying76 hi1 hy0 hy1 hy2 rfl (by omega) (.slice A5 (nf + 1) c5) (nf + 1) _ (by rfl) HGc.out.pr ⟨w8.heap.size, 0, none⟩ 1 1 [.int .i64 (2 + (x8 : Int)), .int .i64 x0, .int .i64 x1, .int .i64 (-1), .int .i64 0] (by rfl) (by rfl) (cells_new _ _ _ _ rfl) (by simp [Value.oneCell']) (by omega) (by unfold maxLen; omega) (by omega) (by simp; omega) (w8.heap.size + 1) (by simp) ?_
              intro gg cap w9 hown9 hgrow9 hat9 hlt9
              have hgr9 : (w8.alloc (.cells #[.int .i64 (2 + (x8 : Int)), .int .i64 x0, .int .i64 x1, .int .i64 (-1), .int .i64 0] 143)).grownBy w9 (Value.slice A5 (nf + 1) c5).ownBlock := ⟨hgrow9.os, hgrow9.tape, hgrow9.output, hgrow9.size, hgrow9.block⟩
              have hfr9 := HGc.out.frame hgr9 fun k hk => (HGc.out.pr.lt k hk).1
              have z9 := hfr9.2.2.1
              have h0 := hfr9.2.2.2.2.2.1
              have h1 := hfr9.2.2.2.2.2.2.1
              clear hfr9
              have hxr9 := HGc.out.xr.kept hgr9 (blocks_ne HGc.out.xr HGc.out.pr int_ne_part)
              have s0 := (hxr9.cellAt (j + 1) (by omega)).trans HXX.out.1
              have s1 := (hxr9.cellAt (j + 2) (by omega)).trans HXX.out.2
              clear hxr9
              refine hK.out _ _ ⟨s0, s1⟩ (fun hHeld => ?_); clear hK K; (try simp only [Act.put, List.setIfInBounds_toArray, List.set_cons_zero, List.set_cons_succ])
              refine wpAnyH_take (i := 18) (oi := ⟨some 109, _, _, _, _, _⟩) (v := ?_) rfl (by kernel_rfl) (by kernel_rfl) (by kernel_rfl) (fun _ _ _ h => h) (Or.inl ⟨by rfl, ?_⟩) (by assumption) ?_; rotate_left; (focus (intro w hSw; (try dsimp only at hSw); go_simp; (try with_reducible rfl))); (try simp only [Act.put, List.setIfInBounds_toArray, List.set_cons_zero, List.set_cons_succ])
              refine wpAnyH_ready (rs := [19]) (by kernel_rfl) (by simp) ?_; refine AllReadyH.cons (o := ⟨none, _, _, _, _, _⟩) rfl (fun K hK => ?_) AllReadyH.nil; go_simp
              refine hK.out _ _ ⟨(World.cell?_setCell_other _ _ _ _ (hnb1 _)).trans s0, (World.cell?_setCell_other _ _ _ _ (hnb1 _)).trans s1⟩ (fun hHeld => ?_); clear hK K; (try simp only [Act.put, List.setIfInBounds_toArray, List.set_cons_zero, List.set_cons_succ])
              refine wpAnyH_done (by kernel_rfl) ?_ _
              all_goals
                have HG8 := Lib.hid (HGc.out.parted (Af' := some ⟨gg, 0, none⟩) (nf' := nf + 1 + 1) (cf' := cap) (ps' := (ps ++ [q']) ++ [⟨2 + (x8 : Int), x0, x1, -1, 0⟩]) hgr9 (by rw [List.flatMap_append]; exact hown9) (by rw [List.length_append, ← HGc.out.pl]; rfl))
                have HXL8 := Lib.hid (HXL.out)
                clear hown9 hgrow9 hgr9 hat9 hlt9 z9 h0 h1 s0 s1 q0 q1 p0 p1 o0 o1 g0 g1 f0 f1 z1 z8 HGc HGP HGz HXX a8
                go_wp2_with fail
                generalize (w9.setCell ⟨w.heap.size + 1, 0, none⟩ (.slice (some ⟨gg, 0, none⟩) (nf + 1 + 1) cap)) = W8 at *
                have f8 := HG8.out.fb
                have z8 : w.heap.size + 1 < W8.heap.size := HG8.out.lt
                have n1 : IntKind.i64.wrap (((nf : Int) + 1) + 1 - 1) = ((nf : Int) + 1) := by rw [IntKind.wrap_i64]; omega
                have n2 : IntKind.i64.wrap (((nf : Int) + 1)) = ((nf : Int) + 1) := by rw [IntKind.wrap_i64]; omega
                have f8' := (World.cell?_alloc_lt W8 (.cells #[.int .i64 (((nf : Int) + 1))] 3) ⟨w.heap.size + 1, 0, none⟩ z8).trans f8
                have HG9 := Lib.hid (HG8.out.alloc (.cells #[.int .i64 (((nf : Int) + 1))] 3))
                have hcg : j + 2 + 1 ≤ co := by
                  rcases HG8.out.xr.2 with ⟨h', _⟩ | ⟨g', cap', cur, h', _, _, hnc, _⟩
                  · simp at h'
                  · simp at h'
                    omega
                have hcg1 : ((j : Int) + 1) ≤ (co : Int) := by omega
                go_region_held3 (fun w' => w'.cell? ⟨w.heap.size + 1, 0, none⟩ = some (.slice (some ⟨gg, 0, none⟩) (nf + 1 + 1) cap)) (first | exact f8 | exact f8' | exact f9)
                  (first
                    | (refine step_append_lies _ (by rfl) _ _ _ (by rfl) (w.heap.size + 2) 3 i0 (.int .i64 0) 1 8 Tryz.underlying26 hi0 hz0 hz1 hz2 rfl (by omega) (.slice (some ⟨go, 0, none⟩) (j + 1) co) (j + 1) _ (by rfl) (own_shrink HG9.out.xr (by omega)) ⟨W8.heap.size, 0, none⟩ 1 1 [.int .i64 (((nf : Int) + 1))] (by rfl) (by rfl) (cell_one_new _ _ _) (by simp [Value.oneCell']) (by omega) (by unfold maxLen; omega) (by omega) (by simp; omega) W8.heap.size.succ (by simp) ?_; intro gh cah w10 hown10 hgrow10' hat10 hlt10; have hgrow10 : (W8.alloc (.cells #[.int .i64 (((nf : Int) + 1))] 3)).grownBy w10 (Value.slice (some ⟨go, 0, none⟩) (j + 1) co).ownBlock := ⟨hgrow10'.os, hgrow10'.tape, hgrow10'.output, hgrow10'.size, hgrow10'.block⟩; have HGA := Lib.hid (HG9.out.opened (xs' := X.take (j + 1) ++ [((nf : Int) + 1)]) (own_shrink HG9.out.xr (by omega : j + 1 ≤ j + 2 + 1)) hgrow10 (by first | (simpa using hown10) | (simpa [List.map_take] using hown10) | (rw [List.map_append, List.map_take]; exact hown10)) (by have := HXL8.out; rw [List.length_append, List.length_take]; show _ = _ + 1; omega)); have f9 := HGA.out.fb))
                clear f8 f8' f9 hgrow10 hgrow10' hown10 hat10 hlt10 HG8 HG9 z8 n1 n2 a1 a2 a1' a2' t1 t2
                go_wp2_with fail
                go_roundw
                case rel => exact ⟨k - 1, m + 1, j + 1 + 1, nf + 1 + 1, cap, _, _, _, by omega, by go_num, by omega, by omega, (show GI _ _ _ _ _ _ _ _ _ _ _ _ _ _ _ _ _ _ from HGA.out.mono (by have := HP1.out; omega))⟩
                case measure => simp [intOf]; omega
            · go_wp2_with fail
              go_roundw
              case rel => exact ⟨k - 1, m + 1, j + 2 + 1, nf + 1, c5, A5, _, _, by omega, by go_num, by omega, by omega, (show GI _ _ _ _ _ _ _ _ _ _ _ _ _ _ _ _ _ _ from HGz.out.mono (by have := HP1.out; omega))⟩
              case measure => simp [intOf]; omega
        · by_cases h2 : 2 ≤ no + 1
          · obtain ⟨j, rfl⟩ : ∃ j, no = j + 1 := ⟨no - 1, by omega⟩
            go_wp2_with fail
            generalize (w5.setCell ⟨w.heap.size + 1, 0, none⟩ (.slice A5 (nf + 1) c5)) = W6 at *
            refine (pick_any g A n c bs (P1 + 3) 2 W6 HG6.out.rd HN.out hby hs (by omega) (by omega)).mono ?_
            rintro e wz ⟨xz, rfl, _, _, hrz, htz⟩
            have HGz := Lib.hid (HG6.out.pick hrz htz)
            clear hrz htz HG6
            by_cases hxz : xz = 0
            · subst hxz
              obtain ⟨go, cg, hov⟩ := row_pos HGz.out.xr (by omega)
              cases hov
              have f0 := HGz.out.fb
              have f1 := HGz.out.fz
              have z1 : w.heap.size + 1 < wz.heap.size := HGz.out.lt
              have hxl := HGz.out.xl
              have o0 := HGz.out.xr.cellAt (j) (by omega)
              have o1 := HGz.out.xr.cellAt (j + 1) (by omega)
              rw [List.getElem?_map] at o0 o1
              generalize hX : xs ++ [(nf : Int)] = X at *
              have HX2 := Lib.hid hX
              clear hX
              rw [List.getElem?_eq_getElem (by omega), Option.map_some] at o0 o1
              generalize X[j]'_ = x0 at o0
              generalize X[j + 1]'_ = x1 at o1
              have HXL := Lib.hid hxl
              clear hxl
              have hgo := (HGz.out.xr.lt go rfl).2
              have hgo2 := (HGz.out.xr.lt go rfl).1
              go_wp2_with fail
              have a2 : IntKind.i64.wrap (((j : Int) + 1 + 1) - 2) = (j : Int) := by rw [IntKind.wrap_i64]; omega
              have a1 : IntKind.i64.wrap (((j : Int) + 1 + 1) - 1) = ((j : Int) + 1) := by rw [IntKind.wrap_i64]; omega
              have a2' : IntKind.i64.wrap ((j : Int)) = (j : Int) := by rw [IntKind.wrap_i64]; omega
              have a1' : IntKind.i64.wrap (((j : Int) + 1)) = ((j : Int) + 1) := by rw [IntKind.wrap_i64]; omega
              have b2 : (j : Int) < ((j : Int) + 1 + 1) := by omega
              have b1 : ((j : Int) + 1) < ((j : Int) + 1 + 1) := by omega
              have b0 : 0 ≤ (j : Int) := by omega
              have b00 : 0 ≤ ((j : Int) + 1) := by omega
              have t1 : ((j : Int)).toNat = j := by omega
              have t2 : (((j : Int) + 1)).toNat = j + 1 := by omega
              have HXX := Lib.hid (And.intro ((HGz.out.xr.cellAt (j) (by omega)).symm.trans o0) ((HGz.out.xr.cellAt (j + 1) (by omega)).symm.trans o1))
              have hnb1 : ∀ q : Nat, (⟨w.heap.size + 1, 0, none⟩ : Addr) ≠ ⟨go, q, none⟩ := fun q e => by have := congrArg Addr.block e; simp at this; omega
              refine wp_region_held_drew (S := (fun w' => w'.cell? ⟨go, j, none⟩ = some (.int .i64 x0) ∧ w'.cell? ⟨go, j + 1, none⟩ = some (.int .i64 x1))) (by kernel_rfl) ⟨o0, o1⟩ (fun hHeld => ?_)
              refine wpAnyH_take (i := 0) (oi := ⟨some 91, _, _, _, _, _⟩) (v := ?_) rfl (by kernel_rfl) (by kernel_rfl) (by kernel_rfl) (fun _ _ _ h => h) (Or.inl ⟨by rfl, ?_⟩) (by assumption) ?_; rotate_left; (focus (intro w hSw; (try dsimp only at hSw); go_simp; (try with_reducible rfl))); (try simp only [Act.put, List.setIfInBounds_toArray, List.set_cons_zero, List.set_cons_succ])
              refine wpAnyH_take (i := 2) (oi := ⟨some 93, _, _, _, _, _⟩) (v := ?_) rfl (by kernel_rfl) (by kernel_rfl) (by kernel_rfl) (fun _ _ _ h => h) (Or.inl ⟨by rfl, ?_⟩) (by assumption) ?_; rotate_left; (focus (intro w hSw; (try dsimp only at hSw); go_simp; (try with_reducible rfl))); (try simp only [Act.put, List.setIfInBounds_toArray, List.set_cons_zero, List.set_cons_succ])
              refine wpAnyH_take (i := 5) (oi := ⟨some 96, _, _, _, _, _⟩) (v := ?_) rfl (by kernel_rfl) (by kernel_rfl) (by kernel_rfl) (fun _ _ _ h => h) (Or.inl ⟨by rfl, ?_⟩) (by assumption) ?_; rotate_left; (focus (intro w hSw; (try dsimp only at hSw); go_simp; (try with_reducible rfl))); (try simp only [Act.put, List.setIfInBounds_toArray, List.set_cons_zero, List.set_cons_succ])
              refine wpAnyH_take (i := 6) (oi := ⟨some 97, _, _, _, _, _⟩) (v := ?_) rfl (by kernel_rfl) (by kernel_rfl) (by kernel_rfl) (fun _ _ _ h => h) (Or.inl ⟨by rfl, ?_⟩) (by assumption) ?_; rotate_left; (focus (intro w hSw; (try dsimp only at hSw); go_simp; (try with_reducible rfl))); (try simp only [Act.put, List.setIfInBounds_toArray, List.set_cons_zero, List.set_cons_succ])
              refine wpAnyH_take (i := 7) (oi := ⟨some 98, _, _, _, _, _⟩) (v := ?_) rfl (by kernel_rfl) (by kernel_rfl) (by kernel_rfl) (fun _ _ _ h => h) (Or.inl ⟨by rfl, ?_⟩) (by assumption) ?_; rotate_left; (focus (intro w hSw; (try dsimp only at hSw); go_simp; (try with_reducible rfl))); (try simp only [Act.put, List.setIfInBounds_toArray, List.set_cons_zero, List.set_cons_succ])
              refine wpAnyH_take (i := 8) (oi := ⟨some 99, _, _, _, _, _⟩) (v := ?_) rfl (by kernel_rfl) (by kernel_rfl) (by kernel_rfl) (fun _ _ _ h => h) (Or.inl ⟨by rfl, ?_⟩) (by assumption) ?_; rotate_left; (focus (intro w hSw; (try dsimp only at hSw); go_simp; (try with_reducible rfl))); (try simp only [Act.put, List.setIfInBounds_toArray, List.set_cons_zero, List.set_cons_succ])
              refine wpAnyH_take (i := 9) (oi := ⟨some 100, _, _, _, _, _⟩) (v := ?_) rfl (by kernel_rfl) (by kernel_rfl) (by kernel_rfl) (fun _ _ _ h => h) (Or.inl ⟨by rfl, ?_⟩) (by assumption) ?_; rotate_left; (focus (intro w hSw; (try dsimp only at hSw); go_simp; (try with_reducible rfl))); (try simp only [Act.put, List.setIfInBounds_toArray, List.set_cons_zero, List.set_cons_succ])
              refine wpAnyH_take (i := 10) (oi := ⟨some 101, _, _, _, _, _⟩) (v := ?_) rfl (by kernel_rfl) (by kernel_rfl) (by kernel_rfl) (fun _ _ _ h => h) (Or.inl ⟨by rfl, ?_⟩) (by assumption) ?_; rotate_left; (focus (intro w hSw; (try dsimp only at hSw); go_simp; (try with_reducible rfl))); (try simp only [Act.put, List.setIfInBounds_toArray, List.set_cons_zero, List.set_cons_succ])
              refine wpAnyH_take (i := 11) (oi := ⟨some 102, _, _, _, _, _⟩) (v := ?_) rfl (by kernel_rfl) (by kernel_rfl) (by kernel_rfl) (fun _ _ _ h => h) (Or.inl ⟨by rfl, ?_⟩) (by assumption) ?_; rotate_left; (focus (intro w hSw; (try dsimp only at hSw); go_simp; (try with_reducible rfl))); (try simp only [Act.put, List.setIfInBounds_toArray, List.set_cons_zero, List.set_cons_succ])
              refine wpAnyH_take (i := 12) (oi := ⟨some 103, _, _, _, _, _⟩) (v := ?_) rfl (by kernel_rfl) (by kernel_rfl) (by kernel_rfl) (fun _ _ _ h => h) (Or.inl ⟨by rfl, ?_⟩) (by assumption) ?_; rotate_left; (focus (intro w hSw; (try dsimp only at hSw); go_simp; (try with_reducible rfl))); (try simp only [Act.put, List.setIfInBounds_toArray, List.set_cons_zero, List.set_cons_succ])
              refine wpAnyH_take (i := 13) (oi := ⟨some 104, _, _, _, _, _⟩) (v := ?_) rfl (by kernel_rfl) (by kernel_rfl) (by kernel_rfl) (fun _ _ _ h => h) (Or.inl ⟨by rfl, ?_⟩) (by assumption) ?_; rotate_left; (focus (intro w hSw; (try dsimp only at hSw); go_simp; (try with_reducible rfl))); (try simp only [Act.put, List.setIfInBounds_toArray, List.set_cons_zero, List.set_cons_succ])
              refine wpAnyH_take (i := 14) (oi := ⟨some 105, _, _, _, _, _⟩) (v := ?_) rfl (by kernel_rfl) (by kernel_rfl) (by kernel_rfl) (fun _ _ _ h => h) (Or.inl ⟨by rfl, ?_⟩) (by assumption) ?_; rotate_left; (focus (intro w hSw; (try dsimp only at hSw); go_simp; (try with_reducible rfl))); (try simp only [Act.put, List.setIfInBounds_toArray, List.set_cons_zero, List.set_cons_succ])
              refine wpAnyH_ready (rs := [1, 3]) (by kernel_rfl) (by simp) ?_; refine AllReadyH.cons (o := ⟨some 92, _, _, _, _, _⟩) rfl (fun K hK => ?_) (AllReadyH.cons (o := ⟨some 94, _, _, _, _, _⟩) rfl (fun K hK => ?_) AllReadyH.nil)
              go_simp
              refine hK.out _ _ ⟨o0, o1⟩ (fun hHeld => ?_); clear hK K; (try simp only [Act.put, List.setIfInBounds_toArray, List.set_cons_zero, List.set_cons_succ])
              refine wpAnyH_ready (rs := [3]) (by kernel_rfl) (by simp) ?_; refine AllReadyH.cons (o := ⟨some 94, _, _, _, _, _⟩) rfl (fun K hK => ?_) AllReadyH.nil; go_simp
              go_at_call 76
              refine (pick_any g A n c bs (P1 + 4) 6 _ ?_ HN.out hby hs ?_ ?_).mono ?_
              (first | exact HGz.out.rd | exact HGz.out.rd.drew)
              omega
              omega
              rintro e w8 ⟨x8, rfl, hx8', _, hr8, ht8'⟩
              have hx8 : (x8 : Int) < 6 := hx8' (by omega)
              have ht8 : Tch g (g + 1) wz w8 := ⟨ht8'.os, ht8'.tape, ht8'.output, ht8'.size, ht8'.block⟩
              have HGP := Lib.hid (HGz.out.pick hr8 ht8)
              have p0 := (HGP.out.xr.cellAt (j) (by omega)).trans HXX.out.1
              have p1 := (HGP.out.xr.cellAt (j + 1) (by omega)).trans HXX.out.2
              have g0 := HGP.out.fb
              have g1 := HGP.out.fz
              have z8 : w.heap.size + 1 < w8.heap.size := HGP.out.lt
              have hgo8 := (HGP.out.xr.lt go rfl).2
              have a8 : IntKind.i64.wrap (2 + (x8 : Int)) = 2 + (x8 : Int) := (by rw [IntKind.wrap_i64]; omega)
              have q0 := (World.cell?_alloc_lt w8 (.cells #[.int .i64 (2 + (x8 : Int)), .int .i64 x0, .int .i64 x1, .int .i64 (-1), .int .i64 0] 143) ⟨go, j, none⟩ hgo8).trans p0
              have q1 := (World.cell?_alloc_lt w8 (.cells #[.int .i64 (2 + (x8 : Int)), .int .i64 x0, .int .i64 x1, .int .i64 (-1), .int .i64 0] 143) ⟨go, j + 1, none⟩ hgo8).trans p1
              have HGc := Lib.hid (HGP.out.alloc (.cells #[.int .i64 (2 + (x8 : Int)), .int .i64 x0, .int .i64 x1, .int .i64 (-1), .int .i64 0] 143))
              clear hx8' hr8 ht8'
              refine hK.out _ _ ⟨p0, p1⟩ (fun hHeld => ?_); clear hK K; (try simp only [Act.put, List.setIfInBounds_toArray, List.set_cons_zero, List.set_cons_succ])
              refine wpAnyH_take (i := 4) (oi := ⟨some 95, _, _, _, _, _⟩) (v := ?_) rfl (by kernel_rfl) (by kernel_rfl) (by kernel_rfl) (fun _ _ _ h => h) (Or.inl ⟨by rfl, ?_⟩) (by assumption) ?_; rotate_left; (focus (intro w hSw; (try dsimp only at hSw); go_simp; (try with_reducible rfl))); (try simp only [Act.put, List.setIfInBounds_toArray, List.set_cons_zero, List.set_cons_succ])
              refine wpAnyH_take (i := 15) (oi := ⟨some 106, _, _, _, _, _⟩) (v := ?_) rfl (by kernel_rfl) (by kernel_rfl) (by kernel_rfl) (fun _ _ _ h => h) (Or.inl ⟨by rfl, ?_⟩) (by assumption) ?_; rotate_left; (focus (intro w hSw; (try dsimp only at hSw); go_simp; (try with_reducible rfl))); (try simp only [Act.put, List.setIfInBounds_toArray, List.set_cons_zero, List.set_cons_succ])
              refine wpAnyH_ready (rs := [16]) (by kernel_rfl) (by simp) ?_; refine AllReadyH.cons (o := ⟨some 107, _, _, _, _, _⟩) rfl (fun K hK => ?_) AllReadyH.nil; go_simp
              refine hK.out _ _ ⟨q0, q1⟩ (fun hHeld => ?_); clear hK K; (try simp only [Act.put, List.setIfInBounds_toArray, List.set_cons_zero, List.set_cons_succ])
              refine wpAnyH_ready (rs := [17]) (by kernel_rfl) (by simp) ?_; refine AllReadyH.cons (o := ⟨some 108, _, _, _, _, _⟩) rfl (fun K hK => ?_) AllReadyH.nil
              refine step_append_lies _ (by rfl) _ _ _ (by rfl) (w.heap.size + 2) 143 i1 _ 5 40 Tryz.underlying76 hi1 hy0 hy1 hy2 rfl (by omega) (.slice A5 (nf + 1) c5) (nf + 1) _ (by rfl) HGc.out.pr ⟨w8.heap.size, 0, none⟩ 1 1 [.int .i64 (2 + (x8 : Int)), .int .i64 x0, .int .i64 x1, .int .i64 (-1), .int .i64 0] (by rfl) (by rfl) (cells_new _ _ _ _ rfl) (by simp [Value.oneCell']) (by omega) (by unfold maxLen; omega) (by omega) (by simp; omega) (w8.heap.size + 1) (by simp) ?_
              intro gg cap w9 hown9 hgrow9 hat9 hlt9
              have hgr9 : (w8.alloc (.cells #[.int .i64 (2 + (x8 : Int)), .int .i64 x0, .int .i64 x1, .int .i64 (-1), .int .i64 0] 143)).grownBy w9 (Value.slice A5 (nf + 1) c5).ownBlock := ⟨hgrow9.os, hgrow9.tape, hgrow9.output, hgrow9.size, hgrow9.block⟩
              have hfr9 := HGc.out.frame hgr9 fun k hk => (HGc.out.pr.lt k hk).1
              have z9 := hfr9.2.2.1
              have h0 := hfr9.2.2.2.2.2.1
              have h1 := hfr9.2.2.2.2.2.2.1
              clear hfr9
              have hxr9 := HGc.out.xr.kept hgr9 (blocks_ne HGc.out.xr HGc.out.pr int_ne_part)
              have s0 := (hxr9.cellAt (j) (by omega)).trans HXX.out.1
              have s1 := (hxr9.cellAt (j + 1) (by omega)).trans HXX.out.2
              clear hxr9
              refine hK.out _ _ ⟨s0, s1⟩ (fun hHeld => ?_); clear hK K; (try simp only [Act.put, List.setIfInBounds_toArray, List.set_cons_zero, List.set_cons_succ])
              refine wpAnyH_take (i := 18) (oi := ⟨some 109, _, _, _, _, _⟩) (v := ?_) rfl (by kernel_rfl) (by kernel_rfl) (by kernel_rfl) (fun _ _ _ h => h) (Or.inl ⟨by rfl, ?_⟩) (by assumption) ?_; rotate_left; (focus (intro w hSw; (try dsimp only at hSw); go_simp; (try with_reducible rfl))); (try simp only [Act.put, List.setIfInBounds_toArray, List.set_cons_zero, List.set_cons_succ])
              refine wpAnyH_ready (rs := [19]) (by kernel_rfl) (by simp) ?_; refine AllReadyH.cons (o := ⟨none, _, _, _, _, _⟩) rfl (fun K hK => ?_) AllReadyH.nil; go_simp
              refine hK.out _ _ ⟨(World.cell?_setCell_other _ _ _ _ (hnb1 _)).trans s0, (World.cell?_setCell_other _ _ _ _ (hnb1 _)).trans s1⟩ (fun hHeld => ?_); clear hK K; (try simp only [Act.put, List.setIfInBounds_toArray, List.set_cons_zero, List.set_cons_succ])
              refine wpAnyH_done (by kernel_rfl) ?_ _
              rotate_left
              go_simp
              go_at_call 76
              refine (pick_any g A n c bs (P1 + 4) 6 _ ?_ HN.out hby hs ?_ ?_).mono ?_
              (first | exact HGz.out.rd | exact HGz.out.rd.drew)
              omega
              omega
              rintro e w8 ⟨x8, rfl, hx8', _, hr8, ht8'⟩
              have hx8 : (x8 : Int) < 6 := hx8' (by omega)
              have ht8 : Tch g (g + 1) wz w8 := ⟨ht8'.os, ht8'.tape, ht8'.output, ht8'.size, ht8'.block⟩
              have HGP := Lib.hid (HGz.out.pick hr8 ht8)
              have p0 := (HGP.out.xr.cellAt (j) (by omega)).trans HXX.out.1
              have p1 := (HGP.out.xr.cellAt (j + 1) (by omega)).trans HXX.out.2
              have g0 := HGP.out.fb
              have g1 := HGP.out.fz
              have z8 : w.heap.size + 1 < w8.heap.size := HGP.out.lt
              have hgo8 := (HGP.out.xr.lt go rfl).2
              have a8 : IntKind.i64.wrap (2 + (x8 : Int)) = 2 + (x8 : Int) := (by rw [IntKind.wrap_i64]; omega)
              have q0 := (World.cell?_alloc_lt w8 (.cells #[.int .i64 (2 + (x8 : Int)), .int .i64 x0, .int .i64 x1, .int .i64 (-1), .int .i64 0] 143) ⟨go, j, none⟩ hgo8).trans p0
              have q1 := (World.cell?_alloc_lt w8 (.cells #[.int .i64 (2 + (x8 : Int)), .int .i64 x0, .int .i64 x1, .int .i64 (-1), .int .i64 0] 143) ⟨go, j + 1, none⟩ hgo8).trans p1
              have HGc := Lib.hid (HGP.out.alloc (.cells #[.int .i64 (2 + (x8 : Int)), .int .i64 x0, .int .i64 x1, .int .i64 (-1), .int .i64 0] 143))
              clear hx8' hr8 ht8'
              refine hK.out _ _ ⟨p0, p1⟩ (fun hHeld => ?_); clear hK K; (try simp only [Act.put, List.setIfInBounds_toArray, List.set_cons_zero, List.set_cons_succ])
              refine wpAnyH_take (i := 4) (oi := ⟨some 95, _, _, _, _, _⟩) (v := ?_) rfl (by kernel_rfl) (by kernel_rfl) (by kernel_rfl) (fun _ _ _ h => h) (Or.inl ⟨by rfl, ?_⟩) (by assumption) ?_; rotate_left; (focus (intro w hSw; (try dsimp only at hSw); go_simp; (try with_reducible rfl))); (try simp only [Act.put, List.setIfInBounds_toArray, List.set_cons_zero, List.set_cons_succ])
              refine wpAnyH_take (i := 15) (oi := ⟨some 106, _, _, _, _, _⟩) (v := ?_) rfl (by kernel_rfl) (by kernel_rfl) (by kernel_rfl) (fun _ _ _ h => h) (Or.inl ⟨by rfl, ?_⟩) (by assumption) ?_; rotate_left; (focus (intro w hSw; (try dsimp only at hSw); go_simp; (try with_reducible rfl))); (try simp only [Act.put, List.setIfInBounds_toArray, List.set_cons_zero, List.set_cons_succ])
              refine wpAnyH_ready (rs := [1, 16]) (by kernel_rfl) (by simp) ?_; refine AllReadyH.cons (o := ⟨some 92, _, _, _, _, _⟩) rfl (fun K hK => ?_) (AllReadyH.cons (o := ⟨some 107, _, _, _, _, _⟩) rfl (fun K hK => ?_) AllReadyH.nil)
              go_simp
              refine hK.out _ _ ⟨p0, p1⟩ (fun hHeld => ?_); clear hK K; (try simp only [Act.put, List.setIfInBounds_toArray, List.set_cons_zero, List.set_cons_succ])
              refine wpAnyH_ready (rs := [16]) (by kernel_rfl) (by simp) ?_; refine AllReadyH.cons (o := ⟨some 107, _, _, _, _, _⟩) rfl (fun K hK => ?_) AllReadyH.nil; go_simp
              refine hK.out _ _ ⟨q0, q1⟩ (fun hHeld => ?_); clear hK K; (try simp only [Act.put, List.setIfInBounds_toArray, List.set_cons_zero, List.set_cons_succ])
              refine wpAnyH_ready (rs := [17]) (by kernel_rfl) (by simp) ?_; refine AllReadyH.cons (o := ⟨some 108, _, _, _, _, _⟩) rfl (fun K hK => ?_) AllReadyH.nil
              refine step_append_lies _ (by rfl) _ _ _ (by rfl) (w.heap.size + 2) 143 i1 _ 5 40 Tryz.underlying76 hi1 hy0 hy1 hy2 rfl (by omega) (.slice A5 (nf + 1) c5) (nf + 1) _ (by rfl) HGc.out.pr ⟨w8.heap.size, 0, none⟩ 1 1 [.int .i64 (2 + (x8 : Int)), .int .i64 x0, .int .i64 x1, .int .i64 (-1), .int .i64 0] (by rfl) (by rfl) (cells_new _ _ _ _ rfl) (by simp [Value.oneCell']) (by omega) (by unfold maxLen; omega) (by omega) (by simp; omega) (w8.heap.size + 1) (by simp) ?_
              intro gg cap w9 hown9 hgrow9 hat9 hlt9
              have hgr9 : (w8.alloc (.cells #[.int .i64 (2 + (x8 : Int)), .int .i64 x0, .int .i64 x1, .int .i64 (-1), .int .i64 0] 143)).grownBy w9 (Value.slice A5 (nf + 1) c5).ownBlock := ⟨hgrow9.os, hgrow9.tape, hgrow9.output, hgrow9.size, hgrow9.block⟩
              have hfr9 := HGc.out.frame hgr9 fun k hk => (HGc.out.pr.lt k hk).1
              have z9 := hfr9.2.2.1
              have h0 := hfr9.2.2.2.2.2.1
              have h1 := hfr9.2.2.2.2.2.2.1
              clear hfr9
              have hxr9 := HGc.out.xr.kept hgr9 (blocks_ne HGc.out.xr HGc.out.pr int_ne_part)
              have s0 := (hxr9.cellAt (j) (by omega)).trans HXX.out.1
              have s1 := (hxr9.cellAt (j + 1) (by omega)).trans HXX.out.2
              clear hxr9
              refine hK.out _ _ ⟨s0, s1⟩ (fun hHeld => ?_); clear hK K; (try simp only [Act.put, List.setIfInBounds_toArray, List.set_cons_zero, List.set_cons_succ])
              refine wpAnyH_take (i := 18) (oi := ⟨some 109, _, _, _, _, _⟩) (v := ?_) rfl (by kernel_rfl) (by kernel_rfl) (by kernel_rfl) (fun _ _ _ h => h) (Or.inl ⟨by rfl, ?_⟩) (by assumption) ?_; rotate_left; (focus (intro w hSw; (try dsimp only at hSw); go_simp; (try with_reducible rfl))); (try simp only [Act.put, List.setIfInBounds_toArray, List.set_cons_zero, List.set_cons_succ])
              refine wpAnyH_ready (rs := [19]) (by kernel_rfl) (by simp) ?_; refine AllReadyH.cons (o := ⟨none, _, _, _, _, _⟩) rfl (fun K hK => ?_) AllReadyH.nil; go_simp
              refine hK.out _ _ ⟨(World.cell?_setCell_other _ _ _ _ (hnb1 _)).trans s0, (World.cell?_setCell_other _ _ _ _ (hnb1 _)).trans s1⟩ (fun hHeld => ?_); clear hK K; (try simp only [Act.put, List.setIfInBounds_toArray, List.set_cons_zero, List.set_cons_succ])
              refine wpAnyH_done (by kernel_rfl) ?_ _
              rotate_left
              go_simp
              refine hK.out _ _ ⟨q0, q1⟩ (fun hHeld => ?_); clear hK K; (try simp only [Act.put, List.setIfInBounds_toArray, List.set_cons_zero, List.set_cons_succ])
              refine wpAnyH_ready (rs := [1]) (by kernel_rfl) (by simp) ?_; refine AllReadyH.cons (o := ⟨some 92, _, _, _, _, _⟩) rfl (fun K hK => ?_) AllReadyH.nil; go_simp
              refine hK.out _ _ ⟨q0, q1⟩ (fun hHeld => ?_); clear hK K; (try simp only [Act.put, List.setIfInBounds_toArray, List.set_cons_zero, List.set_cons_succ])
              refine wpAnyH_ready (rs := [17]) (by kernel_rfl) (by simp) ?_; refine AllReadyH.cons (o := ⟨some 108, _, _, _, _, _⟩) rfl (fun K hK => ?_) AllReadyH.nil
              refine step_append_lies _ (by rfl) _ _ _ (by rfl) (w.heap.size + 2) 143 i1 _ 5 40 Tryz.underlying76 hi1 hy0 hy1 hy2 rfl (by omega) (.slice A5 (nf + 1) c5) (nf + 1) _ (by rfl) HGc.out.pr ⟨w8.heap.size, 0, none⟩ 1 1 [.int .i64 (2 + (x8 : Int)), .int .i64 x0, .int .i64 x1, .int .i64 (-1), .int .i64 0] (by rfl) (by rfl) (cells_new _ _ _ _ rfl) (by simp [Value.oneCell']) (by omega) (by unfold maxLen; omega) (by omega) (by simp; omega) (w8.heap.size + 1) (by simp) ?_
              intro gg cap w9 hown9 hgrow9 hat9 hlt9
              have hgr9 : (w8.alloc (.cells #[.int .i64 (2 + (x8 : Int)), .int .i64 x0, .int .i64 x1, .int .i64 (-1), .int .i64 0] 143)).grownBy w9 (Value.slice A5 (nf + 1) c5).ownBlock := ⟨hgrow9.os, hgrow9.tape, hgrow9.output, hgrow9.size, hgrow9.block⟩
              have hfr9 := HGc.out.frame hgr9 fun k hk => (HGc.out.pr.lt k hk).1
              have z9 := hfr9.2.2.1
              have h0 := hfr9.2.2.2.2.2.1
              have h1 := hfr9.2.2.2.2.2.2.1
              clear hfr9
              have hxr9 := HGc.out.xr.kept hgr9 (blocks_ne HGc.out.xr HGc.out.pr int_ne_part)
              have s0 := (hxr9.cellAt (j) (by omega)).trans HXX.out.1
              have s1 := (hxr9.cellAt (j + 1) (by omega)).trans HXX.out.2
              clear hxr9
              refine hK.out _ _ ⟨s0, s1⟩ (fun hHeld => ?_); clear hK K; (try simp only [Act.put, List.setIfInBounds_toArray, List.set_cons_zero, List.set_cons_succ])
              refine wpAnyH_take (i := 18) (oi := ⟨some 109, _, _, _, _, _⟩) (v := ?_) rfl (by kernel_rfl) (by kernel_rfl) (by kernel_rfl) (fun _ _ _ h => h) (Or.inl ⟨by rfl, ?_⟩) (by assumption) ?_; rotate_left; (focus (intro w hSw; (try dsimp only at hSw); go_simp; (try with_reducible rfl))); (try simp only [Act.put, List.setIfInBounds_toArray, List.set_cons_zero, List.set_cons_succ])
              refine wpAnyH_ready (rs := [19]) (by kernel_rfl) (by simp) ?_; refine AllReadyH.cons (o := ⟨none, _, _, _, _, _⟩) rfl (fun K hK => ?_) AllReadyH.nil; go_simp
              refine hK.out _ _ ⟨(World.cell?_setCell_other _ _ _ _ (hnb1 _)).trans s0, (World.cell?_setCell_other _ _ _ _ (hnb1 _)).trans s1⟩ (fun hHeld => ?_); clear hK K; (try simp only [Act.put, List.setIfInBounds_toArray, List.set_cons_zero, List.set_cons_succ])
              refine wpAnyH_done (by kernel_rfl) ?_ _
              all_goals
                have HG8 := Lib.hid (HGc.out.parted (Af' := some ⟨gg, 0, none⟩) (nf' := nf + 1 + 1) (cf' := cap) (ps' := (ps ++ [q']) ++ [⟨2 + (x8 : Int), x0, x1, -1, 0⟩]) hgr9 (by rw [List.flatMap_append]; exact hown9) (by rw [List.length_append, ← HGc.out.pl]; rfl))
                have HXL8 := Lib.hid (HXL.out)
                clear hown9 hgrow9 hgr9 hat9 hlt9 z9 h0 h1 s0 s1 q0 q1 p0 p1 o0 o1 g0 g1 f0 f1 z1 z8 HGc HGP HGz HXX a8
                go_wp2_with fail
                generalize (w9.setCell ⟨w.heap.size + 1, 0, none⟩ (.slice (some ⟨gg, 0, none⟩) (nf + 1 + 1) cap)) = W8 at *
                have f8 := HG8.out.fb
                have z8 : w.heap.size + 1 < W8.heap.size := HG8.out.lt
                have n1 : IntKind.i64.wrap (((nf : Int) + 1) + 1 - 1) = ((nf : Int) + 1) := by rw [IntKind.wrap_i64]; omega
                have n2 : IntKind.i64.wrap (((nf : Int) + 1)) = ((nf : Int) + 1) := by rw [IntKind.wrap_i64]; omega
                have f8' := (World.cell?_alloc_lt W8 (.cells #[.int .i64 (((nf : Int) + 1))] 3) ⟨w.heap.size + 1, 0, none⟩ z8).trans f8
                have HG9 := Lib.hid (HG8.out.alloc (.cells #[.int .i64 (((nf : Int) + 1))] 3))
                have hcg : j + 1 + 1 ≤ co := by
                  rcases HG8.out.xr.2 with ⟨h', _⟩ | ⟨g', cap', cur, h', _, _, hnc, _⟩
                  · simp at h'
                  · simp at h'
                    omega
                have hcg1 : (j : Int) ≤ (co : Int) := by omega
                go_region_held3 (fun w' => w'.cell? ⟨w.heap.size + 1, 0, none⟩ = some (.slice (some ⟨gg, 0, none⟩) (nf + 1 + 1) cap)) (first | exact f8 | exact f8' | exact f9)
                  (first
                    | (refine step_append_lies _ (by rfl) _ _ _ (by rfl) (w.heap.size + 2) 3 i0 (.int .i64 0) 1 8 Tryz.underlying26 hi0 hz0 hz1 hz2 rfl (by omega) (.slice (some ⟨go, 0, none⟩) (j) co) (j) _ (by rfl) (own_shrink HG9.out.xr (by omega)) ⟨W8.heap.size, 0, none⟩ 1 1 [.int .i64 (((nf : Int) + 1))] (by rfl) (by rfl) (cell_one_new _ _ _) (by simp [Value.oneCell']) (by omega) (by unfold maxLen; omega) (by omega) (by simp; omega) W8.heap.size.succ (by simp) ?_; intro gh cah w10 hown10 hgrow10' hat10 hlt10; have hgrow10 : (W8.alloc (.cells #[.int .i64 (((nf : Int) + 1))] 3)).grownBy w10 (Value.slice (some ⟨go, 0, none⟩) (j) co).ownBlock := ⟨hgrow10'.os, hgrow10'.tape, hgrow10'.output, hgrow10'.size, hgrow10'.block⟩; have HGA := Lib.hid (HG9.out.opened (xs' := X.take (j) ++ [((nf : Int) + 1)]) (own_shrink HG9.out.xr (by omega : j ≤ j + 1 + 1)) hgrow10 (by first | (simpa using hown10) | (simpa [List.map_take] using hown10) | (rw [List.map_append, List.map_take]; exact hown10)) (by have := HXL8.out; rw [List.length_append, List.length_take]; show _ = _ + 1; omega)); have f9 := HGA.out.fb))
                clear f8 f8' f9 hgrow10 hgrow10' hown10 hat10 hlt10 HG8 HG9 z8 n1 n2 a1 a2 a1' a2' t1 t2
                go_wp2_with fail
                go_roundw
                case rel => exact ⟨k - 1, m + 1, j + 1, nf + 1 + 1, cap, _, _, _, by omega, by go_num, by omega, by omega, (show GI _ _ _ _ _ _ _ _ _ _ _ _ _ _ _ _ _ _ from HGA.out.mono (by have := HP1.out; omega))⟩
                case measure => simp [intOf]; omega
            · go_wp2_with fail
              go_roundw
              case rel => exact ⟨k - 1, m + 1, j + 1 + 1, nf + 1, c5, A5, _, _, by omega, by go_num, by omega, by omega, (show GI _ _ _ _ _ _ _ _ _ _ _ _ _ _ _ _ _ _ from HGz.out.mono (by have := HP1.out; omega))⟩
              case measure => simp [intOf]; omega
          · go_wp2_with fail
            go_roundw
            case rel => exact ⟨k - 1, m + 1, no + 1, nf + 1, c5, A5, _, _, by omega, by go_num, by omega, by omega, (show GI _ _ _ _ _ _ _ _ _ _ _ _ _ _ _ _ _ _ from HG6.out.mono (by have := HP1.out; omega))⟩
            case measure => simp [intOf]; omega
    · obtain ⟨Av0, cv0, hv0⟩ := row_form' HG.out.xr
      have HGs := HG
      subst hv0
      clear HG
      go_wp2_with fail
      go_loopw [6] (fun v wr => ∃ (no nf cf Q : Nat) (Af : Option Addr) (ps : List Pt) (xs : List Int), no ≤ 6 ∧ nf + no ≤ 18 ∧ Q + 2 * no ≤ P + 100 ∧ Hid (GI g w.heap.size A n c bs An nodes w Q Af nf cf ps v no xs wr)) (fun v _ => slcLen v)
      case atStart => exact ⟨no, nf, cf, P + 1 + 10 * m, Af, ps, xs, by omega, by omega, by omega, HGs.out⟩
      case round =>
        obtain ⟨no, nf, cf, Q, Af, ps, xs, hno, hnf, hQ, HG⟩ := hrel
        by_cases hlt : 1 < no
        · obtain ⟨j, rfl⟩ : ∃ j, no = j + 2 := ⟨no - 2, by omega⟩
          obtain ⟨go, cg, hov⟩ := row_pos HG.out.xr (by omega)
          cases hov
          have f0 := HG.out.fb
          have f1 := HG.out.fz
          have z1 : w.heap.size + 1 < wr.heap.size := HG.out.lt
          have hxl := HG.out.xl
          have o0 := HG.out.xr.cellAt (j) (by omega)
          have o1 := HG.out.xr.cellAt (j + 1) (by omega)
          rw [List.getElem?_map] at o0 o1
          generalize hX : xs = X at *
          have HX2 := Lib.hid hX
          clear hX
          rw [List.getElem?_eq_getElem (by omega), Option.map_some] at o0 o1
          generalize X[j]'_ = x0 at o0
          generalize X[j + 1]'_ = x1 at o1
          have HXL := Lib.hid hxl
          clear hxl
          have hgo := (HG.out.xr.lt go rfl).2
          have hgo2 := (HG.out.xr.lt go rfl).1
          go_wp2_with fail
          have a2 : IntKind.i64.wrap (((j : Int) + 2) - 2) = (j : Int) := by rw [IntKind.wrap_i64]; omega
          have a1 : IntKind.i64.wrap (((j : Int) + 2) - 1) = ((j : Int) + 1) := by rw [IntKind.wrap_i64]; omega
          have a2' : IntKind.i64.wrap ((j : Int)) = (j : Int) := by rw [IntKind.wrap_i64]; omega
          have a1' : IntKind.i64.wrap (((j : Int) + 1)) = ((j : Int) + 1) := by rw [IntKind.wrap_i64]; omega
          have b2 : (j : Int) < ((j : Int) + 2) := by omega
          have b1 : ((j : Int) + 1) < ((j : Int) + 2) := by omega
          have b0 : 0 ≤ (j : Int) := by omega
          have b00 : 0 ≤ ((j : Int) + 1) := by omega
          have t1 : ((j : Int)).toNat = j := by omega
          have t2 : (((j : Int) + 1)).toNat = j + 1 := by omega
          have HXX := Lib.hid (And.intro ((HG.out.xr.cellAt (j) (by omega)).symm.trans o0) ((HG.out.xr.cellAt (j + 1) (by omega)).symm.trans o1))
          have hnb1 : ∀ q : Nat, (⟨w.heap.size + 1, 0, none⟩ : Addr) ≠ ⟨go, q, none⟩ := fun q e => by have := congrArg Addr.block e; simp at this; omega
          refine wp_region_held_drew (S := (fun w' => w'.cell? ⟨go, j, none⟩ = some (.int .i64 x0) ∧ w'.cell? ⟨go, j + 1, none⟩ = some (.int .i64 x1))) (by kernel_rfl) ⟨o0, o1⟩ (fun hHeld => ?_)
          refine wpAnyH_take (i := 0) (oi := ⟨some 125, _, _, _, _, _⟩) (v := ?_) rfl (by kernel_rfl) (by kernel_rfl) (by kernel_rfl) (fun _ _ _ h => h) (Or.inl ⟨by rfl, ?_⟩) (by assumption) ?_; rotate_left; (focus (intro w hSw; (try dsimp only at hSw); go_simp; (try with_reducible rfl))); (try simp only [Act.put, List.setIfInBounds_toArray, List.set_cons_zero, List.set_cons_succ])
          refine wpAnyH_take (i := 2) (oi := ⟨some 127, _, _, _, _, _⟩) (v := ?_) rfl (by kernel_rfl) (by kernel_rfl) (by kernel_rfl) (fun _ _ _ h => h) (Or.inl ⟨by rfl, ?_⟩) (by assumption) ?_; rotate_left; (focus (intro w hSw; (try dsimp only at hSw); go_simp; (try with_reducible rfl))); (try simp only [Act.put, List.setIfInBounds_toArray, List.set_cons_zero, List.set_cons_succ])
          refine wpAnyH_take (i := 5) (oi := ⟨some 130, _, _, _, _, _⟩) (v := ?_) rfl (by kernel_rfl) (by kernel_rfl) (by kernel_rfl) (fun _ _ _ h => h) (Or.inl ⟨by rfl, ?_⟩) (by assumption) ?_; rotate_left; (focus (intro w hSw; (try dsimp only at hSw); go_simp; (try with_reducible rfl))); (try simp only [Act.put, List.setIfInBounds_toArray, List.set_cons_zero, List.set_cons_succ])
          refine wpAnyH_take (i := 6) (oi := ⟨some 131, _, _, _, _, _⟩) (v := ?_) rfl (by kernel_rfl) (by kernel_rfl) (by kernel_rfl) (fun _ _ _ h => h) (Or.inl ⟨by rfl, ?_⟩) (by assumption) ?_; rotate_left; (focus (intro w hSw; (try dsimp only at hSw); go_simp; (try with_reducible rfl))); (try simp only [Act.put, List.setIfInBounds_toArray, List.set_cons_zero, List.set_cons_succ])
          refine wpAnyH_take (i := 7) (oi := ⟨some 132, _, _, _, _, _⟩) (v := ?_) rfl (by kernel_rfl) (by kernel_rfl) (by kernel_rfl) (fun _ _ _ h => h) (Or.inl ⟨by rfl, ?_⟩) (by assumption) ?_; rotate_left; (focus (intro w hSw; (try dsimp only at hSw); go_simp; (try with_reducible rfl))); (try simp only [Act.put, List.setIfInBounds_toArray, List.set_cons_zero, List.set_cons_succ])
          refine wpAnyH_take (i := 8) (oi := ⟨some 133, _, _, _, _, _⟩) (v := ?_) rfl (by kernel_rfl) (by kernel_rfl) (by kernel_rfl) (fun _ _ _ h => h) (Or.inl ⟨by rfl, ?_⟩) (by assumption) ?_; rotate_left; (focus (intro w hSw; (try dsimp only at hSw); go_simp; (try with_reducible rfl))); (try simp only [Act.put, List.setIfInBounds_toArray, List.set_cons_zero, List.set_cons_succ])
          refine wpAnyH_take (i := 9) (oi := ⟨some 134, _, _, _, _, _⟩) (v := ?_) rfl (by kernel_rfl) (by kernel_rfl) (by kernel_rfl) (fun _ _ _ h => h) (Or.inl ⟨by rfl, ?_⟩) (by assumption) ?_; rotate_left; (focus (intro w hSw; (try dsimp only at hSw); go_simp; (try with_reducible rfl))); (try simp only [Act.put, List.setIfInBounds_toArray, List.set_cons_zero, List.set_cons_succ])
          refine wpAnyH_take (i := 10) (oi := ⟨some 135, _, _, _, _, _⟩) (v := ?_) rfl (by kernel_rfl) (by kernel_rfl) (by kernel_rfl) (fun _ _ _ h => h) (Or.inl ⟨by rfl, ?_⟩) (by assumption) ?_; rotate_left; (focus (intro w hSw; (try dsimp only at hSw); go_simp; (try with_reducible rfl))); (try simp only [Act.put, List.setIfInBounds_toArray, List.set_cons_zero, List.set_cons_succ])
          refine wpAnyH_take (i := 11) (oi := ⟨some 136, _, _, _, _, _⟩) (v := ?_) rfl (by kernel_rfl) (by kernel_rfl) (by kernel_rfl) (fun _ _ _ h => h) (Or.inl ⟨by rfl, ?_⟩) (by assumption) ?_; rotate_left; (focus (intro w hSw; (try dsimp only at hSw); go_simp; (try with_reducible rfl))); (try simp only [Act.put, List.setIfInBounds_toArray, List.set_cons_zero, List.set_cons_succ])
          refine wpAnyH_take (i := 12) (oi := ⟨some 137, _, _, _, _, _⟩) (v := ?_) rfl (by kernel_rfl) (by kernel_rfl) (by kernel_rfl) (fun _ _ _ h => h) (Or.inl ⟨by rfl, ?_⟩) (by assumption) ?_; rotate_left; (focus (intro w hSw; (try dsimp only at hSw); go_simp; (try with_reducible rfl))); (try simp only [Act.put, List.setIfInBounds_toArray, List.set_cons_zero, List.set_cons_succ])
          refine wpAnyH_take (i := 13) (oi := ⟨some 138, _, _, _, _, _⟩) (v := ?_) rfl (by kernel_rfl) (by kernel_rfl) (by kernel_rfl) (fun _ _ _ h => h) (Or.inl ⟨by rfl, ?_⟩) (by assumption) ?_; rotate_left; (focus (intro w hSw; (try dsimp only at hSw); go_simp; (try with_reducible rfl))); (try simp only [Act.put, List.setIfInBounds_toArray, List.set_cons_zero, List.set_cons_succ])
          refine wpAnyH_take (i := 14) (oi := ⟨some 139, _, _, _, _, _⟩) (v := ?_) rfl (by kernel_rfl) (by kernel_rfl) (by kernel_rfl) (fun _ _ _ h => h) (Or.inl ⟨by rfl, ?_⟩) (by assumption) ?_; rotate_left; (focus (intro w hSw; (try dsimp only at hSw); go_simp; (try with_reducible rfl))); (try simp only [Act.put, List.setIfInBounds_toArray, List.set_cons_zero, List.set_cons_succ])
          refine wpAnyH_ready (rs := [1, 3]) (by kernel_rfl) (by simp) ?_; refine AllReadyH.cons (o := ⟨some 126, _, _, _, _, _⟩) rfl (fun K hK => ?_) (AllReadyH.cons (o := ⟨some 128, _, _, _, _, _⟩) rfl (fun K hK => ?_) AllReadyH.nil)
          go_simp
          refine hK.out _ _ ⟨o0, o1⟩ (fun hHeld => ?_); clear hK K; (try simp only [Act.put, List.setIfInBounds_toArray, List.set_cons_zero, List.set_cons_succ])
          refine wpAnyH_ready (rs := [3]) (by kernel_rfl) (by simp) ?_; refine AllReadyH.cons (o := ⟨some 128, _, _, _, _, _⟩) rfl (fun K hK => ?_) AllReadyH.nil; go_simp
          go_at_call 76
          refine (pick_any g A n c bs (Q) 6 _ ?_ HN.out hby hs ?_ ?_).mono ?_
          (first | exact HG.out.rd | exact HG.out.rd.drew)
          omega
          omega
          rintro e w8 ⟨x8, rfl, hx8', _, hr8, ht8'⟩
          have hx8 : (x8 : Int) < 6 := hx8' (by omega)
          have ht8 : Tch g (g + 1) wr w8 := ⟨ht8'.os, ht8'.tape, ht8'.output, ht8'.size, ht8'.block⟩
          have HGP := Lib.hid (HG.out.pick hr8 ht8)
          have p0 := (HGP.out.xr.cellAt (j) (by omega)).trans HXX.out.1
          have p1 := (HGP.out.xr.cellAt (j + 1) (by omega)).trans HXX.out.2
          have g0 := HGP.out.fb
          have g1 := HGP.out.fz
          have z8 : w.heap.size + 1 < w8.heap.size := HGP.out.lt
          have hgo8 := (HGP.out.xr.lt go rfl).2
          have a8 : IntKind.i64.wrap (2 + (x8 : Int)) = 2 + (x8 : Int) := (by rw [IntKind.wrap_i64]; omega)
          have q0 := (World.cell?_alloc_lt w8 (.cells #[.int .i64 (2 + (x8 : Int)), .int .i64 x0, .int .i64 x1, .int .i64 (-1), .int .i64 0] 143) ⟨go, j, none⟩ hgo8).trans p0
          have q1 := (World.cell?_alloc_lt w8 (.cells #[.int .i64 (2 + (x8 : Int)), .int .i64 x0, .int .i64 x1, .int .i64 (-1), .int .i64 0] 143) ⟨go, j + 1, none⟩ hgo8).trans p1
          have HGc := Lib.hid (HGP.out.alloc (.cells #[.int .i64 (2 + (x8 : Int)), .int .i64 x0, .int .i64 x1, .int .i64 (-1), .int .i64 0] 143))
          clear hx8' hr8 ht8'
          refine hK.out _ _ ⟨p0, p1⟩ (fun hHeld => ?_); clear hK K; (try simp only [Act.put, List.setIfInBounds_toArray, List.set_cons_zero, List.set_cons_succ])
          refine wpAnyH_take (i := 4) (oi := ⟨some 129, _, _, _, _, _⟩) (v := ?_) rfl (by kernel_rfl) (by kernel_rfl) (by kernel_rfl) (fun _ _ _ h => h) (Or.inl ⟨by rfl, ?_⟩) (by assumption) ?_; rotate_left; (focus (intro w hSw; (try dsimp only at hSw); go_simp; (try with_reducible rfl))); (try simp only [Act.put, List.setIfInBounds_toArray, List.set_cons_zero, List.set_cons_succ])
          refine wpAnyH_take (i := 15) (oi := ⟨some 140, _, _, _, _, _⟩) (v := ?_) rfl (by kernel_rfl) (by kernel_rfl) (by kernel_rfl) (fun _ _ _ h => h) (Or.inl ⟨by rfl, ?_⟩) (by assumption) ?_; rotate_left; (focus (intro w hSw; (try dsimp only at hSw); go_simp; (try with_reducible rfl))); (try simp only [Act.put, List.setIfInBounds_toArray, List.set_cons_zero, List.set_cons_succ])
          refine wpAnyH_ready (rs := [16]) (by kernel_rfl) (by simp) ?_; refine AllReadyH.cons (o := ⟨some 141, _, _, _, _, _⟩) rfl (fun K hK => ?_) AllReadyH.nil; go_simp
          refine hK.out _ _ ⟨q0, q1⟩ (fun hHeld => ?_); clear hK K; (try simp only [Act.put, List.setIfInBounds_toArray, List.set_cons_zero, List.set_cons_succ])
          refine wpAnyH_ready (rs := [17]) (by kernel_rfl) (by simp) ?_; refine AllReadyH.cons (o := ⟨some 142, _, _, _, _, _⟩) rfl (fun K hK => ?_) AllReadyH.nil
          refine step_append_lies _ (by rfl) _ _ _ (by rfl) (w.heap.size + 2) 143 i1 _ 5 40 Tryz.underlying76 hi1 hy0 hy1 hy2 rfl (by omega) (.slice Af (nf) cf) (nf) _ (by rfl) HGc.out.pr ⟨w8.heap.size, 0, none⟩ 1 1 [.int .i64 (2 + (x8 : Int)), .int .i64 x0, .int .i64 x1, .int .i64 (-1), .int .i64 0] (by rfl) (by rfl) (cells_new _ _ _ _ rfl) (by simp [Value.oneCell']) (by omega) (by unfold maxLen; omega) (by omega) (by simp; omega) (w8.heap.size + 1) (by simp) ?_
          intro gg cap w9 hown9 hgrow9 hat9 hlt9
          have hgr9 : (w8.alloc (.cells #[.int .i64 (2 + (x8 : Int)), .int .i64 x0, .int .i64 x1, .int .i64 (-1), .int .i64 0] 143)).grownBy w9 (Value.slice Af (nf) cf).ownBlock := ⟨hgrow9.os, hgrow9.tape, hgrow9.output, hgrow9.size, hgrow9.block⟩
          have hfr9 := HGc.out.frame hgr9 fun k hk => (HGc.out.pr.lt k hk).1
          have z9 := hfr9.2.2.1
          have h0 := hfr9.2.2.2.2.2.1
          have h1 := hfr9.2.2.2.2.2.2.1
          clear hfr9
          have hxr9 := HGc.out.xr.kept hgr9 (blocks_ne HGc.out.xr HGc.out.pr int_ne_part)
          have s0 := (hxr9.cellAt (j) (by omega)).trans HXX.out.1
          have s1 := (hxr9.cellAt (j + 1) (by omega)).trans HXX.out.2
          clear hxr9
          refine hK.out _ _ ⟨s0, s1⟩ (fun hHeld => ?_); clear hK K; (try simp only [Act.put, List.setIfInBounds_toArray, List.set_cons_zero, List.set_cons_succ])
          refine wpAnyH_take (i := 18) (oi := ⟨some 143, _, _, _, _, _⟩) (v := ?_) rfl (by kernel_rfl) (by kernel_rfl) (by kernel_rfl) (fun _ _ _ h => h) (Or.inl ⟨by rfl, ?_⟩) (by assumption) ?_; rotate_left; (focus (intro w hSw; (try dsimp only at hSw); go_simp; (try with_reducible rfl))); (try simp only [Act.put, List.setIfInBounds_toArray, List.set_cons_zero, List.set_cons_succ])
          refine wpAnyH_ready (rs := [19]) (by kernel_rfl) (by simp) ?_; refine AllReadyH.cons (o := ⟨none, _, _, _, _, _⟩) rfl (fun K hK => ?_) AllReadyH.nil; go_simp
          refine hK.out _ _ ⟨(World.cell?_setCell_other _ _ _ _ (hnb1 _)).trans s0, (World.cell?_setCell_other _ _ _ _ (hnb1 _)).trans s1⟩ (fun hHeld => ?_); clear hK K; (try simp only [Act.put, List.setIfInBounds_toArray, List.set_cons_zero, List.set_cons_succ])
          refine wpAnyH_done (by kernel_rfl) ?_ _
          rotate_left
          go_simp
          go_at_call 76
          refine (pick_any g A n c bs (Q) 6 _ ?_ HN.out hby hs ?_ ?_).mono ?_
          (first | exact HG.out.rd | exact HG.out.rd.drew)
          omega
          omega
          rintro e w8 ⟨x8, rfl, hx8', _, hr8, ht8'⟩
          have hx8 : (x8 : Int) < 6 := hx8' (by omega)
          have ht8 : Tch g (g + 1) wr w8 := ⟨ht8'.os, ht8'.tape, ht8'.output, ht8'.size, ht8'.block⟩
          have HGP := Lib.hid (HG.out.pick hr8 ht8)
          have p0 := (HGP.out.xr.cellAt (j) (by omega)).trans HXX.out.1
          have p1 := (HGP.out.xr.cellAt (j + 1) (by omega)).trans HXX.out.2
          have g0 := HGP.out.fb
          have g1 := HGP.out.fz
          have z8 : w.heap.size + 1 < w8.heap.size := HGP.out.lt
          have hgo8 := (HGP.out.xr.lt go rfl).2
          have a8 : IntKind.i64.wrap (2 + (x8 : Int)) = 2 + (x8 : Int) := (by rw [IntKind.wrap_i64]; omega)
          have q0 := (World.cell?_alloc_lt w8 (.cells #[.int .i64 (2 + (x8 : Int)), .int .i64 x0, .int .i64 x1, .int .i64 (-1), .int .i64 0] 143) ⟨go, j, none⟩ hgo8).trans p0
          have q1 := (World.cell?_alloc_lt w8 (.cells #[.int .i64 (2 + (x8 : Int)), .int .i64 x0, .int .i64 x1, .int .i64 (-1), .int .i64 0] 143) ⟨go, j + 1, none⟩ hgo8).trans p1
          have HGc := Lib.hid (HGP.out.alloc (.cells #[.int .i64 (2 + (x8 : Int)), .int .i64 x0, .int .i64 x1, .int .i64 (-1), .int .i64 0] 143))
          clear hx8' hr8 ht8'
          refine hK.out _ _ ⟨p0, p1⟩ (fun hHeld => ?_); clear hK K; (try simp only [Act.put, List.setIfInBounds_toArray, List.set_cons_zero, List.set_cons_succ])
          refine wpAnyH_take (i := 4) (oi := ⟨some 129, _, _, _, _, _⟩) (v := ?_) rfl (by kernel_rfl) (by kernel_rfl) (by kernel_rfl) (fun _ _ _ h => h) (Or.inl ⟨by rfl, ?_⟩) (by assumption) ?_; rotate_left; (focus (intro w hSw; (try dsimp only at hSw); go_simp; (try with_reducible rfl))); (try simp only [Act.put, List.setIfInBounds_toArray, List.set_cons_zero, List.set_cons_succ])
          refine wpAnyH_take (i := 15) (oi := ⟨some 140, _, _, _, _, _⟩) (v := ?_) rfl (by kernel_rfl) (by kernel_rfl) (by kernel_rfl) (fun _ _ _ h => h) (Or.inl ⟨by rfl, ?_⟩) (by assumption) ?_; rotate_left; (focus (intro w hSw; (try dsimp only at hSw); go_simp; (try with_reducible rfl))); (try simp only [Act.put, List.setIfInBounds_toArray, List.set_cons_zero, List.set_cons_succ])
          refine wpAnyH_ready (rs := [1, 16]) (by kernel_rfl) (by simp) ?_; refine AllReadyH.cons (o := ⟨some 126, _, _, _, _, _⟩) rfl (fun K hK => ?_) (AllReadyH.cons (o := ⟨some 141, _, _, _, _, _⟩) rfl (fun K hK => ?_) AllReadyH.nil)
          go_simp
          refine hK.out _ _ ⟨p0, p1⟩ (fun hHeld => ?_); clear hK K; (try simp only [Act.put, List.setIfInBounds_toArray, List.set_cons_zero, List.set_cons_succ])
          refine wpAnyH_ready (rs := [16]) (by kernel_rfl) (by simp) ?_; refine AllReadyH.cons (o := ⟨some 141, _, _, _, _, _⟩) rfl (fun K hK => ?_) AllReadyH.nil; go_simp
          refine hK.out _ _ ⟨q0, q1⟩ (fun hHeld => ?_); clear hK K; (try simp only [Act.put, List.setIfInBounds_toArray, List.set_cons_zero, List.set_cons_succ])
          refine wpAnyH_ready (rs := [17]) (by kernel_rfl) (by simp) ?_; refine AllReadyH.cons (o := ⟨some 142, _, _, _, _, _⟩) rfl (fun K hK => ?_) AllReadyH.nil
          refine step_append_lies _ (by rfl) _ _ _ (by rfl) (w.heap.size + 2) 143 i1 _ 5 40 Tryz.underlying76 hi1 hy0 hy1 hy2 rfl (by omega) (.slice Af (nf) cf) (nf) _ (by rfl) HGc.out.pr ⟨w8.heap.size, 0, none⟩ 1 1 [.int .i64 (2 + (x8 : Int)), .int .i64 x0, .int .i64 x1, .int .i64 (-1), .int .i64 0] (by rfl) (by rfl) (cells_new _ _ _ _ rfl) (by simp [Value.oneCell']) (by omega) (by unfold maxLen; omega) (by omega) (by simp; omega) (w8.heap.size + 1) (by simp) ?_
          intro gg cap w9 hown9 hgrow9 hat9 hlt9
          have hgr9 : (w8.alloc (.cells #[.int .i64 (2 + (x8 : Int)), .int .i64 x0, .int .i64 x1, .int .i64 (-1), .int .i64 0] 143)).grownBy w9 (Value.slice Af (nf) cf).ownBlock := ⟨hgrow9.os, hgrow9.tape, hgrow9.output, hgrow9.size, hgrow9.block⟩
          have hfr9 := HGc.out.frame hgr9 fun k hk => (HGc.out.pr.lt k hk).1
          have z9 := hfr9.2.2.1
          have h0 := hfr9.2.2.2.2.2.1
          have h1 := hfr9.2.2.2.2.2.2.1
          clear hfr9
          have hxr9 := HGc.out.xr.kept hgr9 (blocks_ne HGc.out.xr HGc.out.pr int_ne_part)
          have s0 := (hxr9.cellAt (j) (by omega)).trans HXX.out.1
          have s1 := (hxr9.cellAt (j + 1) (by omega)).trans HXX.out.2
          clear hxr9
          refine hK.out _ _ ⟨s0, s1⟩ (fun hHeld => ?_); clear hK K; (try simp only [Act.put, List.setIfInBounds_toArray, List.set_cons_zero, List.set_cons_succ])
          refine wpAnyH_take (i := 18) (oi := ⟨some 143, _, _, _, _, _⟩) (v := ?_) rfl (by kernel_rfl) (by kernel_rfl) (by kernel_rfl) (fun _ _ _ h => h) (Or.inl ⟨by rfl, ?_⟩) (by assumption) ?_; rotate_left; (focus (intro w hSw; (try dsimp only at hSw); go_simp; (try with_reducible rfl))); (try simp only [Act.put, List.setIfInBounds_toArray, List.set_cons_zero, List.set_cons_succ])
          refine wpAnyH_ready (rs := [19]) (by kernel_rfl) (by simp) ?_; refine AllReadyH.cons (o := ⟨none, _, _, _, _, _⟩) rfl (fun K hK => ?_) AllReadyH.nil; go_simp
          refine hK.out _ _ ⟨(World.cell?_setCell_other _ _ _ _ (hnb1 _)).trans s0, (World.cell?_setCell_other _ _ _ _ (hnb1 _)).trans s1⟩ (fun hHeld => ?_); clear hK K; (try simp only [Act.put, List.setIfInBounds_toArray, List.set_cons_zero, List.set_cons_succ])
          refine wpAnyH_done (by kernel_rfl) ?_ _
          rotate_left
          go_simp
          refine hK.out _ _ ⟨q0, q1⟩ (fun hHeld => ?_); clear hK K; (try simp only [Act.put, List.setIfInBounds_toArray, List.set_cons_zero, List.set_cons_succ])
          refine wpAnyH_ready (rs := [1]) (by kernel_rfl) (by simp) ?_; refine AllReadyH.cons (o := ⟨some 126, _, _, _, _, _⟩) rfl (fun K hK => ?_) AllReadyH.nil; go_simp
          refine hK.out _ _ ⟨q0, q1⟩ (fun hHeld => ?_); clear hK K; (try simp only [Act.put, List.setIfInBounds_toArray, List.set_cons_zero, List.set_cons_succ])
          refine wpAnyH_ready (rs := [17]) (by kernel_rfl) (by simp) ?_; refine AllReadyH.cons (o := ⟨some 142, _, _, _, _, _⟩) rfl (fun K hK => ?_) AllReadyH.nil
          refine step_append_lies _ (by rfl) _ _ _ (by rfl) (w.heap.size + 2) 143 i1 _ 5 40 Tryz.underlying76 hi1 hy0 hy1 hy2 rfl (by omega) (.slice Af (nf) cf) (nf) _ (by rfl) HGc.out.pr ⟨w8.heap.size, 0, none⟩ 1 1 [.int .i64 (2 + (x8 : Int)), .int .i64 x0, .int .i64 x1, .int .i64 (-1), .int .i64 0] (by rfl) (by rfl) (cells_new _ _ _ _ rfl) (by simp [Value.oneCell']) (by omega) (by unfold maxLen; omega) (by omega) (by simp; omega) (w8.heap.size + 1) (by simp) ?_
          intro gg cap w9 hown9 hgrow9 hat9 hlt9
          have hgr9 : (w8.alloc (.cells #[.int .i64 (2 + (x8 : Int)), .int .i64 x0, .int .i64 x1, .int .i64 (-1), .int .i64 0] 143)).grownBy w9 (Value.slice Af (nf) cf).ownBlock := ⟨hgrow9.os, hgrow9.tape, hgrow9.output, hgrow9.size, hgrow9.block⟩
          have hfr9 := HGc.out.frame hgr9 fun k hk => (HGc.out.pr.lt k hk).1
          have z9 := hfr9.2.2.1
          have h0 := hfr9.2.2.2.2.2.1
          have h1 := hfr9.2.2.2.2.2.2.1
          clear hfr9
          have hxr9 := HGc.out.xr.kept hgr9 (blocks_ne HGc.out.xr HGc.out.pr int_ne_part)
          have s0 := (hxr9.cellAt (j) (by omega)).trans HXX.out.1
          have s1 := (hxr9.cellAt (j + 1) (by omega)).trans HXX.out.2
          clear hxr9
          refine hK.out _ _ ⟨s0, s1⟩ (fun hHeld => ?_); clear hK K; (try simp only [Act.put, List.setIfInBounds_toArray, List.set_cons_zero, List.set_cons_succ])
          refine wpAnyH_take (i := 18) (oi := ⟨some 143, _, _, _, _, _⟩) (v := ?_) rfl (by kernel_rfl) (by kernel_rfl) (by kernel_rfl) (fun _ _ _ h => h) (Or.inl ⟨by rfl, ?_⟩) (by assumption) ?_; rotate_left; (focus (intro w hSw; (try dsimp only at hSw); go_simp; (try with_reducible rfl))); (try simp only [Act.put, List.setIfInBounds_toArray, List.set_cons_zero, List.set_cons_succ])
          refine wpAnyH_ready (rs := [19]) (by kernel_rfl) (by simp) ?_; refine AllReadyH.cons (o := ⟨none, _, _, _, _, _⟩) rfl (fun K hK => ?_) AllReadyH.nil; go_simp
          refine hK.out _ _ ⟨(World.cell?_setCell_other _ _ _ _ (hnb1 _)).trans s0, (World.cell?_setCell_other _ _ _ _ (hnb1 _)).trans s1⟩ (fun hHeld => ?_); clear hK K; (try simp only [Act.put, List.setIfInBounds_toArray, List.set_cons_zero, List.set_cons_succ])
          refine wpAnyH_done (by kernel_rfl) ?_ _
          all_goals
            have HG8 := Lib.hid (HGc.out.parted (Af' := some ⟨gg, 0, none⟩) (nf' := nf + 1) (cf' := cap) (ps' := ps ++ [⟨2 + (x8 : Int), x0, x1, -1, 0⟩]) hgr9 (by rw [List.flatMap_append]; exact hown9) (by rw [List.length_append, ← HGc.out.pl]; rfl))
            have HXL8 := Lib.hid (HXL.out)
            clear hown9 hgrow9 hgr9 hat9 hlt9 z9 h0 h1 s0 s1 q0 q1 p0 p1 o0 o1 g0 g1 f0 f1 z1 z8 HGc HGP HG HXX a8
            go_wp2_with fail
            generalize (w9.setCell ⟨w.heap.size + 1, 0, none⟩ (.slice (some ⟨gg, 0, none⟩) (nf + 1) cap)) = W8 at *
            have f8 := HG8.out.fb
            have z8 : w.heap.size + 1 < W8.heap.size := HG8.out.lt
            have n1 : IntKind.i64.wrap ((nf : Int) + 1 - 1) = (nf : Int) := by rw [IntKind.wrap_i64]; omega
            have n2 : IntKind.i64.wrap ((nf : Int)) = (nf : Int) := by rw [IntKind.wrap_i64]; omega
            have f8' := (World.cell?_alloc_lt W8 (.cells #[.int .i64 ((nf : Int))] 3) ⟨w.heap.size + 1, 0, none⟩ z8).trans f8
            have HG9 := Lib.hid (HG8.out.alloc (.cells #[.int .i64 ((nf : Int))] 3))
            have hcg : j + 2 ≤ cg := by
              rcases HG8.out.xr.2 with ⟨h', _⟩ | ⟨g', cap', cur, h', _, _, hnc, _⟩
              · simp at h'
              · simp at h'
                omega
            have hcg1 : (j : Int) ≤ (cg : Int) := by omega
            go_region_held3 (fun w' => w'.cell? ⟨w.heap.size + 1, 0, none⟩ = some (.slice (some ⟨gg, 0, none⟩) (nf + 1) cap)) (first | exact f8 | exact f8' | exact f9)
              (first
                | (refine step_append_lies _ (by rfl) _ _ _ (by rfl) (w.heap.size + 2) 3 i0 (.int .i64 0) 1 8 Tryz.underlying26 hi0 hz0 hz1 hz2 rfl (by omega) (.slice (some ⟨go, 0, none⟩) (j) cg) (j) _ (by rfl) (own_shrink HG9.out.xr (by omega)) ⟨W8.heap.size, 0, none⟩ 1 1 [.int .i64 ((nf : Int))] (by rfl) (by rfl) (cell_one_new _ _ _) (by simp [Value.oneCell']) (by omega) (by unfold maxLen; omega) (by omega) (by simp; omega) W8.heap.size.succ (by simp) ?_; intro gh cah w10 hown10 hgrow10' hat10 hlt10; have hgrow10 : (W8.alloc (.cells #[.int .i64 ((nf : Int))] 3)).grownBy w10 (Value.slice (some ⟨go, 0, none⟩) (j) cg).ownBlock := ⟨hgrow10'.os, hgrow10'.tape, hgrow10'.output, hgrow10'.size, hgrow10'.block⟩; have HGA := Lib.hid (HG9.out.opened (xs' := X.take (j) ++ [(nf : Int)]) (own_shrink HG9.out.xr (by omega : j ≤ j + 2)) hgrow10 (by first | (simpa using hown10) | (simpa [List.map_take] using hown10) | (rw [List.map_append, List.map_take]; exact hown10)) (by have := HXL8.out; rw [List.length_append, List.length_take]; show _ = _ + 1; omega)); have f9 := HGA.out.fb))
            clear f8 f8' f9 hgrow10 hgrow10' hown10 hat10 hlt10 HG8 HG9 z8 n1 n2 a1 a2 a1' a2' t1 t2
            go_wp2_with fail
            go_roundw
            case rel => exact ⟨j + 1, nf + 1, cap, _, _, _, _, by omega, by omega, by omega, HGA.out⟩
            case measure => simp [slcLen]
        · obtain ⟨Avz, cvz, rfl⟩ := row_form' HG.out.xr
          have hgs := HG.out.gs
          have hVF := Lib.hid fun (hv : validF ps = true) => validF_good ps hv
          have HVC := Lib.hid (spec_validFormula Af nf cf ps wr wr.heap.size (Nat.le_refl _) HG.out.pl (PS.of_own HG.out.pr) (by omega))
          have HPL := Lib.hid HG.out.pl
          have f0 := HG.out.fb
          have z1 : w.heap.size + 1 < wr.heap.size := HG.out.lt
          generalize validF ps = bv at *
          go_wp2_with fail
          refine HVC.out.mono ?_
          rintro e w2 ⟨rfl, hb2⟩
          have HG2 := Lib.hid (HG.out.step hb2)
          clear hb2 HVC f0 z1 HG
          cases bv
          · go_wp2_with fail
            refine (readPart_any g A n c bs Q An l c' nodes _ HG2.out.rd HN.out hby hs (by omega) HL.out hl2 (HG2.out.nd.more (by have := HG2.out.lt; omega)) HG2.out.ng).mono ?_
            rintro e w3 ⟨q, rfl, hr3, ht3⟩
            have HG3 := Lib.hid (HG2.out.pick hr3 ht3)
            have z3 : w.heap.size < w3.heap.size := by have := HG3.out.lt; omega
            obtain ⟨V, hV⟩ : ∃ V : Value, V = .slice (some ⟨w3.heap.size, 0, none⟩) 1 1 := ⟨_, rfl⟩
            have hsz : (w3.setCell ⟨w.heap.size, 0, none⟩ V).heap.size = w3.heap.size := by simp [World.setCell]
            have hrow := World.ownsRow_lit (e := 143) (size := 5) (base := w.heap.size + 2) (w3.setCell ⟨w.heap.size, 0, none⟩ V) #[.int .i64 q.k, .int .i64 q.a, .int .i64 q.b, .int .i64 q.c, .int .i64 q.n] 1 (by rw [hsz]; have := HG3.out.lt; omega) (by unfold maxLen; omega) (by simp)
            rw [hsz] at hrow
            have HROW := Lib.hid hrow
            have r0 := HG3.out.rb
            have r1 := HG3.out.rz
            have HZ := Lib.hid ((World.cell?_alloc_lt (w3.setCell ⟨w.heap.size, 0, none⟩ V) (.cells #[.int .i64 q.k, .int .i64 q.a, .int .i64 q.b, .int .i64 q.c, .int .i64 q.n] 143) ⟨w.heap.size, 0, none⟩ (by rw [hsz]; exact z3)).trans (World.cell?_setCell_same _ _ _ r0))
            have HRD := Lib.hid (((HG3.out.rd.mono (show _ ≤ P + 200 by omega)).set1 hgw 0 V).alloc (.cells #[.int .i64 q.k, .int .i64 q.a, .int .i64 q.b, .int .i64 q.c, .int .i64 q.n] 143))
            have HFR := Lib.hid (HG3.out.fr.trans (Frd.of_below (((Below.refl w.heap.size w3).setCell (p := ⟨w.heap.size, 0, none⟩) (Nat.le_refl _) V).alloc (by rw [hsz]; omega) (.cells #[.int .i64 q.k, .int .i64 q.a, .int .i64 q.b, .int .i64 q.c, .int .i64 q.n] 143)) (Nat.le_refl _)))
            rw [hV] at HROW HZ HRD HFR
            clear hr3 ht3 HG2 HG3 hrow hsz hV
            go_wp2
            have hz := HZ.out
            refine bodyPost_ret (v := .agg #[.slice (some ⟨w3.heap.size, 0, none⟩) 1 1]) (by simp [results, Tryz.results123, go_sem, hz]) rfl ?_
            exact ⟨_, 1, 1, [q], rfl, rfl, by omega, by omega, own_mono HROW.out (by omega), HRD.out, HFR.out.tch⟩
          · obtain ⟨_, hv1, hv12⟩ := hVF.out (by first | rfl | trivial)
            have r0 := HG2.out.rb
            have r1 := HG2.out.rz
            have f0 := HG2.out.fb
            have z1 : w.heap.size + 1 < w2.heap.size := HG2.out.lt
            have z0 : w.heap.size < w2.heap.size := by omega
            have hnf1 : 1 ≤ nf := by have := HPL.out; omega
            clear hv1 hv12
            go_wp2
            refine bodyPost_ret (v := .agg #[.slice Af nf cf]) (by simp [results, Tryz.results123, go_sem, r0]) rfl ?_
            refine ⟨_, _, _, ps, rfl, HPL.out, hnf1, by omega, ?_, (HG2.out.rd.mono (by omega)).set1 hgw 0 _, (HG2.out.fr.trans (Frd.of_below ((Below.refl w.heap.size _).setCell (p := ⟨w.heap.size, 0, none⟩) (Nat.le_refl _) _) (Nat.le_refl _))).tch⟩
            exact own_mono (own_keep HG2.out.pr fun y hy hy' => Below.heap_setCell _ _ _ _ (by show y ≠ w.heap.size; omega)) (by omega)
end Go.Proofs.YtgakgmkonmgblaaGreat

namespace Go.Proofs.YtgakgmkonmgblaaGreat
set_option linter.unusedSimpArgs false
set_option linter.unusedVariables false
open Go.RowKit
theorem NdO.setCell {lo hi : Nat} {d : Nd} {x y : Value} {w : World} (h : NdO lo hi d x y w) {a : Addr} (ha : a.block < lo) (u : Value) : NdO lo hi d x y (w.setCell a u) :=
  h.keep fun k hk _ => Below.heap_setCell _ _ _ _ (by omega)
theorem info_node : (Tryz.prog.info? 80).map (fun i => (i.zero, i.size, i.bytes)) = some (some (.agg #[.int .i64 0, .slice none 0 0]), 2, 32) := by kernel_rfl
theorem OwG.setCell {lo hi n : Nat} {v : Value} {gs : List Nd} {w : World} (h : OwG lo hi v n gs w) {a : Addr} (ha : a.block < lo) (u : Value) : OwG lo hi v n gs (w.setCell a u) :=
  OwG.loc _ _ _ _ _ _ _ h fun k hk _ => Below.heap_setCell _ _ _ _ (by omega)
end Go.Proofs.YtgakgmkonmgblaaGreat

namespace Go.Proofs.YtgakgmkonmgblaaGreat
set_option linter.unusedSimpArgs false
set_option linter.unusedVariables false
open Go.RowKit
/-- A node in a box: its kind, its parts as a slice. -/
structure NB (b : Nat) (q : Int) (y : Value) (w : World) : Prop where
  lt : b < w.heap.size
  c0 : w.cell? ⟨b, 0, none⟩ = some (.int .i64 q)
  c1 : w.cell? ⟨b, 1, none⟩ = some y
  fz : ∀ j, w.frozen? ⟨b, j, none⟩ = false
theorem NB.keep {b : Nat} {q : Int} {y : Value} {w w' : World} (h : NB b q y w) (hk : w'.heap[b]? = w.heap[b]?) (hs : w.heap.size ≤ w'.heap.size) : NB b q y w' := by
  have c (j : Nat) : w'.cell? ⟨b, j, none⟩ = w.cell? ⟨b, j, none⟩ := World.cell?_of_block (a := ⟨b, j, none⟩) hk
  have f (j : Nat) : w'.frozen? ⟨b, j, none⟩ = w.frozen? ⟨b, j, none⟩ := World.frozen?_of_block (a := ⟨b, j, none⟩) hk
  exact ⟨Nat.lt_of_lt_of_le h.lt hs, (c 0).trans h.c0, (c 1).trans h.c1, fun j => (f j).trans (h.fz j)⟩
theorem NB.pick {g b : Nat} {q : Int} {y : Value} {w w' : World} (h : NB b q y w) (ht : Tch g (g + 1) w w') (hb : b ≠ g) : NB b q y w' := h.keep (ht.block b h.lt (by omega)) ht.size
theorem NB.step {b : Nat} {q : Int} {y : Value} {w w' : World} (h : NB b q y w) (hb : Below w.heap.size w w') : NB b q y w' := h.keep (hb.block b h.lt) hb.size
theorem NB.alloc {b : Nat} {q : Int} {y : Value} {w : World} (h : NB b q y w) (o : Obj) : NB b q y (w.alloc o) := h.step ((Below.refl _ _).alloc (Nat.le_refl _) o)
theorem NB.set0 {b : Nat} {q : Int} {y : Value} {w : World} (h : NB b q y w) (q' : Int) : NB b q' y (w.setCell ⟨b, 0, none⟩ (.int .i64 q')) :=
  ⟨by simpa [World.setCell] using h.lt, World.cell?_setCell_same _ _ _ h.c0, (World.cell?_setCell_other _ _ _ _ (by intro e; cases e)).trans h.c1, fun j => by simp only [World.frozen?_setCell]; exact h.fz j⟩
theorem NB.set1 {b : Nat} {q : Int} {y : Value} {w : World} (h : NB b q y w) (y' : Value) : NB b q y' (w.setCell ⟨b, 1, none⟩ y') :=
  ⟨by simpa [World.setCell] using h.lt, (World.cell?_setCell_other _ _ _ _ (by intro e; cases e)).trans h.c0, World.cell?_setCell_same _ _ _ h.c1, fun j => by simp only [World.frozen?_setCell]; exact h.fz j⟩
/-- The state of the drawing of a graph: the boxes at s (the answer) and s + 1 (the graph), the nodes gs, the free ones fr; rows in blocks s + 2 to hi - 1. -/
structure GQ (g s hi : Nat) (A : Option Addr) (n c : Nat) (bs : List Int) (w0 : World) (P : Nat) (Vg : Value) (k : Nat) (gs : List Nd) (Vf : Value) (fl : Nat) (fr : List Int) (w : World) : Prop where
  g_s : g < s
  frd : Frd g s w0 w
  rd : Rdr g A n c bs P w
  s2 : s + 2 ≤ hi
  lt : hi ≤ w.heap.size
  rb : w.cell? ⟨s, 0, none⟩ = some (.slice none 0 0)
  rz : w.frozen? ⟨s, 0, none⟩ = false
  gb : w.cell? ⟨s + 1, 0, none⟩ = some Vg
  gz : w.frozen? ⟨s + 1, 0, none⟩ = false
  nd : OwG (s + 2) hi Vg k gs w
  sm : ∀ j, (gs.getD j default).ps.length ≤ 40
  fn : fl = fr.length
  fx : OwR (s + 2) hi 3 1 Vf fl (fr.map (Value.int .i64)) w
section
variable {g s hi : Nat} {A : Option Addr} {n c : Nat} {bs : List Int} {w0 : World} {P P' : Nat} {Vg : Value} {k : Nat} {gs : List Nd} {Vf : Value} {fl : Nat} {fr : List Int} {w w' : World}
theorem GQ.keep (h : GQ g s hi A n c bs w0 P Vg k gs Vf fl fr w) (hk : ∀ b, b ≠ g → b < hi → w'.heap[b]? = w.heap[b]?) (hr : Rdr g A n c bs P' w') (hf : Frd g s w w') : GQ g s hi A n c bs w0 P' Vg k gs Vf fl fr w' := by
  have h1 := h.g_s
  have h2 := h.s2
  have hc : ∀ (b j : Nat), b ≠ g → b < hi → w'.cell? ⟨b, j, none⟩ = w.cell? ⟨b, j, none⟩ := fun b j x y => World.cell?_of_block (a := ⟨b, j, none⟩) (hk b x y)
  have hz : ∀ (b j : Nat), b ≠ g → b < hi → w'.frozen? ⟨b, j, none⟩ = w.frozen? ⟨b, j, none⟩ := fun b j x y => World.frozen?_of_block (a := ⟨b, j, none⟩) (hk b x y)
  exact ⟨h.g_s, h.frd.trans hf, hr, h.s2, Nat.le_trans h.lt hf.size, (hc s 0 (by omega) (by omega)).trans h.rb, (hz s 0 (by omega) (by omega)).trans h.rz, (hc (s + 1) 0 (by omega) (by omega)).trans h.gb, (hz (s + 1) 0 (by omega) (by omega)).trans h.gz,
    OwG.loc _ _ _ _ _ _ _ h.nd fun b x y => hk b (by omega) y, h.sm, h.fn, h.fx.keep fun b x y => hk b (by omega) y⟩
theorem GQ.mono (h : GQ g s hi A n c bs w0 P Vg k gs Vf fl fr w) (hP : P ≤ P') : GQ g s hi A n c bs w0 P' Vg k gs Vf fl fr w :=
  ⟨h.g_s, h.frd, h.rd.mono hP, h.s2, h.lt, h.rb, h.rz, h.gb, h.gz, h.nd, h.sm, h.fn, h.fx⟩
theorem GQ.pick (h : GQ g s hi A n c bs w0 P Vg k gs Vf fl fr w) (hr : Rdr g A n c bs P' w') (ht : Tch g (g + 1) w w') : GQ g s hi A n c bs w0 P' Vg k gs Vf fl fr w' :=
  h.keep (fun b x y => ht.block b (Nat.lt_of_lt_of_le y h.lt) (by omega)) hr (Frd.of_tch ht (by have := h.s2; have := h.lt; omega))
theorem GQ.step (h : GQ g s hi A n c bs w0 P Vg k gs Vf fl fr w) (hb : Below w.heap.size w w') : GQ g s hi A n c bs w0 P Vg k gs Vf fl fr w' :=
  h.keep (fun b _ y => hb.block b (Nat.lt_of_lt_of_le y h.lt)) (h.rd.step hb) (Frd.of_below hb (by have := h.s2; have := h.lt; omega))
theorem GQ.alloc (h : GQ g s hi A n c bs w0 P Vg k gs Vf fl fr w) (o : Obj) : GQ g s hi A n c bs w0 P Vg k gs Vf fl fr (w.alloc o) := h.step ((Below.refl _ _).alloc (Nat.le_refl _) o)
theorem GQ.poke (h : GQ g s hi A n c bs w0 P Vg k gs Vf fl fr w) {b : Nat} (hb : hi ≤ b) (j : Nat) (x : Value) : GQ g s hi A n c bs w0 P Vg k gs Vf fl fr (w.setCell ⟨b, j, none⟩ x) :=
  h.keep (fun b' _ y => Below.heap_setCell _ _ _ _ (by show b' ≠ b; omega)) (h.rd.set1 (by have := h.g_s; have := h.s2; omega) j x)
    (Frd.of_below ((Below.refl hi w).setCell (p := ⟨b, j, none⟩) hb x) (by have := h.s2; omega))
end
theorem int_ne_node : (3 : TypeId) ≠ 80 := by decide
/-- One node more. -/
theorem OwG.snoc {lo hi k : Nat} {v v' : Value} {gs : List Nd} {w w' : World} {d : Nd} {y : Value} {A : Option Addr} {m c : Nat} {xs : List Value}
    (h0 : k = gs.length) (hx : OwR lo hi 80 2 v k xs w) (hn : ∀ j, j < k → ∃ x y, xs[j * 2]? = some x ∧ xs[j * 2 + 1]? = some y ∧ NdO lo hi (gs.getD j default) x y w)
    (hy : y = .slice A m c) (hm : m = d.ps.length) (hp : OwR lo w.heap.size 143 5 (.slice A m c) m (d.ps.flatMap Pt.cells) w) (hle : hi ≤ w.heap.size)
    (hg : w.grownBy w' v.ownBlock) (hv : w'.ownsRow lo 80 2 v' (k + 1) (xs ++ [.int .i64 d.k, y])) : OwG lo w'.heap.size v' (k + 1) (gs ++ [d]) w' := by
  have hxl : xs.length = k * 2 := hx.1.1
  have keep {z : Value} {mm : Nat} {ys : List Value} {t : Nat} (ht : t ≤ w.heap.size) (ho : OwR lo t 143 5 z mm ys w) : OwR lo w'.heap.size 143 5 z mm ys w' :=
    ⟨ho.1.kept hg (blocks_ne ho.1 hx.1 node_ne_part.symm), fun q hq => by have := ho.2 q hq; have := hg.size; omega⟩
  refine ⟨by simp [h0], _, ⟨hv, fun q hq => (hv.lt q hq).2⟩, fun j hj => ?_⟩
  rcases Nat.lt_or_ge j k with h1 | h1
  · obtain ⟨x, y', e1, e2, e3, A', n', c', e4, e5, e6⟩ := hn j h1
    refine ⟨x, y', ?_, ?_, ?_⟩
    · rw [List.getElem?_append_left (by omega)]; exact e1
    · rw [List.getElem?_append_left (by omega)]; exact e2
    · have eg : (gs ++ [d]).getD j default = gs.getD j default := by simp [List.getD, List.getElem?_append, show j < gs.length by omega]
      rw [eg]
      exact ⟨e3, A', n', c', e4, e5, by subst e4; exact keep hle e6⟩
  · obtain rfl : j = k := by omega
    have eg : (gs ++ [d]).getD j default = d := by simp [List.getD, List.getElem?_append, h0]
    refine ⟨.int .i64 d.k, y, ?_, ?_, ?_⟩
    · rw [List.getElem?_append_right (by omega), hxl]; simp
    · rw [List.getElem?_append_right (by omega), hxl, show j * 2 + 1 - j * 2 = 1 by omega]; simp
    · rw [eg]
      exact ⟨rfl, A, m, c, hy, hm, by subst hy; exact keep (Nat.le_refl _) hp⟩
theorem small_snoc {gs : List Nd} {d : Nd} (h : ∀ j, (gs.getD j default).ps.length ≤ 40) (hd : d.ps.length ≤ 40) : ∀ j, ((gs ++ [d]).getD j default).ps.length ≤ 40 := by
  intro j
  rcases Nat.lt_trichotomy j gs.length with h1 | h1 | h1
  · have := h j
    simpa [List.getD, List.getElem?_append, h1] using this
  · subst h1
    simpa [List.getD, List.getElem?_append] using hd
  · have : (gs ++ [d])[j]? = none := List.getElem?_eq_none (by simp; omega)
    simp [List.getD, this]
    exact Nat.zero_le _
/-- Returns a graph of 2 to 10 nodes in fresh blocks, of any content; the reader has picked Q times at most. -/
def GgP (g : Nat) (A : Option Addr) (n c : Nat) (bs : List Int) (Q : Nat) (w : World) (e : Ending) (w' : World) : Prop :=
  ∃ (V : Value) (k : Nat) (gs : List Nd), e = .returned (.agg #[V]) ∧ 2 ≤ k ∧ k ≤ 10 ∧ (∀ j, (gs.getD j default).ps.length ≤ 40) ∧ OwG w.heap.size w'.heap.size V k gs w' ∧ Rdr g A n c bs Q w' ∧ Tch g (g + 1) w w'
theorem IS.drop {w : World} {B b off : Nat} {xs : List Int} (h : IS w B (some ⟨b, off, none⟩) xs) (j : Nat) : IS w B (some ⟨b, off + j, none⟩) (xs.drop j) := by
  intro hn
  simp only [List.length_drop] at hn
  obtain ⟨b', o', e, hb, hc⟩ := h (by omega)
  cases e
  refine ⟨b, off + j, rfl, hb, fun i hi => ?_⟩
  simp only [List.length_drop] at hi
  have := hc (j + i) (by omega)
  rw [Nat.add_assoc, this]
  simp [List.getD]
section
variable {g s hi : Nat} {A : Option Addr} {n c : Nat} {bs : List Int} {w0 : World} {P P' : Nat} {Vg : Value} {k : Nat} {gs : List Nd} {Vf : Value} {fl : Nat} {fr : List Int} {w w' : World}
theorem GQ.raise {hi' : Nat} (h : GQ g s hi A n c bs w0 P Vg k gs Vf fl fr w) (h1 : hi ≤ hi') (h2 : hi' ≤ w.heap.size) : GQ g s hi' A n c bs w0 P Vg k gs Vf fl fr w :=
  ⟨h.g_s, h.frd, h.rd, Nat.le_trans h.s2 h1, h2, h.rb, h.rz, h.gb, h.gz, h.nd.mono (Nat.le_refl _) h1, h.sm, h.fn, h.fx.mono (Nat.le_refl _) h1⟩
/-- What lies in the boxes stays when a row of the call's own is written to. -/
theorem GQ.frame (h : GQ g s hi A n c bs w0 P Vg k gs Vf fl fr w) {row : Option Nat} (hg : w.grownBy w' row) (hr : ∀ k, row = some k → s + 2 ≤ k) :
    Frd g s w0 w' ∧ Rdr g A n c bs P w' ∧ w'.cell? ⟨s, 0, none⟩ = some (.slice none 0 0) ∧ w'.frozen? ⟨s, 0, none⟩ = false ∧ w'.cell? ⟨s + 1, 0, none⟩ = some Vg ∧ w'.frozen? ⟨s + 1, 0, none⟩ = false := by
  have h1 := h.s2
  have h2 := h.lt
  have h3 := h.g_s
  have hb : Below (s + 2) w w' := (Below.refl _ _).grown hg (by omega) hr
  have ht : Tch (s + 2) (w.heap.size + s + 2) w w' := ⟨hg.os, hg.tape, hg.output, hg.size, fun k hk hx => hb.block k (by omega)⟩
  exact ⟨h.frd.trans (Frd.of_below hb (by omega)), h.rd.turn ht (by omega), (hb.cell (p := ⟨s, 0, none⟩) (by show s < s + 2; omega)).trans h.rb, (hb.frozen (p := ⟨s, 0, none⟩) (by show s < s + 2; omega)).trans h.rz,
    (hb.cell (p := ⟨s + 1, 0, none⟩) (by show s + 1 < s + 2; omega)).trans h.gb, (hb.frozen (p := ⟨s + 1, 0, none⟩) (by show s + 1 < s + 2; omega)).trans h.gz⟩
theorem GQ.noded {v' : Value} {gs' : List Nd} {k' : Nat} (h : GQ g s hi A n c bs w0 P Vg k gs Vf fl fr w) (hg : w.grownBy w' Vg.ownBlock) (hv : OwG (s + 2) w'.heap.size v' k' gs' w') (hsm : ∀ j, (gs'.getD j default).ps.length ≤ 40) :
    GQ g s (w'.setCell ⟨s + 1, 0, none⟩ v').heap.size A n c bs w0 P v' k' gs' Vf fl fr (w'.setCell ⟨s + 1, 0, none⟩ v') := by
  obtain ⟨_, xs, hx, _⟩ := h.nd
  obtain ⟨f1, f2, f3, f4, f5, f6⟩ := h.frame hg fun q hq => (hx.1.lt q hq).1
  have h1 := h.s2
  have h2 := h.lt
  have h3 := h.g_s
  have hz : (w'.setCell ⟨s + 1, 0, none⟩ v').heap.size = w'.heap.size := by simp [World.setCell]
  rw [hz]
  have hfx := h.fx.1.kept hg (blocks_ne h.fx.1 hx.1 int_ne_node)
  refine ⟨h.g_s, f1.trans (Frd.of_below ((Below.refl (s + 1) w').setCell (p := ⟨s + 1, 0, none⟩) (Nat.le_refl _) v') (by omega)), f2.set1 (by omega) 0 v', by have := hg.size; omega, by rw [hz]; exact Nat.le_refl _, ?_, by simpa using f4, World.cell?_setCell_same _ _ _ f5, by simpa using f6, ?_, hsm, h.fn, ?_⟩
  · rw [World.cell?_setCell_other _ _ _ _ (by intro e; simp at e)]; exact f3
  · exact OwG.loc _ _ _ _ _ _ _ hv fun b x y => Below.heap_setCell _ _ _ _ (by show b ≠ s + 1; omega)
  · exact (OwR.keep (hi := w'.heap.size) ⟨hfx, fun q hq => (hfx.lt q hq).2⟩ fun b x y => Below.heap_setCell _ _ _ _ (by show b ≠ s + 1; omega))
theorem GQ.freed {v' : Value} {fl' : Nat} {fr' : List Int} (h : GQ g s hi A n c bs w0 P Vg k gs Vf fl fr w) (hg : w.grownBy w' Vf.ownBlock) (hv : w'.ownsRow (s + 2) 3 1 v' fl' (fr'.map (Value.int .i64))) (hl : fl' = fr'.length) :
    GQ g s w'.heap.size A n c bs w0 P Vg k gs v' fl' fr' w' := by
  obtain ⟨h0, xs, hx, hns⟩ := h.nd
  obtain ⟨f1, f2, f3, f4, f5, f6⟩ := h.frame hg fun q hq => (h.fx.1.lt q hq).1
  have h1 := h.s2
  have h2 := h.lt
  have hs := hg.size
  refine ⟨h.g_s, f1, f2, by omega, Nat.le_refl _, f3, f4, f5, f6, ⟨h0, xs, ⟨hx.1.kept hg (blocks_ne hx.1 h.fx.1 int_ne_node.symm), fun q hq => by have := hx.2 q hq; omega⟩, fun j hj => ?_⟩, h.sm, hl, ⟨hv, fun q hq => (hv.lt q hq).2⟩⟩
  obtain ⟨x, y, e1, e2, e3, A', n', c', e4, e5, e6⟩ := hns j hj
  exact ⟨x, y, e1, e2, e3, A', n', c', e4, e5, e6.1.kept hg (blocks_ne e6.1 h.fx.1 int_ne_part.symm), fun q hq => by have := e6.2 q hq; omega⟩
end
theorem row_far {w : World} {lo e size n c : Nat} {A : Option Addr} {xs : List Value} (h : w.ownsRow lo e size (.slice A n c) n xs) {g : Nat} (hg : g < lo) : ∀ b' o', A = some ⟨b', o', none⟩ → b' ≠ g := by
  intro b' o' he
  subst he
  rcases h.2 with ⟨hv, _⟩ | ⟨g', cap, cur, hv, hb, _⟩
  · simp at hv
  · simp at hv
    omega
theorem IS.drop0 {w : World} {B b : Nat} {xs : List Int} (h : IS w B (some ⟨b, 0, none⟩) xs) (j : Nat) : IS w B (some ⟨b, j, none⟩) (xs.drop j) := by
  have := h.drop j
  rwa [Nat.zero_add] at this
end Go.Proofs.YtgakgmkonmgblaaGreat

namespace Go.Proofs.YtgakgmkonmgblaaGreat
set_option linter.unusedSimpArgs false
set_option linter.unusedVariables false
open Go.RowKit
set_option maxRecDepth 100000 in
set_option maxHeartbeats 40000000 in
theorem goodGraph_any (g : Nat) (A : Option Addr) (n c : Nat) (bs : List Int) (P : Nat) (w : World) (h : Rdr g A n c bs P w) (hn : n = bs.length) (hby : BY bs) (hs : n ≤ 2000) (hP : P ≤ 800000) :
    Calls Tryz.prog 122 #[.pointer (some ⟨g, 0, none⟩)] w fun e w' => GgP g A n c bs (P + 2200) w e w' := by
  obtain ⟨i1, hi1, hy0, hy1, hy2⟩ := info_parts info_node
  obtain ⟨i0, hi0, hz0, hz1, hz2⟩ := info_parts info_int
  have hgw := h.lt
  have HN := Lib.hid hn
  have HR0 := Lib.hid ((((h.alloc (.cells #[.slice none 0 0] 25)).alloc (.cells #[.slice none 0 0] 25)).alloc (.cells #[] 3)).alloc (.cells #[.int .i64 6, .int .i64 5, .int .i64 7, .int .i64 8, .int .i64 4, .int .i64 10, .int .i64 2] 3))
  have hrow0 := World.ownsRow_lit (e := 3) (size := 1) (base := w.heap.size + 2) ((w.alloc (.cells #[.slice none 0 0] 25)).alloc (.cells #[.slice none 0 0] 25)) #[] 0 (by simp) (by unfold maxLen; omega) (by simp)
  have HROW := Lib.hid (OwR.start (hrow0.alloc (.cells #[.int .i64 6, .int .i64 5, .int .i64 7, .int .i64 8, .int .i64 4, .int .i64 10, .int .i64 2] 3)))
  have hBW : Below w.heap.size w ((((w.alloc (.cells #[.slice none 0 0] 25)).alloc (.cells #[.slice none 0 0] 25)).alloc (.cells #[] 3)).alloc (.cells #[.int .i64 6, .int .i64 5, .int .i64 7, .int .i64 8, .int .i64 4, .int .i64 10, .int .i64 2] 3)) := ((((Below.refl _ _).alloc (Nat.le_refl _) _).alloc (by simp) _).alloc (by simp; omega) _).alloc (by simp; omega) _
  have HG0 : Hid (GQ g w.heap.size (w.heap.size + 4) A n c bs w P (.slice none 0 0) 0 [] (.slice (some ⟨w.heap.size + 1 + 1, 0, none⟩) 0 0) 0 [] ((((w.alloc (.cells #[.slice none 0 0] 25)).alloc (.cells #[.slice none 0 0] 25)).alloc (.cells #[] 3)).alloc (.cells #[.int .i64 6, .int .i64 5, .int .i64 7, .int .i64 8, .int .i64 4, .int .i64 10, .int .i64 2] 3))) :=
    ⟨hgw, Frd.of_below hBW (Nat.le_refl _), HR0.out, by omega, by simp, by go_simp, by go_simp, by go_simp, by go_simp, ⟨rfl, [], OwR.nil _ _ _ _ _, fun j hj => absurd hj (Nat.not_lt_zero _)⟩, fun j => by simp [List.getD]; exact Nat.zero_le _, rfl, by simpa using HROW.out⟩
  clear h hn hrow0 hBW HROW
  go_enter Tryz.func122, Tryz.ntmps122
  go_wp2_with fail
  refine (one_any g A n c bs P (w.heap.size + 3) 0 7 7 [6, 5, 7, 8, 4, 10, 2] _ HR0.out HN.out hby hs (by omega) rfl (by omega) (by omega) ?_ (by omega) (by simp)).mono ?_
  · intro j hj
    have : j = 0 ∨ j = 1 ∨ j = 2 ∨ j = 3 ∨ j = 4 ∨ j = 5 ∨ j = 6 := by omega
    rcases this with rfl | rfl | rfl | rfl | rfl | rfl | rfl <;> go_simp
  rintro e w1 ⟨x, rfl, hxm, hr1, ht1⟩
  obtain ⟨N, rfl, hN2, hN10⟩ : ∃ N : Nat, x = (N : Int) ∧ 2 ≤ N ∧ N ≤ 10 := by
    simp only [List.mem_cons, List.not_mem_nil, or_false] at hxm
    exact ⟨x.toNat, by omega, by omega, by omega⟩
  have HG1 := Lib.hid (HG0.out.pick hr1 ht1)
  clear hxm hr1 ht1 HG0 HR0
  go_wp2
  go_loopw [4, 6] (fun v u wr => ∃ (k fl : Nat) (gs : List Nd) (fr : List Int) (Vg : Value), k ≤ N ∧ u = .int .i64 k ∧ fl ≤ k ∧ Hid (GQ g w.heap.size wr.heap.size A n c bs w (P + 1 + 210 * k) Vg k gs v fl fr wr)) (fun _ u _ => N - (intOf u).toNat)
  case atStart => exact ⟨0, 0, [], [], _, Nat.zero_le _, rfl, Nat.le_refl _, HG1.out.raise HG1.out.lt (Nat.le_refl _)⟩
  case round =>
    obtain ⟨k, fl, gs, fr, Vg, hk, rfl, hfl, HG⟩ := hrel
    obtain ⟨Af, cf, rfl⟩ := row_form' HG.out.fx.1
    by_cases hlt : k < N
    · have hPm : P + 1 + 210 * k ≤ 802000 := by omega
      obtain ⟨P1, hP1⟩ : ∃ P1, P1 = P + 1 + 210 * k := ⟨_, rfl⟩
      have HP1 := Lib.hid hP1
      rw [← hP1] at HG hPm
      obtain ⟨b8, hb8⟩ : ∃ b8, b8 = wr.heap.size := ⟨_, rfl⟩
      have HB8 := Lib.hid hb8
      have HNB : Hid (NB b8 0 (.slice none 0 0) (wr.alloc (.cells #[.int .i64 0, .slice none 0 0] 80))) := by
        rw [hb8]; exact ⟨by simp, by go_simp, by go_simp, fun j => by go_simp⟩
      rw [← hb8] at HG
      have HG2 := Lib.hid (HG.out.alloc (.cells #[.int .i64 0, .slice none 0 0] 80))
      have hs2 := HG.out.s2
      clear hP1 hb8 HG HG1
      go_upto_region 8 with fail
      rw [← HB8.out]
      generalize wr.alloc (.cells #[.int .i64 0, .slice none 0 0] 80) = W2 at *
      go_cut [26] from 14 to 64 (fun t wx => ∃ b : Bool, t = .bool b ∧ Hid (NB b8 0 (.slice none 0 0) wx) ∧ Hid (GQ g w.heap.size b8 A n c bs w (P1 + 1) Vg k gs (.slice Af fl cf) fl fr wx))
      case first =>
        by_cases hk1 : 1 < k
        · go_wp2_with fail
          go_meet
          exact ⟨true, rfl, HNB.out, HG2.out.mono (by omega)⟩
        · go_wp2_with fail
          refine (pick_any g A n c bs P1 8 W2 HG2.out.rd HN.out hby hs (by omega) (by omega)).mono ?_
          rintro e w3 ⟨x3, rfl, _, _, hr3, ht3⟩
          have HG3 := Lib.hid (HG2.out.pick hr3 ht3)
          have HN3 := Lib.hid (HNB.out.pick ht3 (by omega))
          clear hr3 ht3
          go_wp2_with fail
          go_meet
          exact ⟨_, rfl, HN3.out, HG3.out⟩
      case rest =>
        obtain ⟨b, rfl, HN3, HG3⟩ := hcut
        clear HNB HG2
        go_upto_if 26 with fail
        go_cut [] from 14 to 64 (fun wx => ∃ q : Int, Hid (NB b8 q (.slice none 0 0) wx) ∧ Hid (GQ g w.heap.size b8 A n c bs w (P1 + 2) Vg k gs (.slice Af fl cf) fl fr wx))
        case first =>
          cases b
          · go_wp2_with fail
            go_meet
            exact ⟨0, HN3.out, HG3.out.mono (by omega)⟩
          · have HG4 := Lib.hid (HG3.out.alloc (.cells #[.int .i64 1, .int .i64 1, .int .i64 2, .int .i64 0, .int .i64 1] 3))
            have HN4 := Lib.hid (HN3.out.alloc (.cells #[.int .i64 1, .int .i64 1, .int .i64 2, .int .i64 0, .int .i64 1] 3))
            go_wp2_with fail
            refine (one_any g A n c bs (P1 + 1) wc.heap.size 0 5 5 [1, 1, 2, 0, 1] _ HG4.out.rd HN.out hby hs (by omega) rfl (by omega) (by omega) ?_ (by have := HG3.out.rd.lt; omega) (by simp)).mono ?_
            · intro j hj
              have : j = 0 ∨ j = 1 ∨ j = 2 ∨ j = 3 ∨ j = 4 := by omega
              rcases this with rfl | rfl | rfl | rfl | rfl <;> go_simp
            rintro e w5 ⟨y, rfl, _, hr5, ht5⟩
            have HG5 := Lib.hid (HG4.out.pick hr5 ht5)
            have HN5 := Lib.hid (HN4.out.pick ht5 (by omega))
            have p0 := HN5.out.c0
            have f0 := HN5.out.fz 0
            clear hr5 ht5 HG4 HN4
            go_wp2_with fail
            go_meet
            exact ⟨y, HN5.out.set0 y, HG5.out.poke (Nat.le_refl _) 0 _⟩
        case rest =>
          obtain ⟨q, HN6, HG6⟩ := hcut
          clear HN3 HG3
          have c0 := HN6.out.c0
          go_upto_if 33 with fail
          go_cut [8] from 14 to 64 (fun x wx => ∃ (An : Option Addr) (nn cn : Nat) (ps : List Pt), nn = ps.length ∧ nn ≤ 40 ∧ Hid (NB b8 q (.slice An nn cn) wx) ∧ Hid (OwR (b8 + 1) wx.heap.size 143 5 (.slice An nn cn) nn (ps.flatMap Pt.cells) wx) ∧ Hid (GQ g w.heap.size b8 A n c bs w (P1 + 203) Vg k gs (.slice Af fl cf) fl fr wx))
          case first =>
            cases hq : (q != 0)
            · go_wp2_with fail
              go_meet
              exact ⟨none, 0, 0, [], rfl, by omega, HN6.out, OwR.nil _ _ _ _ _, HG6.out.mono (by omega)⟩
            · by_cases h3 : 3 < fl
              · have h3' : (3 : Int) < (fl : Int) := by omega
                go_wp2_with fail
                refine (pick_any g A n c bs (P1 + 2) 2 _ HG6.out.rd HN.out hby hs (by omega) (by omega)).mono ?_
                rintro e w5 ⟨x5, rfl, _, _, hr5, ht5⟩
                have HG7 := Lib.hid (HG6.out.pick hr5 ht5)
                have HN7 := Lib.hid (HN6.out.pick ht5 (by omega))
                clear hr5 ht5
                cases hx5 : ((x5 : Int) == 0)
                · have z7 := HN7.out.lt
                  go_wp2_with fail
                  refine (goodFormula_any g A n c bs (P1 + 3) Af fl cf fr _ HG7.out.rd HN.out hby hs (by omega) HG7.out.fn (by omega) (HG7.out.fx.ints.more HG7.out.lt) (row_far HG7.out.fx.1 (by omega))).mono ?_
                  rintro e w9 ⟨An, nn, cn, ps, rfl, hpl, hn1, hn40, hrow9, hr9, ht9⟩
                  have HN9 := Lib.hid (HN7.out.pick ht9 (by omega))
                  have HG9 := Lib.hid ((HG7.out.pick hr9 ht9).mono (show _ ≤ P1 + 203 by omega))
                  have z9 := HN9.out.lt
                  have p0 := HN9.out.c0
                  have p1 := HN9.out.c1
                  have f1 := HN9.out.fz 1
                  have HRW := Lib.hid hrow9
                  have HPL := Lib.hid hpl
                  have hz9 : w5.heap.size ≤ w9.heap.size := ht9.size
                  clear hr9 ht9 hrow9 hpl
                  go_wp2_with fail
                  go_meet
                  refine ⟨An, nn, cn, ps, HPL.out, hn40, HN9.out.set1 _, ?_, HG9.out.poke (Nat.le_refl _) 1 _⟩
                  exact (OwR.keep (hi := w9.heap.size) ((OwR.start HRW.out).mono (by omega) (Nat.le_refl _)) fun b x y => Below.heap_setCell _ _ _ _ (by show b ≠ b8; omega)).mono (Nat.le_refl _) (by simp [World.setCell])

                · obtain ⟨j, rfl⟩ : ∃ j, fl = j + 3 := ⟨fl - 3, by omega⟩
                  obtain ⟨go, co, hv⟩ := row_pos HG7.out.fx.1 (by omega)
                  cases hv
                  have z7 := HN7.out.lt
                  have hcj : j + 3 ≤ cf := by
                    rcases HG7.out.fx.1.2 with ⟨h', _⟩ | ⟨g', cap', cur, h', _, _, hnc, _⟩
                    · simp at h'
                    · simp at h'
                      omega
                  have hcj1 : ¬ cf = j := by omega
                  have HCJ := Lib.hid hcj
                  have hcj2 : ¬ cf - j = 0 := by omega
                  have hcj3 : ¬ (cf : Int) = (j : Int) := by omega
                  go_wp2_with fail
                  refine (goodFormula_any g A n c bs (P1 + 3) (some ⟨go, j, none⟩) 3 (cf - j) (fr.drop j) _ HG7.out.rd HN.out hby hs (by omega) (by have := HG7.out.fn; simp; omega) (by omega) ((HG7.out.fx.ints.drop0 j).more HG7.out.lt) (fun b' o' e => by cases e; exact row_far HG7.out.fx.1 (by omega) go 0 rfl)).mono ?_
                  rintro e w9 ⟨An, nn, cn, ps, rfl, hpl, hn1, hn40, hrow9, hr9, ht9⟩
                  have HN9 := Lib.hid (HN7.out.pick ht9 (by omega))
                  have HG9 := Lib.hid ((HG7.out.pick hr9 ht9).mono (show _ ≤ P1 + 203 by omega))
                  have z9 := HN9.out.lt
                  have p0 := HN9.out.c0
                  have p1 := HN9.out.c1
                  have f1 := HN9.out.fz 1
                  have HRW := Lib.hid hrow9
                  have HPL := Lib.hid hpl
                  have hz9 : w5.heap.size ≤ w9.heap.size := ht9.size
                  clear hr9 ht9 hrow9 hpl
                  go_wp2_with fail
                  go_meet
                  refine ⟨An, nn, cn, ps, HPL.out, hn40, HN9.out.set1 _, ?_, HG9.out.poke (Nat.le_refl _) 1 _⟩
                  exact (OwR.keep (hi := w9.heap.size) ((OwR.start HRW.out).mono (by omega) (Nat.le_refl _)) fun b x y => Below.heap_setCell _ _ _ _ (by show b ≠ b8; omega)).mono (Nat.le_refl _) (by simp [World.setCell])
              · have h3' : ¬ (3 : Int) < (fl : Int) := by omega
                have z6 := HN6.out.lt
                go_wp2_with fail
                refine (goodFormula_any g A n c bs (P1 + 2) Af fl cf fr _ HG6.out.rd HN.out hby hs (by omega) HG6.out.fn (by omega) (HG6.out.fx.ints.more HG6.out.lt) (row_far HG6.out.fx.1 (by omega))).mono ?_
                rintro e w9 ⟨An, nn, cn, ps, rfl, hpl, hn1, hn40, hrow9, hr9, ht9⟩
                have HN9 := Lib.hid (HN6.out.pick ht9 (by omega))
                have HG9 := Lib.hid ((HG6.out.pick hr9 ht9).mono (show _ ≤ P1 + 203 by omega))
                have z9 := HN9.out.lt
                have p0 := HN9.out.c0
                have p1 := HN9.out.c1
                have f1 := HN9.out.fz 1
                have HRW := Lib.hid hrow9
                have HPL := Lib.hid hpl
                have hz9 : wc.heap.size ≤ w9.heap.size := ht9.size
                clear hr9 ht9 hrow9 hpl
                go_wp2_with fail
                go_meet
                refine ⟨An, nn, cn, ps, HPL.out, hn40, HN9.out.set1 _, ?_, HG9.out.poke (Nat.le_refl _) 1 _⟩
                exact (OwR.keep (hi := w9.heap.size) ((OwR.start HRW.out).mono (by omega) (Nat.le_refl _)) fun b x y => Below.heap_setCell _ _ _ _ (by show b ≠ b8; omega)).mono (Nat.le_refl _) (by simp [World.setCell])

          case rest =>
            obtain ⟨An, nn, cn, ps, hnn, h40, HN7, HR7, HG7⟩ := hcut
            clear HN6 HG6 c0
            obtain ⟨Ag, cg, rfl⟩ := HG7.out.nd.form
            have g0 := HG7.out.gb
            have c0 := HN7.out.c0
            have c1 := HN7.out.c1
            have z7 := HN7.out.lt
            have HG8 := Lib.hid (HG7.out.alloc (.cells #[.int .i64 q, .slice An nn cn] 80))
            have HN8 := Lib.hid (HN7.out.alloc (.cells #[.int .i64 q, .slice An nn cn] 80))
            have HR8 := Lib.hid (HR7.out.step (below_new _ (.cells #[.int .i64 q, .slice An nn cn] 80)))
            obtain ⟨hk0, xs, hrow, hns⟩ := HG8.out.nd
            have HK0 := Lib.hid hk0
            have HROW := Lib.hid hrow
            have HNS := Lib.hid hns
            have HNN := Lib.hid hnn
            clear HG7 HN7 HR7 hk0 hrow hns hnn
            go_wp2_with (at_builtin; refine wpList_append_own _ rfl _ _ 23 rfl (w.heap.size + 2) 80 i1 _ 2 32 Tryz.underlying23 hi1 hy0 hy1 hy2 rfl (by decide) _ _ _ rfl HROW.out.1 ⟨_, 0, none⟩ 1 1 [.int .i64 q, .slice An nn cn] rfl rfl (cells_new _ _ _ _ rfl) ?c2 ?c3 ?c4 ?c5 ?_)
            case c2 => intro u hu; simp at hu; rcases hu with rfl | rfl <;> rfl
            case c3 => unfold maxLen; omega
            case c4 => omega
            case c5 => simp; omega
            intro v' w8 hown' hgrow _
            have hz8 : wc.heap.size + 1 ≤ w8.heap.size := by have := hgrow.size; simpa using this
            have HSN : Hid (OwG (w.heap.size + 2) w8.heap.size v' (k + 1) (gs ++ [⟨q, ps⟩]) w8) :=
              OwG.snoc (d := ⟨q, ps⟩) HK0.out HROW.out HNS.out rfl HNN.out ((HR8.out.mono (show w.heap.size + 2 ≤ b8 + 1 by omega) (by simp))) (by simp; omega) hgrow hown'
            obtain ⟨A', c', rfl⟩ := own_form hown'
            obtain ⟨_, _, _, _, g8, gz8⟩ := HG8.out.frame hgrow fun q hq => (HROW.out.1.lt q hq).1
            have HN9 := Lib.hid (HN8.out.keep (w' := w8) (hgrow.block b8 HN8.out.lt fun e => by have := HROW.out.2 b8 e.symm; omega) hgrow.size)
            have HN10 : Hid (NB b8 q (.slice An nn cn) (w8.setCell ⟨w.heap.size + 1, 0, none⟩ (.slice A' (k + 1) c'))) := HN9.out.keep (Below.heap_setCell _ _ _ _ (by show b8 ≠ w.heap.size + 1; omega)) (by simp [World.setCell])
            have HG9 := Lib.hid (HG8.out.noded hgrow HSN.out (small_snoc HG8.out.sm (by show ps.length ≤ 40; have := HNN.out; omega)))
            have z8 : w.heap.size + 1 < w8.heap.size := by omega
            have p0 := HN10.out.c0
            clear hown' hgrow HG8 HN8 HR8 HROW HNS HSN HN9
            cases hq2 : (q != 2)
            · go_wp2
              go_roundw
              case rel => exact ⟨k + 1, fl, _, fr, _, by omega, by go_num, by omega, HG9.out.mono (by have := HP1.out; omega)⟩
              case measure => simp [intOf]; omega
            · have HG10 := Lib.hid (HG9.out.alloc (.cells #[.int .i64 k] 3))
              have hsz8 : (w8.setCell ⟨w.heap.size + 1, 0, none⟩ (.slice A' (k + 1) c')).heap.size = w8.heap.size := by simp [World.setCell]
              have hnw := cell_one_new (w8.setCell ⟨w.heap.size + 1, 0, none⟩ (.slice A' (k + 1) c')) (.int .i64 k) 3
              rw [hsz8] at hnw
              have HNW := Lib.hid hnw
              clear hnw hsz8
              go_wp2_with (at_builtin; refine wpList_append_own _ rfl _ _ 26 rfl (w.heap.size + 2) 3 i0 (.int .i64 0) 1 8 Tryz.underlying26 hi0 hz0 hz1 hz2 rfl (by decide) _ _ _ rfl HG10.out.fx.1 ⟨_, 0, none⟩ 1 1 [.int .i64 k] rfl rfl HNW.out ?d2 ?d3 ?d4 ?d5 ?_)
              case d2 => first | rfl | (intro u hu; simp at hu; subst hu; rfl)
              case d3 => unfold maxLen; omega
              case d4 => omega
              case d5 => simp; omega
              intro v9 w9 hown9 hgrow9 _
              have HG11 := Lib.hid (HG10.out.freed (fr' := fr ++ [(k : Int)]) hgrow9 (by simpa using hown9) (by rw [List.length_append, ← HG10.out.fn]; rfl))
              clear hown9 hgrow9 HG9 HG10
              go_wp2
              go_roundw
              case rel => exact ⟨k + 1, fl + 1, _, _, _, by omega, by go_num, by omega, HG11.out.mono (by have := HP1.out; omega)⟩
              case measure => simp [intOf]; omega
    · obtain rfl : k = N := by omega
      obtain ⟨Ag, cg, rfl⟩ := HG.out.nd.form
      have g0 := HG.out.gb
      have r0 := HG.out.rb
      have r1 := HG.out.rz
      have z1 : w.heap.size + 1 < wr.heap.size := by have := HG.out.s2; have := HG.out.lt; omega
      have z0 : w.heap.size < wr.heap.size := by omega
      have hsz : (wr.setCell ⟨w.heap.size, 0, none⟩ (.slice Ag k cg)).heap.size = wr.heap.size := by simp [World.setCell]
      have HSZ := Lib.hid hsz
      clear hsz HG1
      go_wp2
      refine bodyPost_ret (v := .agg #[.slice Ag k cg]) (by simp [results, Tryz.results122, go_sem, r0]) rfl ?_
      refine ⟨_, k, gs, rfl, by omega, by omega, HG.out.sm, ?_, (HG.out.rd.mono (by omega)).set1 hgw 0 _, (HG.out.frd.trans (Frd.of_below ((Below.refl w.heap.size _).setCell (p := ⟨w.heap.size, 0, none⟩) (Nat.le_refl _) _) (Nat.le_refl _))).tch⟩
      rw [HSZ.out]
      exact (OwG.loc _ _ _ _ _ _ _ HG.out.nd fun b x y => Below.heap_setCell _ _ _ _ (by show b ≠ w.heap.size; omega)).mono (by omega) (Nat.le_refl _)
end Go.Proofs.YtgakgmkonmgblaaGreat

namespace Go.Proofs.YtgakgmkonmgblaaGreat
set_option linter.unusedSimpArgs false
set_option linter.unusedVariables false
open Go.RowKit
theorem OwG.ncap {lo hi n c : Nat} {A : Option Addr} {gs : List Nd} {w : World} (h : OwG lo hi (.slice A n c) n gs w) : n ≤ c := by
  obtain ⟨_, xs, h1, _⟩ := h
  rcases h1.1.2 with ⟨hv, hz⟩ | ⟨g, cap, cur, hv, _, _, h2, _⟩
  · omega
  · simp only [Value.slice.injEq] at hv
    obtain ⟨_, _, rfl⟩ := hv
    exact h2
/-- A graph of the call's own, in blocks lo to hi - 1. -/
theorem graph_start {lo n c : Nat} {A : Option Addr} {gs : List Nd} {w : World} (h : OwG lo w.heap.size (.slice A n c) n gs w) : As lo w.heap.size (OwG lo w.heap.size (.slice A n c) n gs) w := ⟨h, Nat.le_refl _, OwG.loc _ _ _ _ _⟩
theorem As.graph {lo hi n c : Nat} {A : Option Addr} {gs : List Nd} {w : World} (h : As lo hi (OwG lo hi (.slice A n c) n gs) w) : GS w w.heap.size A gs := h.it.nodes.more h.le
/-- A row of numbers of the call's own, in blocks lo to hi - 1. -/
theorem row_start {lo size n : Nat} {e : TypeId} {v : Value} {xs : List Value} {w : World} (h : w.ownsRow lo e size v n xs) : As lo w.heap.size (OwR lo w.heap.size e size v n xs) w := ⟨OwR.start h, Nat.le_refl _, OwR.loc _ _ _ _ _ _ _⟩
end Go.Proofs.YtgakgmkonmgblaaGreat
