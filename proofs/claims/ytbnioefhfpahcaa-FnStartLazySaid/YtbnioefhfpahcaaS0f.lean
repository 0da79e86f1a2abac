/- Words and contracts for memory that the texts behind use. -/
import Derived.Test.YtbnioefhfpahcaaS0e
import Derived.WalkKit
import Derived.Laws.OwnMore
import Derived.Deep.Draws
import Derived.Test.YtbnioefhfpahcaaProg
import Derived.WalkSpells
import Derived.WalkLawsBesides
import Derived.Outline
import Derived.Lib.Hide
import Derived.BigQuiet
import Derived.Deep.QuietTactic
import Derived.StillTailTactics
import Derived.Deep.LoopGhost
import Derived.Laws.MakeOwn
import Derived.WalkSmall
import Derived.RegionTactic
import Derived.BigRegion
import Derived.Deep.RegionWith
import Derived.Deep.RegionHeld3
import Derived.Maps.AppendAt
import Derived.Laws.CopyOwn
import Derived.Deep.AppendLies
import Derived.Deep.Cut
import Derived.Laws.Entries
import Derived.Laws.Bits64
import Derived.IntWalk
import Derived.Deep.RegionLaw
import Derived.Deep.DeepCutAuto
import Derived.Test.YtbnioefhfpahcaaRows
import Derived.ProofKit
import Derived.OpenShut
import Derived.ShutString
import Derived.ChangeOld
import Derived.Below
import Derived.Deep.Slices
import Derived.Deep.Fields

namespace Go.Proofs.Ytbnioefhfpahcaa
set_option linter.unusedSimpArgs false
set_option linter.unusedVariables false
open Go.RowKit
theorem row_form' {w : World} {base n size : Nat} {e : TypeId} {v : Value} {xs : List Value} (h : w.ownsRow base e size v n xs) : ∃ A c, v = .slice A n c := by
  rcases h.2 with ⟨rfl, rfl⟩ | ⟨g, cap, cur, rfl, _⟩
  · exact ⟨none, 0, rfl⟩
  · exact ⟨some ⟨g, 0, none⟩, cap, rfl⟩
theorem row_pos {w : World} {base n size : Nat} {e : TypeId} {v : Value} {xs : List Value} (h : w.ownsRow base e size v n xs) (hn : 0 < n) : ∃ g cap, v = .slice (some ⟨g, 0, none⟩) n cap := by
  rcases h.2 with ⟨hv, h0⟩ | ⟨g, cap, cur, hv, _⟩
  · omega
  · exact ⟨g, cap, hv⟩
/-- A part in a box. -/
structure PB (b : Nat) (q : Pt) (w : World) : Prop where
  lt : b < w.heap.size
  c0 : w.cell? ⟨b, 0, none⟩ = some (.int .i64 q.k)
  c1 : w.cell? ⟨b, 1, none⟩ = some (.int .i64 q.a)
  c2 : w.cell? ⟨b, 2, none⟩ = some (.int .i64 q.b)
  c3 : w.cell? ⟨b, 3, none⟩ = some (.int .i64 q.c)
  c4 : w.cell? ⟨b, 4, none⟩ = some (.int .i64 q.n)
  fz : ∀ j, w.frozen? ⟨b, j, none⟩ = false
theorem PB.keep {b : Nat} {q : Pt} {w w' : World} (h : PB b q w) (hk : w'.heap[b]? = w.heap[b]?) (hs : w.heap.size ≤ w'.heap.size) : PB b q w' := by
  have c (j : Nat) : w'.cell? ⟨b, j, none⟩ = w.cell? ⟨b, j, none⟩ := World.cell?_of_block (a := ⟨b, j, none⟩) hk
  have f (j : Nat) : w'.frozen? ⟨b, j, none⟩ = w.frozen? ⟨b, j, none⟩ := World.frozen?_of_block (a := ⟨b, j, none⟩) hk
  exact ⟨Nat.lt_of_lt_of_le h.lt hs, (c 0).trans h.c0, (c 1).trans h.c1, (c 2).trans h.c2, (c 3).trans h.c3, (c 4).trans h.c4, fun j => (f j).trans (h.fz j)⟩
theorem PB.pick {g b : Nat} {q : Pt} {w w' : World} (h : PB b q w) (ht : Tch g (g + 1) w w') (hb : b ≠ g) : PB b q w' := h.keep (ht.block b h.lt (by omega)) ht.size
theorem PB.step {b : Nat} {q : Pt} {w w' : World} (h : PB b q w) (hb : Below w.heap.size w w') : PB b q w' := h.keep (hb.block b h.lt) hb.size
theorem PB.alloc {b : Nat} {q : Pt} {w : World} (h : PB b q w) (o : Obj) : PB b q (w.alloc o) := h.step ((Below.refl _ _).alloc (Nat.le_refl _) o)
theorem PB.grown {b : Nat} {q : Pt} {w w' : World} {row : Option Nat} (h : PB b q w) (hg : w.grownBy w' row) (hr : ∀ k, row = some k → k < b) : PB b q w' :=
  h.keep (hg.block b h.lt fun e => absurd (hr b e.symm) (Nat.lt_irrefl _)) hg.size
theorem PB.set5 {b : Nat} {q : Pt} {w : World} (h : PB b q w) (k a b' c' n' : Int) : PB b ⟨k, a, b', c', n'⟩ (((((w.setCell ⟨b, 0, none⟩ (.int .i64 k)).setCell ⟨b, 1, none⟩ (.int .i64 a)).setCell ⟨b, 2, none⟩ (.int .i64 b')).setCell ⟨b, 3, none⟩ (.int .i64 c')).setCell ⟨b, 4, none⟩ (.int .i64 n')) := by
  have o (w : World) (i j : Nat) (x : Value) (hij : i ≠ j) : (w.setCell ⟨b, i, none⟩ x).cell? ⟨b, j, none⟩ = w.cell? ⟨b, j, none⟩ := World.cell?_setCell_other _ _ _ _ (by intro e; cases e; exact hij rfl)
  have sm (w : World) (i : Nat) (x u : Value) (hu : w.cell? ⟨b, i, none⟩ = some u) : (w.setCell ⟨b, i, none⟩ x).cell? ⟨b, i, none⟩ = some x := World.cell?_setCell_same _ _ _ hu
  refine ⟨by simpa [World.setCell] using h.lt, ?_, ?_, ?_, ?_, ?_, fun j => ?_⟩
  · rw [o _ 4 0 _ (by decide), o _ 3 0 _ (by decide), o _ 2 0 _ (by decide), o _ 1 0 _ (by decide)]; exact sm _ 0 _ _ h.c0
  · rw [o _ 4 1 _ (by decide), o _ 3 1 _ (by decide), o _ 2 1 _ (by decide)]; exact sm _ 1 _ _ ((o _ 0 1 _ (by decide)).trans h.c1)
  · rw [o _ 4 2 _ (by decide), o _ 3 2 _ (by decide)]; exact sm _ 2 _ _ ((o _ 1 2 _ (by decide)).trans ((o _ 0 2 _ (by decide)).trans h.c2))
  · rw [o _ 4 3 _ (by decide)]; exact sm _ 3 _ _ ((o _ 2 3 _ (by decide)).trans ((o _ 1 3 _ (by decide)).trans ((o _ 0 3 _ (by decide)).trans h.c3)))
  · exact sm _ 4 _ _ ((o _ 3 4 _ (by decide)).trans ((o _ 2 4 _ (by decide)).trans ((o _ 1 4 _ (by decide)).trans ((o _ 0 4 _ (by decide)).trans h.c4))))
  · simp only [World.frozen?_setCell]; exact h.fz j
theorem Rdr.drew {g n c P : Nat} {A : Option Addr} {bs : List Int} {w : World} (h : Rdr g A n c bs P w) : Rdr g A n c bs P w.drew := ⟨h.lt, h.c0, h.pos, h.fz, h.by_⟩
def slcLen : Value → Nat
  | .slice _ n _ => n
  | _ => 0
/-- Returns a formula of some parts in fresh blocks; the reader has picked Q times at most. -/
def GfP (g : Nat) (A : Option Addr) (n c : Nat) (bs : List Int) (Q : Nat) (w : World) (e : Ending) (w' : World) : Prop :=
  ∃ (A' : Option Addr) (n' c' : Nat) (ps : List Pt), e = .returned (.agg #[.slice A' n' c']) ∧ n' = ps.length ∧ 1 ≤ n' ∧ n' ≤ 40 ∧ w'.ownsRow w.heap.size 70 5 (.slice A' n' c') n' (ps.flatMap Pt.cells) ∧ Rdr g A n c bs Q w' ∧ Tch g (g + 1) w w'
set_option maxRecDepth 100000 in
set_option maxHeartbeats 40000000 in
theorem goodFormula_any (g : Nat) (A : Option Addr) (n c : Nat) (bs : List Int) (P : Nat) (An : Option Addr) (l c' : Nat) (nodes : List Int) (w : World) (h : Rdr g A n c bs P w) (hn : n = bs.length) (hby : BY bs) (hs : n ≤ 2000) (hP : P ≤ 900000)
    (hl : l = nodes.length) (hl2 : l ≤ 1000) (hx : IS w w.heap.size An nodes) (hne : ∀ b' o', An = some ⟨b', o', none⟩ → b' ≠ g) :
    Calls Try.prog 41 #[.pointer (some ⟨g, 0, none⟩), .slice An l c'] w fun e w' => GfP g A n c bs (P + 200) w e w' := by
  obtain ⟨i1, hi1, hy0, hy1, hy2⟩ := info_parts info_part
  obtain ⟨i0, hi0, hz0, hz1, hz2⟩ := info_parts info_int
  have hgw := h.lt
  obtain ⟨s, hs0⟩ : ∃ s, s = w.heap.size := ⟨_, rfl⟩
  have HN := Lib.hid hn
  have HL := Lib.hid hl
  have HX := Lib.hid hx
  have HNE := Lib.hid hne
  have HR0 := Lib.hid ((((h.alloc (.cells #[.slice none 0 0] 39)).alloc (.cells #[.slice none 0 0] 39)).alloc (.cells #[] 3)).alloc (.cells #[.int .i64 3, .int .i64 4, .int .i64 5, .int .i64 6, .int .i64 2, .int .i64 1] 3))
  have hrow0 := World.ownsRow_lit (e := 3) (size := 1) (base := w.heap.size + 2) ((w.alloc (.cells #[.slice none 0 0] 39)).alloc (.cells #[.slice none 0 0] 39)) #[] 0 (by simp) (by unfold maxLen; omega) (by simp)
  have HROW := Lib.hid hrow0
  have hBW : Below w.heap.size w ((((w.alloc (.cells #[.slice none 0 0] 39)).alloc (.cells #[.slice none 0 0] 39)).alloc (.cells #[] 3)).alloc (.cells #[.int .i64 3, .int .i64 4, .int .i64 5, .int .i64 6, .int .i64 2, .int .i64 1] 3)) := ((((Below.refl _ _).alloc (Nat.le_refl _) _).alloc (by simp) _).alloc (by simp; omega) _).alloc (by simp; omega) _
  have HGI : Hid (GI g w.heap.size A n c bs An nodes w P none 0 0 [] (.slice (some ⟨w.heap.size + 1 + 1, 0, none⟩) 0 0) 0 [] ((((w.alloc (.cells #[.slice none 0 0] 39)).alloc (.cells #[.slice none 0 0] 39)).alloc (.cells #[] 3)).alloc (.cells #[.int .i64 3, .int .i64 4, .int .i64 5, .int .i64 6, .int .i64 2, .int .i64 1] 3))) :=
    ⟨hgw, Frd.of_below hBW (Nat.le_refl _), HR0.out, by simp, by go_simp, by go_simp, by go_simp, by go_simp, rfl, World.ownsRow_nil _ _ _ _, rfl, by simpa using HROW.out.alloc (.cells #[.int .i64 3, .int .i64 4, .int .i64 5, .int .i64 6, .int .i64 2, .int .i64 1] 3), hx.below hBW (Nat.le_refl _), hne⟩
  clear h hn hl hx hne hrow0 hBW HROW
  go_enter Try.func41, Try.ntmps41
  go_wp2_with fail
  refine (one_any g A n c bs P (w.heap.size + 3) 0 6 6 [3, 4, 5, 6, 2, 1] _ HR0.out HN.out hby hs (by omega) rfl (by omega) (by omega) ?_ (by omega) (by simp)).mono ?_
  · intro j hj
    have : j = 0 ∨ j = 1 ∨ j = 2 ∨ j = 3 ∨ j = 4 ∨ j = 5 := by omega
    rcases this with rfl | rfl | rfl | rfl | rfl | rfl <;> go_simp
  rintro e w1 ⟨x, rfl, hxm, hr1, ht1⟩
  obtain ⟨N, rfl, hN1, hN6⟩ : ∃ N : Nat, x = (N : Int) ∧ 1 ≤ N ∧ N ≤ 6 := by
    simp only [List.mem_cons, List.not_mem_nil, or_false] at hxm
    exact ⟨x.toNat, by omega, by omega, by omega⟩
  have HG1 := Lib.hid (HGI.out.pick hr1 ht1)
  clear hxm hr1 ht1 HGI HR0
  go_wp2
  go_loopw [6, 7] (fun v u wr => ∃ (k m no nf cf : Nat) (Af : Option Addr) (ps : List Pt) (xs : List Int), k + m = N ∧ u = .int .i64 k ∧ no ≤ m ∧ nf ≤ 2 * m ∧ Hid (GI g w.heap.size A n c bs An nodes w (P + 1 + 10 * m) Af nf cf ps v no xs wr)) (fun _ u _ => (intOf u).toNat)
  case atStart => exact ⟨N, 0, 0, 0, 0, none, [], [], by omega, rfl, Nat.le_refl _, Nat.zero_le _, HG1.out⟩
  case round =>
    obtain ⟨k, m, no, nf, cf, Af, ps, xs, hkm, rfl, hno, hnf, HG⟩ := hrel
    by_cases hk : 0 < k
    · have hPm : P + 1 + 10 * m ≤ 900100 := by omega
      obtain ⟨P1, hP1⟩ : ∃ P1, P1 = P + 1 + 10 * m := ⟨_, rfl⟩
      have HP1 := Lib.hid hP1
      rw [← hP1] at HG hPm
      clear hP1
      go_wp2_with fail
      refine (readPart_any g A n c bs P1 An l c' nodes _ HG.out.rd HN.out hby hs (by omega) HL.out hl2 (HG.out.nd.more (by have := HG.out.lt; omega)) HG.out.ng).mono ?_
      rintro e w2 ⟨q, rfl, hr2, ht2⟩
      have HGq := Lib.hid (HG.out.pick hr2 ht2)
      obtain ⟨b8, hb8⟩ : ∃ b8, b8 = w2.heap.size := ⟨_, rfl⟩
      have HB8 := Lib.hid hb8
      have HPB : Hid (PB b8 q (w2.alloc (.cells #[.int .i64 q.k, .int .i64 q.a, .int .i64 q.b, .int .i64 q.c, .int .i64 q.n] 70))) := by
        rw [hb8]; exact ⟨by simp, by go_simp, by go_simp, by go_simp, by go_simp, by go_simp, fun j => by go_simp⟩
      have HO8 : Hid ((∀ k, (Value.slice Af nf cf).ownBlock = some k → k < b8) ∧ (∀ k, u6.ownBlock = some k → k < b8)) := by
        rw [hb8]; exact ⟨fun k hk => (HGq.out.pr.lt k hk).2, fun k hk => (HGq.out.xr.lt k hk).2⟩
      have HG2 := Lib.hid (HGq.out.alloc (.cells #[.int .i64 q.k, .int .i64 q.a, .int .i64 q.b, .int .i64 q.c, .int .i64 q.n] 70))
      have hb8s : w.heap.size + 2 ≤ b8 := by rw [hb8]; exact HGq.out.lt
      clear hr2 ht2 HG HGq hb8
      go_wp2_with fail
      rw [← HB8.out]
      generalize w2.alloc (.cells #[.int .i64 q.k, .int .i64 q.a, .int .i64 q.b, .int .i64 q.c, .int .i64 q.n] 70) = W2 at *
      refine (pick_any g A n c bs (P1 + 1) 4 W2 HG2.out.rd HN.out hby hs (by omega) (by omega)).mono ?_
      rintro e w3 ⟨x3, rfl, _, _, hr3, ht3⟩
      have HG3 := Lib.hid (HG2.out.pick hr3 ht3)
      have HPB3 := Lib.hid (HPB.out.pick ht3 (by omega))
      clear hr3 ht3 HG2 HPB
      go_upto_if 25 with fail
      go_cut [] from 16 to 119 (fun wx => ∃ q' : Pt, Hid (PB b8 q' wx) ∧ Hid (GI g w.heap.size A n c bs An nodes w (P1 + 3) Af nf cf ps u6 no xs wx))
      case first =>
        cases hx3 : ((x3 : Int) == 0)
        · go_wp2_with fail
          go_meet
          exact ⟨q, HPB3.out, HG3.out.mono (by omega)⟩
        · obtain rfl : x3 = 0 := by simpa using hx3
          clear hx3
          have HG3a := Lib.hid (HG3.out.alloc (.cells #[.int .i64 0, .int .i64 1, .int .i64 2, .int .i64 5, .int .i64 99, .int .i64 10] 3))
          have HPB3a := Lib.hid (HPB3.out.alloc (.cells #[.int .i64 0, .int .i64 1, .int .i64 2, .int .i64 5, .int .i64 99, .int .i64 10] 3))
          go_wp2_with fail
          refine (one_any g A n c bs (P1 + 2) w3.heap.size 0 6 6 [0, 1, 2, 5, 99, 10] _ HG3a.out.rd HN.out hby hs (by omega) rfl (by omega) (by omega) ?_ (by have := HG3.out.rd.lt; omega) (by simp)).mono ?_
          · intro j hj
            have : j = 0 ∨ j = 1 ∨ j = 2 ∨ j = 3 ∨ j = 4 ∨ j = 5 := by omega
            rcases this with rfl | rfl | rfl | rfl | rfl | rfl <;> go_simp
          rintro e w4 ⟨y, rfl, _, hr4, ht4⟩
          have HG4 := Lib.hid (HG3a.out.pick hr4 ht4)
          have HPB4 := Lib.hid (HPB3a.out.pick ht4 (by omega))
          clear hr4 ht4 HG3a HPB3a
          go_wp2_with fail
          refine (spec_numberPart y _).mono ?_
          rintro e w5 ⟨rfl, hb5⟩
          have HG5 := Lib.hid (HG4.out.step hb5)
          have HPB5 := Lib.hid (HPB4.out.step hb5)
          have p0 := HPB5.out.c0
          have p1 := HPB5.out.c1
          have p2 := HPB5.out.c2
          have p3 := HPB5.out.c3
          have p4 := HPB5.out.c4
          have f0 := HPB5.out.fz 0
          have f1 := HPB5.out.fz 1
          have f2 := HPB5.out.fz 2
          have f3 := HPB5.out.fz 3
          have f4 := HPB5.out.fz 4
          clear hb5
          go_wp2_with fail
          go_meet
          exact ⟨⟨0, -1, -1, -1, y⟩, HPB5.out.set5 0 (-1) (-1) (-1) y, ((((HG5.out.poke hb8s HO8.out.1 HO8.out.2 0 _).poke hb8s HO8.out.1 HO8.out.2 1 _).poke hb8s HO8.out.1 HO8.out.2 2 _).poke hb8s HO8.out.1 HO8.out.2 3 _).poke hb8s HO8.out.1 HO8.out.2 4 _⟩
      case rest =>
        obtain ⟨q', HPB9, HG9⟩ := hcut
        have f0 := HG9.out.fb
        have z1 : w.heap.size + 1 < wc.heap.size := HG9.out.lt
        have HGa := Lib.hid (HG9.out.alloc (.cells #[.int .i64 nf] 3))
        have HPBa := Lib.hid (HPB9.out.alloc (.cells #[.int .i64 nf] 3))
        have hnb : no ≤ 6 := by omega
        clear HPB3 HG3
        go_wp2_with (at_builtin; refine wpList_append_own _ rfl _ _ 26 rfl (w.heap.size + 2) 3 i0 (.int .i64 0) 1 8 Try.underlying26 hi0 hz0 hz1 hz2 rfl (by decide) _ _ _ rfl HGa.out.xr ⟨_, 0, none⟩ 1 1 [.int .i64 nf] rfl rfl (cell_one_new _ _ _) ?c2 ?c3 ?c4 ?c5 ?_)
        case c2 => first | rfl | (intro u hu; simp at hu; subst hu; rfl)
        case c3 => unfold maxLen; omega
        case c4 => omega
        case c5 => first | omega | (simp; omega)
        intro v' w4 hown' hgrow _
        obtain ⟨Ao, co, rfl⟩ := row_form' hown'
        have HG4 := Lib.hid (HGa.out.opened (xs' := xs ++ [(nf : Int)]) HGa.out.xr hgrow (by simpa using hown') (by rw [List.length_append, ← HGa.out.xl]; rfl))
        have HPB4 := Lib.hid (HPBa.out.grown hgrow HO8.out.2)
        clear hown' hgrow HGa HPBa f0 z1 HPB9 HG9
        have f0 := HG4.out.fb
        have f1 := HG4.out.fz
        have z1 : w.heap.size + 1 < w4.heap.size := HG4.out.lt
        have z2 : b8 < w4.heap.size := HPB4.out.lt
        have p0 := HPB4.out.c0
        have p1 := HPB4.out.c1
        have p2 := HPB4.out.c2
        have p3 := HPB4.out.c3
        have p4 := HPB4.out.c4
        have HGb := Lib.hid (HG4.out.alloc (.cells #[.int .i64 q'.k, .int .i64 q'.a, .int .i64 q'.b, .int .i64 q'.c, .int .i64 q'.n] 70))
        go_wp2_with (at_builtin; refine wpList_append_own_at _ rfl _ _ 37 rfl (w.heap.size + 2) 70 i1 _ 5 40 Try.underlying37 hi1 hy0 hy1 hy2 rfl (by decide) _ _ _ rfl HGb.out.pr ⟨_, 0, none⟩ 1 1 q'.cells rfl rfl (cells_new _ _ _ _ rfl) ?d2 ?d3 ?d4 ?d5 ?_)
        case d2 => intro u hu; simp [Pt.cells] at hu; rcases hu with rfl | rfl | rfl | rfl | rfl <;> rfl
        case d3 => unfold maxLen; omega
        case d4 => omega
        case d5 => simp; omega
        intro v5 w5 hown5 hgrow5 _ _
        obtain ⟨A5, c5, rfl⟩ := row_form' hown5
        have hfr := HGb.out.frame hgrow5 fun k hk => (HGb.out.pr.lt k hk).1
        have z5 := hfr.2.2.1
        have e0 := hfr.2.2.2.2.2.1
        have e1 := hfr.2.2.2.2.2.2.1
        clear hfr
        have HG6 := Lib.hid (HGb.out.parted (Af' := A5) (nf' := nf + 1) (cf' := c5) (ps' := ps ++ [q']) hgrow5 (by simpa [List.flatMap_append] using hown5) (by rw [List.length_append, ← HGb.out.pl]; rfl))
        clear hown5 hgrow5 HGb HG4 HPB4 f0 f1 z1 z2 p0 p1 p2 p3 p4 HO8
        by_cases h3 : 3 ≤ no + 1
        · obtain ⟨j, rfl⟩ : ∃ j, no = j + 2 := ⟨no - 2, by omega⟩
          go_wp2_with fail
          generalize (w5.setCell ⟨w.heap.size + 1, 0, none⟩ (.slice A5 (nf + 1) c5)) = W6 at *
          refine (pick_any g A n c bs (P1 + 3) 2 W6 HG6.out.rd HN.out hby hs (by omega) (by omega)).mono ?_
          rintro e w7 ⟨x7, rfl, _, _, hr7, ht7⟩
          have HG7 := Lib.hid (HG6.out.pick hr7 ht7)
          clear hr7 ht7 HG6 h3
          by_cases hx7 : x7 = 0
          · subst hx7
            obtain ⟨go, cg, hov⟩ := row_pos HG7.out.xr (by omega)
            cases hov
            have f0 := HG7.out.fb
            have f1 := HG7.out.fz
            have z1 : w.heap.size + 1 < w7.heap.size := HG7.out.lt
            have hxl := HG7.out.xl
            have o0 := HG7.out.xr.cellAt j (by omega)
            have o1 := HG7.out.xr.cellAt (j + 1) (by omega)
            have o2 := HG7.out.xr.cellAt (j + 2) (by omega)
            rw [List.getElem?_map] at o0 o1 o2
            generalize hX : xs ++ [(nf : Int)] = X at *
            have HX2 := Lib.hid hX
            clear hX
            rw [List.getElem?_eq_getElem (by omega), Option.map_some] at o0 o1 o2
            generalize X[j]'_ = x0 at o0
            generalize X[j + 1]'_ = x1 at o1
            generalize X[j + 2]'_ = x2 at o2
            have HXL := Lib.hid hxl
            clear hxl
            have hgo := (HG7.out.xr.lt go rfl).2
            go_wp2_with fail
            have a3 : IntKind.i64.wrap ((j : Int) + 2 + 1 - 3) = (j : Int) := by rw [IntKind.wrap_i64]; omega
            have a2 : IntKind.i64.wrap ((j : Int) + 2 + 1 - 2) = (j : Int) + 1 := by rw [IntKind.wrap_i64]; omega
            have a1 : IntKind.i64.wrap ((j : Int) + 2 + 1 - 1) = (j : Int) + 2 := by rw [IntKind.wrap_i64]; omega
            have b3 : (j : Int) < (j : Int) + 2 + 1 := by omega
            have b2 : (j : Int) + 1 < (j : Int) + 2 + 1 := by omega
            have b1 : (j : Int) + 2 < (j : Int) + 2 + 1 := by omega
            have b0 : 0 ≤ (j : Int) + 1 := by omega
            have b00 : 0 ≤ (j : Int) + 2 := by omega
            have a1' : IntKind.i64.wrap ((j : Int) + 2) = (j : Int) + 2 := by rw [IntKind.wrap_i64]; omega
            have a2' : IntKind.i64.wrap ((j : Int) + 1) = (j : Int) + 1 := by rw [IntKind.wrap_i64]; omega
            have t1 : ((j : Int) + 1).toNat = j + 1 := by omega
            have t2 : ((j : Int) + 2).toNat = j + 2 := by omega
            have HGc := Lib.hid (HG7.out.alloc (.cells #[.int .i64 8, .int .i64 x0, .int .i64 x1, .int .i64 x2, .int .i64 0] 70))
            have hX0 := (HG7.out.xr.cellAt j (by omega)).symm.trans o0
            have hX1 := (HG7.out.xr.cellAt (j + 1) (by omega)).symm.trans o1
            have hX2 := (HG7.out.xr.cellAt (j + 2) (by omega)).symm.trans o2
            have HXX := Lib.hid (And.intro hX0 (And.intro hX1 hX2))
            clear hX0 hX1 hX2
            have hgo2 := (HG7.out.xr.lt go rfl).1
            have hnb1 : ∀ q : Nat, (⟨w.heap.size + 1, 0, none⟩ : Addr) ≠ ⟨go, q, none⟩ := fun q e => by have := congrArg Addr.block e; simp at this; omega
            have q0 := (World.cell?_alloc_lt w7 (.cells #[.int .i64 8, .int .i64 x0, .int .i64 x1, .int .i64 x2, .int .i64 0] 70) ⟨go, j, none⟩ hgo).trans o0
            have q1 := (World.cell?_alloc_lt w7 (.cells #[.int .i64 8, .int .i64 x0, .int .i64 x1, .int .i64 x2, .int .i64 0] 70) ⟨go, j + 1, none⟩ hgo).trans o1
            have q2 := (World.cell?_alloc_lt w7 (.cells #[.int .i64 8, .int .i64 x0, .int .i64 x1, .int .i64 x2, .int .i64 0] 70) ⟨go, j + 2, none⟩ hgo).trans o2
            refine wp_region_held_drew (S := (fun w' => w'.cell? ⟨go, j, none⟩ = some (.int .i64 x0) ∧ w'.cell? ⟨go, j + 1, none⟩ = some (.int .i64 x1) ∧ w'.cell? ⟨go, j + 2, none⟩ = some (.int .i64 x2))) (by kernel_rfl) ⟨o0, o1, o2⟩ (fun hHeld => ?_)
            refine wpAnyH_take (i := 0) (oi := ⟨some 52, _, _, _, _, _⟩) (v := ?_) rfl (by kernel_rfl) (by kernel_rfl) (by kernel_rfl) (fun _ _ _ h => h) (Or.inl ⟨by rfl, ?_⟩) (by assumption) ?_; rotate_left; (focus (intro w hSw; (try dsimp only at hSw); go_simp; (try with_reducible rfl))); (try simp only [Act.put, List.setIfInBounds_toArray, List.set_cons_zero, List.set_cons_succ])
            refine wpAnyH_take (i := 2) (oi := ⟨some 54, _, _, _, _, _⟩) (v := ?_) rfl (by kernel_rfl) (by kernel_rfl) (by kernel_rfl) (fun _ _ _ h => h) (Or.inl ⟨by rfl, ?_⟩) (by assumption) ?_; rotate_left; (focus (intro w hSw; (try dsimp only at hSw); go_simp; (try with_reducible rfl))); (try simp only [Act.put, List.setIfInBounds_toArray, List.set_cons_zero, List.set_cons_succ])
            refine wpAnyH_take (i := 3) (oi := ⟨some 55, _, _, _, _, _⟩) (v := ?_) rfl (by kernel_rfl) (by kernel_rfl) (by kernel_rfl) (fun _ _ _ h => h) (Or.inl ⟨by rfl, ?_⟩) (by assumption) ?_; rotate_left; (focus (intro w hSw; (try dsimp only at hSw); go_simp; (try with_reducible rfl))); (try simp only [Act.put, List.setIfInBounds_toArray, List.set_cons_zero, List.set_cons_succ])
            refine wpAnyH_take (i := 4) (oi := ⟨some 56, _, _, _, _, _⟩) (v := ?_) rfl (by kernel_rfl) (by kernel_rfl) (by kernel_rfl) (fun _ _ _ h => h) (Or.inl ⟨by rfl, ?_⟩) (by assumption) ?_; rotate_left; (focus (intro w hSw; (try dsimp only at hSw); go_simp; (try with_reducible rfl))); (try simp only [Act.put, List.setIfInBounds_toArray, List.set_cons_zero, List.set_cons_succ])
            refine wpAnyH_take (i := 5) (oi := ⟨some 57, _, _, _, _, _⟩) (v := ?_) rfl (by kernel_rfl) (by kernel_rfl) (by kernel_rfl) (fun _ _ _ h => h) (Or.inl ⟨by rfl, ?_⟩) (by assumption) ?_; rotate_left; (focus (intro w hSw; (try dsimp only at hSw); go_simp; (try with_reducible rfl))); (try simp only [Act.put, List.setIfInBounds_toArray, List.set_cons_zero, List.set_cons_succ])
            refine wpAnyH_take (i := 6) (oi := ⟨some 58, _, _, _, _, _⟩) (v := ?_) rfl (by kernel_rfl) (by kernel_rfl) (by kernel_rfl) (fun _ _ _ h => h) (Or.inl ⟨by rfl, ?_⟩) (by assumption) ?_; rotate_left; (focus (intro w hSw; (try dsimp only at hSw); go_simp; (try with_reducible rfl))); (try simp only [Act.put, List.setIfInBounds_toArray, List.set_cons_zero, List.set_cons_succ])
            refine wpAnyH_take (i := 7) (oi := ⟨some 59, _, _, _, _, _⟩) (v := ?_) rfl (by kernel_rfl) (by kernel_rfl) (by kernel_rfl) (fun _ _ _ h => h) (Or.inl ⟨by rfl, ?_⟩) (by assumption) ?_; rotate_left; (focus (intro w hSw; (try dsimp only at hSw); go_simp; (try with_reducible rfl))); (try simp only [Act.put, List.setIfInBounds_toArray, List.set_cons_zero, List.set_cons_succ])
            refine wpAnyH_take (i := 8) (oi := ⟨some 60, _, _, _, _, _⟩) (v := ?_) rfl (by kernel_rfl) (by kernel_rfl) (by kernel_rfl) (fun _ _ _ h => h) (Or.inl ⟨by rfl, ?_⟩) (by assumption) ?_; rotate_left; (focus (intro w hSw; (try dsimp only at hSw); go_simp; (try with_reducible rfl))); (try simp only [Act.put, List.setIfInBounds_toArray, List.set_cons_zero, List.set_cons_succ])
            refine wpAnyH_take (i := 9) (oi := ⟨some 61, _, _, _, _, _⟩) (v := ?_) rfl (by kernel_rfl) (by kernel_rfl) (by kernel_rfl) (fun _ _ _ h => h) (Or.inl ⟨by rfl, ?_⟩) (by assumption) ?_; rotate_left; (focus (intro w hSw; (try dsimp only at hSw); go_simp; (try with_reducible rfl))); (try simp only [Act.put, List.setIfInBounds_toArray, List.set_cons_zero, List.set_cons_succ])
            refine wpAnyH_take (i := 10) (oi := ⟨some 62, _, _, _, _, _⟩) (v := ?_) rfl (by kernel_rfl) (by kernel_rfl) (by kernel_rfl) (fun _ _ _ h => h) (Or.inl ⟨by rfl, ?_⟩) (by assumption) ?_; rotate_left; (focus (intro w hSw; (try dsimp only at hSw); go_simp; (try with_reducible rfl))); (try simp only [Act.put, List.setIfInBounds_toArray, List.set_cons_zero, List.set_cons_succ])
            refine wpAnyH_take (i := 11) (oi := ⟨some 63, _, _, _, _, _⟩) (v := ?_) rfl (by kernel_rfl) (by kernel_rfl) (by kernel_rfl) (fun _ _ _ h => h) (Or.inl ⟨by rfl, ?_⟩) (by assumption) ?_; rotate_left; (focus (intro w hSw; (try dsimp only at hSw); go_simp; (try with_reducible rfl))); (try simp only [Act.put, List.setIfInBounds_toArray, List.set_cons_zero, List.set_cons_succ])
            refine wpAnyH_take (i := 12) (oi := ⟨some 64, _, _, _, _, _⟩) (v := ?_) rfl (by kernel_rfl) (by kernel_rfl) (by kernel_rfl) (fun _ _ _ h => h) (Or.inl ⟨by rfl, ?_⟩) (by assumption) ?_; rotate_left; (focus (intro w hSw; (try dsimp only at hSw); go_simp; (try with_reducible rfl))); (try simp only [Act.put, List.setIfInBounds_toArray, List.set_cons_zero, List.set_cons_succ])
            refine wpAnyH_take (i := 13) (oi := ⟨some 65, _, _, _, _, _⟩) (v := ?_) rfl (by kernel_rfl) (by kernel_rfl) (by kernel_rfl) (fun _ _ _ h => h) (Or.inl ⟨by rfl, ?_⟩) (by assumption) ?_; rotate_left; (focus (intro w hSw; (try dsimp only at hSw); go_simp; (try with_reducible rfl))); (try simp only [Act.put, List.setIfInBounds_toArray, List.set_cons_zero, List.set_cons_succ])
            refine wpAnyH_take (i := 14) (oi := ⟨some 66, _, _, _, _, _⟩) (v := ?_) rfl (by kernel_rfl) (by kernel_rfl) (by kernel_rfl) (fun _ _ _ h => h) (Or.inl ⟨by rfl, ?_⟩) (by assumption) ?_; rotate_left; (focus (intro w hSw; (try dsimp only at hSw); go_simp; (try with_reducible rfl))); (try simp only [Act.put, List.setIfInBounds_toArray, List.set_cons_zero, List.set_cons_succ])
            refine wpAnyH_take (i := 15) (oi := ⟨some 67, _, _, _, _, _⟩) (v := ?_) rfl (by kernel_rfl) (by kernel_rfl) (by kernel_rfl) (fun _ _ _ h => h) (Or.inl ⟨by rfl, ?_⟩) (by assumption) ?_; rotate_left; (focus (intro w hSw; (try dsimp only at hSw); go_simp; (try with_reducible rfl))); (try simp only [Act.put, List.setIfInBounds_toArray, List.set_cons_zero, List.set_cons_succ])
            refine wpAnyH_take (i := 16) (oi := ⟨some 68, _, _, _, _, _⟩) (v := ?_) rfl (by kernel_rfl) (by kernel_rfl) (by kernel_rfl) (fun _ _ _ h => h) (Or.inl ⟨by rfl, ?_⟩) (by assumption) ?_; rotate_left; (focus (intro w hSw; (try dsimp only at hSw); go_simp; (try with_reducible rfl))); (try simp only [Act.put, List.setIfInBounds_toArray, List.set_cons_zero, List.set_cons_succ])
            refine wpAnyH_take (i := 17) (oi := ⟨some 69, _, _, _, _, _⟩) (v := ?_) rfl (by kernel_rfl) (by kernel_rfl) (by kernel_rfl) (fun _ _ _ h => h) (Or.inl ⟨by rfl, ?_⟩) (by assumption) ?_; rotate_left; (focus (intro w hSw; (try dsimp only at hSw); go_simp; (try with_reducible rfl))); (try simp only [Act.put, List.setIfInBounds_toArray, List.set_cons_zero, List.set_cons_succ])
            refine wpAnyH_ready (rs := [1, 18]) (by kernel_rfl) (by simp) ?_; refine AllReadyH.cons (o := ⟨some 53, _, _, _, _, _⟩) rfl (fun K hK => ?_) (AllReadyH.cons (o := ⟨some 70, _, _, _, _, _⟩) rfl (fun K hK => ?_) AllReadyH.nil)
            go_simp
            refine hK.out _ _ ⟨o0, o1, o2⟩ (fun hHeld => ?_); clear hK K; (try simp only [Act.put, List.setIfInBounds_toArray, List.set_cons_zero, List.set_cons_succ])
            refine wpAnyH_ready (rs := [18]) (by kernel_rfl) (by simp) ?_; refine AllReadyH.cons (o := ⟨some 70, _, _, _, _, _⟩) rfl (fun K hK => ?_) AllReadyH.nil; go_simp
            refine hK.out _ _ ⟨q0, q1, q2⟩ (fun hHeld => ?_); clear hK K; (try simp only [Act.put, List.setIfInBounds_toArray, List.set_cons_zero, List.set_cons_succ])
            refine wpAnyH_ready (rs := [19]) (by kernel_rfl) (by simp) ?_; refine AllReadyH.cons (o := ⟨some 71, _, _, _, _, _⟩) rfl (fun K hK => ?_) AllReadyH.nil
            refine step_append_lies _ (by rfl) _ _ _ (by rfl) (w.heap.size + 2) 70 i1 _ 5 40 Try.underlying37 hi1 hy0 hy1 hy2 rfl (by omega) (.slice A5 (nf + 1) c5) (nf + 1) _ (by rfl) HGc.out.pr ⟨w7.heap.size, 0, none⟩ 1 1 [.int .i64 8, .int .i64 x0, .int .i64 x1, .int .i64 x2, .int .i64 0] (by rfl) (by rfl) (cells_new _ _ _ _ rfl) (by simp [Value.oneCell']) (by omega) (by unfold maxLen; omega) (by omega) (by simp; omega) (w7.heap.size + 1) (by simp) ?_
            intro gg cap w8 hown8 hgrow8 hat8 hlt8
            have hgr8 : (w7.alloc (.cells #[.int .i64 8, .int .i64 x0, .int .i64 x1, .int .i64 x2, .int .i64 0] 70)).grownBy w8 (Value.slice A5 (nf + 1) c5).ownBlock := ⟨hgrow8.os, hgrow8.tape, hgrow8.output, hgrow8.size, hgrow8.block⟩
            have hfr8 := HGc.out.frame hgr8 fun k hk => (HGc.out.pr.lt k hk).1
            have z8 := hfr8.2.2.1
            have g0 := hfr8.2.2.2.2.2.1
            have g1 := hfr8.2.2.2.2.2.2.1
            clear hfr8
            have hxr8 := HGc.out.xr.kept hgr8 (blocks_ne HGc.out.xr HGc.out.pr int_ne_part)
            have s0 := (hxr8.cellAt j (by omega)).trans HXX.out.1
            have s1 := (hxr8.cellAt (j + 1) (by omega)).trans HXX.out.2.1
            have s2 := (hxr8.cellAt (j + 2) (by omega)).trans HXX.out.2.2
            clear hxr8
            refine hK.out _ _ ⟨s0, s1, s2⟩ (fun hHeld => ?_); clear hK K; (try simp only [Act.put, List.setIfInBounds_toArray, List.set_cons_zero, List.set_cons_succ])
            refine wpAnyH_take (i := 20) (oi := ⟨some 72, _, _, _, _, _⟩) (v := ?_) rfl (by kernel_rfl) (by kernel_rfl) (by kernel_rfl) (fun _ _ _ h => h) (Or.inl ⟨by rfl, ?_⟩) (by assumption) ?_; rotate_left; (focus (intro w hSw; (try dsimp only at hSw); go_simp; (try with_reducible rfl))); (try simp only [Act.put, List.setIfInBounds_toArray, List.set_cons_zero, List.set_cons_succ])
            refine wpAnyH_ready (rs := [21]) (by kernel_rfl) (by simp) ?_; refine AllReadyH.cons (o := ⟨none, _, _, _, _, _⟩) rfl (fun K hK => ?_) AllReadyH.nil; go_simp
            refine hK.out _ _ ⟨(World.cell?_setCell_other _ _ _ _ (hnb1 _)).trans s0, (World.cell?_setCell_other _ _ _ _ (hnb1 _)).trans s1, (World.cell?_setCell_other _ _ _ _ (hnb1 _)).trans s2⟩ (fun hHeld => ?_); clear hK K; (try simp only [Act.put, List.setIfInBounds_toArray, List.set_cons_zero, List.set_cons_succ])
            refine wpAnyH_done (by kernel_rfl) ?_ _
            rotate_left
            go_simp
            refine hK.out _ _ ⟨q0, q1, q2⟩ (fun hHeld => ?_); clear hK K; (try simp only [Act.put, List.setIfInBounds_toArray, List.set_cons_zero, List.set_cons_succ])
            refine wpAnyH_ready (rs := [1]) (by kernel_rfl) (by simp) ?_; refine AllReadyH.cons (o := ⟨some 53, _, _, _, _, _⟩) rfl (fun K hK => ?_) AllReadyH.nil; go_simp
            refine hK.out _ _ ⟨q0, q1, q2⟩ (fun hHeld => ?_); clear hK K; (try simp only [Act.put, List.setIfInBounds_toArray, List.set_cons_zero, List.set_cons_succ])
            refine wpAnyH_ready (rs := [19]) (by kernel_rfl) (by simp) ?_; refine AllReadyH.cons (o := ⟨some 71, _, _, _, _, _⟩) rfl (fun K hK => ?_) AllReadyH.nil
            refine step_append_lies _ (by rfl) _ _ _ (by rfl) (w.heap.size + 2) 70 i1 _ 5 40 Try.underlying37 hi1 hy0 hy1 hy2 rfl (by omega) (.slice A5 (nf + 1) c5) (nf + 1) _ (by rfl) HGc.out.pr ⟨w7.heap.size, 0, none⟩ 1 1 [.int .i64 8, .int .i64 x0, .int .i64 x1, .int .i64 x2, .int .i64 0] (by rfl) (by rfl) (cells_new _ _ _ _ rfl) (by simp [Value.oneCell']) (by omega) (by unfold maxLen; omega) (by omega) (by simp; omega) (w7.heap.size + 1) (by simp) ?_
            intro gg cap w8 hown8 hgrow8 hat8 hlt8
            have hgr8 : (w7.alloc (.cells #[.int .i64 8, .int .i64 x0, .int .i64 x1, .int .i64 x2, .int .i64 0] 70)).grownBy w8 (Value.slice A5 (nf + 1) c5).ownBlock := ⟨hgrow8.os, hgrow8.tape, hgrow8.output, hgrow8.size, hgrow8.block⟩
            have hfr8 := HGc.out.frame hgr8 fun k hk => (HGc.out.pr.lt k hk).1
            have z8 := hfr8.2.2.1
            have g0 := hfr8.2.2.2.2.2.1
            have g1 := hfr8.2.2.2.2.2.2.1
            clear hfr8
            have hxr8 := HGc.out.xr.kept hgr8 (blocks_ne HGc.out.xr HGc.out.pr int_ne_part)
            have s0 := (hxr8.cellAt j (by omega)).trans HXX.out.1
            have s1 := (hxr8.cellAt (j + 1) (by omega)).trans HXX.out.2.1
            have s2 := (hxr8.cellAt (j + 2) (by omega)).trans HXX.out.2.2
            clear hxr8
            refine hK.out _ _ ⟨s0, s1, s2⟩ (fun hHeld => ?_); clear hK K; (try simp only [Act.put, List.setIfInBounds_toArray, List.set_cons_zero, List.set_cons_succ])
            refine wpAnyH_take (i := 20) (oi := ⟨some 72, _, _, _, _, _⟩) (v := ?_) rfl (by kernel_rfl) (by kernel_rfl) (by kernel_rfl) (fun _ _ _ h => h) (Or.inl ⟨by rfl, ?_⟩) (by assumption) ?_; rotate_left; (focus (intro w hSw; (try dsimp only at hSw); go_simp; (try with_reducible rfl))); (try simp only [Act.put, List.setIfInBounds_toArray, List.set_cons_zero, List.set_cons_succ])
            refine wpAnyH_ready (rs := [21]) (by kernel_rfl) (by simp) ?_; refine AllReadyH.cons (o := ⟨none, _, _, _, _, _⟩) rfl (fun K hK => ?_) AllReadyH.nil; go_simp
            refine hK.out _ _ ⟨(World.cell?_setCell_other _ _ _ _ (hnb1 _)).trans s0, (World.cell?_setCell_other _ _ _ _ (hnb1 _)).trans s1, (World.cell?_setCell_other _ _ _ _ (hnb1 _)).trans s2⟩ (fun hHeld => ?_); clear hK K; (try simp only [Act.put, List.setIfInBounds_toArray, List.set_cons_zero, List.set_cons_succ])
            refine wpAnyH_done (by kernel_rfl) ?_ _
            all_goals
              have HG8 := Lib.hid (HGc.out.parted (Af' := some ⟨gg, 0, none⟩) (nf' := nf + 1 + 1) (cf' := cap) (ps' := (ps ++ [q']) ++ [⟨8, x0, x1, x2, 0⟩]) hgr8 (by rw [List.flatMap_append]; exact hown8) (by rw [List.length_append, ← HGc.out.pl]; rfl))
              have HXL8 := Lib.hid (HXL.out)
              clear hown8 hgrow8 hgr8 hat8 hlt8 z8 g0 g1 s0 s1 s2 q0 q1 q2 o0 o1 o2 f0 f1 z1 HGc HG7 HXX
              go_wp2_with fail
              generalize (w8.setCell ⟨w.heap.size + 1, 0, none⟩ (.slice (some ⟨gg, 0, none⟩) (nf + 1 + 1) cap)) = W8 at *
              have f8 := HG8.out.fb
              have z8 : w.heap.size + 1 < W8.heap.size := HG8.out.lt
              have n1 : IntKind.i64.wrap ((nf : Int) + 1 + 1 - 1) = (nf : Int) + 1 := by rw [IntKind.wrap_i64]; omega
              have n2 : IntKind.i64.wrap ((nf : Int) + 1) = (nf : Int) + 1 := by rw [IntKind.wrap_i64]; omega
              have f8' := (World.cell?_alloc_lt W8 (.cells #[.int .i64 ((nf : Int) + 1)] 3) ⟨w.heap.size + 1, 0, none⟩ z8).trans f8
              have HG9 := Lib.hid (HG8.out.alloc (.cells #[.int .i64 ((nf : Int) + 1)] 3))
              have hcg : j + 2 + 1 ≤ co := by
                rcases HG8.out.xr.2 with ⟨h', _⟩ | ⟨g', cap', cur, h', _, _, hnc, _⟩
                · simp at h'
                · simp at h'
                  omega
              have hcg1 : (j : Int) ≤ (co : Int) := by omega
              have hcg0 : (0 : Int) ≤ (j : Int) := by omega
              go_region_held3 (fun w' => w'.cell? ⟨w.heap.size + 1, 0, none⟩ = some (.slice (some ⟨gg, 0, none⟩) (nf + 1 + 1) cap)) (first | exact f8 | exact f8' | exact f9)
                (first
                  | (refine step_append_lies _ (by rfl) _ _ _ (by rfl) (w.heap.size + 2) 3 i0 (.int .i64 0) 1 8 Try.underlying26 hi0 hz0 hz1 hz2 rfl (by omega) (.slice (some ⟨go, 0, none⟩) j co) j _ (by rfl) (own_shrink HG9.out.xr (by omega)) ⟨W8.heap.size, 0, none⟩ 1 1 [.int .i64 ((nf : Int) + 1)] (by rfl) (by rfl) (cell_one_new _ _ _) (by simp [Value.oneCell']) (by omega) (by unfold maxLen; omega) (by omega) (by simp; omega) W8.heap.size.succ (by simp) ?_; intro gh cah w9 hown9 hgrow9' hat9 hlt9; have hgrow9 : (W8.alloc (.cells #[.int .i64 ((nf : Int) + 1)] 3)).grownBy w9 (Value.slice (some ⟨go, 0, none⟩) j co).ownBlock := ⟨hgrow9'.os, hgrow9'.tape, hgrow9'.output, hgrow9'.size, hgrow9'.block⟩; have HGA := Lib.hid (HG9.out.opened (xs' := X.take j ++ [(nf : Int) + 1]) (own_shrink HG9.out.xr (by omega : j ≤ j + 2 + 1)) hgrow9 (by first | (simpa using hown9) | (simpa [List.map_take] using hown9) | (rw [List.map_append, List.map_take]; exact hown9)) (by have := HXL8.out; rw [List.length_append, List.length_take]; show _ = _ + 1; omega)); have f9 := HGA.out.fb))
              clear f8 f8' f9 hgrow9 hgrow9' hown9 hat9 hlt9 HG8 HG9 z8 n1 n2
              go_wp2_with fail
              go_roundw
              case rel => exact ⟨k - 1, m + 1, j + 1, nf + 1 + 1, cap, _, _, _, by omega, by go_num, by omega, by omega, (show GI _ _ _ _ _ _ _ _ _ _ _ _ _ _ _ _ _ _ from HGA.out.mono (by have := HP1.out; omega))⟩
              case measure => simp [intOf]; omega
          · have hx7' : ¬ (x7 : Int) = 0 := by omega
            go_wp2_with fail
            refine (pick_any g A n c bs (P1 + 4) 2 _ HG7.out.rd HN.out hby hs (by omega) (by omega)).mono ?_
            rintro e wz ⟨xz, rfl, _, _, hrz, htz⟩
            have HGz := Lib.hid (HG7.out.pick hrz htz)
            clear hrz htz HG7
            by_cases hxz : xz = 0
            · subst hxz
              obtain ⟨go, cg, hov⟩ := row_pos HGz.out.xr (by omega)
              cases hov
              have f0 := HGz.out.fb
              have f1 := HGz.out.fz
              have z1 : w.heap.size + 1 < wz.heap.size := HGz.out.lt
              have hxl := HGz.out.xl
              have o0 := HGz.out.xr.cellAt (j + 1) (by omega)
              have o1 := HGz.out.xr.cellAt (j + 2) (by omega)
              rw [List.getElem?_map] at o0 o1
              generalize hX : xs ++ [(nf : Int)] = X at *
              have HX2 := Lib.hid hX
              clear hX
              rw [List.getElem?_eq_getElem (by omega), Option.map_some] at o0 o1
              generalize X[j + 1]'_ = x0 at o0
              generalize X[j + 2]'_ = x1 at o1
              have HXL := Lib.hid hxl
              clear hxl
              have hgo := (HGz.out.xr.lt go rfl).2
              have hgo2 := (HGz.out.xr.lt go rfl).1
              go_wp2_with fail
              have a2 : IntKind.i64.wrap (((j : Int) + 2 + 1) - 2) = ((j : Int) + 1) := by rw [IntKind.wrap_i64]; omega
              have a1 : IntKind.i64.wrap (((j : Int) + 2 + 1) - 1) = ((j : Int) + 2) := by rw [IntKind.wrap_i64]; omega
              have a2' : IntKind.i64.wrap (((j : Int) + 1)) = ((j : Int) + 1) := by rw [IntKind.wrap_i64]; omega
              have a1' : IntKind.i64.wrap (((j : Int) + 2)) = ((j : Int) + 2) := by rw [IntKind.wrap_i64]; omega
              have b2 : ((j : Int) + 1) < ((j : Int) + 2 + 1) := by omega
              have b1 : ((j : Int) + 2) < ((j : Int) + 2 + 1) := by omega
              have b0 : 0 ≤ ((j : Int) + 1) := by omega
              have b00 : 0 ≤ ((j : Int) + 2) := by omega
              have t1 : (((j : Int) + 1)).toNat = j + 1 := by omega
              have t2 : (((j : Int) + 2)).toNat = j + 2 := by omega
              have HXX := Lib.hid (And.intro ((HGz.out.xr.cellAt (j + 1) (by omega)).symm.trans o0) ((HGz.out.xr.cellAt (j + 2) (by omega)).symm.trans o1))
              have hnb1 : ∀ q : Nat, (⟨w.heap.size + 1, 0, none⟩ : Addr) ≠ ⟨go, q, none⟩ := fun q e => by have := congrArg Addr.block e; simp at this; omega
              refine wp_region_held_drew (S := (fun w' => w'.cell? ⟨go, j + 1, none⟩ = some (.int .i64 x0) ∧ w'.cell? ⟨go, j + 2, none⟩ = some (.int .i64 x1))) (by kernel_rfl) ⟨o0, o1⟩ (fun hHeld => ?_)
              refine wpAnyH_take (i := 0) (oi := ⟨some 91, _, _, _, _, _⟩) (v := ?_) rfl (by kernel_rfl) (by kernel_rfl) (by kernel_rfl) (fun _ _ _ h => h) (Or.inl ⟨by rfl, ?_⟩) (by assumption) ?_; rotate_left; (focus (intro w hSw; (try dsimp only at hSw); go_simp; (try with_reducible rfl))); (try simp only [Act.put, List.setIfInBounds_toArray, List.set_cons_zero, List.set_cons_succ])
              refine wpAnyH_take (i := 2) (oi := ⟨some 93, _, _, _, _, _⟩) (v := ?_) rfl (by kernel_rfl) (by kernel_rfl) (by kernel_rfl) (fun _ _ _ h => h) (Or.inl ⟨by rfl, ?_⟩) (by assumption) ?_; rotate_left; (focus (intro w hSw; (try dsimp only at hSw); go_simp; (try with_reducible rfl))); (try simp only [Act.put, List.setIfInBounds_toArray, List.set_cons_zero, List.set_cons_succ])
              refine wpAnyH_take (i := 5) (oi := ⟨some 96, _, _, _, _, _⟩) (v := ?_) rfl (by kernel_rfl) (by kernel_rfl) (by kernel_rfl) (fun _ _ _ h => h) (Or.inl ⟨by rfl, ?_⟩) (by assumption) ?_; rotate_left; (focus (intro w hSw; (try dsimp only at hSw); go_simp; (try with_reducible rfl))); (try simp only [Act.put, List.setIfInBounds_toArray, List.set_cons_zero, List.set_cons_succ])
              refine wpAnyH_take (i := 6) (oi := ⟨some 97, _, _, _, _, _⟩) (v := ?_) rfl (by kernel_rfl) (by kernel_rfl) (by kernel_rfl) (fun _ _ _ h => h) (Or.inl ⟨by rfl, ?_⟩) (by assumption) ?_; rotate_left; (focus (intro w hSw; (try dsimp only at hSw); go_simp; (try with_reducible rfl))); (try simp only [Act.put, List.setIfInBounds_toArray, List.set_cons_zero, List.set_cons_succ])
              refine wpAnyH_take (i := 7) (oi := ⟨some 98, _, _, _, _, _⟩) (v := ?_) rfl (by kernel_rfl) (by kernel_rfl) (by kernel_rfl) (fun _ _ _ h => h) (Or.inl ⟨by rfl, ?_⟩) (by assumption) ?_; rotate_left; (focus (intro w hSw; (try dsimp only at hSw); go_simp; (try with_reducible rfl))); (try simp only [Act.put, List.setIfInBounds_toArray, List.set_cons_zero, List.set_cons_succ])
              refine wpAnyH_take (i := 8) (oi := ⟨some 99, _, _, _, _, _⟩) (v := ?_) rfl (by kernel_rfl) (by kernel_rfl) (by kernel_rfl) (fun _ _ _ h => h) (Or.inl ⟨by rfl, ?_⟩) (by assumption) ?_; rotate_left; (focus (intro w hSw; (try dsimp only at hSw); go_simp; (try with_reducible rfl))); (try simp only [Act.put, List.setIfInBounds_toArray, List.set_cons_zero, List.set_cons_succ])
              refine wpAnyH_take (i := 9) (oi := ⟨some 100, _, _, _, _, _⟩) (v := ?_) rfl (by kernel_rfl) (by kernel_rfl) (by kernel_rfl) (fun _ _ _ h => h) (Or.inl ⟨by rfl, ?_⟩) (by assumption) ?_; rotate_left; (focus (intro w hSw; (try dsimp only at hSw); go_simp; (try with_reducible rfl))); (try simp only [Act.put, List.setIfInBounds_toArray, List.set_cons_zero, List.set_cons_succ])
              refine wpAnyH_take (i := 10) (oi := ⟨some 101, _, _, _, _, _⟩) (v := ?_) rfl (by kernel_rfl) (by kernel_rfl) (by kernel_rfl) (fun _ _ _ h => h) (Or.inl ⟨by rfl, ?_⟩) (by assumption) ?_; rotate_left; (focus (intro w hSw; (try dsimp only at hSw); go_simp; (try with_reducible rfl))); (try simp only [Act.put, List.setIfInBounds_toArray, List.set_cons_zero, List.set_cons_succ])
              refine wpAnyH_take (i := 11) (oi := ⟨some 102, _, _, _, _, _⟩) (v := ?_) rfl (by kernel_rfl) (by kernel_rfl) (by kernel_rfl) (fun _ _ _ h => h) (Or.inl ⟨by rfl, ?_⟩) (by assumption) ?_; rotate_left; (focus (intro w hSw; (try dsimp only at hSw); go_simp; (try with_reducible rfl))); (try simp only [Act.put, List.setIfInBounds_toArray, List.set_cons_zero, List.set_cons_succ])
              refine wpAnyH_take (i := 12) (oi := ⟨some 103, _, _, _, _, _⟩) (v := ?_) rfl (by kernel_rfl) (by kernel_rfl) (by kernel_rfl) (fun _ _ _ h => h) (Or.inl ⟨by rfl, ?_⟩) (by assumption) ?_; rotate_left; (focus (intro w hSw; (try dsimp only at hSw); go_simp; (try with_reducible rfl))); (try simp only [Act.put, List.setIfInBounds_toArray, List.set_cons_zero, List.set_cons_succ])
              refine wpAnyH_take (i := 13) (oi := ⟨some 104, _, _, _, _, _⟩) (v := ?_) rfl (by kernel_rfl) (by kernel_rfl) (by kernel_rfl) (fun _ _ _ h => h) (Or.inl ⟨by rfl, ?_⟩) (by assumption) ?_; rotate_left; (focus (intro w hSw; (try dsimp only at hSw); go_simp; (try with_reducible rfl))); (try simp only [Act.put, List.setIfInBounds_toArray, List.set_cons_zero, List.set_cons_succ])
              refine wpAnyH_take (i := 14) (oi := ⟨some 105, _, _, _, _, _⟩) (v := ?_) rfl (by kernel_rfl) (by kernel_rfl) (by kernel_rfl) (fun _ _ _ h => h) (Or.inl ⟨by rfl, ?_⟩) (by assumption) ?_; rotate_left; (focus (intro w hSw; (try dsimp only at hSw); go_simp; (try with_reducible rfl))); (try simp only [Act.put, List.setIfInBounds_toArray, List.set_cons_zero, List.set_cons_succ])
              refine wpAnyH_ready (rs := [1, 3]) (by kernel_rfl) (by simp) ?_; refine AllReadyH.cons (o := ⟨some 92, _, _, _, _, _⟩) rfl (fun K hK => ?_) (AllReadyH.cons (o := ⟨some 94, _, _, _, _, _⟩) rfl (fun K hK => ?_) AllReadyH.nil)
              go_simp
              refine hK.out _ _ ⟨o0, o1⟩ (fun hHeld => ?_); clear hK K; (try simp only [Act.put, List.setIfInBounds_toArray, List.set_cons_zero, List.set_cons_succ])
              refine wpAnyH_ready (rs := [3]) (by kernel_rfl) (by simp) ?_; refine AllReadyH.cons (o := ⟨some 94, _, _, _, _, _⟩) rfl (fun K hK => ?_) AllReadyH.nil; go_simp
              go_at_call 39
              refine (pick_any g A n c bs (P1 + 4 + 1) 6 _ ?_ HN.out hby hs ?_ ?_).mono ?_
              (first | exact HGz.out.rd | exact HGz.out.rd.drew)
              omega
              omega
              rintro e w8 ⟨x8, rfl, hx8', _, hr8, ht8'⟩
              have hx8 : (x8 : Int) < 6 := hx8' (by omega)
              have ht8 : Tch g (g + 1) wz w8 := ⟨ht8'.os, ht8'.tape, ht8'.output, ht8'.size, ht8'.block⟩
              have HGP := Lib.hid (HGz.out.pick hr8 ht8)
              have p0 := (HGP.out.xr.cellAt (j + 1) (by omega)).trans HXX.out.1
              have p1 := (HGP.out.xr.cellAt (j + 2) (by omega)).trans HXX.out.2
              have g0 := HGP.out.fb
              have g1 := HGP.out.fz
              have z8 : w.heap.size + 1 < w8.heap.size := HGP.out.lt
              have hgo8 := (HGP.out.xr.lt go rfl).2
              have a8 : IntKind.i64.wrap (2 + (x8 : Int)) = 2 + (x8 : Int) := (by rw [IntKind.wrap_i64]; omega)
              have q0 := (World.cell?_alloc_lt w8 (.cells #[.int .i64 (2 + (x8 : Int)), .int .i64 x0, .int .i64 x1, .int .i64 (-1), .int .i64 0] 70) ⟨go, j + 1, none⟩ hgo8).trans p0
              have q1 := (World.cell?_alloc_lt w8 (.cells #[.int .i64 (2 + (x8 : Int)), .int .i64 x0, .int .i64 x1, .int .i64 (-1), .int .i64 0] 70) ⟨go, j + 2, none⟩ hgo8).trans p1
              have HGc := Lib.hid (HGP.out.alloc (.cells #[.int .i64 (2 + (x8 : Int)), .int .i64 x0, .int .i64 x1, .int .i64 (-1), .int .i64 0] 70))
              clear hx8' hr8 ht8'
              refine hK.out _ _ ⟨p0, p1⟩ (fun hHeld => ?_); clear hK K; (try simp only [Act.put, List.setIfInBounds_toArray, List.set_cons_zero, List.set_cons_succ])
              refine wpAnyH_take (i := 4) (oi := ⟨some 95, _, _, _, _, _⟩) (v := ?_) rfl (by kernel_rfl) (by kernel_rfl) (by kernel_rfl) (fun _ _ _ h => h) (Or.inl ⟨by rfl, ?_⟩) (by assumption) ?_; rotate_left; (focus (intro w hSw; (try dsimp only at hSw); go_simp; (try with_reducible rfl))); (try simp only [Act.put, List.setIfInBounds_toArray, List.set_cons_zero, List.set_cons_succ])
              refine wpAnyH_take (i := 15) (oi := ⟨some 106, _, _, _, _, _⟩) (v := ?_) rfl (by kernel_rfl) (by kernel_rfl) (by kernel_rfl) (fun _ _ _ h => h) (Or.inl ⟨by rfl, ?_⟩) (by assumption) ?_; rotate_left; (focus (intro w hSw; (try dsimp only at hSw); go_simp; (try with_reducible rfl))); (try simp only [Act.put, List.setIfInBounds_toArray, List.set_cons_zero, List.set_cons_succ])
              refine wpAnyH_ready (rs := [16]) (by kernel_rfl) (by simp) ?_; refine AllReadyH.cons (o := ⟨some 107, _, _, _, _, _⟩) rfl (fun K hK => ?_) AllReadyH.nil; go_simp
              refine hK.out _ _ ⟨q0, q1⟩ (fun hHeld => ?_); clear hK K; (try simp only [Act.put, List.setIfInBounds_toArray, List.set_cons_zero, List.set_cons_succ])
              refine wpAnyH_ready (rs := [17]) (by kernel_rfl) (by simp) ?_; refine AllReadyH.cons (o := ⟨some 108, _, _, _, _, _⟩) rfl (fun K hK => ?_) AllReadyH.nil
              refine step_append_lies _ (by rfl) _ _ _ (by rfl) (w.heap.size + 2) 70 i1 _ 5 40 Try.underlying37 hi1 hy0 hy1 hy2 rfl (by omega) (.slice A5 (nf + 1) c5) (nf + 1) _ (by rfl) HGc.out.pr ⟨w8.heap.size, 0, none⟩ 1 1 [.int .i64 (2 + (x8 : Int)), .int .i64 x0, .int .i64 x1, .int .i64 (-1), .int .i64 0] (by rfl) (by rfl) (cells_new _ _ _ _ rfl) (by simp [Value.oneCell']) (by omega) (by unfold maxLen; omega) (by omega) (by simp; omega) (w8.heap.size + 1) (by simp) ?_
              intro gg cap w9 hown9 hgrow9 hat9 hlt9
              have hgr9 : (w8.alloc (.cells #[.int .i64 (2 + (x8 : Int)), .int .i64 x0, .int .i64 x1, .int .i64 (-1), .int .i64 0] 70)).grownBy w9 (Value.slice A5 (nf + 1) c5).ownBlock := ⟨hgrow9.os, hgrow9.tape, hgrow9.output, hgrow9.size, hgrow9.block⟩
              have hfr9 := HGc.out.frame hgr9 fun k hk => (HGc.out.pr.lt k hk).1
              have z9 := hfr9.2.2.1
              have h0 := hfr9.2.2.2.2.2.1
              have h1 := hfr9.2.2.2.2.2.2.1
              clear hfr9
              have hxr9 := HGc.out.xr.kept hgr9 (blocks_ne HGc.out.xr HGc.out.pr int_ne_part)
              have s0 := (hxr9.cellAt (j + 1) (by omega)).trans HXX.out.1
              have s1 := (hxr9.cellAt (j + 2) (by omega)).trans HXX.out.2
              clear hxr9
              refine hK.out _ _ ⟨s0, s1⟩ (fun hHeld => ?_); clear hK K; (try simp only [Act.put, List.setIfInBounds_toArray, List.set_cons_zero, List.set_cons_succ])
              refine wpAnyH_take (i := 18) (oi := ⟨some 109, _, _, _, _, _⟩) (v := ?_) rfl (by kernel_rfl) (by kernel_rfl) (by kernel_rfl) (fun _ _ _ h => h) (Or.inl ⟨by rfl, ?_⟩) (by assumption) ?_; rotate_left; (focus (intro w hSw; (try dsimp only at hSw); go_simp; (try with_reducible rfl))); (try simp only [Act.put, List.setIfInBounds_toArray, List.set_cons_zero, List.set_cons_succ])
              refine wpAnyH_ready (rs := [19]) (by kernel_rfl) (by simp) ?_; refine AllReadyH.cons (o := ⟨none, _, _, _, _, _⟩) rfl (fun K hK => ?_) AllReadyH.nil; go_simp
              refine hK.out _ _ ⟨(World.cell?_setCell_other _ _ _ _ (hnb1 _)).trans s0, (World.cell?_setCell_other _ _ _ _ (hnb1 _)).trans s1⟩ (fun hHeld => ?_); clear hK K; (try simp only [Act.put, List.setIfInBounds_toArray, List.set_cons_zero, List.set_cons_succ])
              refine wpAnyH_done (by kernel_rfl) ?_ _
              rotate_left
              go_simp
              go_at_call 39
              refine (pick_any g A n c bs (P1 + 4 + 1) 6 _ ?_ HN.out hby hs ?_ ?_).mono ?_
              (first | exact HGz.out.rd | exact HGz.out.rd.drew)
              omega
              omega
              rintro e w8 ⟨x8, rfl, hx8', _, hr8, ht8'⟩
              have hx8 : (x8 : Int) < 6 := hx8' (by omega)
              have ht8 : Tch g (g + 1) wz w8 := ⟨ht8'.os, ht8'.tape, ht8'.output, ht8'.size, ht8'.block⟩
              have HGP := Lib.hid (HGz.out.pick hr8 ht8)
              have p0 := (HGP.out.xr.cellAt (j + 1) (by omega)).trans HXX.out.1
              have p1 := (HGP.out.xr.cellAt (j + 2) (by omega)).trans HXX.out.2
              have g0 := HGP.out.fb
              have g1 := HGP.out.fz
              have z8 : w.heap.size + 1 < w8.heap.size := HGP.out.lt
              have hgo8 := (HGP.out.xr.lt go rfl).2
              have a8 : IntKind.i64.wrap (2 + (x8 : Int)) = 2 + (x8 : Int) := (by rw [IntKind.wrap_i64]; omega)
              have q0 := (World.cell?_alloc_lt w8 (.cells #[.int .i64 (2 + (x8 : Int)), .int .i64 x0, .int .i64 x1, .int .i64 (-1), .int .i64 0] 70) ⟨go, j + 1, none⟩ hgo8).trans p0
              have q1 := (World.cell?_alloc_lt w8 (.cells #[.int .i64 (2 + (x8 : Int)), .int .i64 x0, .int .i64 x1, .int .i64 (-1), .int .i64 0] 70) ⟨go, j + 2, none⟩ hgo8).trans p1
              have HGc := Lib.hid (HGP.out.alloc (.cells #[.int .i64 (2 + (x8 : Int)), .int .i64 x0, .int .i64 x1, .int .i64 (-1), .int .i64 0] 70))
              clear hx8' hr8 ht8'
              refine hK.out _ _ ⟨p0, p1⟩ (fun hHeld => ?_); clear hK K; (try simp only [Act.put, List.setIfInBounds_toArray, List.set_cons_zero, List.set_cons_succ])
              refine wpAnyH_take (i := 4) (oi := ⟨some 95, _, _, _, _, _⟩) (v := ?_) rfl (by kernel_rfl) (by kernel_rfl) (by kernel_rfl) (fun _ _ _ h => h) (Or.inl ⟨by rfl, ?_⟩) (by assumption) ?_; rotate_left; (focus (intro w hSw; (try dsimp only at hSw); go_simp; (try with_reducible rfl))); (try simp only [Act.put, List.setIfInBounds_toArray, List.set_cons_zero, List.set_cons_succ])
              refine wpAnyH_take (i := 15) (oi := ⟨some 106, _, _, _, _, _⟩) (v := ?_) rfl (by kernel_rfl) (by kernel_rfl) (by kernel_rfl) (fun _ _ _ h => h) (Or.inl ⟨by rfl, ?_⟩) (by assumption) ?_; rotate_left; (focus (intro w hSw; (try dsimp only at hSw); go_simp; (try with_reducible rfl))); (try simp only [Act.put, List.setIfInBounds_toArray, List.set_cons_zero, List.set_cons_succ])
              refine wpAnyH_ready (rs := [1, 16]) (by kernel_rfl) (by simp) ?_; refine AllReadyH.cons (o := ⟨some 92, _, _, _, _, _⟩) rfl (fun K hK => ?_) (AllReadyH.cons (o := ⟨some 107, _, _, _, _, _⟩) rfl (fun K hK => ?_) AllReadyH.nil)
              go_simp
              refine hK.out _ _ ⟨p0, p1⟩ (fun hHeld => ?_); clear hK K; (try simp only [Act.put, List.setIfInBounds_toArray, List.set_cons_zero, List.set_cons_succ])
              refine wpAnyH_ready (rs := [16]) (by kernel_rfl) (by simp) ?_; refine AllReadyH.cons (o := ⟨some 107, _, _, _, _, _⟩) rfl (fun K hK => ?_) AllReadyH.nil; go_simp
              refine hK.out _ _ ⟨q0, q1⟩ (fun hHeld => ?_); clear hK K; (try simp only [Act.put, List.setIfInBounds_toArray, List.set_cons_zero, List.set_cons_succ])
              refine wpAnyH_ready (rs := [17]) (by kernel_rfl) (by simp) ?_; refine AllReadyH.cons (o := ⟨some 108, _, _, _, _, _⟩) rfl (fun K hK => ?_) AllReadyH.nil
              refine step_append_lies _ (by rfl) _ _ _ (by rfl) (w.heap.size + 2) 70 i1 _ 5 40 Try.underlying37 hi1 hy0 hy1 hy2 rfl (by omega) (.slice A5 (nf + 1) c5) (nf + 1) _ (by rfl) HGc.out.pr ⟨w8.heap.size, 0, none⟩ 1 1 [.int .i64 (2 + (x8 : Int)), .int .i64 x0, .int .i64 x1, .int .i64 (-1), .int .i64 0] (by rfl) (by rfl) (cells_new _ _ _ _ rfl) (by simp [Value.oneCell']) (by omega) (by unfold maxLen; omega) (by omega) (by simp; omega) (w8.heap.size + 1) (by simp) ?_
              intro gg cap w9 hown9 hgrow9 hat9 hlt9
              have hgr9 : (w8.alloc (.cells #[.int .i64 (2 + (x8 : Int)), .int .i64 x0, .int .i64 x1, .int .i64 (-1), .int .i64 0] 70)).grownBy w9 (Value.slice A5 (nf + 1) c5).ownBlock := ⟨hgrow9.os, hgrow9.tape, hgrow9.output, hgrow9.size, hgrow9.block⟩
              have hfr9 := HGc.out.frame hgr9 fun k hk => (HGc.out.pr.lt k hk).1
              have z9 := hfr9.2.2.1
              have h0 := hfr9.2.2.2.2.2.1
              have h1 := hfr9.2.2.2.2.2.2.1
              clear hfr9
              have hxr9 := HGc.out.xr.kept hgr9 (blocks_ne HGc.out.xr HGc.out.pr int_ne_part)
              have s0 := (hxr9.cellAt (j + 1) (by omega)).trans HXX.out.1
              have s1 := (hxr9.cellAt (j + 2) (by omega)).trans HXX.out.2
              clear hxr9
              refine hK.out _ _ ⟨s0, s1⟩ (fun hHeld => ?_); clear hK K; (try simp only [Act.put, List.setIfInBounds_toArray, List.set_cons_zero, List.set_cons_succ])
              refine wpAnyH_take (i := 18) (oi := ⟨some 109, _, _, _, _, _⟩) (v := ?_) rfl (by kernel_rfl) (by kernel_rfl) (by kernel_rfl) (fun _ _ _ h => h) (Or.inl ⟨by rfl, ?_⟩) (by assumption) ?_; rotate_left; (focus (intro w hSw; (try dsimp only at hSw); go_simp; (try with_reducible rfl))); (try simp only [Act.put, List.setIfInBounds_toArray, List.set_cons_zero, List.set_cons_succ])
              refine wpAnyH_ready (rs := [19]) (by kernel_rfl) (by simp) ?_; refine AllReadyH.cons (o := ⟨none, _, _, _, _, _⟩) rfl (fun K hK => ?_) AllReadyH.nil; go_simp
              refine hK.out _ _ ⟨(World.cell?_setCell_other _ _ _ _ (hnb1 _)).trans s0, (World.cell?_setCell_other _ _ _ _ (hnb1 _)).trans s1⟩ (fun hHeld => ?_); clear hK K; (try simp only [Act.put, List.setIfInBounds_toArray, List.set_cons_zero, List.set_cons_succ])
              refine wpAnyH_done (by kernel_rfl) ?_ _
              rotate_left
              go_simp
              refine hK.out _ _ ⟨q0, q1⟩ (fun hHeld => ?_); clear hK K; (try simp only [Act.put, List.setIfInBounds_toArray, List.set_cons_zero, List.set_cons_succ])
              refine wpAnyH_ready (rs := [1]) (by kernel_rfl) (by simp) ?_; refine AllReadyH.cons (o := ⟨some 92, _, _, _, _, _⟩) rfl (fun K hK => ?_) AllReadyH.nil; go_simp
              refine hK.out _ _ ⟨q0, q1⟩ (fun hHeld => ?_); clear hK K; (try simp only [Act.put, List.setIfInBounds_toArray, List.set_cons_zero, List.set_cons_succ])
              refine wpAnyH_ready (rs := [17]) (by kernel_rfl) (by simp) ?_; refine AllReadyH.cons (o := ⟨some 108, _, _, _, _, _⟩) rfl (fun K hK => ?_) AllReadyH.nil
              refine step_append_lies _ (by rfl) _ _ _ (by rfl) (w.heap.size + 2) 70 i1 _ 5 40 Try.underlying37 hi1 hy0 hy1 hy2 rfl (by omega) (.slice A5 (nf + 1) c5) (nf + 1) _ (by rfl) HGc.out.pr ⟨w8.heap.size, 0, none⟩ 1 1 [.int .i64 (2 + (x8 : Int)), .int .i64 x0, .int .i64 x1, .int .i64 (-1), .int .i64 0] (by rfl) (by rfl) (cells_new _ _ _ _ rfl) (by simp [Value.oneCell']) (by omega) (by unfold maxLen; omega) (by omega) (by simp; omega) (w8.heap.size + 1) (by simp) ?_
              intro gg cap w9 hown9 hgrow9 hat9 hlt9
              have hgr9 : (w8.alloc (.cells #[.int .i64 (2 + (x8 : Int)), .int .i64 x0, .int .i64 x1, .int .i64 (-1), .int .i64 0] 70)).grownBy w9 (Value.slice A5 (nf + 1) c5).ownBlock := ⟨hgrow9.os, hgrow9.tape, hgrow9.output, hgrow9.size, hgrow9.block⟩
              have hfr9 := HGc.out.frame hgr9 fun k hk => (HGc.out.pr.lt k hk).1
              have z9 := hfr9.2.2.1
              have h0 := hfr9.2.2.2.2.2.1
              have h1 := hfr9.2.2.2.2.2.2.1
              clear hfr9
              have hxr9 := HGc.out.xr.kept hgr9 (blocks_ne HGc.out.xr HGc.out.pr int_ne_part)
              have s0 := (hxr9.cellAt (j + 1) (by omega)).trans HXX.out.1
              have s1 := (hxr9.cellAt (j + 2) (by omega)).trans HXX.out.2
              clear hxr9
              refine hK.out _ _ ⟨s0, s1⟩ (fun hHeld => ?_); clear hK K; (try simp only [Act.put, List.setIfInBounds_toArray, List.set_cons_zero, List.set_cons_succ])
              refine wpAnyH_take (i := 18) (oi := ⟨some 109, _, _, _, _, _⟩) (v := ?_) rfl (by kernel_rfl) (by kernel_rfl) (by kernel_rfl) (fun _ _ _ h => h) (Or.inl ⟨by rfl, ?_⟩) (by assumption) ?_; rotate_left; (focus (intro w hSw; (try dsimp only at hSw); go_simp; (try with_reducible rfl))); (try simp only [Act.put, List.setIfInBounds_toArray, List.set_cons_zero, List.set_cons_succ])
              refine wpAnyH_ready (rs := [19]) (by kernel_rfl) (by simp) ?_; refine AllReadyH.cons (o := ⟨none, _, _, _, _, _⟩) rfl (fun K hK => ?_) AllReadyH.nil; go_simp
              refine hK.out _ _ ⟨(World.cell?_setCell_other _ _ _ _ (hnb1 _)).trans s0, (World.cell?_setCell_other _ _ _ _ (hnb1 _)).trans s1⟩ (fun hHeld => ?_); clear hK K; (try simp only [Act.put, List.setIfInBounds_toArray, List.set_cons_zero, List.set_cons_succ])
              refine wpAnyH_done (by kernel_rfl) ?_ _
              all_goals
                have HG8 := Lib.hid (HGc.out.parted (Af' := some ⟨gg, 0, none⟩) (nf' := nf + 1 + 1) (cf' := cap) (ps' := (ps ++ [q']) ++ [⟨2 + (x8 : Int), x0, x1, -1, 0⟩]) hgr9 (by rw [List.flatMap_append]; exact hown9) (by rw [List.length_append, ← HGc.out.pl]; rfl))
                have HXL8 := Lib.hid (HXL.out)
                clear hown9 hgrow9 hgr9 hat9 hlt9 z9 h0 h1 s0 s1 q0 q1 p0 p1 o0 o1 g0 g1 f0 f1 z1 z8 HGc HGP HGz HXX a8
                go_wp2_with fail
                generalize (w9.setCell ⟨w.heap.size + 1, 0, none⟩ (.slice (some ⟨gg, 0, none⟩) (nf + 1 + 1) cap)) = W8 at *
                have f8 := HG8.out.fb
                have z8 : w.heap.size + 1 < W8.heap.size := HG8.out.lt
                have n1 : IntKind.i64.wrap (((nf : Int) + 1) + 1 - 1) = ((nf : Int) + 1) := by rw [IntKind.wrap_i64]; omega
                have n2 : IntKind.i64.wrap (((nf : Int) + 1)) = ((nf : Int) + 1) := by rw [IntKind.wrap_i64]; omega
                have f8' := (World.cell?_alloc_lt W8 (.cells #[.int .i64 (((nf : Int) + 1))] 3) ⟨w.heap.size + 1, 0, none⟩ z8).trans f8
                have HG9 := Lib.hid (HG8.out.alloc (.cells #[.int .i64 (((nf : Int) + 1))] 3))
                have hcg : j + 2 + 1 ≤ co := by
                  rcases HG8.out.xr.2 with ⟨h', _⟩ | ⟨g', cap', cur, h', _, _, hnc, _⟩
                  · simp at h'
                  · simp at h'
                    omega
                have hcg1 : ((j : Int) + 1) ≤ (co : Int) := by omega
                go_region_held3 (fun w' => w'.cell? ⟨w.heap.size + 1, 0, none⟩ = some (.slice (some ⟨gg, 0, none⟩) (nf + 1 + 1) cap)) (first | exact f8 | exact f8' | exact f9)
                  (first
                    | (refine step_append_lies _ (by rfl) _ _ _ (by rfl) (w.heap.size + 2) 3 i0 (.int .i64 0) 1 8 Try.underlying26 hi0 hz0 hz1 hz2 rfl (by omega) (.slice (some ⟨go, 0, none⟩) (j + 1) co) (j + 1) _ (by rfl) (own_shrink HG9.out.xr (by omega)) ⟨W8.heap.size, 0, none⟩ 1 1 [.int .i64 (((nf : Int) + 1))] (by rfl) (by rfl) (cell_one_new _ _ _) (by simp [Value.oneCell']) (by omega) (by unfold maxLen; omega) (by omega) (by simp; omega) W8.heap.size.succ (by simp) ?_; intro gh cah w10 hown10 hgrow10' hat10 hlt10; have hgrow10 : (W8.alloc (.cells #[.int .i64 (((nf : Int) + 1))] 3)).grownBy w10 (Value.slice (some ⟨go, 0, none⟩) (j + 1) co).ownBlock := ⟨hgrow10'.os, hgrow10'.tape, hgrow10'.output, hgrow10'.size, hgrow10'.block⟩; have HGA := Lib.hid (HG9.out.opened (xs' := X.take (j + 1) ++ [((nf : Int) + 1)]) (own_shrink HG9.out.xr (by omega : j + 1 ≤ j + 2 + 1)) hgrow10 (by first | (simpa using hown10) | (simpa [List.map_take] using hown10) | (rw [List.map_append, List.map_take]; exact hown10)) (by have := HXL8.out; rw [List.length_append, List.length_take]; show _ = _ + 1; omega)); have f9 := HGA.out.fb))
                clear f8 f8' f9 hgrow10 hgrow10' hown10 hat10 hlt10 HG8 HG9 z8 n1 n2 a1 a2 a1' a2' t1 t2
                go_wp2_with fail
                go_roundw
                case rel => exact ⟨k - 1, m + 1, j + 1 + 1, nf + 1 + 1, cap, _, _, _, by omega, by go_num, by omega, by omega, (show GI _ _ _ _ _ _ _ _ _ _ _ _ _ _ _ _ _ _ from HGA.out.mono (by have := HP1.out; omega))⟩
                case measure => simp [intOf]; omega
            · go_wp2_with fail
              go_roundw
              case rel => exact ⟨k - 1, m + 1, j + 2 + 1, nf + 1, c5, A5, _, _, by omega, by go_num, by omega, by omega, (show GI _ _ _ _ _ _ _ _ _ _ _ _ _ _ _ _ _ _ from HGz.out.mono (by have := HP1.out; omega))⟩
              case measure => simp [intOf]; omega
        · by_cases h2 : 2 ≤ no + 1
          · obtain ⟨j, rfl⟩ : ∃ j, no = j + 1 := ⟨no - 1, by omega⟩
            go_wp2_with fail
            generalize (w5.setCell ⟨w.heap.size + 1, 0, none⟩ (.slice A5 (nf + 1) c5)) = W6 at *
            refine (pick_any g A n c bs (P1 + 3) 2 W6 HG6.out.rd HN.out hby hs (by omega) (by omega)).mono ?_
            rintro e wz ⟨xz, rfl, _, _, hrz, htz⟩
            have HGz := Lib.hid (HG6.out.pick hrz htz)
            clear hrz htz HG6
            by_cases hxz : xz = 0
            · subst hxz
              obtain ⟨go, cg, hov⟩ := row_pos HGz.out.xr (by omega)
              cases hov
              have f0 := HGz.out.fb
              have f1 := HGz.out.fz
              have z1 : w.heap.size + 1 < wz.heap.size := HGz.out.lt
              have hxl := HGz.out.xl
              have o0 := HGz.out.xr.cellAt (j) (by omega)
              have o1 := HGz.out.xr.cellAt (j + 1) (by omega)
              rw [List.getElem?_map] at o0 o1
              generalize hX : xs ++ [(nf : Int)] = X at *
              have HX2 := Lib.hid hX
              clear hX
              rw [List.getElem?_eq_getElem (by omega), Option.map_some] at o0 o1
              generalize X[j]'_ = x0 at o0
              generalize X[j + 1]'_ = x1 at o1
              have HXL := Lib.hid hxl
              clear hxl
              have hgo := (HGz.out.xr.lt go rfl).2
              have hgo2 := (HGz.out.xr.lt go rfl).1
              go_wp2_with fail
              have a2 : IntKind.i64.wrap (((j : Int) + 1 + 1) - 2) = (j : Int) := by rw [IntKind.wrap_i64]; omega
              have a1 : IntKind.i64.wrap (((j : Int) + 1 + 1) - 1) = ((j : Int) + 1) := by rw [IntKind.wrap_i64]; omega
              have a2' : IntKind.i64.wrap ((j : Int)) = (j : Int) := by rw [IntKind.wrap_i64]; omega
              have a1' : IntKind.i64.wrap (((j : Int) + 1)) = ((j : Int) + 1) := by rw [IntKind.wrap_i64]; omega
              have b2 : (j : Int) < ((j : Int) + 1 + 1) := by omega
              have b1 : ((j : Int) + 1) < ((j : Int) + 1 + 1) := by omega
              have b0 : 0 ≤ (j : Int) := by omega
              have b00 : 0 ≤ ((j : Int) + 1) := by omega
              have t1 : ((j : Int)).toNat = j := by omega
              have t2 : (((j : Int) + 1)).toNat = j + 1 := by omega
              have HXX := Lib.hid (And.intro ((HGz.out.xr.cellAt (j) (by omega)).symm.trans o0) ((HGz.out.xr.cellAt (j + 1) (by omega)).symm.trans o1))
              have hnb1 : ∀ q : Nat, (⟨w.heap.size + 1, 0, none⟩ : Addr) ≠ ⟨go, q, none⟩ := fun q e => by have := congrArg Addr.block e; simp at this; omega
              refine wp_region_held_drew (S := (fun w' => w'.cell? ⟨go, j, none⟩ = some (.int .i64 x0) ∧ w'.cell? ⟨go, j + 1, none⟩ = some (.int .i64 x1))) (by kernel_rfl) ⟨o0, o1⟩ (fun hHeld => ?_)
              refine wpAnyH_take (i := 0) (oi := ⟨some 91, _, _, _, _, _⟩) (v := ?_) rfl (by kernel_rfl) (by kernel_rfl) (by kernel_rfl) (fun _ _ _ h => h) (Or.inl ⟨by rfl, ?_⟩) (by assumption) ?_; rotate_left; (focus (intro w hSw; (try dsimp only at hSw); go_simp; (try with_reducible rfl))); (try simp only [Act.put, List.setIfInBounds_toArray, List.set_cons_zero, List.set_cons_succ])
              refine wpAnyH_take (i := 2) (oi := ⟨some 93, _, _, _, _, _⟩) (v := ?_) rfl (by kernel_rfl) (by kernel_rfl) (by kernel_rfl) (fun _ _ _ h => h) (Or.inl ⟨by rfl, ?_⟩) (by assumption) ?_; rotate_left; (focus (intro w hSw; (try dsimp only at hSw); go_simp; (try with_reducible rfl))); (try simp only [Act.put, List.setIfInBounds_toArray, List.set_cons_zero, List.set_cons_succ])
              refine wpAnyH_take (i := 5) (oi := ⟨some 96, _, _, _, _, _⟩) (v := ?_) rfl (by kernel_rfl) (by kernel_rfl) (by kernel_rfl) (fun _ _ _ h => h) (Or.inl ⟨by rfl, ?_⟩) (by assumption) ?_; rotate_left; (focus (intro w hSw; (try dsimp only at hSw); go_simp; (try with_reducible rfl))); (try simp only [Act.put, List.setIfInBounds_toArray, List.set_cons_zero, List.set_cons_succ])
              refine wpAnyH_take (i := 6) (oi := ⟨some 97, _, _, _, _, _⟩) (v := ?_) rfl (by kernel_rfl) (by kernel_rfl) (by kernel_rfl) (fun _ _ _ h => h) (Or.inl ⟨by rfl, ?_⟩) (by assumption) ?_; rotate_left; (focus (intro w hSw; (try dsimp only at hSw); go_simp; (try with_reducible rfl))); (try simp only [Act.put, List.setIfInBounds_toArray, List.set_cons_zero, List.set_cons_succ])
              refine wpAnyH_take (i := 7) (oi := ⟨some 98, _, _, _, _, _⟩) (v := ?_) rfl (by kernel_rfl) (by kernel_rfl) (by kernel_rfl) (fun _ _ _ h => h) (Or.inl ⟨by rfl, ?_⟩) (by assumption) ?_; rotate_left; (focus (intro w hSw; (try dsimp only at hSw); go_simp; (try with_reducible rfl))); (try simp only [Act.put, List.setIfInBounds_toArray, List.set_cons_zero, List.set_cons_succ])
              refine wpAnyH_take (i := 8) (oi := ⟨some 99, _, _, _, _, _⟩) (v := ?_) rfl (by kernel_rfl) (by kernel_rfl) (by kernel_rfl) (fun _ _ _ h => h) (Or.inl ⟨by rfl, ?_⟩) (by assumption) ?_; rotate_left; (focus (intro w hSw; (try dsimp only at hSw); go_simp; (try with_reducible rfl))); (try simp only [Act.put, List.setIfInBounds_toArray, List.set_cons_zero, List.set_cons_succ])
              refine wpAnyH_take (i := 9) (oi := ⟨some 100, _, _, _, _, _⟩) (v := ?_) rfl (by kernel_rfl) (by kernel_rfl) (by kernel_rfl) (fun _ _ _ h => h) (Or.inl ⟨by rfl, ?_⟩) (by assumption) ?_; rotate_left; (focus (intro w hSw; (try dsimp only at hSw); go_simp; (try with_reducible rfl))); (try simp only [Act.put, List.setIfInBounds_toArray, List.set_cons_zero, List.set_cons_succ])
              refine wpAnyH_take (i := 10) (oi := ⟨some 101, _, _, _, _, _⟩) (v := ?_) rfl (by kernel_rfl) (by kernel_rfl) (by kernel_rfl) (fun _ _ _ h => h) (Or.inl ⟨by rfl, ?_⟩) (by assumption) ?_; rotate_left; (focus (intro w hSw; (try dsimp only at hSw); go_simp; (try with_reducible rfl))); (try simp only [Act.put, List.setIfInBounds_toArray, List.set_cons_zero, List.set_cons_succ])
              refine wpAnyH_take (i := 11) (oi := ⟨some 102, _, _, _, _, _⟩) (v := ?_) rfl (by kernel_rfl) (by kernel_rfl) (by kernel_rfl) (fun _ _ _ h => h) (Or.inl ⟨by rfl, ?_⟩) (by assumption) ?_; rotate_left; (focus (intro w hSw; (try dsimp only at hSw); go_simp; (try with_reducible rfl))); (try simp only [Act.put, List.setIfInBounds_toArray, List.set_cons_zero, List.set_cons_succ])
              refine wpAnyH_take (i := 12) (oi := ⟨some 103, _, _, _, _, _⟩) (v := ?_) rfl (by kernel_rfl) (by kernel_rfl) (by kernel_rfl) (fun _ _ _ h => h) (Or.inl ⟨by rfl, ?_⟩) (by assumption) ?_; rotate_left; (focus (intro w hSw; (try dsimp only at hSw); go_simp; (try with_reducible rfl))); (try simp only [Act.put, List.setIfInBounds_toArray, List.set_cons_zero, List.set_cons_succ])
              refine wpAnyH_take (i := 13) (oi := ⟨some 104, _, _, _, _, _⟩) (v := ?_) rfl (by kernel_rfl) (by kernel_rfl) (by kernel_rfl) (fun _ _ _ h => h) (Or.inl ⟨by rfl, ?_⟩) (by assumption) ?_; rotate_left; (focus (intro w hSw; (try dsimp only at hSw); go_simp; (try with_reducible rfl))); (try simp only [Act.put, List.setIfInBounds_toArray, List.set_cons_zero, List.set_cons_succ])
              refine wpAnyH_take (i := 14) (oi := ⟨some 105, _, _, _, _, _⟩) (v := ?_) rfl (by kernel_rfl) (by kernel_rfl) (by kernel_rfl) (fun _ _ _ h => h) (Or.inl ⟨by rfl, ?_⟩) (by assumption) ?_; rotate_left; (focus (intro w hSw; (try dsimp only at hSw); go_simp; (try with_reducible rfl))); (try simp only [Act.put, List.setIfInBounds_toArray, List.set_cons_zero, List.set_cons_succ])
              refine wpAnyH_ready (rs := [1, 3]) (by kernel_rfl) (by simp) ?_; refine AllReadyH.cons (o := ⟨some 92, _, _, _, _, _⟩) rfl (fun K hK => ?_) (AllReadyH.cons (o := ⟨some 94, _, _, _, _, _⟩) rfl (fun K hK => ?_) AllReadyH.nil)
              go_simp
              refine hK.out _ _ ⟨o0, o1⟩ (fun hHeld => ?_); clear hK K; (try simp only [Act.put, List.setIfInBounds_toArray, List.set_cons_zero, List.set_cons_succ])
              refine wpAnyH_ready (rs := [3]) (by kernel_rfl) (by simp) ?_; refine AllReadyH.cons (o := ⟨some 94, _, _, _, _, _⟩) rfl (fun K hK => ?_) AllReadyH.nil; go_simp
              go_at_call 39
              refine (pick_any g A n c bs (P1 + 4) 6 _ ?_ HN.out hby hs ?_ ?_).mono ?_
              (first | exact HGz.out.rd | exact HGz.out.rd.drew)
              omega
              omega
              rintro e w8 ⟨x8, rfl, hx8', _, hr8, ht8'⟩
              have hx8 : (x8 : Int) < 6 := hx8' (by omega)
              have ht8 : Tch g (g + 1) wz w8 := ⟨ht8'.os, ht8'.tape, ht8'.output, ht8'.size, ht8'.block⟩
              have HGP := Lib.hid (HGz.out.pick hr8 ht8)
              have p0 := (HGP.out.xr.cellAt (j) (by omega)).trans HXX.out.1
              have p1 := (HGP.out.xr.cellAt (j + 1) (by omega)).trans HXX.out.2
              have g0 := HGP.out.fb
              have g1 := HGP.out.fz
              have z8 : w.heap.size + 1 < w8.heap.size := HGP.out.lt
              have hgo8 := (HGP.out.xr.lt go rfl).2
              have a8 : IntKind.i64.wrap (2 + (x8 : Int)) = 2 + (x8 : Int) := (by rw [IntKind.wrap_i64]; omega)
              have q0 := (World.cell?_alloc_lt w8 (.cells #[.int .i64 (2 + (x8 : Int)), .int .i64 x0, .int .i64 x1, .int .i64 (-1), .int .i64 0] 70) ⟨go, j, none⟩ hgo8).trans p0
              have q1 := (World.cell?_alloc_lt w8 (.cells #[.int .i64 (2 + (x8 : Int)), .int .i64 x0, .int .i64 x1, .int .i64 (-1), .int .i64 0] 70) ⟨go, j + 1, none⟩ hgo8).trans p1
              have HGc := Lib.hid (HGP.out.alloc (.cells #[.int .i64 (2 + (x8 : Int)), .int .i64 x0, .int .i64 x1, .int .i64 (-1), .int .i64 0] 70))
              clear hx8' hr8 ht8'
              refine hK.out _ _ ⟨p0, p1⟩ (fun hHeld => ?_); clear hK K; (try simp only [Act.put, List.setIfInBounds_toArray, List.set_cons_zero, List.set_cons_succ])
              refine wpAnyH_take (i := 4) (oi := ⟨some 95, _, _, _, _, _⟩) (v := ?_) rfl (by kernel_rfl) (by kernel_rfl) (by kernel_rfl) (fun _ _ _ h => h) (Or.inl ⟨by rfl, ?_⟩) (by assumption) ?_; rotate_left; (focus (intro w hSw; (try dsimp only at hSw); go_simp; (try with_reducible rfl))); (try simp only [Act.put, List.setIfInBounds_toArray, List.set_cons_zero, List.set_cons_succ])
              refine wpAnyH_take (i := 15) (oi := ⟨some 106, _, _, _, _, _⟩) (v := ?_) rfl (by kernel_rfl) (by kernel_rfl) (by kernel_rfl) (fun _ _ _ h => h) (Or.inl ⟨by rfl, ?_⟩) (by assumption) ?_; rotate_left; (focus (intro w hSw; (try dsimp only at hSw); go_simp; (try with_reducible rfl))); (try simp only [Act.put, List.setIfInBounds_toArray, List.set_cons_zero, List.set_cons_succ])
              refine wpAnyH_ready (rs := [16]) (by kernel_rfl) (by simp) ?_; refine AllReadyH.cons (o := ⟨some 107, _, _, _, _, _⟩) rfl (fun K hK => ?_) AllReadyH.nil; go_simp
              refine hK.out _ _ ⟨q0, q1⟩ (fun hHeld => ?_); clear hK K; (try simp only [Act.put, List.setIfInBounds_toArray, List.set_cons_zero, List.set_cons_succ])
              refine wpAnyH_ready (rs := [17]) (by kernel_rfl) (by simp) ?_; refine AllReadyH.cons (o := ⟨some 108, _, _, _, _, _⟩) rfl (fun K hK => ?_) AllReadyH.nil
              refine step_append_lies _ (by rfl) _ _ _ (by rfl) (w.heap.size + 2) 70 i1 _ 5 40 Try.underlying37 hi1 hy0 hy1 hy2 rfl (by omega) (.slice A5 (nf + 1) c5) (nf + 1) _ (by rfl) HGc.out.pr ⟨w8.heap.size, 0, none⟩ 1 1 [.int .i64 (2 + (x8 : Int)), .int .i64 x0, .int .i64 x1, .int .i64 (-1), .int .i64 0] (by rfl) (by rfl) (cells_new _ _ _ _ rfl) (by simp [Value.oneCell']) (by omega) (by unfold maxLen; omega) (by omega) (by simp; omega) (w8.heap.size + 1) (by simp) ?_
              intro gg cap w9 hown9 hgrow9 hat9 hlt9
              have hgr9 : (w8.alloc (.cells #[.int .i64 (2 + (x8 : Int)), .int .i64 x0, .int .i64 x1, .int .i64 (-1), .int .i64 0] 70)).grownBy w9 (Value.slice A5 (nf + 1) c5).ownBlock := ⟨hgrow9.os, hgrow9.tape, hgrow9.output, hgrow9.size, hgrow9.block⟩
              have hfr9 := HGc.out.frame hgr9 fun k hk => (HGc.out.pr.lt k hk).1
              have z9 := hfr9.2.2.1
              have h0 := hfr9.2.2.2.2.2.1
              have h1 := hfr9.2.2.2.2.2.2.1
              clear hfr9
              have hxr9 := HGc.out.xr.kept hgr9 (blocks_ne HGc.out.xr HGc.out.pr int_ne_part)
              have s0 := (hxr9.cellAt (j) (by omega)).trans HXX.out.1
              have s1 := (hxr9.cellAt (j + 1) (by omega)).trans HXX.out.2
              clear hxr9
              refine hK.out _ _ ⟨s0, s1⟩ (fun hHeld => ?_); clear hK K; (try simp only [Act.put, List.setIfInBounds_toArray, List.set_cons_zero, List.set_cons_succ])
              refine wpAnyH_take (i := 18) (oi := ⟨some 109, _, _, _, _, _⟩) (v := ?_) rfl (by kernel_rfl) (by kernel_rfl) (by kernel_rfl) (fun _ _ _ h => h) (Or.inl ⟨by rfl, ?_⟩) (by assumption) ?_; rotate_left; (focus (intro w hSw; (try dsimp only at hSw); go_simp; (try with_reducible rfl))); (try simp only [Act.put, List.setIfInBounds_toArray, List.set_cons_zero, List.set_cons_succ])
              refine wpAnyH_ready (rs := [19]) (by kernel_rfl) (by simp) ?_; refine AllReadyH.cons (o := ⟨none, _, _, _, _, _⟩) rfl (fun K hK => ?_) AllReadyH.nil; go_simp
              refine hK.out _ _ ⟨(World.cell?_setCell_other _ _ _ _ (hnb1 _)).trans s0, (World.cell?_setCell_other _ _ _ _ (hnb1 _)).trans s1⟩ (fun hHeld => ?_); clear hK K; (try simp only [Act.put, List.setIfInBounds_toArray, List.set_cons_zero, List.set_cons_succ])
              refine wpAnyH_done (by kernel_rfl) ?_ _
              rotate_left
              go_simp
              go_at_call 39
              refine (pick_any g A n c bs (P1 + 4) 6 _ ?_ HN.out hby hs ?_ ?_).mono ?_
              (first | exact HGz.out.rd | exact HGz.out.rd.drew)
              omega
              omega
              rintro e w8 ⟨x8, rfl, hx8', _, hr8, ht8'⟩
              have hx8 : (x8 : Int) < 6 := hx8' (by omega)
              have ht8 : Tch g (g + 1) wz w8 := ⟨ht8'.os, ht8'.tape, ht8'.output, ht8'.size, ht8'.block⟩
              have HGP := Lib.hid (HGz.out.pick hr8 ht8)
              have p0 := (HGP.out.xr.cellAt (j) (by omega)).trans HXX.out.1
              have p1 := (HGP.out.xr.cellAt (j + 1) (by omega)).trans HXX.out.2
              have g0 := HGP.out.fb
              have g1 := HGP.out.fz
              have z8 : w.heap.size + 1 < w8.heap.size := HGP.out.lt
              have hgo8 := (HGP.out.xr.lt go rfl).2
              have a8 : IntKind.i64.wrap (2 + (x8 : Int)) = 2 + (x8 : Int) := (by rw [IntKind.wrap_i64]; omega)
              have q0 := (World.cell?_alloc_lt w8 (.cells #[.int .i64 (2 + (x8 : Int)), .int .i64 x0, .int .i64 x1, .int .i64 (-1), .int .i64 0] 70) ⟨go, j, none⟩ hgo8).trans p0
              have q1 := (World.cell?_alloc_lt w8 (.cells #[.int .i64 (2 + (x8 : Int)), .int .i64 x0, .int .i64 x1, .int .i64 (-1), .int .i64 0] 70) ⟨go, j + 1, none⟩ hgo8).trans p1
              have HGc := Lib.hid (HGP.out.alloc (.cells #[.int .i64 (2 + (x8 : Int)), .int .i64 x0, .int .i64 x1, .int .i64 (-1), .int .i64 0] 70))
              clear hx8' hr8 ht8'
              refine hK.out _ _ ⟨p0, p1⟩ (fun hHeld => ?_); clear hK K; (try simp only [Act.put, List.setIfInBounds_toArray, List.set_cons_zero, List.set_cons_succ])
              refine wpAnyH_take (i := 4) (oi := ⟨some 95, _, _, _, _, _⟩) (v := ?_) rfl (by kernel_rfl) (by kernel_rfl) (by kernel_rfl) (fun _ _ _ h => h) (Or.inl ⟨by rfl, ?_⟩) (by assumption) ?_; rotate_left; (focus (intro w hSw; (try dsimp only at hSw); go_simp; (try with_reducible rfl))); (try simp only [Act.put, List.setIfInBounds_toArray, List.set_cons_zero, List.set_cons_succ])
              refine wpAnyH_take (i := 15) (oi := ⟨some 106, _, _, _, _, _⟩) (v := ?_) rfl (by kernel_rfl) (by kernel_rfl) (by kernel_rfl) (fun _ _ _ h => h) (Or.inl ⟨by rfl, ?_⟩) (by assumption) ?_; rotate_left; (focus (intro w hSw; (try dsimp only at hSw); go_simp; (try with_reducible rfl))); (try simp only [Act.put, List.setIfInBounds_toArray, List.set_cons_zero, List.set_cons_succ])
              refine wpAnyH_ready (rs := [1, 16]) (by kernel_rfl) (by simp) ?_; refine AllReadyH.cons (o := ⟨some 92, _, _, _, _, _⟩) rfl (fun K hK => ?_) (AllReadyH.cons (o := ⟨some 107, _, _, _, _, _⟩) rfl (fun K hK => ?_) AllReadyH.nil)
              go_simp
              refine hK.out _ _ ⟨p0, p1⟩ (fun hHeld => ?_); clear hK K; (try simp only [Act.put, List.setIfInBounds_toArray, List.set_cons_zero, List.set_cons_succ])
              refine wpAnyH_ready (rs := [16]) (by kernel_rfl) (by simp) ?_; refine AllReadyH.cons (o := ⟨some 107, _, _, _, _, _⟩) rfl (fun K hK => ?_) AllReadyH.nil; go_simp
              refine hK.out _ _ ⟨q0, q1⟩ (fun hHeld => ?_); clear hK K; (try simp only [Act.put, List.setIfInBounds_toArray, List.set_cons_zero, List.set_cons_succ])
              refine wpAnyH_ready (rs := [17]) (by kernel_rfl) (by simp) ?_; refine AllReadyH.cons (o := ⟨some 108, _, _, _, _, _⟩) rfl (fun K hK => ?_) AllReadyH.nil
              refine step_append_lies _ (by rfl) _ _ _ (by rfl) (w.heap.size + 2) 70 i1 _ 5 40 Try.underlying37 hi1 hy0 hy1 hy2 rfl (by omega) (.slice A5 (nf + 1) c5) (nf + 1) _ (by rfl) HGc.out.pr ⟨w8.heap.size, 0, none⟩ 1 1 [.int .i64 (2 + (x8 : Int)), .int .i64 x0, .int .i64 x1, .int .i64 (-1), .int .i64 0] (by rfl) (by rfl) (cells_new _ _ _ _ rfl) (by simp [Value.oneCell']) (by omega) (by unfold maxLen; omega) (by omega) (by simp; omega) (w8.heap.size + 1) (by simp) ?_
              intro gg cap w9 hown9 hgrow9 hat9 hlt9
              have hgr9 : (w8.alloc (.cells #[.int .i64 (2 + (x8 : Int)), .int .i64 x0, .int .i64 x1, .int .i64 (-1), .int .i64 0] 70)).grownBy w9 (Value.slice A5 (nf + 1) c5).ownBlock := ⟨hgrow9.os, hgrow9.tape, hgrow9.output, hgrow9.size, hgrow9.block⟩
              have hfr9 := HGc.out.frame hgr9 fun k hk => (HGc.out.pr.lt k hk).1
              have z9 := hfr9.2.2.1
              have h0 := hfr9.2.2.2.2.2.1
              have h1 := hfr9.2.2.2.2.2.2.1
              clear hfr9
              have hxr9 := HGc.out.xr.kept hgr9 (blocks_ne HGc.out.xr HGc.out.pr int_ne_part)
              have s0 := (hxr9.cellAt (j) (by omega)).trans HXX.out.1
              have s1 := (hxr9.cellAt (j + 1) (by omega)).trans HXX.out.2
              clear hxr9
              refine hK.out _ _ ⟨s0, s1⟩ (fun hHeld => ?_); clear hK K; (try simp only [Act.put, List.setIfInBounds_toArray, List.set_cons_zero, List.set_cons_succ])
              refine wpAnyH_take (i := 18) (oi := ⟨some 109, _, _, _, _, _⟩) (v := ?_) rfl (by kernel_rfl) (by kernel_rfl) (by kernel_rfl) (fun _ _ _ h => h) (Or.inl ⟨by rfl, ?_⟩) (by assumption) ?_; rotate_left; (focus (intro w hSw; (try dsimp only at hSw); go_simp; (try with_reducible rfl))); (try simp only [Act.put, List.setIfInBounds_toArray, List.set_cons_zero, List.set_cons_succ])
              refine wpAnyH_ready (rs := [19]) (by kernel_rfl) (by simp) ?_; refine AllReadyH.cons (o := ⟨none, _, _, _, _, _⟩) rfl (fun K hK => ?_) AllReadyH.nil; go_simp
              refine hK.out _ _ ⟨(World.cell?_setCell_other _ _ _ _ (hnb1 _)).trans s0, (World.cell?_setCell_other _ _ _ _ (hnb1 _)).trans s1⟩ (fun hHeld => ?_); clear hK K; (try simp only [Act.put, List.setIfInBounds_toArray, List.set_cons_zero, List.set_cons_succ])
              refine wpAnyH_done (by kernel_rfl) ?_ _
              rotate_left
              go_simp
              refine hK.out _ _ ⟨q0, q1⟩ (fun hHeld => ?_); clear hK K; (try simp only [Act.put, List.setIfInBounds_toArray, List.set_cons_zero, List.set_cons_succ])
              refine wpAnyH_ready (rs := [1]) (by kernel_rfl) (by simp) ?_; refine AllReadyH.cons (o := ⟨some 92, _, _, _, _, _⟩) rfl (fun K hK => ?_) AllReadyH.nil; go_simp
              refine hK.out _ _ ⟨q0, q1⟩ (fun hHeld => ?_); clear hK K; (try simp only [Act.put, List.setIfInBounds_toArray, List.set_cons_zero, List.set_cons_succ])
              refine wpAnyH_ready (rs := [17]) (by kernel_rfl) (by simp) ?_; refine AllReadyH.cons (o := ⟨some 108, _, _, _, _, _⟩) rfl (fun K hK => ?_) AllReadyH.nil
              refine step_append_lies _ (by rfl) _ _ _ (by rfl) (w.heap.size + 2) 70 i1 _ 5 40 Try.underlying37 hi1 hy0 hy1 hy2 rfl (by omega) (.slice A5 (nf + 1) c5) (nf + 1) _ (by rfl) HGc.out.pr ⟨w8.heap.size, 0, none⟩ 1 1 [.int .i64 (2 + (x8 : Int)), .int .i64 x0, .int .i64 x1, .int .i64 (-1), .int .i64 0] (by rfl) (by rfl) (cells_new _ _ _ _ rfl) (by simp [Value.oneCell']) (by omega) (by unfold maxLen; omega) (by omega) (by simp; omega) (w8.heap.size + 1) (by simp) ?_
              intro gg cap w9 hown9 hgrow9 hat9 hlt9
              have hgr9 : (w8.alloc (.cells #[.int .i64 (2 + (x8 : Int)), .int .i64 x0, .int .i64 x1, .int .i64 (-1), .int .i64 0] 70)).grownBy w9 (Value.slice A5 (nf + 1) c5).ownBlock := ⟨hgrow9.os, hgrow9.tape, hgrow9.output, hgrow9.size, hgrow9.block⟩
              have hfr9 := HGc.out.frame hgr9 fun k hk => (HGc.out.pr.lt k hk).1
              have z9 := hfr9.2.2.1
              have h0 := hfr9.2.2.2.2.2.1
              have h1 := hfr9.2.2.2.2.2.2.1
              clear hfr9
              have hxr9 := HGc.out.xr.kept hgr9 (blocks_ne HGc.out.xr HGc.out.pr int_ne_part)
              have s0 := (hxr9.cellAt (j) (by omega)).trans HXX.out.1
              have s1 := (hxr9.cellAt (j + 1) (by omega)).trans HXX.out.2
              clear hxr9
              refine hK.out _ _ ⟨s0, s1⟩ (fun hHeld => ?_); clear hK K; (try simp only [Act.put, List.setIfInBounds_toArray, List.set_cons_zero, List.set_cons_succ])
              refine wpAnyH_take (i := 18) (oi := ⟨some 109, _, _, _, _, _⟩) (v := ?_) rfl (by kernel_rfl) (by kernel_rfl) (by kernel_rfl) (fun _ _ _ h => h) (Or.inl ⟨by rfl, ?_⟩) (by assumption) ?_; rotate_left; (focus (intro w hSw; (try dsimp only at hSw); go_simp; (try with_reducible rfl))); (try simp only [Act.put, List.setIfInBounds_toArray, List.set_cons_zero, List.set_cons_succ])
              refine wpAnyH_ready (rs := [19]) (by kernel_rfl) (by simp) ?_; refine AllReadyH.cons (o := ⟨none, _, _, _, _, _⟩) rfl (fun K hK => ?_) AllReadyH.nil; go_simp
              refine hK.out _ _ ⟨(World.cell?_setCell_other _ _ _ _ (hnb1 _)).trans s0, (World.cell?_setCell_other _ _ _ _ (hnb1 _)).trans s1⟩ (fun hHeld => ?_); clear hK K; (try simp only [Act.put, List.setIfInBounds_toArray, List.set_cons_zero, List.set_cons_succ])
              refine wpAnyH_done (by kernel_rfl) ?_ _
              all_goals
                have HG8 := Lib.hid (HGc.out.parted (Af' := some ⟨gg, 0, none⟩) (nf' := nf + 1 + 1) (cf' := cap) (ps' := (ps ++ [q']) ++ [⟨2 + (x8 : Int), x0, x1, -1, 0⟩]) hgr9 (by rw [List.flatMap_append]; exact hown9) (by rw [List.length_append, ← HGc.out.pl]; rfl))
                have HXL8 := Lib.hid (HXL.out)
                clear hown9 hgrow9 hgr9 hat9 hlt9 z9 h0 h1 s0 s1 q0 q1 p0 p1 o0 o1 g0 g1 f0 f1 z1 z8 HGc HGP HGz HXX a8
                go_wp2_with fail
                generalize (w9.setCell ⟨w.heap.size + 1, 0, none⟩ (.slice (some ⟨gg, 0, none⟩) (nf + 1 + 1) cap)) = W8 at *
                have f8 := HG8.out.fb
                have z8 : w.heap.size + 1 < W8.heap.size := HG8.out.lt
                have n1 : IntKind.i64.wrap (((nf : Int) + 1) + 1 - 1) = ((nf : Int) + 1) := by rw [IntKind.wrap_i64]; omega
                have n2 : IntKind.i64.wrap (((nf : Int) + 1)) = ((nf : Int) + 1) := by rw [IntKind.wrap_i64]; omega
                have f8' := (World.cell?_alloc_lt W8 (.cells #[.int .i64 (((nf : Int) + 1))] 3) ⟨w.heap.size + 1, 0, none⟩ z8).trans f8
                have HG9 := Lib.hid (HG8.out.alloc (.cells #[.int .i64 (((nf : Int) + 1))] 3))
                have hcg : j + 1 + 1 ≤ co := by
                  rcases HG8.out.xr.2 with ⟨h', _⟩ | ⟨g', cap', cur, h', _, _, hnc, _⟩
                  · simp at h'
                  · simp at h'
                    omega
                have hcg1 : (j : Int) ≤ (co : Int) := by omega
                go_region_held3 (fun w' => w'.cell? ⟨w.heap.size + 1, 0, none⟩ = some (.slice (some ⟨gg, 0, none⟩) (nf + 1 + 1) cap)) (first | exact f8 | exact f8' | exact f9)
                  (first
                    | (refine step_append_lies _ (by rfl) _ _ _ (by rfl) (w.heap.size + 2) 3 i0 (.int .i64 0) 1 8 Try.underlying26 hi0 hz0 hz1 hz2 rfl (by omega) (.slice (some ⟨go, 0, none⟩) (j) co) (j) _ (by rfl) (own_shrink HG9.out.xr (by omega)) ⟨W8.heap.size, 0, none⟩ 1 1 [.int .i64 (((nf : Int) + 1))] (by rfl) (by rfl) (cell_one_new _ _ _) (by simp [Value.oneCell']) (by omega) (by unfold maxLen; omega) (by omega) (by simp; omega) W8.heap.size.succ (by simp) ?_; intro gh cah w10 hown10 hgrow10' hat10 hlt10; have hgrow10 : (W8.alloc (.cells #[.int .i64 (((nf : Int) + 1))] 3)).grownBy w10 (Value.slice (some ⟨go, 0, none⟩) (j) co).ownBlock := ⟨hgrow10'.os, hgrow10'.tape, hgrow10'.output, hgrow10'.size, hgrow10'.block⟩; have HGA := Lib.hid (HG9.out.opened (xs' := X.take (j) ++ [((nf : Int) + 1)]) (own_shrink HG9.out.xr (by omega : j ≤ j + 1 + 1)) hgrow10 (by first | (simpa using hown10) | (simpa [List.map_take] using hown10) | (rw [List.map_append, List.map_take]; exact hown10)) (by have := HXL8.out; rw [List.length_append, List.length_take]; show _ = _ + 1; omega)); have f9 := HGA.out.fb))
                clear f8 f8' f9 hgrow10 hgrow10' hown10 hat10 hlt10 HG8 HG9 z8 n1 n2 a1 a2 a1' a2' t1 t2
                go_wp2_with fail
                go_roundw
                case rel => exact ⟨k - 1, m + 1, j + 1, nf + 1 + 1, cap, _, _, _, by omega, by go_num, by omega, by omega, (show GI _ _ _ _ _ _ _ _ _ _ _ _ _ _ _ _ _ _ from HGA.out.mono (by have := HP1.out; omega))⟩
                case measure => simp [intOf]; omega
            · go_wp2_with fail
              go_roundw
              case rel => exact ⟨k - 1, m + 1, j + 1 + 1, nf + 1, c5, A5, _, _, by omega, by go_num, by omega, by omega, (show GI _ _ _ _ _ _ _ _ _ _ _ _ _ _ _ _ _ _ from HGz.out.mono (by have := HP1.out; omega))⟩
              case measure => simp [intOf]; omega
          · go_wp2_with fail
            go_roundw
            case rel => exact ⟨k - 1, m + 1, no + 1, nf + 1, c5, A5, _, _, by omega, by go_num, by omega, by omega, (show GI _ _ _ _ _ _ _ _ _ _ _ _ _ _ _ _ _ _ from HG6.out.mono (by have := HP1.out; omega))⟩
            case measure => simp [intOf]; omega
    · obtain ⟨Av0, cv0, hv0⟩ := row_form' HG.out.xr
      have HGs := HG
      subst hv0
      clear HG
      go_wp2_with fail
      go_loopw [6] (fun v wr => ∃ (no nf cf Q : Nat) (Af : Option Addr) (ps : List Pt) (xs : List Int), no ≤ 6 ∧ nf + no ≤ 18 ∧ Q + 2 * no ≤ P + 100 ∧ Hid (GI g w.heap.size A n c bs An nodes w Q Af nf cf ps v no xs wr)) (fun v _ => slcLen v)
      case atStart => exact ⟨no, nf, cf, P + 1 + 10 * m, Af, ps, xs, by omega, by omega, by omega, HGs.out⟩
      case round =>
        obtain ⟨no, nf, cf, Q, Af, ps, xs, hno, hnf, hQ, HG⟩ := hrel
        by_cases hlt : 1 < no
        · obtain ⟨j, rfl⟩ : ∃ j, no = j + 2 := ⟨no - 2, by omega⟩
          obtain ⟨go, cg, hov⟩ := row_pos HG.out.xr (by omega)
          cases hov
          have f0 := HG.out.fb
          have f1 := HG.out.fz
          have z1 : w.heap.size + 1 < wr.heap.size := HG.out.lt
          have hxl := HG.out.xl
          have o0 := HG.out.xr.cellAt (j) (by omega)
          have o1 := HG.out.xr.cellAt (j + 1) (by omega)
          rw [List.getElem?_map] at o0 o1
          generalize hX : xs = X at *
          have HX2 := Lib.hid hX
          clear hX
          rw [List.getElem?_eq_getElem (by omega), Option.map_some] at o0 o1
          generalize X[j]'_ = x0 at o0
          generalize X[j + 1]'_ = x1 at o1
          have HXL := Lib.hid hxl
          clear hxl
          have hgo := (HG.out.xr.lt go rfl).2
          have hgo2 := (HG.out.xr.lt go rfl).1
          go_wp2_with fail
          have a2 : IntKind.i64.wrap (((j : Int) + 2) - 2) = (j : Int) := by rw [IntKind.wrap_i64]; omega
          have a1 : IntKind.i64.wrap (((j : Int) + 2) - 1) = ((j : Int) + 1) := by rw [IntKind.wrap_i64]; omega
          have a2' : IntKind.i64.wrap ((j : Int)) = (j : Int) := by rw [IntKind.wrap_i64]; omega
          have a1' : IntKind.i64.wrap (((j : Int) + 1)) = ((j : Int) + 1) := by rw [IntKind.wrap_i64]; omega
          have b2 : (j : Int) < ((j : Int) + 2) := by omega
          have b1 : ((j : Int) + 1) < ((j : Int) + 2) := by omega
          have b0 : 0 ≤ (j : Int) := by omega
          have b00 : 0 ≤ ((j : Int) + 1) := by omega
          have t1 : ((j : Int)).toNat = j := by omega
          have t2 : (((j : Int) + 1)).toNat = j + 1 := by omega
          have HXX := Lib.hid (And.intro ((HG.out.xr.cellAt (j) (by omega)).symm.trans o0) ((HG.out.xr.cellAt (j + 1) (by omega)).symm.trans o1))
          have hnb1 : ∀ q : Nat, (⟨w.heap.size + 1, 0, none⟩ : Addr) ≠ ⟨go, q, none⟩ := fun q e => by have := congrArg Addr.block e; simp at this; omega
          refine wp_region_held_drew (S := (fun w' => w'.cell? ⟨go, j, none⟩ = some (.int .i64 x0) ∧ w'.cell? ⟨go, j + 1, none⟩ = some (.int .i64 x1))) (by kernel_rfl) ⟨o0, o1⟩ (fun hHeld => ?_)
          refine wpAnyH_take (i := 0) (oi := ⟨some 125, _, _, _, _, _⟩) (v := ?_) rfl (by kernel_rfl) (by kernel_rfl) (by kernel_rfl) (fun _ _ _ h => h) (Or.inl ⟨by rfl, ?_⟩) (by assumption) ?_; rotate_left; (focus (intro w hSw; (try dsimp only at hSw); go_simp; (try with_reducible rfl))); (try simp only [Act.put, List.setIfInBounds_toArray, List.set_cons_zero, List.set_cons_succ])
          refine wpAnyH_take (i := 2) (oi := ⟨some 127, _, _, _, _, _⟩) (v := ?_) rfl (by kernel_rfl) (by kernel_rfl) (by kernel_rfl) (fun _ _ _ h => h) (Or.inl ⟨by rfl, ?_⟩) (by assumption) ?_; rotate_left; (focus (intro w hSw; (try dsimp only at hSw); go_simp; (try with_reducible rfl))); (try simp only [Act.put, List.setIfInBounds_toArray, List.set_cons_zero, List.set_cons_succ])
          refine wpAnyH_take (i := 5) (oi := ⟨some 130, _, _, _, _, _⟩) (v := ?_) rfl (by kernel_rfl) (by kernel_rfl) (by kernel_rfl) (fun _ _ _ h => h) (Or.inl ⟨by rfl, ?_⟩) (by assumption) ?_; rotate_left; (focus (intro w hSw; (try dsimp only at hSw); go_simp; (try with_reducible rfl))); (try simp only [Act.put, List.setIfInBounds_toArray, List.set_cons_zero, List.set_cons_succ])
          refine wpAnyH_take (i := 6) (oi := ⟨some 131, _, _, _, _, _⟩) (v := ?_) rfl (by kernel_rfl) (by kernel_rfl) (by kernel_rfl) (fun _ _ _ h => h) (Or.inl ⟨by rfl, ?_⟩) (by assumption) ?_; rotate_left; (focus (intro w hSw; (try dsimp only at hSw); go_simp; (try with_reducible rfl))); (try simp only [Act.put, List.setIfInBounds_toArray, List.set_cons_zero, List.set_cons_succ])
          refine wpAnyH_take (i := 7) (oi := ⟨some 132, _, _, _, _, _⟩) (v := ?_) rfl (by kernel_rfl) (by kernel_rfl) (by kernel_rfl) (fun _ _ _ h => h) (Or.inl ⟨by rfl, ?_⟩) (by assumption) ?_; rotate_left; (focus (intro w hSw; (try dsimp only at hSw); go_simp; (try with_reducible rfl))); (try simp only [Act.put, List.setIfInBounds_toArray, List.set_cons_zero, List.set_cons_succ])
          refine wpAnyH_take (i := 8) (oi := ⟨some 133, _, _, _, _, _⟩) (v := ?_) rfl (by kernel_rfl) (by kernel_rfl) (by kernel_rfl) (fun _ _ _ h => h) (Or.inl ⟨by rfl, ?_⟩) (by assumption) ?_; rotate_left; (focus (intro w hSw; (try dsimp only at hSw); go_simp; (try with_reducible rfl))); (try simp only [Act.put, List.setIfInBounds_toArray, List.set_cons_zero, List.set_cons_succ])
          refine wpAnyH_take (i := 9) (oi := ⟨some 134, _, _, _, _, _⟩) (v := ?_) rfl (by kernel_rfl) (by kernel_rfl) (by kernel_rfl) (fun _ _ _ h => h) (Or.inl ⟨by rfl, ?_⟩) (by assumption) ?_; rotate_left; (focus (intro w hSw; (try dsimp only at hSw); go_simp; (try with_reducible rfl))); (try simp only [Act.put, List.setIfInBounds_toArray, List.set_cons_zero, List.set_cons_succ])
          refine wpAnyH_take (i := 10) (oi := ⟨some 135, _, _, _, _, _⟩) (v := ?_) rfl (by kernel_rfl) (by kernel_rfl) (by kernel_rfl) (fun _ _ _ h => h) (Or.inl ⟨by rfl, ?_⟩) (by assumption) ?_; rotate_left; (focus (intro w hSw; (try dsimp only at hSw); go_simp; (try with_reducible rfl))); (try simp only [Act.put, List.setIfInBounds_toArray, List.set_cons_zero, List.set_cons_succ])
          refine wpAnyH_take (i := 11) (oi := ⟨some 136, _, _, _, _, _⟩) (v := ?_) rfl (by kernel_rfl) (by kernel_rfl) (by kernel_rfl) (fun _ _ _ h => h) (Or.inl ⟨by rfl, ?_⟩) (by assumption) ?_; rotate_left; (focus (intro w hSw; (try dsimp only at hSw); go_simp; (try with_reducible rfl))); (try simp only [Act.put, List.setIfInBounds_toArray, List.set_cons_zero, List.set_cons_succ])
          refine wpAnyH_take (i := 12) (oi := ⟨some 137, _, _, _, _, _⟩) (v := ?_) rfl (by kernel_rfl) (by kernel_rfl) (by kernel_rfl) (fun _ _ _ h => h) (Or.inl ⟨by rfl, ?_⟩) (by assumption) ?_; rotate_left; (focus (intro w hSw; (try dsimp only at hSw); go_simp; (try with_reducible rfl))); (try simp only [Act.put, List.setIfInBounds_toArray, List.set_cons_zero, List.set_cons_succ])
          refine wpAnyH_take (i := 13) (oi := ⟨some 138, _, _, _, _, _⟩) (v := ?_) rfl (by kernel_rfl) (by kernel_rfl) (by kernel_rfl) (fun _ _ _ h => h) (Or.inl ⟨by rfl, ?_⟩) (by assumption) ?_; rotate_left; (focus (intro w hSw; (try dsimp only at hSw); go_simp; (try with_reducible rfl))); (try simp only [Act.put, List.setIfInBounds_toArray, List.set_cons_zero, List.set_cons_succ])
          refine wpAnyH_take (i := 14) (oi := ⟨some 139, _, _, _, _, _⟩) (v := ?_) rfl (by kernel_rfl) (by kernel_rfl) (by kernel_rfl) (fun _ _ _ h => h) (Or.inl ⟨by rfl, ?_⟩) (by assumption) ?_; rotate_left; (focus (intro w hSw; (try dsimp only at hSw); go_simp; (try with_reducible rfl))); (try simp only [Act.put, List.setIfInBounds_toArray, List.set_cons_zero, List.set_cons_succ])
          refine wpAnyH_ready (rs := [1, 3]) (by kernel_rfl) (by simp) ?_; refine AllReadyH.cons (o := ⟨some 126, _, _, _, _, _⟩) rfl (fun K hK => ?_) (AllReadyH.cons (o := ⟨some 128, _, _, _, _, _⟩) rfl (fun K hK => ?_) AllReadyH.nil)
          go_simp
          refine hK.out _ _ ⟨o0, o1⟩ (fun hHeld => ?_); clear hK K; (try simp only [Act.put, List.setIfInBounds_toArray, List.set_cons_zero, List.set_cons_succ])
          refine wpAnyH_ready (rs := [3]) (by kernel_rfl) (by simp) ?_; refine AllReadyH.cons (o := ⟨some 128, _, _, _, _, _⟩) rfl (fun K hK => ?_) AllReadyH.nil; go_simp
          go_at_call 39
          refine (pick_any g A n c bs (Q) 6 _ ?_ HN.out hby hs ?_ ?_).mono ?_
          (first | exact HG.out.rd | exact HG.out.rd.drew)
          omega
          omega
          rintro e w8 ⟨x8, rfl, hx8', _, hr8, ht8'⟩
          have hx8 : (x8 : Int) < 6 := hx8' (by omega)
          have ht8 : Tch g (g + 1) wr w8 := ⟨ht8'.os, ht8'.tape, ht8'.output, ht8'.size, ht8'.block⟩
          have HGP := Lib.hid (HG.out.pick hr8 ht8)
          have p0 := (HGP.out.xr.cellAt (j) (by omega)).trans HXX.out.1
          have p1 := (HGP.out.xr.cellAt (j + 1) (by omega)).trans HXX.out.2
          have g0 := HGP.out.fb
          have g1 := HGP.out.fz
          have z8 : w.heap.size + 1 < w8.heap.size := HGP.out.lt
          have hgo8 := (HGP.out.xr.lt go rfl).2
          have a8 : IntKind.i64.wrap (2 + (x8 : Int)) = 2 + (x8 : Int) := (by rw [IntKind.wrap_i64]; omega)
          have q0 := (World.cell?_alloc_lt w8 (.cells #[.int .i64 (2 + (x8 : Int)), .int .i64 x0, .int .i64 x1, .int .i64 (-1), .int .i64 0] 70) ⟨go, j, none⟩ hgo8).trans p0
          have q1 := (World.cell?_alloc_lt w8 (.cells #[.int .i64 (2 + (x8 : Int)), .int .i64 x0, .int .i64 x1, .int .i64 (-1), .int .i64 0] 70) ⟨go, j + 1, none⟩ hgo8).trans p1
          have HGc := Lib.hid (HGP.out.alloc (.cells #[.int .i64 (2 + (x8 : Int)), .int .i64 x0, .int .i64 x1, .int .i64 (-1), .int .i64 0] 70))
          clear hx8' hr8 ht8'
          refine hK.out _ _ ⟨p0, p1⟩ (fun hHeld => ?_); clear hK K; (try simp only [Act.put, List.setIfInBounds_toArray, List.set_cons_zero, List.set_cons_succ])
          refine wpAnyH_take (i := 4) (oi := ⟨some 129, _, _, _, _, _⟩) (v := ?_) rfl (by kernel_rfl) (by kernel_rfl) (by kernel_rfl) (fun _ _ _ h => h) (Or.inl ⟨by rfl, ?_⟩) (by assumption) ?_; rotate_left; (focus (intro w hSw; (try dsimp only at hSw); go_simp; (try with_reducible rfl))); (try simp only [Act.put, List.setIfInBounds_toArray, List.set_cons_zero, List.set_cons_succ])
          refine wpAnyH_take (i := 15) (oi := ⟨some 140, _, _, _, _, _⟩) (v := ?_) rfl (by kernel_rfl) (by kernel_rfl) (by kernel_rfl) (fun _ _ _ h => h) (Or.inl ⟨by rfl, ?_⟩) (by assumption) ?_; rotate_left; (focus (intro w hSw; (try dsimp only at hSw); go_simp; (try with_reducible rfl))); (try simp only [Act.put, List.setIfInBounds_toArray, List.set_cons_zero, List.set_cons_succ])
          refine wpAnyH_ready (rs := [16]) (by kernel_rfl) (by simp) ?_; refine AllReadyH.cons (o := ⟨some 141, _, _, _, _, _⟩) rfl (fun K hK => ?_) AllReadyH.nil; go_simp
          refine hK.out _ _ ⟨q0, q1⟩ (fun hHeld => ?_); clear hK K; (try simp only [Act.put, List.setIfInBounds_toArray, List.set_cons_zero, List.set_cons_succ])
          refine wpAnyH_ready (rs := [17]) (by kernel_rfl) (by simp) ?_; refine AllReadyH.cons (o := ⟨some 142, _, _, _, _, _⟩) rfl (fun K hK => ?_) AllReadyH.nil
          refine step_append_lies _ (by rfl) _ _ _ (by rfl) (w.heap.size + 2) 70 i1 _ 5 40 Try.underlying37 hi1 hy0 hy1 hy2 rfl (by omega) (.slice Af (nf) cf) (nf) _ (by rfl) HGc.out.pr ⟨w8.heap.size, 0, none⟩ 1 1 [.int .i64 (2 + (x8 : Int)), .int .i64 x0, .int .i64 x1, .int .i64 (-1), .int .i64 0] (by rfl) (by rfl) (cells_new _ _ _ _ rfl) (by simp [Value.oneCell']) (by omega) (by unfold maxLen; omega) (by omega) (by simp; omega) (w8.heap.size + 1) (by simp) ?_
          intro gg cap w9 hown9 hgrow9 hat9 hlt9
          have hgr9 : (w8.alloc (.cells #[.int .i64 (2 + (x8 : Int)), .int .i64 x0, .int .i64 x1, .int .i64 (-1), .int .i64 0] 70)).grownBy w9 (Value.slice Af (nf) cf).ownBlock := ⟨hgrow9.os, hgrow9.tape, hgrow9.output, hgrow9.size, hgrow9.block⟩
          have hfr9 := HGc.out.frame hgr9 fun k hk => (HGc.out.pr.lt k hk).1
          have z9 := hfr9.2.2.1
          have h0 := hfr9.2.2.2.2.2.1
          have h1 := hfr9.2.2.2.2.2.2.1
          clear hfr9
          have hxr9 := HGc.out.xr.kept hgr9 (blocks_ne HGc.out.xr HGc.out.pr int_ne_part)
          have s0 := (hxr9.cellAt (j) (by omega)).trans HXX.out.1
          have s1 := (hxr9.cellAt (j + 1) (by omega)).trans HXX.out.2
          clear hxr9
          refine hK.out _ _ ⟨s0, s1⟩ (fun hHeld => ?_); clear hK K; (try simp only [Act.put, List.setIfInBounds_toArray, List.set_cons_zero, List.set_cons_succ])
          refine wpAnyH_take (i := 18) (oi := ⟨some 143, _, _, _, _, _⟩) (v := ?_) rfl (by kernel_rfl) (by kernel_rfl) (by kernel_rfl) (fun _ _ _ h => h) (Or.inl ⟨by rfl, ?_⟩) (by assumption) ?_; rotate_left; (focus (intro w hSw; (try dsimp only at hSw); go_simp; (try with_reducible rfl))); (try simp only [Act.put, List.setIfInBounds_toArray, List.set_cons_zero, List.set_cons_succ])
          refine wpAnyH_ready (rs := [19]) (by kernel_rfl) (by simp) ?_; refine AllReadyH.cons (o := ⟨none, _, _, _, _, _⟩) rfl (fun K hK => ?_) AllReadyH.nil; go_simp
          refine hK.out _ _ ⟨(World.cell?_setCell_other _ _ _ _ (hnb1 _)).trans s0, (World.cell?_setCell_other _ _ _ _ (hnb1 _)).trans s1⟩ (fun hHeld => ?_); clear hK K; (try simp only [Act.put, List.setIfInBounds_toArray, List.set_cons_zero, List.set_cons_succ])
          refine wpAnyH_done (by kernel_rfl) ?_ _
          rotate_left
          go_simp
          go_at_call 39
          refine (pick_any g A n c bs (Q) 6 _ ?_ HN.out hby hs ?_ ?_).mono ?_
          (first | exact HG.out.rd | exact HG.out.rd.drew)
          omega
          omega
          rintro e w8 ⟨x8, rfl, hx8', _, hr8, ht8'⟩
          have hx8 : (x8 : Int) < 6 := hx8' (by omega)
          have ht8 : Tch g (g + 1) wr w8 := ⟨ht8'.os, ht8'.tape, ht8'.output, ht8'.size, ht8'.block⟩
          have HGP := Lib.hid (HG.out.pick hr8 ht8)
          have p0 := (HGP.out.xr.cellAt (j) (by omega)).trans HXX.out.1
          have p1 := (HGP.out.xr.cellAt (j + 1) (by omega)).trans HXX.out.2
          have g0 := HGP.out.fb
          have g1 := HGP.out.fz
          have z8 : w.heap.size + 1 < w8.heap.size := HGP.out.lt
          have hgo8 := (HGP.out.xr.lt go rfl).2
          have a8 : IntKind.i64.wrap (2 + (x8 : Int)) = 2 + (x8 : Int) := (by rw [IntKind.wrap_i64]; omega)
          have q0 := (World.cell?_alloc_lt w8 (.cells #[.int .i64 (2 + (x8 : Int)), .int .i64 x0, .int .i64 x1, .int .i64 (-1), .int .i64 0] 70) ⟨go, j, none⟩ hgo8).trans p0
          have q1 := (World.cell?_alloc_lt w8 (.cells #[.int .i64 (2 + (x8 : Int)), .int .i64 x0, .int .i64 x1, .int .i64 (-1), .int .i64 0] 70) ⟨go, j + 1, none⟩ hgo8).trans p1
          have HGc := Lib.hid (HGP.out.alloc (.cells #[.int .i64 (2 + (x8 : Int)), .int .i64 x0, .int .i64 x1, .int .i64 (-1), .int .i64 0] 70))
          clear hx8' hr8 ht8'
          refine hK.out _ _ ⟨p0, p1⟩ (fun hHeld => ?_); clear hK K; (try simp only [Act.put, List.setIfInBounds_toArray, List.set_cons_zero, List.set_cons_succ])
          refine wpAnyH_take (i := 4) (oi := ⟨some 129, _, _, _, _, _⟩) (v := ?_) rfl (by kernel_rfl) (by kernel_rfl) (by kernel_rfl) (fun _ _ _ h => h) (Or.inl ⟨by rfl, ?_⟩) (by assumption) ?_; rotate_left; (focus (intro w hSw; (try dsimp only at hSw); go_simp; (try with_reducible rfl))); (try simp only [Act.put, List.setIfInBounds_toArray, List.set_cons_zero, List.set_cons_succ])
          refine wpAnyH_take (i := 15) (oi := ⟨some 140, _, _, _, _, _⟩) (v := ?_) rfl (by kernel_rfl) (by kernel_rfl) (by kernel_rfl) (fun _ _ _ h => h) (Or.inl ⟨by rfl, ?_⟩) (by assumption) ?_; rotate_left; (focus (intro w hSw; (try dsimp only at hSw); go_simp; (try with_reducible rfl))); (try simp only [Act.put, List.setIfInBounds_toArray, List.set_cons_zero, List.set_cons_succ])
          refine wpAnyH_ready (rs := [1, 16]) (by kernel_rfl) (by simp) ?_; refine AllReadyH.cons (o := ⟨some 126, _, _, _, _, _⟩) rfl (fun K hK => ?_) (AllReadyH.cons (o := ⟨some 141, _, _, _, _, _⟩) rfl (fun K hK => ?_) AllReadyH.nil)
          go_simp
          refine hK.out _ _ ⟨p0, p1⟩ (fun hHeld => ?_); clear hK K; (try simp only [Act.put, List.setIfInBounds_toArray, List.set_cons_zero, List.set_cons_succ])
          refine wpAnyH_ready (rs := [16]) (by kernel_rfl) (by simp) ?_; refine AllReadyH.cons (o := ⟨some 141, _, _, _, _, _⟩) rfl (fun K hK => ?_) AllReadyH.nil; go_simp
          refine hK.out _ _ ⟨q0, q1⟩ (fun hHeld => ?_); clear hK K; (try simp only [Act.put, List.setIfInBounds_toArray, List.set_cons_zero, List.set_cons_succ])
          refine wpAnyH_ready (rs := [17]) (by kernel_rfl) (by simp) ?_; refine AllReadyH.cons (o := ⟨some 142, _, _, _, _, _⟩) rfl (fun K hK => ?_) AllReadyH.nil
          refine step_append_lies _ (by rfl) _ _ _ (by rfl) (w.heap.size + 2) 70 i1 _ 5 40 Try.underlying37 hi1 hy0 hy1 hy2 rfl (by omega) (.slice Af (nf) cf) (nf) _ (by rfl) HGc.out.pr ⟨w8.heap.size, 0, none⟩ 1 1 [.int .i64 (2 + (x8 : Int)), .int .i64 x0, .int .i64 x1, .int .i64 (-1), .int .i64 0] (by rfl) (by rfl) (cells_new _ _ _ _ rfl) (by simp [Value.oneCell']) (by omega) (by unfold maxLen; omega) (by omega) (by simp; omega) (w8.heap.size + 1) (by simp) ?_
          intro gg cap w9 hown9 hgrow9 hat9 hlt9
          have hgr9 : (w8.alloc (.cells #[.int .i64 (2 + (x8 : Int)), .int .i64 x0, .int .i64 x1, .int .i64 (-1), .int .i64 0] 70)).grownBy w9 (Value.slice Af (nf) cf).ownBlock := ⟨hgrow9.os, hgrow9.tape, hgrow9.output, hgrow9.size, hgrow9.block⟩
          have hfr9 := HGc.out.frame hgr9 fun k hk => (HGc.out.pr.lt k hk).1
          have z9 := hfr9.2.2.1
          have h0 := hfr9.2.2.2.2.2.1
          have h1 := hfr9.2.2.2.2.2.2.1
          clear hfr9
          have hxr9 := HGc.out.xr.kept hgr9 (blocks_ne HGc.out.xr HGc.out.pr int_ne_part)
          have s0 := (hxr9.cellAt (j) (by omega)).trans HXX.out.1
          have s1 := (hxr9.cellAt (j + 1) (by omega)).trans HXX.out.2
          clear hxr9
          refine hK.out _ _ ⟨s0, s1⟩ (fun hHeld => ?_); clear hK K; (try simp only [Act.put, List.setIfInBounds_toArray, List.set_cons_zero, List.set_cons_succ])
          refine wpAnyH_take (i := 18) (oi := ⟨some 143, _, _, _, _, _⟩) (v := ?_) rfl (by kernel_rfl) (by kernel_rfl) (by kernel_rfl) (fun _ _ _ h => h) (Or.inl ⟨by rfl, ?_⟩) (by assumption) ?_; rotate_left; (focus (intro w hSw; (try dsimp only at hSw); go_simp; (try with_reducible rfl))); (try simp only [Act.put, List.setIfInBounds_toArray, List.set_cons_zero, List.set_cons_succ])
          refine wpAnyH_ready (rs := [19]) (by kernel_rfl) (by simp) ?_; refine AllReadyH.cons (o := ⟨none, _, _, _, _, _⟩) rfl (fun K hK => ?_) AllReadyH.nil; go_simp
          refine hK.out _ _ ⟨(World.cell?_setCell_other _ _ _ _ (hnb1 _)).trans s0, (World.cell?_setCell_other _ _ _ _ (hnb1 _)).trans s1⟩ (fun hHeld => ?_); clear hK K; (try simp only [Act.put, List.setIfInBounds_toArray, List.set_cons_zero, List.set_cons_succ])
          refine wpAnyH_done (by kernel_rfl) ?_ _
          rotate_left
          go_simp
          refine hK.out _ _ ⟨q0, q1⟩ (fun hHeld => ?_); clear hK K; (try simp only [Act.put, List.setIfInBounds_toArray, List.set_cons_zero, List.set_cons_succ])
          refine wpAnyH_ready (rs := [1]) (by kernel_rfl) (by simp) ?_; refine AllReadyH.cons (o := ⟨some 126, _, _, _, _, _⟩) rfl (fun K hK => ?_) AllReadyH.nil; go_simp
          refine hK.out _ _ ⟨q0, q1⟩ (fun hHeld => ?_); clear hK K; (try simp only [Act.put, List.setIfInBounds_toArray, List.set_cons_zero, List.set_cons_succ])
          refine wpAnyH_ready (rs := [17]) (by kernel_rfl) (by simp) ?_; refine AllReadyH.cons (o := ⟨some 142, _, _, _, _, _⟩) rfl (fun K hK => ?_) AllReadyH.nil
          refine step_append_lies _ (by rfl) _ _ _ (by rfl) (w.heap.size + 2) 70 i1 _ 5 40 Try.underlying37 hi1 hy0 hy1 hy2 rfl (by omega) (.slice Af (nf) cf) (nf) _ (by rfl) HGc.out.pr ⟨w8.heap.size, 0, none⟩ 1 1 [.int .i64 (2 + (x8 : Int)), .int .i64 x0, .int .i64 x1, .int .i64 (-1), .int .i64 0] (by rfl) (by rfl) (cells_new _ _ _ _ rfl) (by simp [Value.oneCell']) (by omega) (by unfold maxLen; omega) (by omega) (by simp; omega) (w8.heap.size + 1) (by simp) ?_
          intro gg cap w9 hown9 hgrow9 hat9 hlt9
          have hgr9 : (w8.alloc (.cells #[.int .i64 (2 + (x8 : Int)), .int .i64 x0, .int .i64 x1, .int .i64 (-1), .int .i64 0] 70)).grownBy w9 (Value.slice Af (nf) cf).ownBlock := ⟨hgrow9.os, hgrow9.tape, hgrow9.output, hgrow9.size, hgrow9.block⟩
          have hfr9 := HGc.out.frame hgr9 fun k hk => (HGc.out.pr.lt k hk).1
          have z9 := hfr9.2.2.1
          have h0 := hfr9.2.2.2.2.2.1
          have h1 := hfr9.2.2.2.2.2.2.1
          clear hfr9
          have hxr9 := HGc.out.xr.kept hgr9 (blocks_ne HGc.out.xr HGc.out.pr int_ne_part)
          have s0 := (hxr9.cellAt (j) (by omega)).trans HXX.out.1
          have s1 := (hxr9.cellAt (j + 1) (by omega)).trans HXX.out.2
          clear hxr9
          refine hK.out _ _ ⟨s0, s1⟩ (fun hHeld => ?_); clear hK K; (try simp only [Act.put, List.setIfInBounds_toArray, List.set_cons_zero, List.set_cons_succ])
          refine wpAnyH_take (i := 18) (oi := ⟨some 143, _, _, _, _, _⟩) (v := ?_) rfl (by kernel_rfl) (by kernel_rfl) (by kernel_rfl) (fun _ _ _ h => h) (Or.inl ⟨by rfl, ?_⟩) (by assumption) ?_; rotate_left; (focus (intro w hSw; (try dsimp only at hSw); go_simp; (try with_reducible rfl))); (try simp only [Act.put, List.setIfInBounds_toArray, List.set_cons_zero, List.set_cons_succ])
          refine wpAnyH_ready (rs := [19]) (by kernel_rfl) (by simp) ?_; refine AllReadyH.cons (o := ⟨none, _, _, _, _, _⟩) rfl (fun K hK => ?_) AllReadyH.nil; go_simp
          refine hK.out _ _ ⟨(World.cell?_setCell_other _ _ _ _ (hnb1 _)).trans s0, (World.cell?_setCell_other _ _ _ _ (hnb1 _)).trans s1⟩ (fun hHeld => ?_); clear hK K; (try simp only [Act.put, List.setIfInBounds_toArray, List.set_cons_zero, List.set_cons_succ])
          refine wpAnyH_done (by kernel_rfl) ?_ _
          all_goals
            have HG8 := Lib.hid (HGc.out.parted (Af' := some ⟨gg, 0, none⟩) (nf' := nf + 1) (cf' := cap) (ps' := ps ++ [⟨2 + (x8 : Int), x0, x1, -1, 0⟩]) hgr9 (by rw [List.flatMap_append]; exact hown9) (by rw [List.length_append, ← HGc.out.pl]; rfl))
            have HXL8 := Lib.hid (HXL.out)
            clear hown9 hgrow9 hgr9 hat9 hlt9 z9 h0 h1 s0 s1 q0 q1 p0 p1 o0 o1 g0 g1 f0 f1 z1 z8 HGc HGP HG HXX a8
            go_wp2_with fail
            generalize (w9.setCell ⟨w.heap.size + 1, 0, none⟩ (.slice (some ⟨gg, 0, none⟩) (nf + 1) cap)) = W8 at *
            have f8 := HG8.out.fb
            have z8 : w.heap.size + 1 < W8.heap.size := HG8.out.lt
            have n1 : IntKind.i64.wrap ((nf : Int) + 1 - 1) = (nf : Int) := by rw [IntKind.wrap_i64]; omega
            have n2 : IntKind.i64.wrap ((nf : Int)) = (nf : Int) := by rw [IntKind.wrap_i64]; omega
            have f8' := (World.cell?_alloc_lt W8 (.cells #[.int .i64 ((nf : Int))] 3) ⟨w.heap.size + 1, 0, none⟩ z8).trans f8
            have HG9 := Lib.hid (HG8.out.alloc (.cells #[.int .i64 ((nf : Int))] 3))
            have hcg : j + 2 ≤ cg := by
              rcases HG8.out.xr.2 with ⟨h', _⟩ | ⟨g', cap', cur, h', _, _, hnc, _⟩
              · simp at h'
              · simp at h'
                omega
            have hcg1 : (j : Int) ≤ (cg : Int) := by omega
            go_region_held3 (fun w' => w'.cell? ⟨w.heap.size + 1, 0, none⟩ = some (.slice (some ⟨gg, 0, none⟩) (nf + 1) cap)) (first | exact f8 | exact f8' | exact f9)
              (first
                | (refine step_append_lies _ (by rfl) _ _ _ (by rfl) (w.heap.size + 2) 3 i0 (.int .i64 0) 1 8 Try.underlying26 hi0 hz0 hz1 hz2 rfl (by omega) (.slice (some ⟨go, 0, none⟩) (j) cg) (j) _ (by rfl) (own_shrink HG9.out.xr (by omega)) ⟨W8.heap.size, 0, none⟩ 1 1 [.int .i64 ((nf : Int))] (by rfl) (by rfl) (cell_one_new _ _ _) (by simp [Value.oneCell']) (by omega) (by unfold maxLen; omega) (by omega) (by simp; omega) W8.heap.size.succ (by simp) ?_; intro gh cah w10 hown10 hgrow10' hat10 hlt10; have hgrow10 : (W8.alloc (.cells #[.int .i64 ((nf : Int))] 3)).grownBy w10 (Value.slice (some ⟨go, 0, none⟩) (j) cg).ownBlock := ⟨hgrow10'.os, hgrow10'.tape, hgrow10'.output, hgrow10'.size, hgrow10'.block⟩; have HGA := Lib.hid (HG9.out.opened (xs' := X.take (j) ++ [(nf : Int)]) (own_shrink HG9.out.xr (by omega : j ≤ j + 2)) hgrow10 (by first | (simpa using hown10) | (simpa [List.map_take] using hown10) | (rw [List.map_append, List.map_take]; exact hown10)) (by have := HXL8.out; rw [List.length_append, List.length_take]; show _ = _ + 1; omega)); have f9 := HGA.out.fb))
            clear f8 f8' f9 hgrow10 hgrow10' hown10 hat10 hlt10 HG8 HG9 z8 n1 n2 a1 a2 a1' a2' t1 t2
            go_wp2_with fail
            go_roundw
            case rel => exact ⟨j + 1, nf + 1, cap, _, _, _, _, by omega, by omega, by omega, HGA.out⟩
            case measure => simp [slcLen]
        · obtain ⟨Avz, cvz, rfl⟩ := row_form' HG.out.xr
          have hgs := HG.out.gs
          have hVF := Lib.hid fun (hv : validF ps = true) => validF_good ps hv
          have HVC := Lib.hid (spec_validFormula Af nf cf ps wr wr.heap.size (Nat.le_refl _) HG.out.pl (PS.of_own HG.out.pr) (by omega))
          have HPL := Lib.hid HG.out.pl
          have f0 := HG.out.fb
          have z1 : w.heap.size + 1 < wr.heap.size := HG.out.lt
          generalize validF ps = bv at *
          go_wp2_with fail
          refine HVC.out.mono ?_
          rintro e w2 ⟨rfl, hb2⟩
          have HG2 := Lib.hid (HG.out.step hb2)
          clear hb2 HVC f0 z1 HG
          cases bv
          · go_wp2_with fail
            refine (readPart_any g A n c bs Q An l c' nodes _ HG2.out.rd HN.out hby hs (by omega) HL.out hl2 (HG2.out.nd.more (by have := HG2.out.lt; omega)) HG2.out.ng).mono ?_
            rintro e w3 ⟨q, rfl, hr3, ht3⟩
            have HG3 := Lib.hid (HG2.out.pick hr3 ht3)
            have z3 : w.heap.size < w3.heap.size := by have := HG3.out.lt; omega
            obtain ⟨V, hV⟩ : ∃ V : Value, V = .slice (some ⟨w3.heap.size, 0, none⟩) 1 1 := ⟨_, rfl⟩
            have hsz : (w3.setCell ⟨w.heap.size, 0, none⟩ V).heap.size = w3.heap.size := by simp [World.setCell]
            have hrow := World.ownsRow_lit (e := 70) (size := 5) (base := w.heap.size + 2) (w3.setCell ⟨w.heap.size, 0, none⟩ V) #[.int .i64 q.k, .int .i64 q.a, .int .i64 q.b, .int .i64 q.c, .int .i64 q.n] 1 (by rw [hsz]; have := HG3.out.lt; omega) (by unfold maxLen; omega) (by simp)
            rw [hsz] at hrow
            have HROW := Lib.hid hrow
            have r0 := HG3.out.rb
            have r1 := HG3.out.rz
            have HZ := Lib.hid ((World.cell?_alloc_lt (w3.setCell ⟨w.heap.size, 0, none⟩ V) (.cells #[.int .i64 q.k, .int .i64 q.a, .int .i64 q.b, .int .i64 q.c, .int .i64 q.n] 70) ⟨w.heap.size, 0, none⟩ (by rw [hsz]; exact z3)).trans (World.cell?_setCell_same _ _ _ r0))
            have HRD := Lib.hid (((HG3.out.rd.mono (show _ ≤ P + 200 by omega)).set1 hgw 0 V).alloc (.cells #[.int .i64 q.k, .int .i64 q.a, .int .i64 q.b, .int .i64 q.c, .int .i64 q.n] 70))
            have HFR := Lib.hid (HG3.out.fr.trans (Frd.of_below (((Below.refl w.heap.size w3).setCell (p := ⟨w.heap.size, 0, none⟩) (Nat.le_refl _) V).alloc (by rw [hsz]; omega) (.cells #[.int .i64 q.k, .int .i64 q.a, .int .i64 q.b, .int .i64 q.c, .int .i64 q.n] 70)) (Nat.le_refl _)))
            rw [hV] at HROW HZ HRD HFR
            clear hr3 ht3 HG2 HG3 hrow hsz hV
            go_wp2
            have hz := HZ.out
            refine bodyPost_ret (v := .agg #[.slice (some ⟨w3.heap.size, 0, none⟩) 1 1]) (by simp [results, Try.results41, go_sem, hz]) rfl ?_
            exact ⟨_, 1, 1, [q], rfl, rfl, by omega, by omega, own_mono HROW.out (by omega), HRD.out, HFR.out.tch⟩
          · obtain ⟨_, hv1, hv12⟩ := hVF.out (by first | rfl | trivial)
            have r0 := HG2.out.rb
            have r1 := HG2.out.rz
            have f0 := HG2.out.fb
            have z1 : w.heap.size + 1 < w2.heap.size := HG2.out.lt
            have z0 : w.heap.size < w2.heap.size := by omega
            have hnf1 : 1 ≤ nf := by have := HPL.out; omega
            clear hv1 hv12
            go_wp2
            refine bodyPost_ret (v := .agg #[.slice Af nf cf]) (by simp [results, Try.results41, go_sem, r0]) rfl ?_
            refine ⟨_, _, _, ps, rfl, HPL.out, hnf1, by omega, ?_, (HG2.out.rd.mono (by omega)).set1 hgw 0 _, (HG2.out.fr.trans (Frd.of_below ((Below.refl w.heap.size _).setCell (p := ⟨w.heap.size, 0, none⟩) (Nat.le_refl _) _) (Nat.le_refl _))).tch⟩
            exact own_mono (own_keep HG2.out.pr fun y hy hy' => Below.heap_setCell _ _ _ _ (by show y ≠ w.heap.size; omega)) (by omega)
end Go.Proofs.Ytbnioefhfpahcaa

namespace Go.Proofs.Ytbnioefhfpahcaa
set_option linter.unusedSimpArgs false
set_option linter.unusedVariables false
open Go.RowKit
theorem PS.set0 {w : World} {B g : Nat} {A : Option Addr} {ps : List Pt} (h : PS w B A ps) (hne : ∀ b off, A = some ⟨b, off, none⟩ → b ≠ g) (j : Nat) (x : Value) : PS (w.setCell ⟨g, j, none⟩ x) B A ps := by
  intro hn
  obtain ⟨b, off, e, hb, hc⟩ := h hn
  have hbg := hne b off e
  have k : ∀ i : Nat, (w.setCell ⟨g, j, none⟩ x).cell? ⟨b, i, none⟩ = w.cell? ⟨b, i, none⟩ := fun i => World.cell?_setCell_other _ _ _ _ (by intro e; cases e; exact hbg rfl)
  refine ⟨b, off, e, hb, fun i hi => ?_⟩
  obtain ⟨a0, a1, a2, a3, a4⟩ := hc i hi
  exact ⟨(k _).trans a0, (k _).trans a1, (k _).trans a2, (k _).trans a3, (k _).trans a4⟩
theorem IS.set0 {w : World} {B g : Nat} {A : Option Addr} {xs : List Int} (h : IS w B A xs) (hne : ∀ b off, A = some ⟨b, off, none⟩ → b ≠ g) (j : Nat) (x : Value) : IS (w.setCell ⟨g, j, none⟩ x) B A xs := by
  intro hn
  obtain ⟨b, off, e, hb, hc⟩ := h hn
  have hbg := hne b off e
  exact ⟨b, off, e, hb, fun i hi => (World.cell?_setCell_other _ _ _ _ (by intro e; cases e; exact hbg rfl)).trans (hc i hi)⟩
end Go.Proofs.Ytbnioefhfpahcaa

namespace Go.Proofs.Ytbnioefhfpahcaa
set_option linter.unusedSimpArgs false
set_option linter.unusedVariables false
open Go.RowKit
set_option maxHeartbeats 800000 in
theorem laws_equalInts (A A' : Option Addr) (n n' c c' : Nat) (a b : List Int) (w : World) (B : Nat) (hB : B ≤ w.heap.size) (hn : n = a.length) (hn' : n' = b.length) (h : IS w B A a) (h' : IS w B A' b) (hs : n ≤ 2000000) (hs' : n' ≤ 2000000) :
    Calls Try.prog 12 #[.slice A n c, .slice A' n' c'] w fun e w' => e = .returned (.bool (decide (a = b))) ∧ Below w.heap.size w w' := by
  by_cases hl : n = n'
  · have hne : ((n : Int) != (n' : Int)) = false := by simp [hl]
    have HL := Lib.hid hl
    have HN := Lib.hid hn
    have HN' := Lib.hid hn'
    have H := Lib.hid h
    have H' := Lib.hid h'
    clear hl hn hn' h h'
    go_enter Try.func12, Try.ntmps12
    go_wp2
    go_loopw [5] (fun i wr => ∃ k : Nat, k ≤ n ∧ i = .int .i64 k ∧ Hid (∀ j, j < k → a.getD j 0 = b.getD j 0) ∧ Below w.heap.size w wr) (fun i _ => n - (intOf i).toNat)
    case atStart => exact ⟨0, Nat.zero_le _, rfl, fun j hj => by omega, Below.refl _ _⟩
    case round =>
      obtain ⟨k, hk, rfl, HT, hb⟩ := hrel
      by_cases hlt : k < n
      · have hlt' : k < n' := by have := HL.out; omega
        obtain ⟨b1, off, rfl, hbB, hc⟩ := H.out (by have := HN.out; omega)
        obtain ⟨b2, off', rfl, hbB', hc'⟩ := H'.out (by have := HN'.out; omega)
        have d1 := hc k (by have := HN.out; omega)
        have d2 := hc' k (by have := HN'.out; omega)
        have e1 := (hb.cell (p := ⟨b1, off + k, none⟩) (by simp; omega)).trans d1
        have e2 := (hb.cell (p := ⟨b2, off' + k, none⟩) (by simp; omega)).trans d2
        clear hc hc' d1 d2 H H'
        have HNE : Hid (a.getD k 0 ≠ b.getD k 0 → decide (a = b) = false) := fun hh => by rw [decide_eq_false_iff_not]; rintro rfl; exact hh rfl
        have HEQ : Hid (a.getD k 0 = b.getD k 0 → ∀ j, j < k + 1 → a.getD j 0 = b.getD j 0) := fun hh j hj => by
          rcases Nat.lt_or_ge j k with h1 | h1
          · exact HT.out j h1
          · obtain rfl : j = k := by omega
            exact hh
        generalize a.getD k 0 = x at *
        generalize b.getD k 0 = y at *
        cases hxy : (x == y)
        · have hne2 : (x != y) = true := by simp [bne, hxy]
          have HF := Lib.hid (HNE.out (by simpa using hxy))
          clear hxy
          go_wp2
          go_region
          go_wp2
          go_ret
          exact ⟨ret_b HF.out.symm, hb.drew⟩
        · have hne2 : (x != y) = false := by simp [bne, hxy]
          have HF := Lib.hid (HEQ.out (by simpa using hxy))
          clear hxy
          go_wp2
          go_region
          go_wp2
          go_roundw
          case rel => exact ⟨k + 1, by omega, by go_num, HF.out, hb.drew⟩
          case measure => simp [intOf]; omega
      · obtain rfl : k = n := by omega
        go_wp2
        go_ret
        refine ⟨ret_b ?_, hb⟩
        symm
        apply decide_eq_true
        have h1 := HN.out
        have h2 := HN'.out
        have h3 := HL.out
        apply List.ext_getElem (by omega)
        intro j hj hj'
        have := HT.out j (by omega)
        simpa [List.getD, hj, hj'] using this
  · have hne : ((n : Int) != (n' : Int)) = true := by simp; omega
    have hf : decide (a = b) = false := by rw [decide_eq_false_iff_not]; rintro rfl; omega
    rw [hf]
    clear hl hn hn' h h' hf
    go_enter Try.func12, Try.ntmps12
    go_wp2
    go_ret
    exact ⟨rfl, Below.refl _ _⟩
end Go.Proofs.Ytbnioefhfpahcaa

namespace Go.Proofs.Ytbnioefhfpahcaa
set_option linter.unusedSimpArgs false
set_option linter.unusedVariables false
open Go.RowKit
set_option maxRecDepth 100000 in
set_option maxHeartbeats 1600000 in
theorem laws_equalLists (A A' : Option Addr) (n n' c c' : Nat) (xss yss : List (List Int)) (w : World) (B : Nat) (hB : B ≤ w.heap.size) (hn : n = xss.length) (hn' : n' = yss.length) (h : SS w B A xss) (h' : SS w B A' yss) (hb1 : SB xss) (hb2 : SB yss) :
    Calls Try.prog 17 #[.slice A n c, .slice A' n' c'] w fun e w' => e = .returned (.bool (decide (xss = yss))) ∧ Below w.heap.size w w' := by
  have hm1 : n ≤ 1048576 := by rw [hn]; exact hb1.1
  have hm2 : n' ≤ 1048576 := by rw [hn']; exact hb2.1
  by_cases hl : n = n'
  · have hne : ((n : Int) != (n' : Int)) = false := by simp [hl]
    have HL := Lib.hid hl
    have HN := Lib.hid hn
    have HN' := Lib.hid hn'
    have H := Lib.hid h
    have H' := Lib.hid h'
    have HB1 := Lib.hid hb1
    have HB2 := Lib.hid hb2
    clear hl hn hn' h h' hb1 hb2
    go_enter Try.func17, Try.ntmps17
    go_wp2
    go_loopw [5] (fun i wr => ∃ k : Nat, k ≤ n ∧ i = .int .i64 k ∧ Hid (xss.take k = yss.take k) ∧ Below w.heap.size w wr) (fun i _ => n - (intOf i).toNat)
    case atStart => exact ⟨0, Nat.zero_le _, rfl, by simp [Hid], Below.refl _ _⟩
    case round =>
      obtain ⟨k, hk, rfl, HT, hb⟩ := hrel
      by_cases hlt : k < n
      · obtain ⟨b, off, rfl, hbB, hc⟩ := H.out (by have := HN.out; omega)
        obtain ⟨b', off', rfl, hbB', hc'⟩ := H'.out (by have := HN'.out; have := HL.out; omega)
        obtain ⟨A1, n1, c1, c2, hn1', hps⟩ := hc k (by have := HN.out; omega)
        obtain ⟨A2, n2, d1, d2, hn2', hqs⟩ := hc' k (by have := HN'.out; have := HL.out; omega)
        have hx1 := HB1.out.2 k
        have hx2 := HB2.out.2 k
        clear hc hc' H H'
        have hlt' : k < n' := by have := HL.out; omega
        have b1 := (hb.cell (p := ⟨b, off + k, none⟩) (by simp; omega)).trans c2
        have e1 := (hb.cell (p := ⟨b', off' + k, none⟩) (by simp; omega)).trans d2
        have HPS := Lib.hid (hps.below hb hB)
        have HQS := Lib.hid (hqs.below hb hB)
        clear c2 d2 hps hqs
        have hpd : xss.getD k [] = xss.getD k default := rfl
        have hqd : yss.getD k [] = yss.getD k default := rfl
        rw [hpd] at *
        rw [hqd] at *
        clear hpd hqd
        generalize hp : xss.getD k default = p at *
        generalize hq : yss.getD k default = q at *
        have HP := Lib.hid hp
        have HQ := Lib.hid hq
        have HN1 := Lib.hid hn1'
        have HN2 := Lib.hid hn2'
        have hy1 : n1 ≤ 2000000 := by omega
        have hy2 : n2 ≤ 2000000 := by omega
        have HEQ := Lib.hid fun (w' : World) (hB : B ≤ w'.heap.size) (h : IS w' B A1 p) (h' : IS w' B A2 q) => laws_equalInts A1 A2 n1 n2 c1 d1 p q w' B hB HN1.out HN2.out h h' hy1 hy2
        obtain ⟨r, hr⟩ : ∃ r : Bool, r = decide (p = q) := ⟨_, rfl⟩
        rw [← hr] at HEQ
        have HR := Lib.hid hr
        clear hp hq hn1' hn2' hx1 hx2 hr
        go_wp2
        go_still_tail 8, (by kernel_rfl)
        go_wp2_with fail
        refine (HEQ.out wr.drew (Nat.le_trans hB hb.size) HPS.out HQS.out).mono ?_
        rintro e w1 ⟨rfl, hb1⟩
        cases r
        · go_wp2
          go_ret
          refine ⟨ret_b ?_, hb.drew.trans (hb1.mono hb.size)⟩
          have hne : xss.getD k default ≠ yss.getD k default := by
            rw [HP.out, HQ.out]; exact of_decide_eq_false HR.out.symm
          simp [getD_ne xss yss k hne]
        · have he : xss.getD k default = yss.getD k default := by
            rw [HP.out, HQ.out]; exact of_decide_eq_true HR.out.symm
          have hts := take_step xss yss k (by have := HN.out; omega) (by have := HN'.out; omega) HT.out he
          have HTS := Lib.hid hts
          clear he hts
          go_wp2
          go_roundw
          case rel => exact ⟨k + 1, by omega, by go_num, HTS.out, hb.drew.trans (hb1.mono hb.size)⟩
          case measure => simp [intOf]; omega
      · go_wp2
        go_ret
        refine ⟨ret_b ?_, hb⟩
        have hkn : k = n := by omega
        have := take_all_eq xss yss n HN.out (HL.out.trans HN'.out) (by rw [← hkn]; exact HT.out)
        simp [this]
  · have hne : ((n : Int) != (n' : Int)) = true := by simp; omega
    have hf : decide (xss = yss) = false := by
      rw [decide_eq_false_iff_not]; rintro rfl; omega
    rw [hf]
    clear hl hn hn' h h' hf hb1 hb2
    go_enter Try.func17, Try.ntmps17
    go_wp2
    go_ret
    exact ⟨rfl, Below.refl _ _⟩
end Go.Proofs.Ytbnioefhfpahcaa
