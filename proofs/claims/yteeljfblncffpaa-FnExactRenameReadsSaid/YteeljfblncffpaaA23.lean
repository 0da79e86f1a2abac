/- Parts in order by the model: spec.post, ordered; both OrderParts. -/
import Derived.Test.YteeljfblncffpaaA22
import Derived.Deep.RegionHeld3
namespace Go.Proofs.Yteeljfblncffpaa
set_option linter.unusedSimpArgs false
set_option linter.unusedVariables false
open Go.RowKit

theorem grown_setCell (w : World) (g j : Nat) (x : Value) : w.grownBy (w.setCell ⟨g, j, none⟩ x) (some g) :=
  ⟨rfl, rfl, rfl, by simp [World.setCell], fun k hk hr => Below.heap_setCell _ _ _ _ (by intro e; exact hr (by rw [e]))⟩

/-- What holds at the head of the loop of spec.post. -/
structure SP (w : World) (v0 vl fv : Value) (base n L : Nat) (qs : List Pt) (ks : List Tm) (xs : List Int) (p : Pt) (m nm : Nat) (v : Value) (wr : World) : Prop where
  num : nm = n + ksize (ks.take m)
  row : wr.ownsRow base 51 5 v nm ((qs ++ kpost (ks.take m) n).flatMap Pt.cells)
  list : wr.ownsRow (w.heap.size + 2) 3 1 vl L (xs.map (Value.int .i64))
  gr : Gr w v0 wr v
  avl : Apart v vl
  o0 : v.ownBlock ≠ some w.heap.size
  o1 : v.ownBlock ≠ some (w.heap.size + 1)
  lt : w.heap.size + 1 < wr.heap.size
  fbox : wr.cell? ⟨w.heap.size, 0, none⟩ = some fv
  p0 : wr.cell? ⟨w.heap.size + 1, 0, none⟩ = some (.int .i64 p.k)
  p1 : wr.cell? ⟨w.heap.size + 1, 1, none⟩ = some (.int .i64 (p.sub (kat (ks.take m) n)).a)
  p2 : wr.cell? ⟨w.heap.size + 1, 2, none⟩ = some (.int .i64 (p.sub (kat (ks.take m) n)).b)
  p3 : wr.cell? ⟨w.heap.size + 1, 3, none⟩ = some (.int .i64 (p.sub (kat (ks.take m) n)).c)
  p4 : wr.cell? ⟨w.heap.size + 1, 4, none⟩ = some (.int .i64 p.n)
  fz : ∀ j, wr.frozen? ⟨w.heap.size + 1, j, none⟩ = false

theorem Gr.off {w w' : World} {v v' : Value} (h : Gr w v w' v') {g : Nat} (hg : g < w.heap.size) (ho : v.ownBlock ≠ some g) : v'.ownBlock ≠ some g ∧ (∀ j, w'.cell? ⟨g, j, none⟩ = w.cell? ⟨g, j, none⟩) ∧ ∀ j, w'.frozen? ⟨g, j, none⟩ = w.frozen? ⟨g, j, none⟩ := by
  have hb := h.1.block g hg (fun e => ho e.symm)
  refine ⟨?_, fun j => World.cell?_of_block (a := ⟨g, j, none⟩) hb, fun j => World.frozen?_of_block (a := ⟨g, j, none⟩) hb⟩
  rcases h.2 with e | e
  · rw [e]; exact ho
  · intro e'; have := e g e'; omega

theorem Gr.of_drew {w w' : World} {v v' : Value} (h : Gr w.drew v w' v') : Gr w v w' v' := ⟨⟨h.1.os, h.1.tape, h.1.output, h.1.size, h.1.block⟩, h.2⟩

theorem list_len0 (l : List Int) (h : l.length = 0) : l = [] := List.eq_nil_of_length_eq_zero h
theorem list_len1 (l : List Int) (h : l.length = 1) : ∃ a, l = [a] := by
  match l, h with
  | [a], _ => exact ⟨a, rfl⟩
theorem list_len2 (l : List Int) (h : l.length = 2) : ∃ a b, l = [a, b] := by
  match l, h with
  | [a, b], _ => exact ⟨a, b, rfl⟩

theorem SP.next {w : World} {v0 vl fv : Value} {base n L : Nat} {qs : List Pt} {ks : List Tm} {xs : List Int} {p : Pt} {m nm : Nat} {v : Value} {wr w2 : World} {v2 : Value} (h : SP w v0 vl fv base n L qs ks xs p m nm v wr) (hm : m < 3) (hg : Gr wr v w2 v2) (tm : Tm) (hts : ks.take (m + 1) = ks.take m ++ [tm]) (n2 : Nat) (hn2 : n2 = nm + tm.size)
    (ho : w2.ownsRow base 51 5 v2 n2 ((qs ++ kpost (ks.take m) n ++ tm.post nm).flatMap Pt.cells)) (j : Nat) (hj : j = m + 1) : SP w v0 vl fv base n L qs ks xs p (m + 1) n2 v2 (w2.setCell ⟨w.heap.size + 1, j, none⟩ (.int .i64 (n2 - 1))) := by
  subst hj
  have hg0 : w.heap.size < wr.heap.size := by have := h.lt; omega
  obtain ⟨o0, c0, f0⟩ := hg.off hg0 h.o0
  obtain ⟨o1, c1, f1⟩ := hg.off h.lt h.o1
  have hsz := hg.size
  have hgs := grown_setCell w2 (w.heap.size + 1) (m + 1) (.int .i64 (n2 - 1))
  have hl := hg.other h.list h.avl
  have hkl : (kat (ks.take m) n).length = m := by
    rw [kat_len]
    have := congrArg List.length hts
    simp at this
    simp; omega
  have hkt : kat (ks.take (m + 1)) n = kat (ks.take m) n ++ [((n2 : Nat) : Int) - 1] := by rw [hts, kat_snoc, hn2, h.num]
  have hcell : ∀ k, k ≠ m + 1 → (w2.setCell ⟨w.heap.size + 1, m + 1, none⟩ (.int .i64 (n2 - 1))).cell? ⟨w.heap.size + 1, k, none⟩ = wr.cell? ⟨w.heap.size + 1, k, none⟩ := fun k hk => by
    rw [World.cell?_setCell_other _ _ _ _ (by intro e; simp at e; try omega)]; exact c1 k
  have hsame : ∀ x, wr.cell? ⟨w.heap.size + 1, m + 1, none⟩ = some x → (w2.setCell ⟨w.heap.size + 1, m + 1, none⟩ (.int .i64 (n2 - 1))).cell? ⟨w.heap.size + 1, m + 1, none⟩ = some (.int .i64 (n2 - 1)) := fun x hx => World.cell?_setCell_same _ _ _ ((c1 (m + 1)).trans hx)
  refine ⟨by rw [hts, ksize_snoc]; have := h.num; omega, ?_, hl.1.kept hgs ?_, (h.gr.trans hg).elsewhere hgs (fun k hk => by cases hk; omega), hl.2, o0, o1, by simp [World.setCell]; have := h.lt; omega, ?_, ?_, ?_, ?_, ?_, ?_, fun j => by simpa using (f1 j).trans (h.fz j)⟩
  · have h1 : qs ++ kpost (ks.take m) n ++ tm.post nm = qs ++ kpost (ks.take (m + 1)) n := by rw [hts, kpost_snoc, h.num, List.append_assoc]
    rw [h1] at ho
    exact ho.kept hgs (.inr o1)
  · right
    intro e
    have := (h.list.lt _ e).1
    omega
  · rw [World.cell?_setCell_other _ _ _ _ (by intro e; simp at e)]; exact (c0 0).trans h.fbox
  · rw [hcell 0 (by omega)]; exact h.p0
  rotate_left 3
  · rw [hcell 4 (by omega)]; exact h.p4
  all_goals
    rw [hkt]
    have h1 := h.p1
    have h2 := h.p2
    have h3 := h.p3
    generalize kat (ks.take m) n = at_ at *
  · rcases (by omega : m = 0 ∨ m = 1 ∨ m = 2) with rfl | rfl | rfl
    · obtain rfl := list_len0 _ hkl; rw [hsame _ h1]; rfl
    · rw [hcell 1 (by omega), h1]
      obtain ⟨a, rfl⟩ := list_len1 _ hkl; rfl
    · rw [hcell 1 (by omega), h1]
      obtain ⟨a, b, rfl⟩ := list_len2 _ hkl; rfl
  · rcases (by omega : m = 0 ∨ m = 1 ∨ m = 2) with rfl | rfl | rfl
    · rw [hcell 2 (by omega), h2]
      obtain rfl := list_len0 _ hkl; rfl
    · obtain ⟨a, rfl⟩ := list_len1 _ hkl; rw [hsame _ h2]; rfl
    · rw [hcell 2 (by omega), h2]
      obtain ⟨a, b, rfl⟩ := list_len2 _ hkl; rfl
  · rcases (by omega : m = 0 ∨ m = 1 ∨ m = 2) with rfl | rfl | rfl
    · rw [hcell 3 (by omega), h3]
      obtain rfl := list_len0 _ hkl; rfl
    · rw [hcell 3 (by omega), h3]
      obtain ⟨a, rfl⟩ := list_len1 _ hkl; rfl
    · obtain ⟨a, b, rfl⟩ := list_len2 _ hkl; rw [hsame _ h3]; rfl

set_option maxRecDepth 100000 in
set_option maxHeartbeats 6400000 in
theorem spec_post (A : Option Addr) (n c : Nat) (ps : List Pt) (B : Nat) (hn : n = ps.length) (hg : AllGood ps) (hs : n ≤ 1999999) (f : Nat) (hfn : f ≤ n) :
    ∀ (i : Nat) (v : Value) (mq : Nat) (qs : List Pt) (base : Nat) (w : World), i < f → i < n → B ≤ base → base ≤ w.heap.size → PS w B A ps → mq = qs.length → mq + (tmAt ps f i).size ≤ 1000000 → w.ownsRow base 51 5 v mq (qs.flatMap Pt.cells) →
    Calls Try.prog 77 #[.agg #[.slice A n c], .int .i64 i, v] w fun e w' => RetG w v base (mq + (tmAt ps f i).size) (qs ++ (tmAt ps f i).post mq) e w' := by
  obtain ⟨i1, hi1, hy0, hy1, hy2⟩ := info_parts info_part
  induction f with
  | zero => intro i v mq qs base w hi; omega
  | succ f ih =>
    intro i v mq qs base w hif hin hBb hbw h hmq hsz hown
    obtain ⟨b, off, rfl, hbB, hc⟩ := h (by omega)
    obtain ⟨c0, c1, c2, c3, c4⟩ := hc i (by omega)
    clear hc
    have hgi := hg i (by omega)
    have hkids := tmAt_kids ps f i hgi
    have hso := sub_own ps f i mq hgi
    have hpk := (tmAt ps (f + 1) i).post_kids mq
    have hsk := (tmAt ps (f + 1) i).size_kids
    rw [← hso] at hpk
    rw [hkids] at hpk hsk
    generalize (tmAt ps (f + 1) i).size = z at *
    generalize (tmAt ps (f + 1) i).post mq = R at *
    have H := Lib.hid h
    have IH := Lib.hid (ih (by omega))
    have HG := Lib.hid hg
    have HN := Lib.hid hn
    have HMQ := Lib.hid hmq
    have HSK := Lib.hid hsk
    have hbws : b < w.heap.size := by omega
    have hbase2 : B ≤ w.heap.size := by omega
    clear h ih hg hn hkids hso hmq hsk
    generalize hp : ps.getD i default = p at *
    generalize hks : (bel p).map (fun b => tmAt ps f b.toNat) = ks at *
    have HKS := Lib.hid hks
    have HPK := Lib.hid hpk
    have HP := Lib.hid hp
    have HGI := Lib.hid hgi
    have hbl3 := bel_len p
    have hkl : ks.length = (bel p).length := by rw [← hks]; simp
    obtain ⟨Av, cv, rfl⟩ := own_form hown
    have HO := Lib.hid hown
    generalize hL : (bel p).length = L at *
    have HL := Lib.hid hL
    have HKL := Lib.hid hkl
    clear hp hgi hks hpk hown hL hkl
    go_enter Try.func77, Try.ntmps77
    go_wp2_with fail
    refine (spec_below p _).mono ?_
    rintro e w1 ⟨vl, rfl, hownl, hb1⟩
    obtain ⟨Al, cl, rfl, _⟩ := hownl.form
    have hSP : SP w (.slice Av mq cv) (.slice Al L cl) (.slice (some ⟨b, off, none⟩) n c) base mq L qs ks (bel p) p 0 mq (.slice Av mq cv) w1 := by
      have hlt := HO.out.lt
      have hz : w.heap.size + 2 ≤ w1.heap.size := by have := hb1.size; simpa using this
      refine ⟨by simp [ksize], by simpa [kpost] using own_below ((HO.out.alloc _).alloc _) hb1, ?_, (((Gr.refl w _).alloc _).alloc _).below hb1, ?_, ?_, ?_, by omega, ?_, ?_, ?_, ?_, ?_, ?_, ?_⟩
      · have h1 := hownl
        rw [OwnI, HL.out] at h1
        simpa using h1
      · intro k hk e
        have h1 := (hlt k hk).2
        have h2 := (hownl.lt k (by rw [HL.out]; exact e)).1
        simp at h2
        omega
      · intro e; have := (hlt _ e).2; omega
      · intro e; have := (hlt _ e).2; omega
      · exact (hb1.cell (p := ⟨w.heap.size, 0, none⟩) (by simp; try omega)).trans (by go_simp)
      · exact (hb1.cell (p := ⟨w.heap.size + 1, 0, none⟩) (by simp; try omega)).trans (by go_simp)
      · exact (hb1.cell (p := ⟨w.heap.size + 1, 1, none⟩) (by simp; try omega)).trans (by go_simp; rfl)
      · exact (hb1.cell (p := ⟨w.heap.size + 1, 2, none⟩) (by simp; try omega)).trans (by go_simp; rfl)
      · exact (hb1.cell (p := ⟨w.heap.size + 1, 3, none⟩) (by simp; try omega)).trans (by go_simp; rfl)
      · exact (hb1.cell (p := ⟨w.heap.size + 1, 4, none⟩) (by simp; try omega)).trans (by go_simp)
      · intro j; exact (hb1.frozen (p := ⟨w.heap.size + 1, j, none⟩) (by simp; try omega)).trans (by go_simp)
    have HSP0 := Lib.hid hSP
    rw [HL.out]
    clear hSP hownl hb1 c0 c1 c2 c3 c4
    go_wp2
    go_loopw [2, 9] (fun v k wr => ∃ m nm : Nat, m ≤ L ∧ k = .int .i64 m ∧ Hid (SP w (.slice Av mq cv) (.slice Al L cl) (.slice (some ⟨b, off, none⟩) n c) base mq L qs ks (bel p) p m nm v wr)) (fun _ k _ => L - (intOf k).toNat)
    case atStart => exact ⟨0, mq, Nat.zero_le _, rfl, HSP0.out⟩
    case round =>
      clear HSP0
      obtain ⟨m, nm, hm, rfl, HSP⟩ := hrel
      have hlt := HSP.out.lt
      by_cases hml : m < L
      · obtain ⟨b2, off2, rfl, hb2, hc2⟩ := (IS.of_own HSP.out.list) (by have := HL.out; omega)
        have hx := hc2 m (by have := HL.out; omega)
        clear hc2
        obtain ⟨t, ht1, ht2⟩ : ∃ t : Nat, (bel p).getD m 0 = (t : Int) ∧ t < i := by
          have hmem : (bel p).getD m 0 ∈ bel p := by
            have hl : m < (bel p).length := by have := HL.out; omega
            simp [List.getD, hl]
          have := good_bel p i HGI.out _ hmem
          exact ⟨((bel p).getD m 0).toNat, by omega, by omega⟩
        rw [ht1] at hx
        have hkd : ks.getD m default = tmAt ps f t := by
          have hl : m < (bel p).length := by have := HL.out; omega
          rw [← HKS.out]
          simp only [List.getD, List.getElem?_map, List.getElem?_eq_getElem hl, Option.map_some, Option.getD_some]
          have : (bel p)[m] = (t : Int) := by have := ht1; simpa [List.getD, hl] using this
          rw [this]; rfl
        have hts : ks.take (m + 1) = ks.take m ++ [tmAt ps f t] := by rw [← hkd]; exact take_succ_tm ks m (by have := HKL.out; omega)
        have HTS := Lib.hid hts
        have hks1 := ksize_take ks (m + 1)
        rw [hts, ksize_snoc] at hks1
        have hnum := HSP.out.num
        have hsz1 : nm + (tmAt ps f t).size ≤ 1000000 := by have := HSK.out; omega
        have hlen : nm = (qs ++ kpost (ks.take m) mq).length := by
          rw [List.length_append, kpost_len]; have := HMQ.out; omega
        obtain ⟨Aw, cw, rfl⟩ := own_form HSP.out.row
        have hbase : Below base w wr := HSP.out.gr.bel (fun k hk => (HO.out.lt k hk).1) hbw
        have HWR := Lib.hid (H.out.below hbase hBb)
        have HIH := Lib.hid (IH.out t (.slice Aw nm cw) nm (qs ++ kpost (ks.take m) mq) base wr.drew (by omega) (by omega) hBb (by show base ≤ wr.heap.size; omega) HWR.out hlen hsz1 HSP.out.row)
        have hbox := HSP.out.fbox
        have hvl := HSP.out.avl
        obtain ⟨n2, hn2⟩ : ∃ n2 : Nat, n2 = nm + (tmAt ps f t).size := ⟨_, rfl⟩
        rw [← hn2] at HIH
        have hn2b : n2 ≤ 1000000 := by omega
        have hn20 : 1 ≤ n2 := by have := (tmAt ps f t).size_pos; omega
        have HN2 := Lib.hid hn2
        have hm3 : m < 3 := by omega
        have hl0 : w.heap.size < wr.heap.size := by omega
        have HOB := Lib.hid (show (Value.slice Aw nm cw).ownBlock ≠ some b2 from fun e => hvl b2 e rfl)
        have HLT := Lib.hid HSP.out.list
        clear hkd hts hks1 hnum hlen hbase HWR hn2 hsz1 IH hvl ht1
        generalize tmAt ps f t = tm at *
        go_wp2
        go_region_held3 (fun w' => w'.cell? ⟨w.heap.size, 0, none⟩ = some (.slice (some ⟨b, off, none⟩) n c) ∧ w'.cell? ⟨b2, off2 + m, none⟩ = some (.int .i64 t)) (first | exact ⟨hbox, hx⟩ | exact ⟨hbox', hx'⟩)
          (first
            | (go_at_call 77; refine HIH.out.mono ?_; rintro e w2 ⟨v2, rfl, hown2, hgr2'⟩; have hgr2 := hgr2'.of_drew; have hbox' := ((hgr2.off hl0 HSP.out.o0).2.1 0).trans hbox; have hx' := ((hgr2.off hb2 HOB.out).2.1 (off2 + m)).trans hx; clear hgr2'))
        have HNX := Lib.hid (fun j hj => HSP.out.next hm3 hgr2 tm HTS.out n2 HN2.out hown2 j hj)
        obtain ⟨A2, c2, rfl⟩ := own_form hown2
        have hlt2 : w.heap.size + 1 < w2.heap.size := by have := hgr2.size; omega
        have p1 := ((hgr2.off hlt HSP.out.o1).2.1 1).trans HSP.out.p1
        have p2 := ((hgr2.off hlt HSP.out.o1).2.1 2).trans HSP.out.p2
        have p3 := ((hgr2.off hlt HSP.out.o1).2.1 3).trans HSP.out.p3
        have f1 := ((hgr2.off hlt HSP.out.o1).2.2 1).trans (HSP.out.fz 1)
        have f2 := ((hgr2.off hlt HSP.out.o1).2.2 2).trans (HSP.out.fz 2)
        have f3 := ((hgr2.off hlt HSP.out.o1).2.2 3).trans (HSP.out.fz 3)
        clear hown2 hgr2 hbox hx hbox' hx' HSP HIH HLT HOB
        rcases (by omega : m = 0 ∨ m = 1 ∨ m = 2) with e | e | e
        · have e0 : ((m : Int) == 0) = true := by simp [e]
          have HNX' := Lib.hid (HNX.out 1 (by omega))
          clear HNX e
          go_wp2
          go_roundw
          case rel => exact ⟨m + 1, n2, by omega, by go_num, HNX'.out⟩
          case measure => simp [intOf]; omega
        · have e0 : ((m : Int) == 0) = false := by simp [e]
          have e1 : ((m : Int) == 1) = true := by simp [e]
          have HNX' := Lib.hid (HNX.out 2 (by omega))
          clear HNX e
          go_wp2
          go_roundw
          case rel => exact ⟨m + 1, n2, by omega, by go_num, HNX'.out⟩
          case measure => simp [intOf]; omega
        · have e0 : ((m : Int) == 0) = false := by simp [e]
          have e1 : ((m : Int) == 1) = false := by simp [e]
          have e2 : ((m : Int) == 2) = true := by simp [e]
          have HNX' := Lib.hid (HNX.out 3 (by omega))
          clear HNX e
          go_wp2
          go_roundw
          case rel => exact ⟨m + 1, n2, by omega, by go_num, HNX'.out⟩
          case measure => simp [intOf]; omega
      · obtain rfl : m = L := by omega
        have htk : ks.take m = ks := List.take_of_length_le (by have := HKL.out; omega)
        have hrow := HSP.out.row
        have hnum := HSP.out.num
        have p0 := HSP.out.p0
        have p1 := HSP.out.p1
        have p2 := HSP.out.p2
        have p3 := HSP.out.p3
        have p4 := HSP.out.p4
        rw [htk] at hrow hnum p1 p2 p3
        obtain ⟨Aw, cw, rfl⟩ := own_form hrow
        have hnm : nm ≤ 1000000 := by have := HSK.out; omega
        have HR := Lib.hid hrow
        have HG2 := Lib.hid HSP.out.gr
        have HNM := Lib.hid hnum
        have hwr : w.heap.size ≤ wr.heap.size := by omega
        have q0 : p.k = (p.sub (kat ks mq)).k := rfl
        have q4 : p.n = (p.sub (kat ks mq)).n := rfl
        rw [q0] at p0
        rw [q4] at p4
        clear hrow hnum HSP htk q0 q4
        generalize p.sub (kat ks mq) = q at *
        go_wp2_with (at_builtin; refine wpList_append_own_at _ rfl _ _ 27 rfl base 51 i1 _ 5 40 Try.underlying27 hi1 hy0 hy1 hy2 rfl (by decide) _ _ _ rfl (HR.out.alloc _) ⟨_, 0, none⟩ 1 1 q.cells rfl rfl (cells_new _ _ _ _ rfl) ?d2 ?d3 ?d4 ?d5 ?_)
        case d2 => intro u hu; simp [Pt.cells] at hu; rcases hu with rfl | rfl | rfl | rfl | rfl <;> rfl
        case d3 => unfold maxLen; omega
        case d4 => omega
        case d5 => simp; omega
        intro v' w3 hown' hgrow _ hwhere
        have hap : Gr wr (.slice Aw nm cw) w3 v' := (Gr.refl wr _).alloc (.cells #[.int .i64 q.k, .int .i64 q.a, .int .i64 q.b, .int .i64 q.c, .int .i64 q.n] 51) |>.trans (Gr.of_append hgrow (by rw [World.size_alloc]; exact hwhere))
        have HF := Lib.hid (HG2.out.trans hap)
        have hN : nm + 1 = mq + z := by have := HNM.out; have := HSK.out; omega
        rw [hN] at hown'
        have hL : (qs ++ kpost ks mq).flatMap Pt.cells ++ q.cells = (qs ++ R).flatMap Pt.cells := by
          rw [HPK.out, ← List.append_assoc, List.flatMap_append (xs := qs ++ kpost ks mq)]; simp
        have HW := Lib.hid (show w3.ownsRow base 51 5 v' (mq + z) ((qs ++ R).flatMap Pt.cells) by rw [← hL]; simpa using hown')
        clear hown' hgrow hwhere hap hN hL
        go_wp2
        go_ret
        exact ⟨v', rfl, HW.out, HF.out⟩
end Go.Proofs.Yteeljfblncffpaa
