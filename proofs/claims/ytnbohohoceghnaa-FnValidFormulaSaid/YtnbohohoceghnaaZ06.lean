/- Texts put together: A23 A24 A25 D5 R4 M4. -/
import Derived.Test.YtnbohohoceghnaaZ05
import Derived.Deep.RegionHeld3
import Derived.RegionTactic
/- Parts in order by the model: spec.post, ordered; both OrderParts. -/
namespace Go.Proofs.Ytnbohohoceghnaa
set_option linter.unusedSimpArgs false
set_option linter.unusedVariables false
open Go.RowKit

theorem grown_setCell (w : World) (g j : Nat) (x : Value) : w.grownBy (w.setCell ⟨g, j, none⟩ x) (some g) :=
  ⟨rfl, rfl, rfl, by simp [World.setCell], fun k hk hr => Below.heap_setCell _ _ _ _ (by intro e; exact hr (by rw [e]))⟩

/-- What holds at the head of the loop of spec.post. -/
structure SP (w : World) (v0 vl fv : Value) (base n L : Nat) (qs : List Pt) (ks : List Tm) (xs : List Int) (p : Pt) (m nm : Nat) (v : Value) (wr : World) : Prop where
  num : nm = n + ksize (ks.take m)
  row : wr.ownsRow base 54 5 v nm ((qs ++ kpost (ks.take m) n).flatMap Pt.cells)
  list : wr.ownsRow (w.heap.size + 2) 3 1 vl L (xs.map (Value.int .i64))
  gr : Gr w v0 wr v
  avl : Apart v vl
  o0 : v.ownBlock ≠ some w.heap.size
  o1 : v.ownBlock ≠ some (w.heap.size + 1)
  lt : w.heap.size + 1 < wr.heap.size
  fbox : wr.cell? ⟨w.heap.size, 0, none⟩ = some fv
  p0 : wr.cell? ⟨w.heap.size + 1, 0, none⟩ = some (.int .i64 p.k)
  p1 : wr.cell? ⟨w.heap.size + 1, 1, none⟩ = some (.int .i64 (p.sub (kat (ks.take m) n)).a)
  p2 : wr.cell? ⟨w.heap.size + 1, 2, none⟩ = some (.int .i64 (p.sub (kat (ks.take m) n)).b)
  p3 : wr.cell? ⟨w.heap.size + 1, 3, none⟩ = some (.int .i64 (p.sub (kat (ks.take m) n)).c)
  p4 : wr.cell? ⟨w.heap.size + 1, 4, none⟩ = some (.int .i64 p.n)
  fz : ∀ j, wr.frozen? ⟨w.heap.size + 1, j, none⟩ = false

theorem Gr.off {w w' : World} {v v' : Value} (h : Gr w v w' v') {g : Nat} (hg : g < w.heap.size) (ho : v.ownBlock ≠ some g) : v'.ownBlock ≠ some g ∧ (∀ j, w'.cell? ⟨g, j, none⟩ = w.cell? ⟨g, j, none⟩) ∧ ∀ j, w'.frozen? ⟨g, j, none⟩ = w.frozen? ⟨g, j, none⟩ := by
  have hb := h.1.block g hg (fun e => ho e.symm)
  refine ⟨?_, fun j => World.cell?_of_block (a := ⟨g, j, none⟩) hb, fun j => World.frozen?_of_block (a := ⟨g, j, none⟩) hb⟩
  rcases h.2 with e | e
  · rw [e]; exact ho
  · intro e'; have := e g e'; omega

theorem Gr.of_drew {w w' : World} {v v' : Value} (h : Gr w.drew v w' v') : Gr w v w' v' := ⟨⟨h.1.os, h.1.tape, h.1.output, h.1.size, h.1.block⟩, h.2⟩

theorem list_len0 (l : List Int) (h : l.length = 0) : l = [] := List.eq_nil_of_length_eq_zero h
theorem list_len1 (l : List Int) (h : l.length = 1) : ∃ a, l = [a] := by
  match l, h with
  | [a], _ => exact ⟨a, rfl⟩
theorem list_len2 (l : List Int) (h : l.length = 2) : ∃ a b, l = [a, b] := by
  match l, h with
  | [a, b], _ => exact ⟨a, b, rfl⟩

theorem SP.next {w : World} {v0 vl fv : Value} {base n L : Nat} {qs : List Pt} {ks : List Tm} {xs : List Int} {p : Pt} {m nm : Nat} {v : Value} {wr w2 : World} {v2 : Value} (h : SP w v0 vl fv base n L qs ks xs p m nm v wr) (hm : m < 3) (hg : Gr wr v w2 v2) (tm : Tm) (hts : ks.take (m + 1) = ks.take m ++ [tm]) (n2 : Nat) (hn2 : n2 = nm + tm.size)
    (ho : w2.ownsRow base 54 5 v2 n2 ((qs ++ kpost (ks.take m) n ++ tm.post nm).flatMap Pt.cells)) (j : Nat) (hj : j = m + 1) : SP w v0 vl fv base n L qs ks xs p (m + 1) n2 v2 (w2.setCell ⟨w.heap.size + 1, j, none⟩ (.int .i64 (n2 - 1))) := by
  subst hj
  have hg0 : w.heap.size < wr.heap.size := by have := h.lt; omega
  obtain ⟨o0, c0, f0⟩ := hg.off hg0 h.o0
  obtain ⟨o1, c1, f1⟩ := hg.off h.lt h.o1
  have hsz := hg.size
  have hgs := grown_setCell w2 (w.heap.size + 1) (m + 1) (.int .i64 (n2 - 1))
  have hl := hg.other h.list h.avl
  have hkl : (kat (ks.take m) n).length = m := by
    rw [kat_len]
    have := congrArg List.length hts
    simp at this
    simp; omega
  have hkt : kat (ks.take (m + 1)) n = kat (ks.take m) n ++ [((n2 : Nat) : Int) - 1] := by rw [hts, kat_snoc, hn2, h.num]
  have hcell : ∀ k, k ≠ m + 1 → (w2.setCell ⟨w.heap.size + 1, m + 1, none⟩ (.int .i64 (n2 - 1))).cell? ⟨w.heap.size + 1, k, none⟩ = wr.cell? ⟨w.heap.size + 1, k, none⟩ := fun k hk => by
    rw [World.cell?_setCell_other _ _ _ _ (by intro e; simp at e; try omega)]; exact c1 k
  have hsame : ∀ x, wr.cell? ⟨w.heap.size + 1, m + 1, none⟩ = some x → (w2.setCell ⟨w.heap.size + 1, m + 1, none⟩ (.int .i64 (n2 - 1))).cell? ⟨w.heap.size + 1, m + 1, none⟩ = some (.int .i64 (n2 - 1)) := fun x hx => World.cell?_setCell_same _ _ _ ((c1 (m + 1)).trans hx)
  refine ⟨by rw [hts, ksize_snoc]; have := h.num; omega, ?_, hl.1.kept hgs ?_, (h.gr.trans hg).elsewhere hgs (fun k hk => by cases hk; omega), hl.2, o0, o1, by simp [World.setCell]; have := h.lt; omega, ?_, ?_, ?_, ?_, ?_, ?_, fun j => by simpa using (f1 j).trans (h.fz j)⟩
  · have h1 : qs ++ kpost (ks.take m) n ++ tm.post nm = qs ++ kpost (ks.take (m + 1)) n := by rw [hts, kpost_snoc, h.num, List.append_assoc]
    rw [h1] at ho
    exact ho.kept hgs (.inr o1)
  · right
    intro e
    have := (h.list.lt _ e).1
    omega
  · rw [World.cell?_setCell_other _ _ _ _ (by intro e; simp at e)]; exact (c0 0).trans h.fbox
  · rw [hcell 0 (by omega)]; exact h.p0
  rotate_left 3
  · rw [hcell 4 (by omega)]; exact h.p4
  all_goals
    rw [hkt]
    have h1 := h.p1
    have h2 := h.p2
    have h3 := h.p3
    generalize kat (ks.take m) n = at_ at *
  · rcases (by omega : m = 0 ∨ m = 1 ∨ m = 2) with rfl | rfl | rfl
    · obtain rfl := list_len0 _ hkl; rw [hsame _ h1]; rfl
    · rw [hcell 1 (by omega), h1]
      obtain ⟨a, rfl⟩ := list_len1 _ hkl; rfl
    · rw [hcell 1 (by omega), h1]
      obtain ⟨a, b, rfl⟩ := list_len2 _ hkl; rfl
  · rcases (by omega : m = 0 ∨ m = 1 ∨ m = 2) with rfl | rfl | rfl
    · rw [hcell 2 (by omega), h2]
      obtain rfl := list_len0 _ hkl; rfl
    · obtain ⟨a, rfl⟩ := list_len1 _ hkl; rw [hsame _ h2]; rfl
    · rw [hcell 2 (by omega), h2]
      obtain ⟨a, b, rfl⟩ := list_len2 _ hkl; rfl
  · rcases (by omega : m = 0 ∨ m = 1 ∨ m = 2) with rfl | rfl | rfl
    · rw [hcell 3 (by omega), h3]
      obtain rfl := list_len0 _ hkl; rfl
    · rw [hcell 3 (by omega), h3]
      obtain ⟨a, rfl⟩ := list_len1 _ hkl; rfl
    · obtain ⟨a, b, rfl⟩ := list_len2 _ hkl; rw [hsame _ h3]; rfl

set_option maxRecDepth 100000 in
set_option maxHeartbeats 6400000 in
theorem spec_post (A : Option Addr) (n c : Nat) (ps : List Pt) (B : Nat) (hn : n = ps.length) (hg : AllGood ps) (hs : n ≤ 1999999) (f : Nat) (hfn : f ≤ n) :
    ∀ (i : Nat) (v : Value) (mq : Nat) (qs : List Pt) (base : Nat) (w : World), i < f → i < n → B ≤ base → base ≤ w.heap.size → PS w B A ps → mq = qs.length → mq + (tmAt ps f i).size ≤ 1000000 → w.ownsRow base 54 5 v mq (qs.flatMap Pt.cells) →
    Calls Try.prog 81 #[.agg #[.slice A n c], .int .i64 i, v] w fun e w' => RetG w v base (mq + (tmAt ps f i).size) (qs ++ (tmAt ps f i).post mq) e w' := by
  obtain ⟨i1, hi1, hy0, hy1, hy2⟩ := info_parts info_part
  induction f with
  | zero => intro i v mq qs base w hi; omega
  | succ f ih =>
    intro i v mq qs base w hif hin hBb hbw h hmq hsz hown
    obtain ⟨b, off, rfl, hbB, hc⟩ := h (by omega)
    obtain ⟨c0, c1, c2, c3, c4⟩ := hc i (by omega)
    clear hc
    have hgi := hg i (by omega)
    have hkids := tmAt_kids ps f i hgi
    have hso := sub_own ps f i mq hgi
    have hpk := (tmAt ps (f + 1) i).post_kids mq
    have hsk := (tmAt ps (f + 1) i).size_kids
    rw [← hso] at hpk
    rw [hkids] at hpk hsk
    generalize (tmAt ps (f + 1) i).size = z at *
    generalize (tmAt ps (f + 1) i).post mq = R at *
    have H := Lib.hid h
    have IH := Lib.hid (ih (by omega))
    have HG := Lib.hid hg
    have HN := Lib.hid hn
    have HMQ := Lib.hid hmq
    have HSK := Lib.hid hsk
    have hbws : b < w.heap.size := by omega
    have hbase2 : B ≤ w.heap.size := by omega
    clear h ih hg hn hkids hso hmq hsk
    generalize hp : ps.getD i default = p at *
    generalize hks : (bel p).map (fun b => tmAt ps f b.toNat) = ks at *
    have HKS := Lib.hid hks
    have HPK := Lib.hid hpk
    have HP := Lib.hid hp
    have HGI := Lib.hid hgi
    have hbl3 := bel_len p
    have hkl : ks.length = (bel p).length := by rw [← hks]; simp
    obtain ⟨Av, cv, rfl⟩ := own_form hown
    have HO := Lib.hid hown
    generalize hL : (bel p).length = L at *
    have HL := Lib.hid hL
    have HKL := Lib.hid hkl
    clear hp hgi hks hpk hown hL hkl
    go_enter Try.func81, Try.ntmps81
    go_wp2_with fail
    refine (spec_below p _).mono ?_
    rintro e w1 ⟨vl, rfl, hownl, hb1⟩
    obtain ⟨Al, cl, rfl, _⟩ := hownl.form
    have hSP : SP w (.slice Av mq cv) (.slice Al L cl) (.slice (some ⟨b, off, none⟩) n c) base mq L qs ks (bel p) p 0 mq (.slice Av mq cv) w1 := by
      have hlt := HO.out.lt
      have hz : w.heap.size + 2 ≤ w1.heap.size := by have := hb1.size; simpa using this
      refine ⟨by simp [ksize], by simpa [kpost] using own_below ((HO.out.alloc _).alloc _) hb1, ?_, (((Gr.refl w _).alloc _).alloc _).below hb1, ?_, ?_, ?_, by omega, ?_, ?_, ?_, ?_, ?_, ?_, ?_⟩
      · have h1 := hownl
        rw [OwnI, HL.out] at h1
        simpa using h1
      · intro k hk e
        have h1 := (hlt k hk).2
        have h2 := (hownl.lt k (by rw [HL.out]; exact e)).1
        simp at h2
        omega
      · intro e; have := (hlt _ e).2; omega
      · intro e; have := (hlt _ e).2; omega
      · exact (hb1.cell (p := ⟨w.heap.size, 0, none⟩) (by simp; try omega)).trans (by go_simp)
      · exact (hb1.cell (p := ⟨w.heap.size + 1, 0, none⟩) (by simp; try omega)).trans (by go_simp)
      · exact (hb1.cell (p := ⟨w.heap.size + 1, 1, none⟩) (by simp; try omega)).trans (by go_simp; rfl)
      · exact (hb1.cell (p := ⟨w.heap.size + 1, 2, none⟩) (by simp; try omega)).trans (by go_simp; rfl)
      · exact (hb1.cell (p := ⟨w.heap.size + 1, 3, none⟩) (by simp; try omega)).trans (by go_simp; rfl)
      · exact (hb1.cell (p := ⟨w.heap.size + 1, 4, none⟩) (by simp; try omega)).trans (by go_simp)
      · intro j; exact (hb1.frozen (p := ⟨w.heap.size + 1, j, none⟩) (by simp; try omega)).trans (by go_simp)
    have HSP0 := Lib.hid hSP
    rw [HL.out]
    clear hSP hownl hb1 c0 c1 c2 c3 c4
    go_wp2
    go_loopw [2, 9] (fun v k wr => ∃ m nm : Nat, m ≤ L ∧ k = .int .i64 m ∧ Hid (SP w (.slice Av mq cv) (.slice Al L cl) (.slice (some ⟨b, off, none⟩) n c) base mq L qs ks (bel p) p m nm v wr)) (fun _ k _ => L - (intOf k).toNat)
    case atStart => exact ⟨0, mq, Nat.zero_le _, rfl, HSP0.out⟩
    case round =>
      clear HSP0
      obtain ⟨m, nm, hm, rfl, HSP⟩ := hrel
      have hlt := HSP.out.lt
      by_cases hml : m < L
      · obtain ⟨b2, off2, rfl, hb2, hc2⟩ := (IS.of_own HSP.out.list) (by have := HL.out; omega)
        have hx := hc2 m (by have := HL.out; omega)
        clear hc2
        obtain ⟨t, ht1, ht2⟩ : ∃ t : Nat, (bel p).getD m 0 = (t : Int) ∧ t < i := by
          have hmem : (bel p).getD m 0 ∈ bel p := by
            have hl : m < (bel p).length := by have := HL.out; omega
            simp [List.getD, hl]
          have := good_bel p i HGI.out _ hmem
          exact ⟨((bel p).getD m 0).toNat, by omega, by omega⟩
        rw [ht1] at hx
        have hkd : ks.getD m default = tmAt ps f t := by
          have hl : m < (bel p).length := by have := HL.out; omega
          rw [← HKS.out]
          simp only [List.getD, List.getElem?_map, List.getElem?_eq_getElem hl, Option.map_some, Option.getD_some]
          have : (bel p)[m] = (t : Int) := by have := ht1; simpa [List.getD, hl] using this
          rw [this]; rfl
        have hts : ks.take (m + 1) = ks.take m ++ [tmAt ps f t] := by rw [← hkd]; exact take_succ_tm ks m (by have := HKL.out; omega)
        have HTS := Lib.hid hts
        have hks1 := ksize_take ks (m + 1)
        rw [hts, ksize_snoc] at hks1
        have hnum := HSP.out.num
        have hsz1 : nm + (tmAt ps f t).size ≤ 1000000 := by have := HSK.out; omega
        have hlen : nm = (qs ++ kpost (ks.take m) mq).length := by
          rw [List.length_append, kpost_len]; have := HMQ.out; omega
        obtain ⟨Aw, cw, rfl⟩ := own_form HSP.out.row
        have hbase : Below base w wr := HSP.out.gr.bel (fun k hk => (HO.out.lt k hk).1) hbw
        have HWR := Lib.hid (H.out.below hbase hBb)
        have HIH := Lib.hid (IH.out t (.slice Aw nm cw) nm (qs ++ kpost (ks.take m) mq) base wr.drew (by omega) (by omega) hBb (by show base ≤ wr.heap.size; omega) HWR.out hlen hsz1 HSP.out.row)
        have hbox := HSP.out.fbox
        have hvl := HSP.out.avl
        obtain ⟨n2, hn2⟩ : ∃ n2 : Nat, n2 = nm + (tmAt ps f t).size := ⟨_, rfl⟩
        rw [← hn2] at HIH
        have hn2b : n2 ≤ 1000000 := by omega
        have hn20 : 1 ≤ n2 := by have := (tmAt ps f t).size_pos; omega
        have HN2 := Lib.hid hn2
        have hm3 : m < 3 := by omega
        have hl0 : w.heap.size < wr.heap.size := by omega
        have HOB := Lib.hid (show (Value.slice Aw nm cw).ownBlock ≠ some b2 from fun e => hvl b2 e rfl)
        have HLT := Lib.hid HSP.out.list
        clear hkd hts hks1 hnum hlen hbase HWR hn2 hsz1 IH hvl ht1
        generalize tmAt ps f t = tm at *
        go_wp2
        go_region_held3 (fun w' => w'.cell? ⟨w.heap.size, 0, none⟩ = some (.slice (some ⟨b, off, none⟩) n c) ∧ w'.cell? ⟨b2, off2 + m, none⟩ = some (.int .i64 t)) (first | exact ⟨hbox, hx⟩ | exact ⟨hbox', hx'⟩)
          (first
            | (go_at_call 81; refine HIH.out.mono ?_; rintro e w2 ⟨v2, rfl, hown2, hgr2'⟩; have hgr2 := hgr2'.of_drew; have hbox' := ((hgr2.off hl0 HSP.out.o0).2.1 0).trans hbox; have hx' := ((hgr2.off hb2 HOB.out).2.1 (off2 + m)).trans hx; clear hgr2'))
        have HNX := Lib.hid (fun j hj => HSP.out.next hm3 hgr2 tm HTS.out n2 HN2.out hown2 j hj)
        obtain ⟨A2, c2, rfl⟩ := own_form hown2
        have hlt2 : w.heap.size + 1 < w2.heap.size := by have := hgr2.size; omega
        have p1 := ((hgr2.off hlt HSP.out.o1).2.1 1).trans HSP.out.p1
        have p2 := ((hgr2.off hlt HSP.out.o1).2.1 2).trans HSP.out.p2
        have p3 := ((hgr2.off hlt HSP.out.o1).2.1 3).trans HSP.out.p3
        have f1 := ((hgr2.off hlt HSP.out.o1).2.2 1).trans (HSP.out.fz 1)
        have f2 := ((hgr2.off hlt HSP.out.o1).2.2 2).trans (HSP.out.fz 2)
        have f3 := ((hgr2.off hlt HSP.out.o1).2.2 3).trans (HSP.out.fz 3)
        clear hown2 hgr2 hbox hx hbox' hx' HSP HIH HLT HOB
        rcases (by omega : m = 0 ∨ m = 1 ∨ m = 2) with e | e | e
        · have e0 : ((m : Int) == 0) = true := by simp [e]
          have HNX' := Lib.hid (HNX.out 1 (by omega))
          clear HNX e
          go_wp2
          go_roundw
          case rel => exact ⟨m + 1, n2, by omega, by go_num, HNX'.out⟩
          case measure => simp [intOf]; omega
        · have e0 : ((m : Int) == 0) = false := by simp [e]
          have e1 : ((m : Int) == 1) = true := by simp [e]
          have HNX' := Lib.hid (HNX.out 2 (by omega))
          clear HNX e
          go_wp2
          go_roundw
          case rel => exact ⟨m + 1, n2, by omega, by go_num, HNX'.out⟩
          case measure => simp [intOf]; omega
        · have e0 : ((m : Int) == 0) = false := by simp [e]
          have e1 : ((m : Int) == 1) = false := by simp [e]
          have e2 : ((m : Int) == 2) = true := by simp [e]
          have HNX' := Lib.hid (HNX.out 3 (by omega))
          clear HNX e
          go_wp2
          go_roundw
          case rel => exact ⟨m + 1, n2, by omega, by go_num, HNX'.out⟩
          case measure => simp [intOf]; omega
      · obtain rfl : m = L := by omega
        have htk : ks.take m = ks := List.take_of_length_le (by have := HKL.out; omega)
        have hrow := HSP.out.row
        have hnum := HSP.out.num
        have p0 := HSP.out.p0
        have p1 := HSP.out.p1
        have p2 := HSP.out.p2
        have p3 := HSP.out.p3
        have p4 := HSP.out.p4
        rw [htk] at hrow hnum p1 p2 p3
        obtain ⟨Aw, cw, rfl⟩ := own_form hrow
        have hnm : nm ≤ 1000000 := by have := HSK.out; omega
        have HR := Lib.hid hrow
        have HG2 := Lib.hid HSP.out.gr
        have HNM := Lib.hid hnum
        have hwr : w.heap.size ≤ wr.heap.size := by omega
        have q0 : p.k = (p.sub (kat ks mq)).k := rfl
        have q4 : p.n = (p.sub (kat ks mq)).n := rfl
        rw [q0] at p0
        rw [q4] at p4
        clear hrow hnum HSP htk q0 q4
        generalize p.sub (kat ks mq) = q at *
        go_wp2_with (at_builtin; refine wpList_append_own_at _ rfl _ _ 23 rfl base 54 i1 _ 5 40 Try.underlying23 hi1 hy0 hy1 hy2 rfl (by decide) _ _ _ rfl (HR.out.alloc _) ⟨_, 0, none⟩ 1 1 q.cells rfl rfl (cells_new _ _ _ _ rfl) ?d2 ?d3 ?d4 ?d5 ?_)
        case d2 => intro u hu; simp [Pt.cells] at hu; rcases hu with rfl | rfl | rfl | rfl | rfl <;> rfl
        case d3 => unfold maxLen; omega
        case d4 => omega
        case d5 => simp; omega
        intro v' w3 hown' hgrow _ hwhere
        have hap : Gr wr (.slice Aw nm cw) w3 v' := (Gr.refl wr _).alloc (.cells #[.int .i64 q.k, .int .i64 q.a, .int .i64 q.b, .int .i64 q.c, .int .i64 q.n] 54) |>.trans (Gr.of_append hgrow (by rw [World.size_alloc]; exact hwhere))
        have HF := Lib.hid (HG2.out.trans hap)
        have hN : nm + 1 = mq + z := by have := HNM.out; have := HSK.out; omega
        rw [hN] at hown'
        have hL : (qs ++ kpost ks mq).flatMap Pt.cells ++ q.cells = (qs ++ R).flatMap Pt.cells := by
          rw [HPK.out, ← List.append_assoc, List.flatMap_append (xs := qs ++ kpost ks mq)]; simp
        have HW := Lib.hid (show w3.ownsRow base 54 5 v' (mq + z) ((qs ++ R).flatMap Pt.cells) by rw [← hL]; simpa using hown')
        clear hown' hgrow hwhere hap hN hL
        go_wp2
        go_ret
        exact ⟨v', rfl, HW.out, HF.out⟩
end Go.Proofs.Ytnbohohoceghnaa

/- Both OrderParts. -/
namespace Go.Proofs.Ytnbohohoceghnaa
set_option linter.unusedSimpArgs false
set_option linter.unusedVariables false
open Go.RowKit

theorem size_whole (ps : List Pt) (h : ps.length ≤ 12) : (whole ps).size ≤ 1000000 := by
  have h1 := size_tmAt ps ps.length (ps.length - 1)
  have h2 : 3 ^ (ps.length + 1) ≤ 3 ^ 13 := Nat.pow_le_pow_right (by omega) (by omega)
  unfold whole
  have h3 : (3 : Nat) ^ 13 = 1594323 := by decide
  omega

/-- What OrderParts answers. -/
def orderF (ps : List Pt) : List Pt := if validF ps then (whole ps).post 0 else []

theorem RetP.zero {w w' : World} {e : Ending} (he : e = .returned (.agg #[.slice none 0 0])) (hb : Below w.heap.size w w') : RetP w [] e w' :=
  ⟨_, he, World.ownsRow_nil _ _ _ _, hb⟩

theorem RetP.mono {w w0 w' : World} {ps : List Pt} {e : Ending} (h : RetP w ps e w') (hb : Below w0.heap.size w0 w) : RetP w0 ps e w' := by
  obtain ⟨v, he, ho, hb'⟩ := h
  exact ⟨v, he, own_mono ho hb.size, hb.trans (hb'.mono hb.size)⟩

set_option maxHeartbeats 800000 in
theorem spec_ordered (A : Option Addr) (n c : Nat) (ps : List Pt) (B : Nat) (hn : n = ps.length) (hg : AllGood ps) (hs : n ≤ 12) (i : Nat) (hin : i < n) (w : World) (hB : B ≤ w.heap.size) (h : PS w B A ps) :
    Calls Try.prog 64 #[.agg #[.slice A n c], .int .i64 i] w fun e w' => RetP w ((tmAt ps n i).post 0) e w' := by
  have H := Lib.hid h
  have hsz := size_tmAt ps n i
  have h2 : 3 ^ (n + 1) ≤ 3 ^ 13 := Nat.pow_le_pow_right (by omega) (by omega)
  have h3 : (3 : Nat) ^ 13 = 1594323 := by decide
  have hsz1 : (tmAt ps n i).size ≤ 1000000 := by omega
  have HPL := Lib.hid ((tmAt ps n i).post_len 0)
  have HPO := Lib.hid (spec_post A n c ps B hn hg (by omega) n (Nat.le_refl _) i)
  clear hsz h2 h3 h hn hg
  generalize (tmAt ps n i).size = z at *
  generalize (tmAt ps n i).post = R at *
  go_enter Try.func64, Try.ntmps64
  go_wp2_with fail
  refine (HPO.out (.slice (some ⟨w.heap.size + 1 + 1, 0, none⟩) 0 0) 0 [] (w.heap.size + 1 + 1) _ hin hin (by omega) (by simp) (((H.out.alloc hB _).alloc (by simp; omega) _).alloc (by simp; omega) _) rfl (by omega) ?_).mono ?_
  · have h1 := World.ownsRow_lit (e := 54) (size := 5) (base := w.heap.size + 1 + 1) ((w.alloc (.cells #[.slice A n c] 25)).alloc (.cells #[.slice none 0 0] 25)) #[] 0 (by simp) (by unfold maxLen; omega) (by simp)
    simpa using h1
  rintro e w1 ⟨v, rfl, hown, hgr⟩
  have hb := hgr.bel (B := w.heap.size + 1 + 1) (fun k hk => by simp [Value.ownBlock] at hk; omega) (by simp)
  obtain ⟨A2, c2, rfl⟩ := own_form hown
  have HO := Lib.hid hown
  have HB := Lib.hid hb
  have hz : w.heap.size + 1 + 1 < w1.heap.size := by have := hgr.size; simp at this; omega
  have hz' : w.heap.size + 1 < w1.heap.size := by omega
  have hf : w1.frozen? ⟨w.heap.size + 1, 0, none⟩ = false := (hb.frozen (p := ⟨w.heap.size + 1, 0, none⟩) (by simp)).trans (by go_simp)
  have hc : w1.cell? ⟨w.heap.size + 1, 0, none⟩ = some (.slice none 0 0) := (hb.cell (p := ⟨w.heap.size + 1, 0, none⟩) (by simp)).trans (by go_simp)
  clear hown hgr hb
  go_wp2
  refine bodyPost_ret (v := .agg #[.slice A2 z c2]) (by simp [results, Try.results64, go_sem, hz', hc]) rfl ⟨_, rfl, ?_, ?_⟩
  · have h1 := HO.out
    simp only [Nat.zero_add, List.nil_append] at h1
    rw [HPL.out]
    exact own_mono (ownsRow_setCell_below h1 (by simp) _) (by omega)
  · exact ((((Below.refl _ _).alloc (Nat.le_refl _) _).alloc (by simp) _).alloc (by simp; omega) _ |>.trans (HB.out.mono (by omega))).setCell (by simp) _

set_option maxHeartbeats 800000 in
theorem spec_OrderParts (A : Option Addr) (n c : Nat) (ps : List Pt) (w : World) (B : Nat) (hB : B ≤ w.heap.size) (hn : n = ps.length) (h : PS w B A ps) (hs : n ≤ 1999999) :
    Calls Try.prog 38 #[.agg #[.slice A n c]] w fun e w' => RetP w (orderF ps) e w' := by
  have H := Lib.hid h
  have HN := Lib.hid hn
  clear h hn
  cases hv : validF ps
  · have hd : orderF ps = [] := by simp [orderF, hv]
    rw [hd]
    have HV := Lib.hid hv
    clear hd hv
    go_enter Try.func38, Try.ntmps38
    go_wp2_with fail
    refine (spec_validFormula _ _ _ ps _ B (by simp; omega) HN.out ((H.out.alloc hB _).alloc (by simp; omega) _) (by omega)).mono ?_
    rintro e w1 ⟨rfl, hb⟩
    rw [HV.out]
    have hz' : w.heap.size + 1 < w1.heap.size := by have := hb.size; simp at this; omega
    have hf : w1.frozen? ⟨w.heap.size + 1, 0, none⟩ = false := (hb.frozen (p := ⟨w.heap.size + 1, 0, none⟩) (by simp)).trans (by go_simp)
    have hc : w1.cell? ⟨w.heap.size + 1, 0, none⟩ = some (.slice none 0 0) := (hb.cell (p := ⟨w.heap.size + 1, 0, none⟩) (by simp)).trans (by go_simp)
    have HB := Lib.hid hb
    clear hb
    go_wp2
    refine bodyPost_ret (v := .agg #[.slice none 0 0]) (by simp [results, Try.results38, go_sem, hz', hc]) rfl (RetP.zero rfl ?_)
    exact ((((Below.refl _ _).alloc (Nat.le_refl _) _).alloc (by simp) _).trans (HB.out.mono (by simp; omega))).setCell (by simp) _
  · obtain ⟨hg, h1, h12⟩ := validF_good ps hv
    have hd : orderF ps = (tmAt ps n (n - 1)).post 0 := by rw [orderF, if_pos hv, HN.out]; rfl
    rw [hd]
    have h1' : 1 ≤ n := by have := HN.out; omega
    have h12' : n ≤ 12 := by have := HN.out; omega
    obtain ⟨m, rfl⟩ : ∃ m, n = m + 1 := ⟨n - 1, by omega⟩
    rw [show m + 1 - 1 = m from rfl]
    have HV := Lib.hid hv
    have HG := Lib.hid hg
    clear hd hv hg h1 h12 h1'
    go_enter Try.func38, Try.ntmps38
    go_wp2_with fail
    refine (spec_validFormula _ _ _ ps _ B (by simp; omega) HN.out ((H.out.alloc hB _).alloc (by simp; omega) _) (by omega)).mono ?_
    rintro e w1 ⟨rfl, hb⟩
    rw [HV.out]
    have hz' : w.heap.size + 1 < w1.heap.size := by have := hb.size; simp at this; omega
    have hbox : w1.cell? ⟨w.heap.size, 0, none⟩ = some (.slice A (m + 1) c) := (hb.cell (p := ⟨w.heap.size, 0, none⟩) (by simp; omega)).trans (by go_simp)
    have hf : w1.frozen? ⟨w.heap.size + 1, 0, none⟩ = false := (hb.frozen (p := ⟨w.heap.size + 1, 0, none⟩) (by simp)).trans (by go_simp)
    have hc : w1.cell? ⟨w.heap.size + 1, 0, none⟩ = some (.slice none 0 0) := (hb.cell (p := ⟨w.heap.size + 1, 0, none⟩) (by simp)).trans (by go_simp)
    have HW := Lib.hid (((H.out.alloc hB (.cells #[.slice A (m + 1) c] 25)).alloc (by simp; omega) (.cells #[.slice none 0 0] 25)).below hb (by simp; omega))
    have HB1 := Lib.hid ((((Below.refl w.heap.size w).alloc (Nat.le_refl _) (.cells #[.slice A (m + 1) c] 25)).alloc (by simp) (.cells #[.slice none 0 0] 25)).trans (hb.mono (by simp; omega)))
    clear hb
    go_wp2_with fail
    refine (spec_ordered A (m + 1) c ps B HN.out HG.out h12' m (by omega) _ (by omega) HW.out).mono ?_
    rintro e w2 ⟨v, rfl, hown, hb2⟩
    obtain ⟨A2, c2, rfl⟩ := own_form hown
    have hz2 : w.heap.size + 1 < w2.heap.size := by have := hb2.size; omega
    have hf2 : w2.frozen? ⟨w.heap.size + 1, 0, none⟩ = false := (hb2.frozen (p := ⟨w.heap.size + 1, 0, none⟩) hz').trans hf
    have hc2 : w2.cell? ⟨w.heap.size + 1, 0, none⟩ = some (.slice none 0 0) := (hb2.cell (p := ⟨w.heap.size + 1, 0, none⟩) hz').trans hc
    have HO := Lib.hid hown
    have HB2 := Lib.hid hb2
    clear hown hb2
    go_wp2
    refine bodyPost_ret (v := .agg #[.slice A2 ((tmAt ps (m + 1) m).post 0).length c2]) (by simp [results, Try.results38, go_sem, hz2, hc2]) rfl ⟨_, rfl, ?_, ?_⟩
    · have h1 := HO.out
      have h2 : w.heap.size ≤ w1.heap.size := by omega
      exact own_mono (ownsRow_setCell_below (a := ⟨w.heap.size + 1, 0, none⟩) h1 (show w.heap.size + 1 < w1.heap.size by omega) _) h2
    · exact (HB1.out.trans (HB2.out.mono (by omega))).setCell (by simp) _

set_option maxHeartbeats 800000 in
theorem impl_OrderParts (A : Option Addr) (n c : Nat) (ps : List Pt) (w : World) (B : Nat) (hB : B ≤ w.heap.size) (hn : n = ps.length) (h : PS w B A ps) (hs : n ≤ 1999999) :
    Calls Try.prog 33 #[.agg #[.slice A n c]] w fun e w' => RetP w (orderF ps) e w' := by
  have H := Lib.hid h
  have HN := Lib.hid hn
  clear h hn
  cases hv : validF ps
  · have hd : orderF ps = [] := by simp [orderF, hv]
    rw [hd]
    have HV := Lib.hid hv
    clear hd hv
    go_enter Try.func33, Try.ntmps33
    go_wp2_with fail
    refine (impl_ValidFormula _ _ _ ps _ B (by simp; omega) HN.out ((H.out.alloc hB _).alloc (by simp; omega) _) (by omega)).mono ?_
    rintro e w1 ⟨rfl, hb⟩
    rw [HV.out]
    have hz' : w.heap.size + 1 < w1.heap.size := by have := hb.size; simp at this; omega
    have hf : w1.frozen? ⟨w.heap.size + 1, 0, none⟩ = false := (hb.frozen (p := ⟨w.heap.size + 1, 0, none⟩) (by simp)).trans (by go_simp)
    have hc : w1.cell? ⟨w.heap.size + 1, 0, none⟩ = some (.slice none 0 0) := (hb.cell (p := ⟨w.heap.size + 1, 0, none⟩) (by simp)).trans (by go_simp)
    have HB := Lib.hid hb
    clear hb
    go_wp2
    refine bodyPost_ret (v := .agg #[.slice none 0 0]) (by simp [results, Try.results33, go_sem, hz', hc]) rfl (RetP.zero rfl ?_)
    exact ((((Below.refl _ _).alloc (Nat.le_refl _) _).alloc (by simp) _).trans (HB.out.mono (by simp; omega))).setCell (by simp) _
  · obtain ⟨hg, h1, h12⟩ := validF_good ps hv
    have hd : orderF ps = (tmAt ps n (n - 1)).post 0 := by rw [orderF, if_pos hv, HN.out]; rfl
    rw [hd]
    have h1' : 1 ≤ n := by have := HN.out; omega
    have hsw := size_whole ps h12
    rw [show whole ps = tmAt ps n (n - 1) by rw [HN.out]; rfl] at hsw
    have HV := Lib.hid hv
    have HWH := Lib.hid (fun (w : World) => impl_wholeOf A n c ps B HN.out hg (by omega) h1' w)
    clear hd hv hg h1 h12
    generalize tmAt ps n (n - 1) = t at *
    go_enter Try.func33, Try.ntmps33
    go_wp2_with fail
    refine (impl_ValidFormula _ _ _ ps _ B (by simp; omega) HN.out ((H.out.alloc hB _).alloc (by simp; omega) _) (by omega)).mono ?_
    rintro e w1 ⟨rfl, hb⟩
    rw [HV.out]
    have hz' : w.heap.size + 1 < w1.heap.size := by have := hb.size; simp at this; omega
    have hbox : w1.cell? ⟨w.heap.size, 0, none⟩ = some (.slice A n c) := (hb.cell (p := ⟨w.heap.size, 0, none⟩) (by simp; omega)).trans (by go_simp)
    have hf : w1.frozen? ⟨w.heap.size + 1, 0, none⟩ = false := (hb.frozen (p := ⟨w.heap.size + 1, 0, none⟩) (by simp)).trans (by go_simp)
    have hc : w1.cell? ⟨w.heap.size + 1, 0, none⟩ = some (.slice none 0 0) := (hb.cell (p := ⟨w.heap.size + 1, 0, none⟩) (by simp)).trans (by go_simp)
    have HW := Lib.hid (((H.out.alloc hB (.cells #[.slice A n c] 25)).alloc (by simp; omega) (.cells #[.slice none 0 0] 25)).below hb (by simp; omega))
    have HB1 := Lib.hid ((((Below.refl w.heap.size w).alloc (Nat.le_refl _) (.cells #[.slice A n c] 25)).alloc (by simp) (.cells #[.slice none 0 0] 25)).trans (hb.mono (by simp; omega)))
    clear hb
    go_wp2_with fail
    refine (HWH.out _ (by omega) HW.out).mono ?_
    rintro e w2 ⟨T, x, rfl, hT, hb2⟩
    have HT := Lib.hid hT
    have hz2 : w.heap.size + 1 < w2.heap.size := by have := hb2.size; omega
    have hf2 : w2.frozen? ⟨w.heap.size + 1, 0, none⟩ = false := (hb2.frozen (p := ⟨w.heap.size + 1, 0, none⟩) hz').trans hf
    have hc2 : w2.cell? ⟨w.heap.size + 1, 0, none⟩ = some (.slice none 0 0) := (hb2.cell (p := ⟨w.heap.size + 1, 0, none⟩) hz').trans hc
    have HB2 := Lib.hid (HB1.out.trans (hb2.mono (by omega)))
    clear hT hb2 HB1
    go_wp2_with fail
    rw [← HT.out]
    refine (impl_formulaOf t _ hsw).mono ?_
    rintro e w3 ⟨v, rfl, hown, hb3⟩
    obtain ⟨A3, c3, rfl⟩ := own_form hown
    have hz3 : w.heap.size + 1 < w3.heap.size := by have := hb3.size; omega
    have hf3 : w3.frozen? ⟨w.heap.size + 1, 0, none⟩ = false := (hb3.frozen (p := ⟨w.heap.size + 1, 0, none⟩) hz2).trans hf2
    have hc3 : w3.cell? ⟨w.heap.size + 1, 0, none⟩ = some (.slice none 0 0) := (hb3.cell (p := ⟨w.heap.size + 1, 0, none⟩) hz2).trans hc2
    have HO := Lib.hid hown
    have HB3 := Lib.hid hb3
    clear hown hb3
    go_wp2
    refine bodyPost_ret (v := .agg #[.slice A3 (t.post 0).length c3]) (by simp [results, Try.results33, go_sem, hz3, hc3]) rfl ⟨_, rfl, ?_, ?_⟩
    · have h1 := HO.out
      have h2 : w.heap.size ≤ w2.heap.size := by omega
      exact own_mono (ownsRow_setCell_below (a := ⟨w.heap.size + 1, 0, none⟩) h1 (show w.heap.size + 1 < w2.heap.size by omega) _) h2
    · exact (HB2.out.trans (HB3.out.mono (by omega))).setCell (by simp) _
end Go.Proofs.Ytnbohohoceghnaa

/- RenameReads: plain facts, slices.Clone, impl's side. -/
namespace Go.Proofs.Ytnbohohoceghnaa
set_option linter.unusedSimpArgs false
set_option linter.unusedVariables false
open Go.RowKit

/-- A part that reads another node. -/
def ren (tos : List Int) (p : Pt) : Pt := if p.k == 1 then { p with n := tos.getD p.n.toNat 0 } else p

/-- The first k parts are renamed. -/
def mix (tos : List Int) (ps : List Pt) (k : Nat) : List Pt := (ps.take k).map (ren tos) ++ ps.drop k

/-- The nodes serve the formula. -/
def canRen (ps : List Pt) (tos : List Int) : Bool := validF ps && ((decide (tos.length ≤ 10) && allR tos 0 9) && eachOK ps tos.length)

/-- What RenameReads answers. -/
def renF (ps : List Pt) (tos : List Int) : List Pt := if canRen ps tos then ps.map (ren tos) else []

theorem mix_zero (tos : List Int) (ps : List Pt) : mix tos ps 0 = ps := by simp [mix]
theorem mix_all (tos : List Int) (ps : List Pt) (n : Nat) (h : n = ps.length) : mix tos ps n = ps.map (ren tos) := by subst h; simp [mix]
theorem mix_len (tos : List Int) (ps : List Pt) (k : Nat) : (mix tos ps k).length = ps.length := by simp [mix]; omega

theorem mix_getD (tos : List Int) (ps : List Pt) (k : Nat) (h : k < ps.length) : (mix tos ps k).getD k default = ps.getD k default := by
  have h1 : ((ps.take k).map (ren tos)).length = k := by simp; omega
  unfold mix
  simp only [List.getD]
  rw [List.getElem?_append_right (by omega), h1, Nat.sub_self, List.getElem?_drop, Nat.add_zero]

theorem mix_succ (tos : List Int) (ps : List Pt) (k : Nat) (h : k < ps.length) : mix tos ps (k + 1) = (mix tos ps k).set k (ren tos (ps.getD k default)) := by
  have h1 : ((ps.take k).map (ren tos)).length = k := by simp; omega
  have h2 : ps.drop k = ps.getD k default :: ps.drop (k + 1) := by rw [List.drop_eq_getElem_cons h]; simp [List.getD, h]
  unfold mix
  rw [take_succ_getD ps k h, List.map_append, h2, List.set_append_right _ _ (by omega), h1]
  simp

theorem mix_keep (tos : List Int) (ps : List Pt) (k : Nat) (h : k < ps.length) (hk : ((ps.getD k default).k == 1) = false) : mix tos ps (k + 1) = mix tos ps k := by
  have h1 : ren tos (ps.getD k default) = ps.getD k default := by unfold ren; rw [hk]; rfl
  rw [mix_succ tos ps k h, h1, ← mix_getD tos ps k h]
  apply List.ext_getElem?
  intro i
  rw [List.getElem?_set]
  split
  · next e =>
    rw [← e]
    have : k < (mix tos ps k).length := by rw [mix_len]; exact h
    simp [this, List.getD]
  · rfl

theorem cells_set4 (qs : List Pt) (k : Nat) (h : k < qs.length) (x : Int) : (qs.flatMap Pt.cells).set (k * 5 + 4) (.int .i64 x) = (qs.set k { qs.getD k default with n := x }).flatMap Pt.cells := by
  induction qs generalizing k with
  | nil => simp at h
  | cons q l ih =>
    match k with
    | 0 => simp [List.flatMap_cons, Pt.cells]
    | k + 1 =>
      have hk : k < l.length := by simpa using h
      have e : (k + 1) * 5 + 4 = q.cells.length + (k * 5 + 4) := by simp [Pt.cells]; omega
      rw [List.flatMap_cons, e, List.set_append_right _ _ (by omega), Nat.add_sub_cancel_left, ih k hk]
      simp [List.flatMap_cons]

theorem news_of_parts {w : World} {b off : Nat} {ps : List Pt} (hc : ∀ j, j < ps.length →
    w.cell? ⟨b, off + j * 5, none⟩ = some (.int .i64 (ps.getD j default).k) ∧ w.cell? ⟨b, off + j * 5 + 1, none⟩ = some (.int .i64 (ps.getD j default).a) ∧
    w.cell? ⟨b, off + j * 5 + 2, none⟩ = some (.int .i64 (ps.getD j default).b) ∧ w.cell? ⟨b, off + j * 5 + 3, none⟩ = some (.int .i64 (ps.getD j default).c) ∧
    w.cell? ⟨b, off + j * 5 + 4, none⟩ = some (.int .i64 (ps.getD j default).n)) :
    ∀ j u, (ps.flatMap Pt.cells)[j]? = some u → w.cell? ((⟨b, off, none⟩ : Addr).add j) = some u := by
  intro j u hu
  have hadd : (⟨b, off, none⟩ : Addr).add j = ⟨b, off + j, none⟩ := by unfold Addr.add; split <;> simp_all
  rw [hadd]
  have hj : j < ps.length * 5 := by
    rw [← length_cells]
    rcases Nat.lt_or_ge j (ps.flatMap Pt.cells).length with h | h
    · exact h
    · rw [List.getElem?_eq_none h] at hu; cases hu
  obtain ⟨q, r, hq, hr⟩ : ∃ q r, j = q * 5 + r ∧ r < 5 := ⟨j / 5, j % 5, by omega, by omega⟩
  obtain ⟨h0, h1, h2, h3, h4⟩ := hc q (by omega)
  obtain ⟨g0, g1, g2, g3, g4⟩ := cells_get ps q (by omega)
  subst hq
  match r, hr with
  | 0, _ => rw [Nat.add_zero] at hu ⊢; rw [g0] at hu; rw [h0]; exact hu
  | 1, _ => rw [g1] at hu; rw [← Nat.add_assoc, h1]; exact hu
  | 2, _ => rw [g2] at hu; rw [← Nat.add_assoc, h2]; exact hu
  | 3, _ => rw [g3] at hu; rw [← Nat.add_assoc, h3]; exact hu
  | 4, _ => rw [g4] at hu; rw [← Nat.add_assoc, h4]; exact hu

theorem news_alloc {w : World} {b off : Nat} {xs : List Value} (h : ∀ j u, xs[j]? = some u → w.cell? ((⟨b, off, none⟩ : Addr).add j) = some u) (hb : b < w.heap.size) (o : Obj) : ∀ j u, xs[j]? = some u → (w.alloc o).cell? ((⟨b, off, none⟩ : Addr).add j) = some u := by
  intro j u hu
  have hadd : (⟨b, off, none⟩ : Addr).add j = ⟨b, off + j, none⟩ := by unfold Addr.add; split <;> simp_all
  have h1 := h j u hu
  rw [hadd] at h1 ⊢
  rw [World.cell?_alloc_lt _ _ _ hb]
  exact h1

theorem cells_one (ps : List Pt) : ∀ u ∈ ps.flatMap Pt.cells, u.oneCell' = true := by
  intro u hu
  obtain ⟨p, _, hp⟩ := List.mem_flatMap.1 hu
  simp [Pt.cells] at hp
  rcases hp with rfl | rfl | rfl | rfl | rfl <;> rfl

/-- Returns a slice of fresh parts. -/
def RetQ (w : World) (ps : List Pt) (e : Ending) (w' : World) : Prop := ∃ v, e = .returned v ∧ w'.ownsRow w.heap.size 54 5 v ps.length (ps.flatMap Pt.cells) ∧ Below w.heap.size w w'

set_option maxRecDepth 100000 in
set_option maxHeartbeats 400000 in
theorem clone_parts (A : Option Addr) (n c : Nat) (ps : List Pt) (w : World) (B : Nat) (hB : B ≤ w.heap.size) (hn : n = ps.length) (h1 : 1 ≤ n) (h : PS w B A ps) (hs : n ≤ 2000000) :
    Calls Try.prog 59 #[.slice A n c] w fun e w' => RetQ w ps e w' := by
  obtain ⟨i1, hi1, hy0, hy1, hy2⟩ := info_parts info_part
  obtain ⟨b, off, rfl, hbB, hc⟩ := h (by omega)
  have HC := Lib.hid hc
  have HN := Lib.hid hn
  have hbw : b < w.heap.size := by omega
  clear h hc hn
  go_enter Try.func59, Try.ntmps59
  have hnew := World.ownsRow_lit (e := 54) (size := 5) (base := w.heap.size) w #[] 0 (Nat.le_refl _) (by unfold maxLen; omega) (by simp)
  have HNEW := Lib.hid hnew
  have qT : ∀ (w : World) (a : Option Addr) (n c : Nat), (binOp .eql 23 (.slice a n c) (.slice none 0 0)).run Try.prog w = .ok (.bool a.isNone) w := fun w a n c => Lib.run_eql_slice_nil w _ _ a n c 0 0 Try.underlying23
  clear hnew
  go_wp2_with (at_builtin; refine wpList_append_own_at _ rfl _ _ 23 rfl w.heap.size 54 i1 _ 5 40 Try.underlying23 hi1 hy0 hy1 hy2 rfl (by decide) _ _ _ rfl HNEW.out ⟨b, off, none⟩ n c (ps.flatMap Pt.cells) rfl ?d1 ?d6 (cells_one ps) ?d3 ?d4 ?d5 ?_)
  case d1 => rw [← List.length_flatMap, length_cells, HN.out]
  case d6 =>
    intro j u hu
    have h1 := news_of_parts (w := w) HC.out j u hu
    have hadd : (⟨b, off, none⟩ : Addr).add j = ⟨b, off + j, none⟩ := by unfold Addr.add; split <;> simp_all
    rw [hadd] at h1
    exact h1
  case d3 => unfold maxLen; omega
  case d4 => omega
  intro v' w3 hown' hgrow _ hwhere
  have HO := Lib.hid hown'
  have HG := Lib.hid hgrow
  clear hown' hgrow hwhere
  go_wp2
  go_ret
  refine ⟨v', rfl, ?_, ?_⟩
  · have h1 := HO.out
    rw [← HN.out]
    simpa using h1
  · exact ((Below.refl _ _).alloc (Nat.le_refl _) _).grown HG.out (by simp) (fun k hk => by simp [Value.ownBlock] at hk; omega)
end Go.Proofs.Ytnbohohoceghnaa

/- The drawing of formulas: someFormula. -/
namespace Go.Proofs.Ytnbohohoceghnaa
set_option linter.unusedSimpArgs false
set_option linter.unusedVariables false
open Go.RowKit

theorem cells_some (ps : List Pt) (i : Nat) (x : Int) (hi : i < ps.length * 5) : ∃ qs : List Pt, qs.length = ps.length ∧ qs.flatMap Pt.cells = (ps.flatMap Pt.cells).set i (.int .i64 x) := by
  induction ps generalizing i with
  | nil => simp at hi
  | cons p ps ih =>
    rcases Nat.lt_or_ge i 5 with h | h
    · have : i = 0 ∨ i = 1 ∨ i = 2 ∨ i = 3 ∨ i = 4 := by omega
      rcases this with rfl | rfl | rfl | rfl | rfl
      · exact ⟨{ p with k := x } :: ps, rfl, by simp [Pt.cells]⟩
      · exact ⟨{ p with a := x } :: ps, rfl, by simp [Pt.cells]⟩
      · exact ⟨{ p with b := x } :: ps, rfl, by simp [Pt.cells]⟩
      · exact ⟨{ p with c := x } :: ps, rfl, by simp [Pt.cells]⟩
      · exact ⟨{ p with n := x } :: ps, rfl, by simp [Pt.cells]⟩
    · obtain ⟨i', rfl⟩ : ∃ i', i = i' + 5 := ⟨i - 5, by omega⟩
      obtain ⟨qs, h1, h2⟩ := ih i' (by simp at hi; omega)
      refine ⟨p :: qs, by simp [h1], ?_⟩
      rw [List.flatMap_cons, List.flatMap_cons, h2]
      simp [Pt.cells]

theorem own_set {w : World} {base e size g n c : Nat} {xs : List Value} (h : w.ownsRow base e size (.slice (some ⟨g, 0, none⟩) n c) n xs) (a : Addr) (ha : a.block ≠ g) (x : Value) : (w.setCell a x).ownsRow base e size (.slice (some ⟨g, 0, none⟩) n c) n xs := by
  refine ⟨h.1, ?_⟩
  rcases h.2 with ⟨h', _⟩ | ⟨g', cap', cur, h', hb, hg, hrest⟩
  · simp at h'
  · have hgg : g = g' := by simp at h'; exact h'.1
    exact .inr ⟨g', cap', cur, h', hb, (Below.heap_setCell _ _ _ _ (by omega)).trans hg, hrest⟩

/-- Returns a formula of some parts in fresh blocks, of any content; the reader has picked Q times at most. -/
def SfP (g : Nat) (A : Option Addr) (n c : Nat) (bs : List Int) (Q : Nat) (w : World) (e : Ending) (w' : World) : Prop :=
  ∃ (A' : Option Addr) (n' c' : Nat) (ps : List Pt), e = .returned (.agg #[.slice A' n' c']) ∧ n' = ps.length ∧ 1 ≤ n' ∧ n' ≤ 41 ∧ w'.ownsRow w.heap.size 54 5 (.slice A' n' c') n' (ps.flatMap Pt.cells) ∧ Rdr g A n c bs Q w' ∧ Tch g (g + 1) w w'
theorem Tch.of_below' {C : Nat} {w w' : World} (h : Below C w w') : Tch C w'.heap.size w w' := ⟨h.os, h.tape, h.output, h.size, fun k hk hr => h.block k (by have := h.size; omega)⟩

set_option maxRecDepth 100000 in
set_option maxHeartbeats 3200000 in
theorem someFormula_any (g : Nat) (A : Option Addr) (n c : Nat) (bs : List Int) (P : Nat) (w : World) (h : Rdr g A n c bs P w) (hn : n = bs.length) (hby : BY bs) (hs : n ≤ 2000) (hP : P ≤ 800000) :
    Calls Try.prog 55 #[.pointer (some ⟨g, 0, none⟩)] w fun e w' => SfP g A n c bs (P + 300) w e w' := by
  obtain ⟨i1, hi1, hy0, hy1, hy2⟩ := info_parts info_part
  have hgw := h.lt
  have HN := Lib.hid hn
  have HR0 := Lib.hid ((h.alloc (.cells #[.slice none 0 0] 25)).alloc (.cells #[.int .i64 0, .int .i64 1, .int .i64 2, .int .i64 3] 3))
  have hBW : Below w.heap.size w ((w.alloc (.cells #[.slice none 0 0] 25)).alloc (.cells #[.int .i64 0, .int .i64 1, .int .i64 2, .int .i64 3] 3)) := ((Below.refl _ _).alloc (Nat.le_refl _) _).alloc (by simp) _
  have HF0 := Lib.hid (Frd.of_below (g := g) (s := w.heap.size) hBW (Nat.le_refl _))
  clear h hn hBW
  go_enter Try.func55, Try.ntmps55
  go_wp2_with fail
  refine (goodFormula_any g A n c bs P (some ⟨w.heap.size + 1, 0, none⟩) 4 4 [0, 1, 2, 3] _ HR0.out HN.out hby hs (by omega) rfl (by omega) ?_ ?_).mono ?_
  · intro _
    refine ⟨w.heap.size + 1, 0, rfl, by simp, fun j hj => ?_⟩
    have : j = 0 ∨ j = 1 ∨ j = 2 ∨ j = 3 := by simp at hj; omega
    rcases this with rfl | rfl | rfl | rfl <;> go_simp
  · intro b' o' e; cases e; omega
  rintro e w1 ⟨Af, nf, cf, ps, rfl, hpl, hnf1, hnf2, hrow, hr1, ht1⟩
  have hs1 : w.heap.size + 2 ≤ w1.heap.size := by have := ht1.size; simpa using this
  have k0 : w1.cell? ⟨w.heap.size, 0, none⟩ = some (.slice none 0 0) := (World.cell?_of_block (a := ⟨w.heap.size, 0, none⟩) (ht1.block w.heap.size (by simp; omega) (.inr (by omega)))).trans (by go_simp)
  have k1 : w1.frozen? ⟨w.heap.size, 0, none⟩ = false := (World.frozen?_of_block (a := ⟨w.heap.size, 0, none⟩) (ht1.block w.heap.size (by simp; omega) (.inr (by omega)))).trans (by go_simp)
  obtain ⟨bp, cp, hbv⟩ := row_pos hrow (by omega)
  cases hbv
  have hbp := hrow.lt bp rfl
  simp only [World.size_alloc] at hbp hrow
  have HF1 := Lib.hid (HF0.out.trans (Frd.of_tch ht1 (by simp; omega)))
  have HR1 := Lib.hid (hr1.alloc (.cells #[.slice (some ⟨bp, 0, none⟩) nf cf] 25))
  have HO1 := Lib.hid hrow
  have HPL := Lib.hid hpl
  clear hr1 ht1 hpl hrow HR0 HF0
  obtain ⟨b3, hb3⟩ : ∃ b3, b3 = w1.heap.size := ⟨_, rfl⟩
  have HB3 := Lib.hid hb3
  have hb3p : bp < b3 := by omega
  have hb3s : w.heap.size + 2 ≤ b3 := by omega
  clear hb3
  go_wp2_with fail
  refine (pick_any g A n c bs (P + 200) nf _ HR1.out HN.out hby hs (by omega) (by omega)).mono ?_
  rintro e w2 ⟨k, rfl, hk, _, hr2, ht2⟩
  have hkn : k < nf := by have := hk (by omega); omega
  have hs2 := ht2.size
  simp only [World.size_alloc] at hs2
  have c3 : w2.cell? ⟨w1.heap.size, 0, none⟩ = some (.slice (some ⟨bp, 0, none⟩) nf cf) := (World.cell?_of_block (a := ⟨w1.heap.size, 0, none⟩) (ht2.block w1.heap.size (by simp) (.inr (by omega)))).trans (by go_simp)
  have z3 : w2.frozen? ⟨w1.heap.size, 0, none⟩ = false := (World.frozen?_of_block (a := ⟨w1.heap.size, 0, none⟩) (ht2.block w1.heap.size (by simp) (.inr (by omega)))).trans (by go_simp)
  have k2 := (World.cell?_of_block (a := ⟨w.heap.size, 0, none⟩) (ht2.block w.heap.size (by simp; omega) (.inr (by omega)))).trans ((World.cell?_alloc_lt w1 _ ⟨w.heap.size, 0, none⟩ (by show w.heap.size < w1.heap.size; omega)).trans k0)
  have l2 : w2.frozen? ⟨w.heap.size, 0, none⟩ = false := (World.frozen?_of_block (a := ⟨w.heap.size, 0, none⟩) (ht2.block w.heap.size (by simp; omega) (.inr (by omega)))).trans ((World.frozen?_alloc_past _ w.heap.size 0 (by omega)).trans k1)
  have HR2 := Lib.hid hr2
  have HF2 := Lib.hid ((HF1.out.trans (Frd.of_below (w' := w1.alloc (.cells #[.slice (some ⟨bp, 0, none⟩) nf cf] 25)) ((Below.refl w1.heap.size w1).alloc (Nat.le_refl _) _) (by omega))).trans (Frd.of_tch ht2 (by simp; omega)))
  have HO2 := Lib.hid (own_keep (HO1.out.alloc (.cells #[.slice (some ⟨bp, 0, none⟩) nf cf] 25)) fun q hq hq' => ht2.block q hq' (.inr (by omega)))
  clear hr2 ht2 HR1 HF1 HO1 k0 k1 hk
  go_wp2_with fail
  refine (pick_any g A n c bs (P + 200 + 1) 24 _ HR2.out HN.out hby hs (by omega) (by omega)).mono ?_
  rintro e w3 ⟨x, rfl, _, _, hr3, ht3⟩
  have hs3 := ht3.size
  have c4 := (World.cell?_of_block (a := ⟨w1.heap.size, 0, none⟩) (ht3.block w1.heap.size (by omega) (.inr (by omega)))).trans c3
  have z4 := (World.frozen?_of_block (a := ⟨w1.heap.size, 0, none⟩) (ht3.block w1.heap.size (by omega) (.inr (by omega)))).trans z3
  have k4 := (World.cell?_of_block (a := ⟨w.heap.size, 0, none⟩) (ht3.block w.heap.size (by omega) (.inr (by omega)))).trans k2
  have l4 := (World.frozen?_of_block (a := ⟨w.heap.size, 0, none⟩) (ht3.block w.heap.size (by omega) (.inr (by omega)))).trans l2
  have HR3 := Lib.hid hr3
  have HF3 := Lib.hid (HF2.out.trans (Frd.of_tch ht3 (by omega)))
  have HO3 := Lib.hid (own_keep HO2.out fun q hq hq' => ht3.block q hq' (.inr (by omega)))
  have hbpo := hbp.1
  clear hr3 ht3 HR2 HF2 HO2 c3 z3 k2 l2
  by_cases hx0 : x = 0
  · subst hx0
    have HR4 := Lib.hid (HR3.out.alloc (.cells #[.int .i64 (-1), .int .i64 9, .int .i64 8] 3))
    have HF4 := Lib.hid (HF3.out.trans (Frd.of_below (w' := w3.alloc (.cells #[.int .i64 (-1), .int .i64 9, .int .i64 8] 3)) ((Below.refl w3.heap.size w3).alloc (Nat.le_refl _) _) (by omega)))
    have HO4 := Lib.hid (HO3.out.alloc (.cells #[.int .i64 (-1), .int .i64 9, .int .i64 8] 3))
    have hg3 : w3.heap.size ≠ g := by omega
    have hb3a : w1.heap.size < w3.heap.size := by omega
    have hs0 : w.heap.size < w3.heap.size := by omega
    have hcl := length_cells ps
    have hne : ∀ q : Nat, (⟨bp, q, none⟩ : Addr) ≠ ⟨w1.heap.size, 0, none⟩ := fun q e => by have := congrArg Addr.block e; simp at this; omega
    have hne3 : ∀ q : Nat, (⟨bp, q, none⟩ : Addr) ≠ ⟨w.heap.size, 0, none⟩ := fun q e => by have := congrArg Addr.block e; simp at this; omega
    obtain ⟨v5, hv5⟩ : ∃ v, (ps.flatMap Pt.cells)[k * 5]? = some v := ⟨_, List.getElem?_eq_getElem (by have := HPL.out; omega)⟩
    have HV5 := Lib.hid hv5
    clear hv5 hcl
    have c5 := (World.cell?_alloc_lt w3 (.cells #[.int .i64 (-1), .int .i64 9, .int .i64 8] 3) ⟨w1.heap.size, 0, none⟩ hb3a).trans c4
    have k5 := (World.cell?_alloc_lt w3 (.cells #[.int .i64 (-1), .int .i64 9, .int .i64 8] 3) ⟨w.heap.size, 0, none⟩ hs0).trans k4
    have l5 := (World.frozen?_alloc_past (.cells #[.int .i64 (-1), .int .i64 9, .int .i64 8] 3) w.heap.size 0 hs0).trans l4
    go_wp2_with fail
    go_region_held3 (fun w' => w'.cell? ⟨w1.heap.size, 0, none⟩ = some (.slice (some ⟨bp, 0, none⟩) nf cf)) (first | exact c4 | exact c5 | exact c6 | exact (World.cell?_setCell_other _ _ _ _ (hne _)).trans c6)
      (first
        | (go_at_call 65; refine (one_any g A n c bs (P + 202) w3.heap.size 0 3 3 [(-1), 9, 8] _ ?_ HN.out hby hs ?_ rfl ?_ ?_ ?_ hg3 ?_).mono ?_; (first | exact HR4.out | exact HR4.out.drew); omega; omega; omega; (intro j hj; have hj3 : j = 0 ∨ j = 1 ∨ j = 2 := (by omega); rcases hj3 with rfl | rfl | rfl <;> go_simp); (simp); rintro e w4 ⟨z, rfl, _, hr4, ht4'⟩; have ht4 : Tch g (g + 1) (w3.alloc (.cells #[.int .i64 (-1), .int .i64 9, .int .i64 8] 3)) w4 := ⟨ht4'.os, ht4'.tape, ht4'.output, ht4'.size, ht4'.block⟩; have HR5 := Lib.hid hr4; have HF5 := Lib.hid (HF4.out.trans (Frd.of_tch ht4 (Nat.le_trans (Nat.le_of_lt hs0) (by simp)))); have HO5 := Lib.hid (own_keep HO4.out fun q hq hq' => ht4.block q hq' (.inr (by omega))); have u5 := (HO5.out.cellAt (k * 5) (by omega)).trans HV5.out; have f5 := HO5.out.frozenAt (k * 5); have c6 := (World.cell?_of_block (a := ⟨w1.heap.size, 0, none⟩) (ht4.block w1.heap.size (by simp; omega) (.inr (by omega)))).trans c5; have k6 := (World.cell?_of_block (a := ⟨w.heap.size, 0, none⟩) (ht4.block w.heap.size (by simp; omega) (.inr (by omega)))).trans k5; have l6 := (World.frozen?_of_block (a := ⟨w.heap.size, 0, none⟩) (ht4.block w.heap.size (by simp; omega) (.inr (by omega)))).trans l5))
    have c7 : (w4.setCell ⟨bp, k * 5, none⟩ (.int .i64 z)).cell? ⟨w1.heap.size, 0, none⟩ = some (.slice (some ⟨bp, 0, none⟩) nf cf) := (World.cell?_setCell_other _ _ _ _ (hne (k * 5))).trans c6
    have k7 : (w4.setCell ⟨bp, k * 5, none⟩ (.int .i64 z)).cell? ⟨w.heap.size, 0, none⟩ = some (.slice none 0 0) := (World.cell?_setCell_other _ _ _ _ (hne3 (k * 5))).trans k6
    have l7 : (w4.setCell ⟨bp, k * 5, none⟩ (.int .i64 z)).frozen? ⟨w.heap.size, 0, none⟩ = false := by rw [World.frozen?_setCell]; exact l6
    obtain ⟨qs, hq1, hq2⟩ := cells_some ps (k * 5) z (by have := HPL.out; omega)
    have hst := (HO5.out.stored (k * 5) (.int .i64 z)).1
    rw [← hq2] at hst
    have HST := Lib.hid hst
    have HQ := Lib.hid hq1
    clear hq1 hq2 hst u5 f5 c6 k6 l6
    have hsz4 := ht4.size
    have hw4 : w.heap.size < w4.heap.size := by simp at hsz4; omega
    go_wp2
    refine bodyPost_ret (v := .agg #[.slice (some ⟨bp, 0, none⟩) nf cf]) (by simp [results, Try.results55, go_sem, k7]) rfl ?_
    have hb1 : Below w.heap.size w4 (w4.setCell ⟨bp, k * 5, none⟩ (.int .i64 z)) := (Below.refl w.heap.size w4).setCell (by show w.heap.size ≤ bp; omega) _
    have hb2 : Below w.heap.size w4 ((w4.setCell ⟨bp, k * 5, none⟩ (.int .i64 z)).setCell ⟨w.heap.size, 0, none⟩ (.slice (some ⟨bp, 0, none⟩) nf cf)) := hb1.setCell (Nat.le_refl _) _
    refine ⟨_, _, _, qs, rfl, by rw [HQ.out]; exact HPL.out, hnf1, by omega, ?_, ?_, ?_⟩
    · exact own_mono (own_keep HST.out fun q hq hq' => Below.heap_setCell _ _ _ _ (by show q ≠ w.heap.size; omega)) (by omega)
    · exact (HR5.out.mono (by omega)).turn (Tch.of_below' hb2) hgw
    · exact (HF5.out.trans (Frd.of_below hb2 (Nat.le_refl _))).tch
  · by_cases hx1 : x = 1
    · subst hx1
      have HR4 := Lib.hid (HR3.out.alloc (.cells #[.int .i64 k, .int .i64 (-1), .int .i64 5] 3))
      have HF4 := Lib.hid (HF3.out.trans (Frd.of_below (w' := w3.alloc (.cells #[.int .i64 k, .int .i64 (-1), .int .i64 5] 3)) ((Below.refl w3.heap.size w3).alloc (Nat.le_refl _) _) (by omega)))
      have HO4 := Lib.hid (HO3.out.alloc (.cells #[.int .i64 k, .int .i64 (-1), .int .i64 5] 3))
      have hg3 : w3.heap.size ≠ g := by omega
      have hb3a : w1.heap.size < w3.heap.size := by omega
      have hs0 : w.heap.size < w3.heap.size := by omega
      have hcl := length_cells ps
      have hne : ∀ q : Nat, (⟨bp, q, none⟩ : Addr) ≠ ⟨w1.heap.size, 0, none⟩ := fun q e => by have := congrArg Addr.block e; simp at this; omega
      have hne3 : ∀ q : Nat, (⟨bp, q, none⟩ : Addr) ≠ ⟨w.heap.size, 0, none⟩ := fun q e => by have := congrArg Addr.block e; simp at this; omega
      obtain ⟨v5, hv5⟩ : ∃ v, (ps.flatMap Pt.cells)[k * 5 + 1]? = some v := ⟨_, List.getElem?_eq_getElem (by have := HPL.out; omega)⟩
      have HV5 := Lib.hid hv5
      clear hv5 hcl
      have c5 := (World.cell?_alloc_lt w3 (.cells #[.int .i64 k, .int .i64 (-1), .int .i64 5] 3) ⟨w1.heap.size, 0, none⟩ hb3a).trans c4
      have k5 := (World.cell?_alloc_lt w3 (.cells #[.int .i64 k, .int .i64 (-1), .int .i64 5] 3) ⟨w.heap.size, 0, none⟩ hs0).trans k4
      have l5 := (World.frozen?_alloc_past (.cells #[.int .i64 k, .int .i64 (-1), .int .i64 5] 3) w.heap.size 0 hs0).trans l4
      go_wp2_with fail
      go_region_held3 (fun w' => w'.cell? ⟨w1.heap.size, 0, none⟩ = some (.slice (some ⟨bp, 0, none⟩) nf cf)) (first | exact c4 | exact c5 | exact c6 | exact (World.cell?_setCell_other _ _ _ _ (hne _)).trans c6)
        (first
          | (go_at_call 65; refine (one_any g A n c bs (P + 202) w3.heap.size 0 3 3 [k, (-1), 5] _ ?_ HN.out hby hs ?_ rfl ?_ ?_ ?_ hg3 ?_).mono ?_; (first | exact HR4.out | exact HR4.out.drew); omega; omega; omega; (intro j hj; have hj3 : j = 0 ∨ j = 1 ∨ j = 2 := (by omega); rcases hj3 with rfl | rfl | rfl <;> go_simp); (simp); rintro e w4 ⟨z, rfl, _, hr4, ht4'⟩; have ht4 : Tch g (g + 1) (w3.alloc (.cells #[.int .i64 k, .int .i64 (-1), .int .i64 5] 3)) w4 := ⟨ht4'.os, ht4'.tape, ht4'.output, ht4'.size, ht4'.block⟩; have HR5 := Lib.hid hr4; have HF5 := Lib.hid (HF4.out.trans (Frd.of_tch ht4 (Nat.le_trans (Nat.le_of_lt hs0) (by simp)))); have HO5 := Lib.hid (own_keep HO4.out fun q hq hq' => ht4.block q hq' (.inr (by omega))); have u5 := (HO5.out.cellAt (k * 5 + 1) (by omega)).trans HV5.out; have f5 := HO5.out.frozenAt (k * 5 + 1); have c6 := (World.cell?_of_block (a := ⟨w1.heap.size, 0, none⟩) (ht4.block w1.heap.size (by simp; omega) (.inr (by omega)))).trans c5; have k6 := (World.cell?_of_block (a := ⟨w.heap.size, 0, none⟩) (ht4.block w.heap.size (by simp; omega) (.inr (by omega)))).trans k5; have l6 := (World.frozen?_of_block (a := ⟨w.heap.size, 0, none⟩) (ht4.block w.heap.size (by simp; omega) (.inr (by omega)))).trans l5))
      have c7 : (w4.setCell ⟨bp, k * 5 + 1, none⟩ (.int .i64 z)).cell? ⟨w1.heap.size, 0, none⟩ = some (.slice (some ⟨bp, 0, none⟩) nf cf) := (World.cell?_setCell_other _ _ _ _ (hne (k * 5 + 1))).trans c6
      have k7 : (w4.setCell ⟨bp, k * 5 + 1, none⟩ (.int .i64 z)).cell? ⟨w.heap.size, 0, none⟩ = some (.slice none 0 0) := (World.cell?_setCell_other _ _ _ _ (hne3 (k * 5 + 1))).trans k6
      have l7 : (w4.setCell ⟨bp, k * 5 + 1, none⟩ (.int .i64 z)).frozen? ⟨w.heap.size, 0, none⟩ = false := by rw [World.frozen?_setCell]; exact l6
      obtain ⟨qs, hq1, hq2⟩ := cells_some ps (k * 5 + 1) z (by have := HPL.out; omega)
      have hst := (HO5.out.stored (k * 5 + 1) (.int .i64 z)).1
      rw [← hq2] at hst
      have HST := Lib.hid hst
      have HQ := Lib.hid hq1
      clear hq1 hq2 hst u5 f5 c6 k6 l6
      have hsz4 := ht4.size
      have hw4 : w.heap.size < w4.heap.size := by simp at hsz4; omega
      go_wp2
      refine bodyPost_ret (v := .agg #[.slice (some ⟨bp, 0, none⟩) nf cf]) (by simp [results, Try.results55, go_sem, k7]) rfl ?_
      have hb1 : Below w.heap.size w4 (w4.setCell ⟨bp, k * 5 + 1, none⟩ (.int .i64 z)) := (Below.refl w.heap.size w4).setCell (by show w.heap.size ≤ bp; omega) _
      have hb2 : Below w.heap.size w4 ((w4.setCell ⟨bp, k * 5 + 1, none⟩ (.int .i64 z)).setCell ⟨w.heap.size, 0, none⟩ (.slice (some ⟨bp, 0, none⟩) nf cf)) := hb1.setCell (Nat.le_refl _) _
      refine ⟨_, _, _, qs, rfl, by rw [HQ.out]; exact HPL.out, hnf1, by omega, ?_, ?_, ?_⟩
      · exact own_mono (own_keep HST.out fun q hq hq' => Below.heap_setCell _ _ _ _ (by show q ≠ w.heap.size; omega)) (by omega)
      · exact (HR5.out.mono (by omega)).turn (Tch.of_below' hb2) hgw
      · exact (HF5.out.trans (Frd.of_below hb2 (Nat.le_refl _))).tch
    · by_cases hx2 : x = 2
      · subst hx2
        have HR4 := Lib.hid (HR3.out.alloc (.cells #[.int .i64 (-1), .int .i64 100, .int .i64 1] 3))
        have HF4 := Lib.hid (HF3.out.trans (Frd.of_below (w' := w3.alloc (.cells #[.int .i64 (-1), .int .i64 100, .int .i64 1] 3)) ((Below.refl w3.heap.size w3).alloc (Nat.le_refl _) _) (by omega)))
        have HO4 := Lib.hid (HO3.out.alloc (.cells #[.int .i64 (-1), .int .i64 100, .int .i64 1] 3))
        have hg3 : w3.heap.size ≠ g := by omega
        have hb3a : w1.heap.size < w3.heap.size := by omega
        have hs0 : w.heap.size < w3.heap.size := by omega
        have hcl := length_cells ps
        have hne : ∀ q : Nat, (⟨bp, q, none⟩ : Addr) ≠ ⟨w1.heap.size, 0, none⟩ := fun q e => by have := congrArg Addr.block e; simp at this; omega
        have hne3 : ∀ q : Nat, (⟨bp, q, none⟩ : Addr) ≠ ⟨w.heap.size, 0, none⟩ := fun q e => by have := congrArg Addr.block e; simp at this; omega
        obtain ⟨v5, hv5⟩ : ∃ v, (ps.flatMap Pt.cells)[k * 5 + 4]? = some v := ⟨_, List.getElem?_eq_getElem (by have := HPL.out; omega)⟩
        have HV5 := Lib.hid hv5
        clear hv5 hcl
        have c5 := (World.cell?_alloc_lt w3 (.cells #[.int .i64 (-1), .int .i64 100, .int .i64 1] 3) ⟨w1.heap.size, 0, none⟩ hb3a).trans c4
        have k5 := (World.cell?_alloc_lt w3 (.cells #[.int .i64 (-1), .int .i64 100, .int .i64 1] 3) ⟨w.heap.size, 0, none⟩ hs0).trans k4
        have l5 := (World.frozen?_alloc_past (.cells #[.int .i64 (-1), .int .i64 100, .int .i64 1] 3) w.heap.size 0 hs0).trans l4
        go_wp2_with fail
        go_region_held3 (fun w' => w'.cell? ⟨w1.heap.size, 0, none⟩ = some (.slice (some ⟨bp, 0, none⟩) nf cf)) (first | exact c4 | exact c5 | exact c6 | exact (World.cell?_setCell_other _ _ _ _ (hne _)).trans c6)
          (first
            | (go_at_call 65; refine (one_any g A n c bs (P + 202) w3.heap.size 0 3 3 [(-1), 100, 1] _ ?_ HN.out hby hs ?_ rfl ?_ ?_ ?_ hg3 ?_).mono ?_; (first | exact HR4.out | exact HR4.out.drew); omega; omega; omega; (intro j hj; have hj3 : j = 0 ∨ j = 1 ∨ j = 2 := (by omega); rcases hj3 with rfl | rfl | rfl <;> go_simp); (simp); rintro e w4 ⟨z, rfl, _, hr4, ht4'⟩; have ht4 : Tch g (g + 1) (w3.alloc (.cells #[.int .i64 (-1), .int .i64 100, .int .i64 1] 3)) w4 := ⟨ht4'.os, ht4'.tape, ht4'.output, ht4'.size, ht4'.block⟩; have HR5 := Lib.hid hr4; have HF5 := Lib.hid (HF4.out.trans (Frd.of_tch ht4 (Nat.le_trans (Nat.le_of_lt hs0) (by simp)))); have HO5 := Lib.hid (own_keep HO4.out fun q hq hq' => ht4.block q hq' (.inr (by omega))); have u5 := (HO5.out.cellAt (k * 5 + 4) (by omega)).trans HV5.out; have f5 := HO5.out.frozenAt (k * 5 + 4); have c6 := (World.cell?_of_block (a := ⟨w1.heap.size, 0, none⟩) (ht4.block w1.heap.size (by simp; omega) (.inr (by omega)))).trans c5; have k6 := (World.cell?_of_block (a := ⟨w.heap.size, 0, none⟩) (ht4.block w.heap.size (by simp; omega) (.inr (by omega)))).trans k5; have l6 := (World.frozen?_of_block (a := ⟨w.heap.size, 0, none⟩) (ht4.block w.heap.size (by simp; omega) (.inr (by omega)))).trans l5))
        have c7 : (w4.setCell ⟨bp, k * 5 + 4, none⟩ (.int .i64 z)).cell? ⟨w1.heap.size, 0, none⟩ = some (.slice (some ⟨bp, 0, none⟩) nf cf) := (World.cell?_setCell_other _ _ _ _ (hne (k * 5 + 4))).trans c6
        have k7 : (w4.setCell ⟨bp, k * 5 + 4, none⟩ (.int .i64 z)).cell? ⟨w.heap.size, 0, none⟩ = some (.slice none 0 0) := (World.cell?_setCell_other _ _ _ _ (hne3 (k * 5 + 4))).trans k6
        have l7 : (w4.setCell ⟨bp, k * 5 + 4, none⟩ (.int .i64 z)).frozen? ⟨w.heap.size, 0, none⟩ = false := by rw [World.frozen?_setCell]; exact l6
        obtain ⟨qs, hq1, hq2⟩ := cells_some ps (k * 5 + 4) z (by have := HPL.out; omega)
        have hst := (HO5.out.stored (k * 5 + 4) (.int .i64 z)).1
        rw [← hq2] at hst
        have HST := Lib.hid hst
        have HQ := Lib.hid hq1
        clear hq1 hq2 hst u5 f5 c6 k6 l6
        have hsz4 := ht4.size
        have hw4 : w.heap.size < w4.heap.size := by simp at hsz4; omega
        go_wp2
        refine bodyPost_ret (v := .agg #[.slice (some ⟨bp, 0, none⟩) nf cf]) (by simp [results, Try.results55, go_sem, k7]) rfl ?_
        have hb1 : Below w.heap.size w4 (w4.setCell ⟨bp, k * 5 + 4, none⟩ (.int .i64 z)) := (Below.refl w.heap.size w4).setCell (by show w.heap.size ≤ bp; omega) _
        have hb2 : Below w.heap.size w4 ((w4.setCell ⟨bp, k * 5 + 4, none⟩ (.int .i64 z)).setCell ⟨w.heap.size, 0, none⟩ (.slice (some ⟨bp, 0, none⟩) nf cf)) := hb1.setCell (Nat.le_refl _) _
        refine ⟨_, _, _, qs, rfl, by rw [HQ.out]; exact HPL.out, hnf1, by omega, ?_, ?_, ?_⟩
        · exact own_mono (own_keep HST.out fun q hq hq' => Below.heap_setCell _ _ _ _ (by show q ≠ w.heap.size; omega)) (by omega)
        · exact (HR5.out.mono (by omega)).turn (Tch.of_below' hb2) hgw
        · exact (HF5.out.trans (Frd.of_below hb2 (Nat.le_refl _))).tch
      · by_cases hx3 : x = 3
        · subst hx3
          have hw3 : w.heap.size < w3.heap.size := by omega
          have hb3a : w1.heap.size < w3.heap.size := by omega
          go_wp2
          go_region_law
            (first
              | (go_simp; go_at_call 78; refine (spec_numberPart 1 _).mono ?_; rintro e w5 ⟨rfl, hb5'⟩; have hb5 : Below w3.heap.size w3 w5 := (by first | exact hb5' | exact below_of_drew hb5'); have HB5 := Lib.hid hb5; have HO5 := Lib.hid (own_below HO3.out hb5); have hs5 : w3.heap.size ≤ w5.heap.size := hb5.size; have c5 := (hb5.cell (p := ⟨w1.heap.size, 0, none⟩) hb3a).trans c4; have z5 := (hb5.frozen (p := ⟨w1.heap.size, 0, none⟩) hb3a).trans z4; have k5 := (hb5.cell (p := ⟨w.heap.size, 0, none⟩) hw3).trans k4; have l5 := (hb5.frozen (p := ⟨w.heap.size, 0, none⟩) hw3).trans l4; have c6 := (World.cell?_alloc_lt w5 (.cells #[.int .i64 0, .int .i64 (-1), .int .i64 (-1), .int .i64 (-1), .int .i64 1] 54) ⟨w1.heap.size, 0, none⟩ (Nat.lt_of_lt_of_le hb3a hs5)).trans c5; have k6 := (World.cell?_alloc_lt w5 (.cells #[.int .i64 0, .int .i64 (-1), .int .i64 (-1), .int .i64 (-1), .int .i64 1] 54) ⟨w.heap.size, 0, none⟩ (Nat.lt_of_lt_of_le hw3 hs5)).trans k5; have z6 := ((World.frozen?_alloc_past (w := w5) (.cells #[.int .i64 0, .int .i64 (-1), .int .i64 (-1), .int .i64 (-1), .int .i64 1] 54) w1.heap.size 0 (Nat.lt_of_lt_of_le hb3a hs5)).trans z5 : (w5.alloc (.cells #[.int .i64 0, .int .i64 (-1), .int .i64 (-1), .int .i64 (-1), .int .i64 1] 54)).frozen? ⟨w1.heap.size, 0, none⟩ = false); have l6 := ((World.frozen?_alloc_past (w := w5) (.cells #[.int .i64 0, .int .i64 (-1), .int .i64 (-1), .int .i64 (-1), .int .i64 1] 54) w.heap.size 0 (Nat.lt_of_lt_of_le hw3 hs5)).trans l5 : (w5.alloc (.cells #[.int .i64 0, .int .i64 (-1), .int .i64 (-1), .int .i64 (-1), .int .i64 1] 54)).frozen? ⟨w.heap.size, 0, none⟩ = false); clear hb5 hb5')
              | (refine step_append_lies _ (by rfl) _ _ _ (by rfl) (w.heap.size + 2) 54 i1 _ 5 40 Try.underlying23 hi1 hy0 hy1 hy2 rfl (by omega) (.slice (some ⟨bp, 0, none⟩) nf cf) nf _ (by rfl) (HO5.out.alloc _) ⟨w5.heap.size, 0, none⟩ 1 1 [.int .i64 0, .int .i64 (-1), .int .i64 (-1), .int .i64 (-1), .int .i64 1] (by rfl) (by rfl) (cells_new _ _ _ _ rfl) (by simp [Value.oneCell']) (by omega) (by unfold maxLen; omega) (by omega) (by simp; omega) (w5.heap.size + 1) (by simp) ?_; intro gg cap w6 hown' hgrow hat hlt6; have ht6 : Tch bp (bp + 1) (w5.alloc (.cells #[.int .i64 0, .int .i64 (-1), .int .i64 (-1), .int .i64 (-1), .int .i64 1] 54)) w6 := Tch.of_grown hgrow (fun q hq => by cases hq; exact ⟨Nat.le_refl _, Nat.lt_succ_self _⟩); have c7 := (World.cell?_of_block (a := ⟨w1.heap.size, 0, none⟩) (ht6.block w1.heap.size (by simp; omega) (.inr (by omega)))).trans c6; have k7 := (World.cell?_of_block (a := ⟨w.heap.size, 0, none⟩) (ht6.block w.heap.size (by simp; omega) (.inl (by omega)))).trans k6; have z7 := (World.frozen?_of_block (a := ⟨w1.heap.size, 0, none⟩) (ht6.block w1.heap.size (by simp; omega) (.inr (by omega)))).trans z6; have l7 := (World.frozen?_of_block (a := ⟨w.heap.size, 0, none⟩) (ht6.block w.heap.size (by simp; omega) (.inl (by omega)))).trans l6))
          all_goals
            have hg1 : gg ≠ w1.heap.size := by
              rcases hat with h | h
              · have hh : bp = gg := Option.some.inj h
                omega
              · omega
            have hg2 : gg ≠ w.heap.size := by
              rcases hat with h | h
              · have hh : bp = gg := Option.some.inj h
                omega
              · omega
            have c8 : (w6.setCell ⟨w1.heap.size, 0, none⟩ (.slice (some ⟨gg, 0, none⟩) (nf + 1) cap)).cell? ⟨w1.heap.size, 0, none⟩ = some (.slice (some ⟨gg, 0, none⟩) (nf + 1) cap) := World.cell?_setCell_same _ _ _ c7
            have k8 : (w6.setCell ⟨w1.heap.size, 0, none⟩ (.slice (some ⟨gg, 0, none⟩) (nf + 1) cap)).cell? ⟨w.heap.size, 0, none⟩ = some (.slice none 0 0) := (World.cell?_setCell_other _ _ _ _ (fun e => by have := congrArg Addr.block e; simp at this; omega)).trans k7
            have l8 : (w6.setCell ⟨w1.heap.size, 0, none⟩ (.slice (some ⟨gg, 0, none⟩) (nf + 1) cap)).frozen? ⟨w.heap.size, 0, none⟩ = false := (World.frozen?_setCell _ _ _ _).trans l7
            have HOW := Lib.hid (own_set (own_set hown' ⟨w1.heap.size, 0, none⟩ (by show w1.heap.size ≠ gg; omega) (.slice (some ⟨gg, 0, none⟩) (nf + 1) cap)) ⟨w.heap.size, 0, none⟩ (by show w.heap.size ≠ gg; omega) (.slice (some ⟨gg, 0, none⟩) (nf + 1) cap))
            have hb6 : Below w.heap.size (w5.alloc (.cells #[.int .i64 0, .int .i64 (-1), .int .i64 (-1), .int .i64 (-1), .int .i64 1] 54)) w6 := (Below.refl _ _).grown hgrow (by simp; omega) (fun q hq => by have hh : bp = q := Option.some.inj hq; omega)
            have hb7 : Below w.heap.size w3 w6 := ((HB5.out.mono (Nat.le_of_lt hw3)).alloc (by omega) (.cells #[.int .i64 0, .int .i64 (-1), .int .i64 (-1), .int .i64 (-1), .int .i64 1] 54)).trans hb6
            have hb8 : Below w.heap.size w3 ((w6.setCell ⟨w1.heap.size, 0, none⟩ (.slice (some ⟨gg, 0, none⟩) (nf + 1) cap)).setCell ⟨w.heap.size, 0, none⟩ (.slice (some ⟨gg, 0, none⟩) (nf + 1) cap)) := (hb7.setCell (by show w.heap.size ≤ w1.heap.size; omega) _).setCell (Nat.le_refl _) _
            have HB8 := Lib.hid hb8
            clear hb6 hb7 hb8 hown' hgrow hat ht6 c7 k7 l7 z7 c6 k6 l6 z6 c5 k5 l5 z5
            go_wp2
            refine bodyPost_ret (v := .agg #[.slice (some ⟨gg, 0, none⟩) (nf + 1) cap]) (by simp [results, Try.results55, go_sem, k8]) rfl ?_
            refine ⟨_, _, _, ps ++ [⟨0, -1, -1, -1, 1⟩], rfl, by rw [List.length_append, ← HPL.out]; rfl, by omega, by omega, ?_, ?_, ?_⟩
            · rw [List.flatMap_append]; exact own_mono HOW.out (by omega)
            · exact (HR3.out.mono (by omega)).turn (Tch.of_below' HB8.out) hgw
            · exact (HF3.out.trans (Frd.of_below HB8.out (Nat.le_refl _))).tch
        · have hw3 : w.heap.size < w3.heap.size := by omega
          go_wp2
          refine bodyPost_ret (v := .agg #[.slice (some ⟨bp, 0, none⟩) nf cf]) (by simp [results, Try.results55, go_sem, k4]) rfl ?_
          have hb2 : Below w.heap.size w3 (w3.setCell ⟨w.heap.size, 0, none⟩ (.slice (some ⟨bp, 0, none⟩) nf cf)) := (Below.refl w.heap.size w3).setCell (Nat.le_refl _) _
          refine ⟨_, _, _, ps, rfl, HPL.out, hnf1, by omega, ?_, ?_, ?_⟩
          · exact own_mono (own_keep HO3.out fun q hq hq' => Below.heap_setCell _ _ _ _ (by show q ≠ w.heap.size; omega)) (by omega)
          · exact (HR3.out.mono (by omega)).turn (Tch.of_below' hb2) hgw
          · exact (HF3.out.trans (Frd.of_below hb2 (Nat.le_refl _))).tch
end Go.Proofs.Ytnbohohoceghnaa

/- What the laws of promises draw: a formula, a formula and values; and the laws' own helpers on lists. -/
namespace Go.Proofs.Ytnbohohoceghnaa
set_option linter.unusedSimpArgs false
set_option linter.unusedVariables false
open Go.RowKit

/-- Returns a formula of some parts that lies in memory. -/
def DrF (w : World) (e : Ending) (w' : World) : Prop :=
  ∃ (A : Option Addr) (n c : Nat) (ps : List Pt), e = .returned (.agg #[.slice A n c]) ∧ n = ps.length ∧ 1 ≤ n ∧ n ≤ 41 ∧ PS w' w'.heap.size A ps ∧ Below w.heap.size w w'
/-- Not in a block that was there. -/
def FA (w : World) (A : Option Addr) : Prop := ∀ b off, A = some ⟨b, off, none⟩ → w.heap.size ≤ b
/-- Returns a formula and values that lie in memory. -/
def DrFV (w : World) (e : Ending) (w' : World) : Prop :=
  ∃ (A : Option Addr) (n c : Nat) (ps : List Pt) (E : Option Addr) (m d : Nat) (xs : List Int), e = .returned (.tuple #[.agg #[.slice A n c], .slice E m d]) ∧ n = ps.length ∧ 1 ≤ n ∧ n ≤ 41 ∧ m = xs.length ∧ 3 ≤ m ∧ m ≤ 10 ∧ PS w' w'.heap.size A ps ∧ IS w' w'.heap.size E xs ∧ FA w A ∧ FA w E ∧ Below w.heap.size w w'

theorem PS.set0 {w : World} {B g : Nat} {A : Option Addr} {ps : List Pt} (h : PS w B A ps) (hne : ∀ b off, A = some ⟨b, off, none⟩ → b ≠ g) (j : Nat) (x : Value) : PS (w.setCell ⟨g, j, none⟩ x) B A ps := by
  intro hn
  obtain ⟨b, off, e, hb, hc⟩ := h hn
  have hbg := hne b off e
  have k : ∀ i : Nat, (w.setCell ⟨g, j, none⟩ x).cell? ⟨b, i, none⟩ = w.cell? ⟨b, i, none⟩ := fun i => World.cell?_setCell_other _ _ _ _ (by intro e; cases e; exact hbg rfl)
  refine ⟨b, off, e, hb, fun i hi => ?_⟩
  obtain ⟨a0, a1, a2, a3, a4⟩ := hc i hi
  exact ⟨(k _).trans a0, (k _).trans a1, (k _).trans a2, (k _).trans a3, (k _).trans a4⟩
theorem IS.set0 {w : World} {B g : Nat} {A : Option Addr} {xs : List Int} (h : IS w B A xs) (hne : ∀ b off, A = some ⟨b, off, none⟩ → b ≠ g) (j : Nat) (x : Value) : IS (w.setCell ⟨g, j, none⟩ x) B A xs := by
  intro hn
  obtain ⟨b, off, e, hb, hc⟩ := h hn
  have hbg := hne b off e
  exact ⟨b, off, e, hb, fun i hi => (World.cell?_setCell_other _ _ _ _ (by intro e; cases e; exact hbg rfl)).trans (hc i hi)⟩
theorem own_far {w : World} {base e size n c g : Nat} {A : Option Addr} {xs : List Value} (h : w.ownsRow base e size (.slice A n c) n xs) (hg : g < base) : ∀ b off, A = some ⟨b, off, none⟩ → b ≠ g := by
  rintro b off rfl
  have := (h.lt b rfl).1
  omega

theorem own_far' {w : World} {base e size n c : Nat} {A : Option Addr} {xs : List Value} (h : w.ownsRow base e size (.slice A n c) n xs) : ∀ b off, A = some ⟨b, off, none⟩ → base ≤ b := by
  rintro b off rfl
  exact (h.lt b rfl).1

set_option maxHeartbeats 1600000 in
theorem spec_DrawMayRead (A : Option Addr) (n c : Nat) (bs : List Int) (w : World) (hn : n = bs.length) (hnc : n ≤ c) (h : BS w w.heap.size A bs) (hy : BY bs) (hs : n ≤ 1048576) :
    Calls Try.prog 26 #[.slice A n c] w fun e w' => DrF w e w' := by
  have h1 : BS (w.alloc (.cells #[.slice none 0 0] 25)) w.heap.size A bs := h.keep fun p hp => World.cell?_alloc_lt w _ p (by omega)
  have HC := Lib.hid (spec_newReader A n c bs _ w.heap.size (by simp) hn hnc h1 hy hs)
  clear hn hnc h h1 hy hs
  go_enter Try.func26, Try.ntmps26
  go_wp2_with fail
  refine HC.out.mono ?_
  rintro e w1 ⟨g, A1, n1, c1, ds, rfl, hn1, hn2, hy1, hr, hg, hb⟩
  have q0 : w1.cell? ⟨w.heap.size, 0, none⟩ = some (.slice none 0 0) := (hb.cell (p := ⟨w.heap.size, 0, none⟩) (by simp)).trans (by go_simp)
  have f0 : w1.frozen? ⟨w.heap.size, 0, none⟩ = false := (hb.frozen (p := ⟨w.heap.size, 0, none⟩) (by simp)).trans (by go_simp)
  have hl1 : w.heap.size < w1.heap.size := by have := hb.size; simp at this; omega
  have hgw : w.heap.size < g := by simp at hg; omega
  have HB1 := Lib.hid (((Below.refl w.heap.size w).alloc (Nat.le_refl _) (.cells #[.slice none 0 0] 25)).trans (hb.mono (by simp)))
  have HS := Lib.hid (someFormula_any g A1 n1 c1 ds 0 w1 hr hn1 hy1 hn2 (by omega))
  clear hn1 hr hb HC hy1
  go_wp2_with fail
  refine HS.out.mono ?_
  rintro e w2 ⟨A2, n2, c2, ps, rfl, hp1, hp2, hp3, ho, _, ht⟩
  have q1 := (World.cell?_of_block (a := ⟨w.heap.size, 0, none⟩) (ht.block w.heap.size hl1 (.inl hgw))).trans q0
  have f1 := (World.frozen?_of_block (a := ⟨w.heap.size, 0, none⟩) (ht.block w.heap.size hl1 (.inl hgw))).trans f0
  have hl2 : w.heap.size < w2.heap.size := Nat.lt_of_lt_of_le hl1 ht.size
  have HB2 := Lib.hid (HB1.out.trans (ht.below (B := w.heap.size) (by omega) (by omega)))
  have HO := Lib.hid ho
  have HP1 := Lib.hid hp1
  clear ho ht q0 f0 hp1
  go_wp2
  refine bodyPost_ret (v := .agg #[.slice A2 n2 c2]) (by simp [results, Try.results26, go_sem, q1]) rfl ?_
  refine ⟨A2, n2, c2, ps, rfl, HP1.out, hp2, hp3, ?_, HB2.out.setCell (Nat.le_refl _) _⟩
  have h3 := ((PS.of_own (by rw [HP1.out] at *; exact HO.out)).set0 (own_far HO.out hl1) 0 (.slice A2 n2 c2))
  simpa [World.setCell] using h3
set_option maxHeartbeats 1600000 in
theorem spec_DrawValidFormula (A : Option Addr) (n c : Nat) (bs : List Int) (w : World) (hn : n = bs.length) (hnc : n ≤ c) (h : BS w w.heap.size A bs) (hy : BY bs) (hs : n ≤ 1048576) :
    Calls Try.prog 31 #[.slice A n c] w fun e w' => DrF w e w' := by
  have h1 : BS (w.alloc (.cells #[.slice none 0 0] 25)) w.heap.size A bs := h.keep fun p hp => World.cell?_alloc_lt w _ p (by omega)
  have HC := Lib.hid (spec_newReader A n c bs _ w.heap.size (by simp) hn hnc h1 hy hs)
  clear hn hnc h h1 hy hs
  go_enter Try.func31, Try.ntmps31
  go_wp2_with fail
  refine HC.out.mono ?_
  rintro e w1 ⟨g, A1, n1, c1, ds, rfl, hn1, hn2, hy1, hr, hg, hb⟩
  have q0 : w1.cell? ⟨w.heap.size, 0, none⟩ = some (.slice none 0 0) := (hb.cell (p := ⟨w.heap.size, 0, none⟩) (by simp)).trans (by go_simp)
  have f0 : w1.frozen? ⟨w.heap.size, 0, none⟩ = false := (hb.frozen (p := ⟨w.heap.size, 0, none⟩) (by simp)).trans (by go_simp)
  have hl1 : w.heap.size < w1.heap.size := by have := hb.size; simp at this; omega
  have hgw : w.heap.size < g := by simp at hg; omega
  have HB1 := Lib.hid (((Below.refl w.heap.size w).alloc (Nat.le_refl _) (.cells #[.slice none 0 0] 25)).trans (hb.mono (by simp)))
  have HS := Lib.hid (someFormula_any g A1 n1 c1 ds 0 w1 hr hn1 hy1 hn2 (by omega))
  clear hn1 hr hb HC hy1
  go_wp2_with fail
  refine HS.out.mono ?_
  rintro e w2 ⟨A2, n2, c2, ps, rfl, hp1, hp2, hp3, ho, _, ht⟩
  have q1 := (World.cell?_of_block (a := ⟨w.heap.size, 0, none⟩) (ht.block w.heap.size hl1 (.inl hgw))).trans q0
  have f1 := (World.frozen?_of_block (a := ⟨w.heap.size, 0, none⟩) (ht.block w.heap.size hl1 (.inl hgw))).trans f0
  have hl2 : w.heap.size < w2.heap.size := Nat.lt_of_lt_of_le hl1 ht.size
  have HB2 := Lib.hid (HB1.out.trans (ht.below (B := w.heap.size) (by omega) (by omega)))
  have HO := Lib.hid ho
  have HP1 := Lib.hid hp1
  clear ho ht q0 f0 hp1
  go_wp2
  refine bodyPost_ret (v := .agg #[.slice A2 n2 c2]) (by simp [results, Try.results31, go_sem, q1]) rfl ?_
  refine ⟨A2, n2, c2, ps, rfl, HP1.out, hp2, hp3, ?_, HB2.out.setCell (Nat.le_refl _) _⟩
  have h3 := ((PS.of_own (by rw [HP1.out] at *; exact HO.out)).set0 (own_far HO.out hl1) 0 (.slice A2 n2 c2))
  simpa [World.setCell] using h3

set_option maxHeartbeats 1600000 in
theorem spec_DrawDeepOf (A : Option Addr) (n c : Nat) (bs : List Int) (w : World) (hn : n = bs.length) (hnc : n ≤ c) (h : BS w w.heap.size A bs) (hy : BY bs) (hs : n ≤ 1048576) :
    Calls Try.prog 34 #[.slice A n c] w fun e w' => DrF w e w' := by
  have h1 : BS (w.alloc (.cells #[.slice none 0 0] 25)) w.heap.size A bs := h.keep fun p hp => World.cell?_alloc_lt w _ p (by omega)
  have HC := Lib.hid (spec_newReader A n c bs _ w.heap.size (by simp) hn hnc h1 hy hs)
  clear hn hnc h h1 hy hs
  go_enter Try.func34, Try.ntmps34
  go_wp2_with fail
  refine HC.out.mono ?_
  rintro e w1 ⟨g, A1, n1, c1, ds, rfl, hn1, hn2, hy1, hr, hg, hb⟩
  have q0 : w1.cell? ⟨w.heap.size, 0, none⟩ = some (.slice none 0 0) := (hb.cell (p := ⟨w.heap.size, 0, none⟩) (by simp)).trans (by go_simp)
  have f0 : w1.frozen? ⟨w.heap.size, 0, none⟩ = false := (hb.frozen (p := ⟨w.heap.size, 0, none⟩) (by simp)).trans (by go_simp)
  have hl1 : w.heap.size < w1.heap.size := by have := hb.size; simp at this; omega
  have hgw : w.heap.size < g := by simp at hg; omega
  have HB1 := Lib.hid (((Below.refl w.heap.size w).alloc (Nat.le_refl _) (.cells #[.slice none 0 0] 25)).trans (hb.mono (by simp)))
  have HS := Lib.hid (someFormula_any g A1 n1 c1 ds 0 w1 hr hn1 hy1 hn2 (by omega))
  clear hn1 hr hb HC hy1
  go_wp2_with fail
  refine HS.out.mono ?_
  rintro e w2 ⟨A2, n2, c2, ps, rfl, hp1, hp2, hp3, ho, _, ht⟩
  have q1 := (World.cell?_of_block (a := ⟨w.heap.size, 0, none⟩) (ht.block w.heap.size hl1 (.inl hgw))).trans q0
  have f1 := (World.frozen?_of_block (a := ⟨w.heap.size, 0, none⟩) (ht.block w.heap.size hl1 (.inl hgw))).trans f0
  have hl2 : w.heap.size < w2.heap.size := Nat.lt_of_lt_of_le hl1 ht.size
  have HB2 := Lib.hid (HB1.out.trans (ht.below (B := w.heap.size) (by omega) (by omega)))
  have HO := Lib.hid ho
  have HP1 := Lib.hid hp1
  clear ho ht q0 f0 hp1
  go_wp2
  refine bodyPost_ret (v := .agg #[.slice A2 n2 c2]) (by simp [results, Try.results34, go_sem, q1]) rfl ?_
  refine ⟨A2, n2, c2, ps, rfl, HP1.out, hp2, hp3, ?_, HB2.out.setCell (Nat.le_refl _) _⟩
  have h3 := ((PS.of_own (by rw [HP1.out] at *; exact HO.out)).set0 (own_far HO.out hl1) 0 (.slice A2 n2 c2))
  simpa [World.setCell] using h3


set_option maxHeartbeats 1600000 in
theorem spec_DrawValueOf (A : Option Addr) (n c : Nat) (bs : List Int) (w : World) (B : Nat) (hB : B ≤ w.heap.size) (hn : n = bs.length) (hnc : n ≤ c) (h : BS w B A bs) (hy : BY bs) (hs : n ≤ 1048576) :
    Calls Try.prog 23 #[.slice A n c] w fun e w' => DrFV w e w' := by
  have h1 : BS (w.alloc (.cells #[.slice none 0 0] 25)) B A bs := h.keep fun p hp => World.cell?_alloc_lt w _ p (by omega)
  have HC := Lib.hid (spec_newReader A n c bs _ B (by simp; omega) hn hnc h1 hy hs)
  clear hn hnc h h1 hy hs
  go_enter Try.func23, Try.ntmps23
  go_wp2_with fail
  refine HC.out.mono ?_
  rintro e w1 ⟨g, A1, n1, c1, ds, rfl, hn1, hn2, hy1, hr, hg, hb⟩
  have q0 : w1.cell? ⟨w.heap.size, 0, none⟩ = some (.slice none 0 0) := (hb.cell (p := ⟨w.heap.size, 0, none⟩) (by simp)).trans (by go_simp)
  have f0 : w1.frozen? ⟨w.heap.size, 0, none⟩ = false := (hb.frozen (p := ⟨w.heap.size, 0, none⟩) (by simp)).trans (by go_simp)
  have hl1 : w.heap.size < w1.heap.size := by have := hb.size; simp at this; omega
  have hgw : w.heap.size < g := by simp at hg; omega
  have HB1 := Lib.hid (((Below.refl w.heap.size w).alloc (Nat.le_refl _) (.cells #[.slice none 0 0] 25)).trans (hb.mono (by simp)))
  have HN1 := Lib.hid hn1
  have hg1 : g < w1.heap.size := hr.lt
  have HS := Lib.hid (someFormula_any g A1 n1 c1 ds 0 w1 hr hn1 hy1 hn2 (by omega))
  clear hn1 hr hb HC
  go_wp2_with fail
  refine HS.out.mono ?_
  rintro e w2 ⟨A2, n2, c2, ps, rfl, hp1, hp2, hp3, ho, hr2, ht⟩
  have q1 := (World.cell?_of_block (a := ⟨w.heap.size, 0, none⟩) (ht.block w.heap.size hl1 (.inl hgw))).trans q0
  have f1 := (World.frozen?_of_block (a := ⟨w.heap.size, 0, none⟩) (ht.block w.heap.size hl1 (.inl hgw))).trans f0
  have hl2 : w.heap.size < w2.heap.size := Nat.lt_of_lt_of_le hl1 ht.size
  have HB2 := Lib.hid (HB1.out.trans (ht.below (B := w.heap.size) (by omega) (by omega)))
  have HO := Lib.hid ho
  have HP1 := Lib.hid hp1
  have HV := Lib.hid (someValues_any g A1 n1 c1 ds _ w2 hr2 HN1.out hy1 hn2 (by omega))
  clear ho ht q0 f0 hp1 hr2
  go_wp2_with fail
  refine HV.out.mono ?_
  rintro e w3 ⟨v3, xs, rfl, hx3, hx10, ho3, _, ht3⟩
  obtain ⟨A3, c3, rfl, _⟩ := OwnI.form ho3
  have q2 := (World.cell?_of_block (a := ⟨w.heap.size, 0, none⟩) (ht3.block w.heap.size hl2 (.inl hgw))).trans q1
  have f2 := (World.frozen?_of_block (a := ⟨w.heap.size, 0, none⟩) (ht3.block w.heap.size hl2 (.inl hgw))).trans f1
  have HB3 := Lib.hid (HB2.out.trans (ht3.below (B := w.heap.size) (by omega) (by omega)))
  have hl3 : w.heap.size < w3.heap.size := Nat.lt_of_lt_of_le hl2 ht3.size
  have HO3 := Lib.hid ho3
  have HO2 := Lib.hid ((OwR.start HO.out).keep (w' := w3) fun q a b => ht3.block q b (.inr (by omega)))
  clear ho3 ht3 q1 f1
  go_wp2
  refine bodyPost_ret (v := .tuple #[.agg #[.slice A2 n2 c2], .slice A3 xs.length c3]) (by simp [results, Try.results23, go_sem, q2]) rfl ?_
  refine ⟨A2, n2, c2, ps, A3, xs.length, c3, xs, rfl, HP1.out, hp2, hp3, rfl, hx3, hx10, ?_, ?_, ?_, ?_, HB3.out.setCell (Nat.le_refl _) _⟩
  · have h3 := ((PS.of_own (by rw [HP1.out] at *; exact HO2.out.1)).set0 (g := w.heap.size) (own_far HO2.out.1 (by omega)) 0 (.slice A2 n2 c2))
    simpa [World.setCell] using h3
  · have h4 := (IS.of_own HO3.out).set0 (g := w.heap.size) (own_far HO3.out hl2) 0 (.slice A2 n2 c2)
    simpa [World.setCell] using h4
  · exact fun b off e => by have := own_far' HO2.out.1 b off e; omega
  · exact fun b off e => by have := own_far' HO3.out b off e; omega

set_option maxHeartbeats 800000 in
theorem spec_DrawReadsOf (A : Option Addr) (n c : Nat) (bs : List Int) (w : World) (hn : n = bs.length) (hnc : n ≤ c) (h : BS w w.heap.size A bs) (hy : BY bs) (hs : n ≤ 1048576) :
    Calls Try.prog 11 #[.slice A n c] w fun e w' => DrFV w e w' := by
  have h1 : BS (w.alloc (.cells #[.slice none 0 0] 25)) w.heap.size A bs := h.keep fun p hp => World.cell?_alloc_lt w _ p (by omega)
  have HC := Lib.hid (spec_DrawValueOf A n c bs _ w.heap.size (by simp) hn hnc h1 hy hs)
  clear hn hnc h h1 hy hs
  go_enter Try.func11, Try.ntmps11
  go_wp2_with fail
  refine HC.out.mono ?_
  rintro e w3 ⟨A2, n2, c2, ps, A3, m, c3, xs, rfl, hp1, hp2, hp3, hm, hx3, hx10, hP, hI, hF1, hF2, hb⟩
  have q0 : w3.cell? ⟨w.heap.size, 0, none⟩ = some (.slice none 0 0) := (hb.cell (p := ⟨w.heap.size, 0, none⟩) (by simp)).trans (by go_simp)
  have f0 : w3.frozen? ⟨w.heap.size, 0, none⟩ = false := (hb.frozen (p := ⟨w.heap.size, 0, none⟩) (by simp)).trans (by go_simp)
  have hl1 : w.heap.size < w3.heap.size := by have := hb.size; simp at this; omega
  have HB1 := Lib.hid (((Below.refl w.heap.size w).alloc (Nat.le_refl _) (.cells #[.slice none 0 0] 25)).trans (hb.mono (by simp)))
  have HP := Lib.hid (hP.set0 (g := w.heap.size) (fun b off e => by have := hF1 b off e; simp at this; omega) 0 (.slice A2 n2 c2))
  have HI := Lib.hid (hI.set0 (g := w.heap.size) (fun b off e => by have := hF2 b off e; simp at this; omega) 0 (.slice A2 n2 c2))
  have HF1 : Hid (FA w A2) := fun b off e => by have := hF1 b off e; simp at this; omega
  have HF2 : Hid (FA w A3) := fun b off e => by have := hF2 b off e; simp at this; omega
  have HP1 := Lib.hid hp1
  have HM := Lib.hid hm
  clear hP hI hF1 hF2 hb HC hp1 hm
  go_wp2
  refine bodyPost_ret (v := .tuple #[.agg #[.slice A2 n2 c2], .slice A3 m c3]) (by simp [results, Try.results11, go_sem, q0]) rfl ?_
  exact ⟨A2, n2, c2, ps, A3, m, c3, xs, rfl, HP1.out, hp2, hp3, HM.out, hx3, hx10, by simpa [World.setCell] using HP.out, by simpa [World.setCell] using HI.out, HF1.out, HF2.out, HB1.out.setCell (Nat.le_refl _) _⟩

set_option maxHeartbeats 800000 in
theorem spec_DrawReadsWhole (A : Option Addr) (n c : Nat) (bs : List Int) (w : World) (hn : n = bs.length) (hnc : n ≤ c) (h : BS w w.heap.size A bs) (hy : BY bs) (hs : n ≤ 1048576) :
    Calls Try.prog 18 #[.slice A n c] w fun e w' => DrFV w e w' := by
  have h1 : BS (w.alloc (.cells #[.slice none 0 0] 25)) w.heap.size A bs := h.keep fun p hp => World.cell?_alloc_lt w _ p (by omega)
  have HC := Lib.hid (spec_DrawValueOf A n c bs _ w.heap.size (by simp) hn hnc h1 hy hs)
  clear hn hnc h h1 hy hs
  go_enter Try.func18, Try.ntmps18
  go_wp2_with fail
  refine HC.out.mono ?_
  rintro e w3 ⟨A2, n2, c2, ps, A3, m, c3, xs, rfl, hp1, hp2, hp3, hm, hx3, hx10, hP, hI, hF1, hF2, hb⟩
  have q0 : w3.cell? ⟨w.heap.size, 0, none⟩ = some (.slice none 0 0) := (hb.cell (p := ⟨w.heap.size, 0, none⟩) (by simp)).trans (by go_simp)
  have f0 : w3.frozen? ⟨w.heap.size, 0, none⟩ = false := (hb.frozen (p := ⟨w.heap.size, 0, none⟩) (by simp)).trans (by go_simp)
  have hl1 : w.heap.size < w3.heap.size := by have := hb.size; simp at this; omega
  have HB1 := Lib.hid (((Below.refl w.heap.size w).alloc (Nat.le_refl _) (.cells #[.slice none 0 0] 25)).trans (hb.mono (by simp)))
  have HP := Lib.hid (hP.set0 (g := w.heap.size) (fun b off e => by have := hF1 b off e; simp at this; omega) 0 (.slice A2 n2 c2))
  have HI := Lib.hid (hI.set0 (g := w.heap.size) (fun b off e => by have := hF2 b off e; simp at this; omega) 0 (.slice A2 n2 c2))
  have HF1 : Hid (FA w A2) := fun b off e => by have := hF1 b off e; simp at this; omega
  have HF2 : Hid (FA w A3) := fun b off e => by have := hF2 b off e; simp at this; omega
  have HP1 := Lib.hid hp1
  have HM := Lib.hid hm
  clear hP hI hF1 hF2 hb HC hp1 hm
  go_wp2
  refine bodyPost_ret (v := .tuple #[.agg #[.slice A2 n2 c2], .slice A3 m c3]) (by simp [results, Try.results18, go_sem, q0]) rfl ?_
  exact ⟨A2, n2, c2, ps, A3, m, c3, xs, rfl, HP1.out, hp2, hp3, HM.out, hx3, hx10, by simpa [World.setCell] using HP.out, by simpa [World.setCell] using HI.out, HF1.out, HF2.out, HB1.out.setCell (Nat.le_refl _) _⟩
end Go.Proofs.Ytnbohohoceghnaa

/- Plain facts on graphs: validity, cells, meaning, heights. -/
namespace Go.Proofs.Ytnbohohoceghnaa
set_option linter.unusedSimpArgs false
set_option linter.unusedVariables false
open Go.RowKit

theorem all_bad (l : List Int) (p : Int → Bool) (k : Nat) (h : k < l.length) (hp : p (l.getD k 0) = false) : l.all p = false := by
  rw [List.all_eq_false]
  exact ⟨l.getD k 0, by simp [List.getD, h], by rw [hp]; simp⟩
theorem all_good (l : List Int) (p : Int → Bool) (h : ∀ k, k < l.length → p (l.getD k 0) = true) : l.all p = true := by
  rw [List.all_eq_true]
  intro x hx
  obtain ⟨k, hk, rfl⟩ := List.mem_iff_getElem.1 hx
  have := h k hk
  simpa [List.getD, hk] using this

/-- A node ahead of the one at i that is no effect. -/
def rdOK (gs : List Nd) (i : Nat) (x : Int) : Bool := decide (x < (i : Int)) && !((gs.getD x.toNat default).k == 2)
def goodRd (gs : List Nd) (i : Nat) : Bool := (mayR (gs.getD i default).ps).all (rdOK gs i)
def nodeOK (gs : List Nd) (i : Nat) : Bool :=
  if (gs.getD i default).k == 0 then decide ((gs.getD i default).ps.length = 0)
  else if (gs.getD i default).k == 1 then validF (gs.getD i default).ps && goodRd gs i
  else if (gs.getD i default).k == 2 then validF (gs.getD i default).ps && goodRd gs i
  else false
def validG (gs : List Nd) : Bool := decide (∀ i, i < gs.length → nodeOK gs i = true) && decide (gs.length ≤ 10)

theorem validG_bad (gs : List Nd) (k : Nat) (h : k < gs.length) (hg : nodeOK gs k = false) : validG gs = false := by
  unfold validG
  rw [decide_eq_false]
  · rfl
  · intro H; rw [H k h] at hg; cases hg
theorem validG_long (gs : List Nd) (h : 10 < gs.length) : validG gs = false := by
  unfold validG
  rw [decide_eq_false (p := gs.length ≤ 10) (by omega), Bool.and_false]
theorem validG_fin (gs : List Nd) (h : ∀ i, i < gs.length → nodeOK gs i = true) : validG gs = decide (gs.length ≤ 10) := by
  unfold validG
  rw [decide_eq_true h, Bool.true_and]
theorem validG_parts (gs : List Nd) (h : validG gs = true) : gs.length ≤ 10 ∧ ∀ i, i < gs.length → nodeOK gs i = true := by
  unfold validG at h
  simp only [Bool.and_eq_true, decide_eq_true_eq] at h
  exact ⟨h.2, h.1⟩

theorem nodeOK_cell (gs : List Nd) (i : Nat) (h : nodeOK gs i = true) (hk : ((gs.getD i default).k == 0) = true) : (gs.getD i default).ps = [] := by
  unfold nodeOK at h
  rw [if_pos hk] at h
  exact List.eq_nil_of_length_eq_zero (by simpa using h)
theorem nodeOK_formula (gs : List Nd) (i : Nat) (h : nodeOK gs i = true) (hk : ((gs.getD i default).k == 0) = false) : validF (gs.getD i default).ps = true ∧ goodRd gs i = true := by
  unfold nodeOK at h
  rw [if_neg (by rw [hk]; decide)] at h
  cases h1 : ((gs.getD i default).k == 1)
  · rw [if_neg (by rw [h1]; decide)] at h
    cases h2 : ((gs.getD i default).k == 2)
    · rw [if_neg (by rw [h2]; decide)] at h; cases h
    · rw [if_pos h2] at h; simpa using h
  · rw [if_pos h1] at h; simpa using h

theorem mayR_nil : mayR [] = [] := by
  unfold mayR hasNode
  simp

theorem mem_mayR_bd (ps : List Pt) (x : Int) (h : x ∈ mayR ps) : 0 ≤ x ∧ x < 10 := by
  obtain ⟨m, hm, _, rfl⟩ := (mem_mayR ps x).1 h
  omega

theorem mayR_getD_bd (ps : List Pt) (j : Nat) (h : j < (mayR ps).length) : 0 ≤ (mayR ps).getD j 0 ∧ (mayR ps).getD j 0 < 10 :=
  mem_mayR_bd ps _ (by simp [List.getD, h])

/-- All nodes that a node of a valid graph may read are ahead of it. -/
theorem mayR_ahead (gs : List Nd) (i : Nat) (h : validG gs = true) (hi : i < gs.length) (x : Int) (hx : x ∈ mayR (gs.getD i default).ps) : 0 ≤ x ∧ x < (i : Int) := by
  obtain ⟨h10, hok⟩ := validG_parts gs h
  have hb := mem_mayR_bd _ _ hx
  cases hk : ((gs.getD i default).k == 0)
  · obtain ⟨_, hg⟩ := nodeOK_formula gs i (hok i hi) hk
    unfold goodRd at hg
    rw [List.all_eq_true] at hg
    have := hg x hx
    unfold rdOK at this
    simp only [Bool.and_eq_true, decide_eq_true_eq] at this
    omega
  · rw [nodeOK_cell gs i (hok i hi) hk, mayR_nil] at hx
    cases hx

/-- Values for all nodes ahead are enough for the formula of a node. -/
theorem each_ahead (gs : List Nd) (i m : Nat) (h : validG gs = true) (hi : i < gs.length) (hk : ((gs.getD i default).k == 0) = false) (hm : i ≤ m) : eachOK (gs.getD i default).ps m = true := by
  obtain ⟨h10, hok⟩ := validG_parts gs h
  obtain ⟨hv, hg⟩ := nodeOK_formula gs i (hok i hi) hk
  unfold eachOK
  rw [List.all_eq_true]
  intro p hp
  cases h1 : (p.k == 1)
  · simp
  · obtain ⟨j, hj, rfl⟩ := List.mem_iff_getElem.1 hp
    have hgd := (validF_good _ hv).1 j hj
    have hah := fun x hx => mayR_ahead gs i h hi x hx
    clear hg hok
    generalize gs.getD i default = d at *
    have e : d.ps.getD j default = d.ps[j] := by simp [List.getD, hj]
    rw [e] at hgd
    have hb := (good_num _ _ hgd).2 (by simpa using h1)
    have hx : (d.ps[j]).n ∈ mayR d.ps := by
      rw [mem_mayR]
      refine ⟨(d.ps[j]).n.toNat, by omega, ?_, by omega⟩
      unfold hasNode
      rw [List.any_eq_true]
      exact ⟨_, hp, by simp only [Bool.and_eq_true]; exact ⟨h1, by simp; omega⟩⟩
    have := hah _ hx
    simp
    omega

/-- A cell is a value, 0 if its node is no cell. -/
def cellOK (gs : List Nd) (cs : List Int) (i : Nat) : Bool := rng (cs.getD i 0) 0 999 && ((gs.getD i default).k == 0 || cs.getD i 0 == 0)
def validC (gs : List Nd) (cs : List Int) : Bool := decide (cs.length = gs.length) && decide (∀ i, i < gs.length → cellOK gs cs i = true)
def okC (gs : List Nd) (cs : List Int) : Bool := validG gs && validC gs cs

theorem validC_len (gs : List Nd) (cs : List Int) (h : cs.length ≠ gs.length) : validC gs cs = false := by
  unfold validC; rw [decide_eq_false h]; rfl
theorem validC_bad (gs : List Nd) (cs : List Int) (k : Nat) (h : k < gs.length) (hc : cellOK gs cs k = false) : validC gs cs = false := by
  unfold validC
  rw [decide_eq_false (p := ∀ i, i < gs.length → cellOK gs cs i = true) (by intro H; rw [H k h] at hc; cases hc), Bool.and_false]
theorem validC_fin (gs : List Nd) (cs : List Int) (hl : cs.length = gs.length) (h : ∀ i, i < gs.length → cellOK gs cs i = true) : validC gs cs = true := by
  unfold validC
  rw [decide_eq_true hl, decide_eq_true h]; rfl
theorem validC_parts (gs : List Nd) (cs : List Int) (h : validC gs cs = true) : cs.length = gs.length ∧ ∀ i, i < gs.length → cellOK gs cs i = true := by
  unfold validC at h
  simpa only [Bool.and_eq_true, decide_eq_true_eq] using h
theorem cellOK_bd (gs : List Nd) (cs : List Int) (i : Nat) (h : cellOK gs cs i = true) : 0 ≤ cs.getD i 0 ∧ cs.getD i 0 ≤ 999 := by
  unfold cellOK rng at h
  simp only [Bool.and_eq_true, decide_eq_true_eq] at h
  exact h.1
theorem validC_VOK (gs : List Nd) (cs : List Int) (h : validC gs cs = true) : VOK cs := by
  obtain ⟨hl, hc⟩ := validC_parts gs cs h
  intro j hj
  exact cellOK_bd gs cs j (hc j (by omega))
theorem validC_allR (gs : List Nd) (cs : List Int) (h : validC gs cs = true) : allR cs 0 999 = true := by
  refine allR_true _ _ _ fun k hk => ?_
  have := validC_VOK gs cs h k hk
  unfold rng
  simpa using this
theorem validC_range (gs : List Nd) (cs : List Int) (h : allR cs 0 999 = false) : validC gs cs = false := by
  cases hv : validC gs cs
  · rfl
  · rw [validC_allR gs cs hv] at h; cases h

/-- The values of the first nodes. -/
def meanTo (gs : List Nd) (cs : List Int) : Nat → List Int
  | 0 => []
  | i + 1 => meanTo gs cs i ++ [if (gs.getD i default).k == 0 then cs.getD i 0 else (whole (gs.getD i default).ps).ev (meanTo gs cs i)]
def mean (gs : List Nd) (cs : List Int) : List Int := meanTo gs cs gs.length
def meanF (gs : List Nd) (cs : List Int) : List Int := if okC gs cs then mean gs cs else []

theorem meanTo_len (gs : List Nd) (cs : List Int) (i : Nat) : (meanTo gs cs i).length = i := by
  induction i with
  | zero => rfl
  | succ i ih => simp [meanTo, ih]

theorem whole_ok (ps : List Pt) (m : Nat) (hv : validF ps = true) (he : eachOK ps m = true) : (whole ps).ok m := by
  obtain ⟨hg, h1, h12⟩ := validF_good ps hv
  exact tmAt_ok ps m hg he ps.length (ps.length - 1) (by omega) (by omega)

theorem meanTo_VOK (gs : List Nd) (cs : List Int) (h : okC gs cs = true) (i : Nat) (hi : i ≤ gs.length) : VOK (meanTo gs cs i) := by
  unfold okC at h
  simp only [Bool.and_eq_true] at h
  obtain ⟨hg, hc⟩ := h
  induction i with
  | zero => intro j hj; simp [meanTo] at hj
  | succ i ih =>
    have ih := ih (by omega)
    have hl := meanTo_len gs cs i
    intro j hj
    rw [meanTo_len] at hj
    rcases Nat.lt_or_ge j i with h1 | h1
    · have := ih j (by omega)
      simpa [meanTo, List.getD, List.getElem?_append, hl, h1] using this
    · obtain rfl : j = i := by omega
      have e : (meanTo gs cs (j + 1)).getD j 0 = (if (gs.getD j default).k == 0 then cs.getD j 0 else (whole (gs.getD j default).ps).ev (meanTo gs cs j)) := by
        simp [meanTo, List.getD, List.getElem?_append, hl]
      rw [e]
      cases hk : ((gs.getD j default).k == 0)
      · simp only [Bool.false_eq_true, if_false]
        refine Tm.ev_bd _ ih _ ?_
        rw [hl]
        exact whole_ok _ _ (nodeOK_formula gs j ((validG_parts gs hg).2 j (by omega)) hk).1 (each_ahead gs j j hg (by omega) hk (Nat.le_refl _))
      · simp only [if_true]
        exact cellOK_bd gs cs j ((validC_parts gs cs hc).2 j (by omega))

theorem canEv_of (ps : List Pt) (vs : List Int) (hv : validF ps = true) (hl : vs.length ≤ 10) (hr : VOK vs) (he : eachOK ps vs.length = true) : canEv ps vs = true := by
  unfold canEv
  rw [hv, he, decide_eq_true hl]
  simp only [Bool.true_and, Bool.and_true]
  refine allR_true _ _ _ fun k hk => ?_
  have := hr k hk
  unfold rng
  simpa using this

/-- The formula of a node can be evaluated with the values of the nodes ahead. -/
theorem mean_canEv (gs : List Nd) (cs : List Int) (h : okC gs cs = true) (i : Nat) (hi : i < gs.length) (hk : ((gs.getD i default).k == 0) = false) : canEv (gs.getD i default).ps (meanTo gs cs i) = true := by
  have hv := meanTo_VOK gs cs h i (by omega)
  unfold okC at h
  simp only [Bool.and_eq_true] at h
  obtain ⟨hg, hc⟩ := h
  have hl := meanTo_len gs cs i
  have h10 := (validG_parts gs hg).1
  refine canEv_of _ _ (nodeOK_formula gs i ((validG_parts gs hg).2 i hi) hk).1 (by omega) hv ?_
  rw [hl]
  exact each_ahead gs i i hg hi hk (Nat.le_refl _)

theorem okC_parts (gs : List Nd) (cs : List Int) (h : okC gs cs = true) : validG gs = true ∧ validC gs cs = true := by
  unfold okC at h
  simpa only [Bool.and_eq_true] using h

/-- The heights of the first nodes. -/
def htTo (gs : List Nd) : Nat → List Int
  | 0 => []
  | i + 1 => htTo gs i ++ [(mayR (gs.getD i default).ps).foldl (fun h x => max h ((htTo gs i).getD x.toNat 0 + 1)) 0]
def htF (gs : List Nd) : List Int := if validG gs then htTo gs gs.length else []

theorem htTo_len (gs : List Nd) (i : Nat) : (htTo gs i).length = i := by
  induction i with
  | zero => rfl
  | succ i ih => simp [htTo, ih]

theorem foldl_max_bd (L : List Int) (f : Int → Int) (a b : Int) (ha : 0 ≤ a) (hab : a ≤ b) (hf : ∀ x ∈ L, f x ≤ b) : 0 ≤ L.foldl (fun h x => max h (f x)) a ∧ L.foldl (fun h x => max h (f x)) a ≤ b := by
  induction L generalizing a with
  | nil => exact ⟨ha, hab⟩
  | cons y L ih =>
    rw [List.foldl_cons]
    have := hf y List.mem_cons_self
    exact ih (max a (f y)) (by omega) (by omega) fun x hx => hf x (List.mem_cons_of_mem _ hx)

theorem htTo_bd (gs : List Nd) (i : Nat) : ∀ j, 0 ≤ (htTo gs i).getD j 0 ∧ (htTo gs i).getD j 0 ≤ i := by
  induction i with
  | zero => intro j; simp [htTo]
  | succ i ih =>
    intro j
    have hl := htTo_len gs i
    rcases Nat.lt_or_ge j i with h1 | h1
    · have := ih j
      have e : (htTo gs (i + 1)).getD j 0 = (htTo gs i).getD j 0 := by simp [htTo, List.getD, List.getElem?_append, hl, h1]
      rw [e]; omega
    · by_cases hj : j = i
      · subst hj
        have e : (htTo gs (j + 1)).getD j 0 = (mayR (gs.getD j default).ps).foldl (fun h x => max h ((htTo gs j).getD x.toNat 0 + 1)) 0 := by simp [htTo, List.getD, List.getElem?_append, hl]
        rw [e]
        have := foldl_max_bd (mayR (gs.getD j default).ps) (fun x => (htTo gs j).getD x.toNat 0 + 1) 0 (j + 1 : Nat) (by omega) (by omega) (fun x _ => by have := ih x.toNat; omega)
        exact this
      · have e : (htTo gs (i + 1)).getD j 0 = 0 := by
          have : (htTo gs (i + 1)).length ≤ j := by rw [htTo_len]; omega
          simp [List.getD, List.getElem?_eq_none this]
        rw [e]; omega

/-- The indices at which two lists differ. -/
def diffTo (a b : List Int) (k : Nat) : List Int := ((List.range k).filter fun i => !(a.getD i 0 == b.getD i 0)).map fun i : Nat => (i : Int)
theorem diffTo_step (a b : List Int) (k : Nat) : diffTo a b (k + 1) = diffTo a b k ++ (if a.getD k 0 == b.getD k 0 then [] else [(k : Int)]) := by
  unfold diffTo
  rw [List.range_succ, List.filter_append, List.map_append]
  congr 1
  cases h : (a.getD k 0 == b.getD k 0) <;> simp [h, -List.getD_eq_getElem?_getD]
theorem diffTo_len (a b : List Int) (k : Nat) : (diffTo a b k).length ≤ k := by
  unfold diffTo
  rw [List.length_map]
  have := List.length_filter_le (fun i => !(a.getD i 0 == b.getD i 0)) (List.range k)
  simpa using this
end Go.Proofs.Ytnbohohoceghnaa
