/- impl's RerunOwner, DisposeOwner and LabelsOf. (Made by v33.py.) -/
import Derived.Test.YtkfglodjnnlbkaaV32
import Derived.Test.YtkfglodjnnlbkaaV28
import Derived.Test.YtkfglodjnnlbkaaT16a

namespace Go.Proofs.Ytkfglodjnnlbkaa
set_option linter.unusedSimpArgs false
set_option linter.unusedVariables false
open Go.RowKit Go.Maps

/-- Returns owners in fresh blocks, and numbers in blocks ahead of them. -/
def RetOI2 (w : World) (ds : List On) (ls : List Int) (e : Ending) (w' : World) : Prop := ∃ v u mid, e = .returned (.tuple #[v, u]) ∧ OwO mid w'.heap.size v ds.length ds w' ∧ OwR w.heap.size mid 3 1 u ls.length (ls.map (Value.int .i64)) w' ∧ w.heap.size ≤ mid ∧ mid ≤ w'.heap.size ∧ Below w.heap.size w w'
theorem RetOI2.nil {w w' : World} (hb : Below w.heap.size w w') : RetOI2 w [] [] (.returned (.tuple #[.slice none 0 0, .slice none 0 0])) w' := ⟨_, _, w.heap.size, rfl, OwO.nil _ _ _, OwR.nil _ _ _ _ _, Nat.le_refl _, hb.size, hb⟩

/-- The tree when nothing was cleared. -/
theorem ClW.of_tree {w0 w : World} {n B : Nat} {ds : List On} {C X : Nat → Value} (hn : n = ds.length) (hT : TrS w0 n ds C X w) (hB : B ≤ w0.heap.size) (hC : ∀ j, j < n → ∃ A1 n1 c1, C j = .slice A1 n1 c1 ∧ n1 = (clO ds j).length ∧ n1 ≤ 5 ∧ IS w0 B A1 (clO ds j)) :
    ∃ lb V c, (∀ j, j < n → isO ds j = true → ∃ g, lb j = some g) ∧ ClW (w0.heap.size + 2) B (w0.heap.size + 1) w0.heap.size n lb V X C c (.slice none 0 0) ds ds [] w ∧ Below w0.heap.size w0 w := by
  obtain ⟨lb, V, c, h1, h2, h3, h4, h5, h6, h7⟩ := hT
  refine ⟨lb, V, c, fun j hj ho => ?_, ⟨h3, h4.congr fun j _ _ => ?_, h5, h6, World.ownsRow_nil _ _ _ _, fun j g hj => ?_, by omega, by omega, by omega⟩, h7⟩
  · have := h2 j
    rw [decide_eq_true hj, ho] at this
    exact Option.isSome_iff_exists.1 this
  · unfold mf
    by_cases h0 : j < 0
    · rw [if_pos h0, if_pos h0]
    · rw [if_neg h0, if_neg h0]
      dsimp only
      by_cases e : isO ds j.toNat = true
      · rw [if_pos e]
      · rw [if_neg e]
        have h9 := h2 j.toNat
        have e' : isO ds j.toNat = false := by simpa using e
        rw [e', Bool.and_false] at h9
        cases hl : lb j.toNat with
        | none => rfl
        | some g => rw [hl] at h9; simp at h9
  · have hjn := (h3.bx j g hj).1
    obtain ⟨A1, n1, c1, e1, e2, e3, e4⟩ := hC j hjn
    exact ⟨A1, n1, c1, e1, e2, e3, e4.below h7 hB⟩
/-- What the cells of owners are, for the tree. -/
theorem OS.tree {w w1 : World} {n b off : Nat} {ds : List On} (hn : n = ds.length) (hB : Below w.heap.size w w1) (hb : b < w.heap.size) (hc : ∀ j, j < ds.length → OnS w w.heap.size b (off + j * 4) (ds.getD j default)) (hl : ∀ j, (ds.getD j default).cl.length ≤ 5) :
    ∃ C X : Nat → Value, (∀ j, j < n → ∃ A1 n1 c1 A2 n2 c2, C j = .slice A1 n1 c1 ∧ X j = .slice A2 n2 c2 ∧
      w1.cell? ⟨b, off + j * 4, none⟩ = some (.int .i64 (ds.getD j default).p) ∧ w1.cell? ⟨b, off + j * 4 + 1, none⟩ = some (.bool (ds.getD j default).o) ∧ w1.cell? ⟨b, off + j * 4 + 2, none⟩ = some (C j) ∧ w1.cell? ⟨b, off + j * 4 + 3, none⟩ = some (X j)) ∧
      (∀ j, j < n → ∃ A1 n1 c1, C j = .slice A1 n1 c1 ∧ n1 = (clO ds j).length ∧ n1 ≤ 5 ∧ IS w1 w.heap.size A1 (clO ds j)) := by
  refine ⟨fun j => (w.cell? ⟨b, off + j * 4 + 2, none⟩).getD undef, fun j => (w.cell? ⟨b, off + j * 4 + 3, none⟩).getD undef, fun j hj => ?_, fun j hj => ?_⟩
  all_goals obtain ⟨h1, h2, ⟨A, m, c, h3, h4, h5⟩, A', m', c', h6, h7, h8⟩ := hc j (by omega)
  · refine ⟨A, m, c, A', m', c', by dsimp only; rw [h3]; rfl, by dsimp only; rw [h6]; rfl, (hB.cell (p := ⟨b, _, none⟩) hb).trans h1, (hB.cell (p := ⟨b, _, none⟩) hb).trans h2, ?_, ?_⟩
    · dsimp only; rw [h3]; exact (hB.cell (p := ⟨b, _, none⟩) hb).trans h3
    · dsimp only; rw [h6]; exact (hB.cell (p := ⟨b, _, none⟩) hb).trans h6
  · have := hl j
    exact ⟨A, m, c, by dsimp only; rw [h3]; rfl, h4, by omega, h5.below hB (Nat.le_refl _)⟩
theorem okO_len5 {ds : List On} (h : validO ds = true) (j : Nat) : (ds.getD j default).cl.length ≤ 5 := (okO_len h j).1
/-- Who is open behind a clearing was open ahead of it. -/
theorem ClrP.open_ {ds es : List On} {o i : Nat} (h : ClrP ds es o) (ho : isO ds o = true) (hi : i < ds.length) (hio : isO es i = true) : isO ds i = true := by
  by_cases e : i = o
  · rw [e]; exact ho
  · by_cases hu : Und ds o i
    · rw [(h.low i hi e hu).1] at hio; cases hio
    · rw [← (h.out i hi hu).1]; exact hio

set_option maxRecDepth 100000 in
set_option maxHeartbeats 3200000 in
theorem top_impl_RerunOwner (ds : List On) (o : Int) (hO : OB ds) : ∀ (A : Option Addr) (n c : Nat) (w : World), n = ds.length → n ≤ c → OS w w.heap.size A ds →
    Calls Try.prog 24 #[.slice A n c, .int .i64 o] w fun e w' => RetOI2 w (rerF ds o) (rerL ds o) e w' := by
  intro A n c w hn hnc h
  have HH := Lib.hid (impl_hasOpenOwner A n c ds o w w.heap.size (Nat.le_refl _) hn hnc h hO)
  cases hv : hasOpO ds o
  · rw [hv] at HH
    unfold rerF rerL
    rw [hv]
    simp only [Bool.false_eq_true, if_false]
    clear hn h hO hv
    go_enter Try.func24, Try.ntmps24
    go_wp2_with fail
    refine HH.out.mono ?_
    rintro e w1 ⟨rfl, hb⟩
    go_wp2
    go_ret2
    exact RetOI2.nil hb
  rw [hv] at HH
  obtain ⟨k, hk, hkd, hval, hko, hF, hL, hCl, hSame, hVal2⟩ := valid_rer hv
  rw [hF, hL]
  obtain ⟨b, off, hAe, hbB, hc⟩ := h (by omega)
  subst hAe
  clear hF hL
  subst hk
  have hkn : k < n := by omega
  have hn12 : n ≤ 12 := by rw [hn]; exact (validO_ok hval).2.1
  have hPO := PO.of_valid hval
  have hVO := ((validO_iff ds).1 hval).2.2.2.1
  have hVO2 := ((validO_iff _).1 hVal2).2.2.2.1
  have hcI := clI_eq hPO ds.length ds k (by omega) hkd (SameP.refl _) hVO hko (fun i _ _ => rfl)
  have htv := tot_valid hval
  have HN := Lib.hid hn
  have HO := Lib.hid hO
  have HS := Lib.hid h
  have HC := Lib.hid hc
  have HVL := Lib.hid hval
  have HKO := Lib.hid hko
  have HCL := Lib.hid hCl
  have HSM := Lib.hid hSame
  have HPO := Lib.hid hPO
  have HVO2 := Lib.hid hVO2
  have HCI := Lib.hid hcI
  have HTV := Lib.hid htv
  have HKD := Lib.hid hkd
  clear hn h hO hv hc hval hko hCl hSame hPO hVO hVO2 hVal2 hcI htv hkd
  go_enter Try.func24, Try.ntmps24
  go_wp2_with fail
  refine HH.out.mono ?_
  rintro e w1 ⟨rfl, hb1⟩
  obtain ⟨C, X, hcx, hcl⟩ := OS.tree (off := off) HN.out hb1 hbB HC.out (okO_len5 HVL.out)
  have HTR := Lib.hid (impl_treeOf b off n c ds C X w1 HN.out (by have := hb1.size; omega) hcx HVL.out)
  have HCX := Lib.hid hcl
  have HB1 := Lib.hid hb1
  have hs1 : w.heap.size ≤ w1.heap.size := hb1.size
  clear hb1 hcx hcl
  go_wp2_with fail
  refine HTR.out.mono ?_
  rintro e w2 ⟨rfl, hT⟩
  obtain ⟨lb, V, cm, hlb, st2, hb2⟩ := ClW.of_tree HN.out hT hs1 HCX.out
  obtain ⟨g, hg⟩ := hlb k hkn HKO.out
  have hlook : (Instr.lookup 58 (.map (some w1.heap.size)) (.int .i64 (k : Int)) false).run Try.prog w2 = .ok (.pointer (some ⟨g, 0, none⟩)) w2 := by
    have := st2.mp.look (k : Int) (by omega) (by omega)
    rw [mf_nat, if_pos HKO.out, hg] at this
    exact this
  have t0 := st2.bx.c 0 _ rfl
  have htw := st2.bx.lt
  have HCLR := Lib.hid (impl_clear ds n HN.out hn12 HPO.out _ _ _ _ lb V X hlb ds.length k g cm C _ ds [] w2 (by omega) rfl HKD.out hg st2 (by have := HTV.out; simp; omega))
  rw [HCI.out] at HCLR
  simp only [List.nil_append] at HCLR
  generalize hR1 : (clr ds.length ds k).1 = R1 at *
  generalize hR2 : (clr ds.length ds k).2 = R2 at *
  have HR1 := Lib.hid hR1
  have HR2 := Lib.hid hR2
  have HB2 := Lib.hid (HB1.out.trans (hb2.mono hs1))
  have HLB := Lib.hid hlb
  have HG := Lib.hid hg
  have hs2 : w1.heap.size ≤ w2.heap.size := hb2.size
  clear hT st2 hb2 hlb hg hR1 hR2 HTR HH HCX HVL HC HCI
  go_wp2_with fail
  refine HCLR.out.mono ?_
  rintro e w3 ⟨rfl, C3, mv3, st3, kt3, bl3⟩
  have bl4 : Below w.heap.size w2 w3 := bl3
  have hsz4 : w2.heap.size ≤ w3.heap.size := kt3.1
  have HOP : Hid (∀ j, j < n → isO R2 j = true → ∃ g, lb j = some g) := fun j hj ho => HLB.out j hj (HCL.out.open_ HKO.out (by have := HN.out; omega) ho)
  have HSS : Hid (SameP ds R2) := HSM.out
  clear kt3 bl3 HSM HCLR
  have HB4 := Lib.hid (HB2.out.trans bl4)
  have t1 := st3.bx.c 1 _ rfl
  have htb := st3.bx.lt
  have st4 := st3.below (Below.refl w3.heap.size w3).drew
  have HAP := Lib.hid (impl_applyTo (w1.heap.size + 1) w1.heap.size cm lb (some ⟨b, off, none⟩) n c ds R2 w3.drew HN.out hn12 ((HS.out.below (HB4.out.drew) (Nat.le_refl _)).more (by show w.heap.size ≤ w3.heap.size; omega)) HO.out HSS.out HVO2.out htb (st4.bx.c 0 _ rfl) st4.mp (fun j hj ho => by
    obtain ⟨g', hg'⟩ := HOP.out j hj ho
    obtain ⟨A6, m6, c6, e1, e2, e3, e4⟩ := st4.cl j g' hg'
    have hbx := (st4.tr.bx j g' hg').2.1
    have h4 := hbx.c 4 _ rfl
    rw [e1] at h4
    exact ⟨g', A6, m6, c6, hg', hbx.lt, h4, e2, by omega, e4.more (by show w.heap.size ≤ w3.heap.size; omega)⟩))
  have HME := Lib.hid st3.me
  have hwz : w.heap.size ≤ w3.heap.size := by omega
  have HRL : Hid (R2.length = n) := by show _ = _; rw [HSS.out.len]; exact HN.out.symm
  clear st3 st4 bl4 HOP HSS HVO2 HCL HLB HG HB2 hlook t0
  obtain ⟨A3, c3, rfl⟩ := row_form' HME.out
  try go_wp2_with fail
  refine wp_region_held_drew (S := fun w' => w'.cell? ⟨w1.heap.size + 1, 1, none⟩ = some (.slice A3 R1.length c3)) (by kernel_rfl) t1 (fun hHeld => ?_)
  refine wpAnyH_take (i := 0) (oi := ⟨some 21, _, _, _, _, _⟩) (v := ?_) rfl (by kernel_rfl) (by kernel_rfl) (by kernel_rfl) (fun _ _ _ h => h) (Or.inl ⟨by rfl, ?_⟩) (by assumption) ?_; rotate_left; (focus (intro w hSw; (try dsimp only at hSw); go_simp; (try with_reducible rfl))); (try simp only [Act.put, List.setIfInBounds_toArray, List.set_cons_zero, List.set_cons_succ])
  refine wpAnyH_take (i := 1) (oi := ⟨some 22, _, _, _, _, _⟩) (v := ?_) rfl (by kernel_rfl) (by kernel_rfl) (by kernel_rfl) (fun _ _ _ h => h) (Or.inl ⟨by rfl, ?_⟩) (by assumption) ?_; rotate_left; (focus (intro w hSw; (try dsimp only at hSw); go_simp; (try with_reducible rfl))); (try simp only [Act.put, List.setIfInBounds_toArray, List.set_cons_zero, List.set_cons_succ])
  refine wpAnyH_take (i := 3) (oi := ⟨some 24, _, _, _, _, _⟩) (v := ?_) rfl (by kernel_rfl) (by kernel_rfl) (by kernel_rfl) (fun _ _ _ h => h) (Or.inl ⟨by rfl, ?_⟩) (by assumption) ?_; rotate_left; (focus (intro w hSw; (try dsimp only at hSw); go_simp; (try with_reducible rfl))); (try simp only [Act.put, List.setIfInBounds_toArray, List.set_cons_zero, List.set_cons_succ])
  refine wpAnyH_take (i := 4) (oi := ⟨some 25, _, _, _, _, _⟩) (v := ?_) rfl (by kernel_rfl) (by kernel_rfl) (by kernel_rfl) (fun _ _ _ h => h) (Or.inl ⟨by rfl, ?_⟩) (by assumption) ?_; rotate_left; (focus (intro w hSw; (try dsimp only at hSw); go_simp; (try with_reducible rfl))); (try simp only [Act.put, List.setIfInBounds_toArray, List.set_cons_zero, List.set_cons_succ])
  refine wpAnyH_take (i := 5) (oi := ⟨some 26, _, _, _, _, _⟩) (v := ?_) rfl (by kernel_rfl) (by kernel_rfl) (by kernel_rfl) (fun _ _ _ h => h) (Or.inl ⟨by rfl, ?_⟩) (by assumption) ?_; rotate_left; (focus (intro w hSw; (try dsimp only at hSw); go_simp; (try with_reducible rfl))); (try simp only [Act.put, List.setIfInBounds_toArray, List.set_cons_zero, List.set_cons_succ])
  refine wpAnyH_take (i := 6) (oi := ⟨some 27, _, _, _, _, _⟩) (v := ?_) rfl (by kernel_rfl) (by kernel_rfl) (by kernel_rfl) (fun _ _ _ h => h) (Or.inl ⟨by rfl, ?_⟩) (by assumption) ?_; rotate_left; (focus (intro w hSw; (try dsimp only at hSw); go_simp; (try with_reducible rfl))); (try simp only [Act.put, List.setIfInBounds_toArray, List.set_cons_zero, List.set_cons_succ])
  refine wpAnyH_ready (rs := [2]) (by kernel_rfl) (by simp) ?_; refine AllReadyH.cons (o := ⟨some 23, _, _, _, _, _⟩) rfl (fun K hK => ?_) AllReadyH.nil; go_simp
  go_at_call 51
  refine HAP.out.mono ?_
  rintro e w5 ⟨rfl, ho5, hb5⟩
  have c5 : w5.cell? ⟨w1.heap.size + 1, 1, none⟩ = some (.slice A3 R1.length c3) := (hb5.cell (p := ⟨w1.heap.size + 1, 1, none⟩) htb).trans t1
  have HO5 := Lib.hid ho5
  have HB5 := Lib.hid hb5
  clear ho5 hb5 HAP
  refine hK.out _ _ c5 (fun hHeld => ?_); clear hK K; (try simp only [Act.put, List.setIfInBounds_toArray, List.set_cons_zero, List.set_cons_succ])
  refine wpAnyH_take (i := 7) (oi := ⟨some 4, _, _, _, _, _⟩) (v := ?_) rfl (by kernel_rfl) (by kernel_rfl) (by kernel_rfl) (fun _ _ _ h => h) (Or.inl ⟨by rfl, ?_⟩) (by assumption) ?_; rotate_left; (focus (intro w hSw; (try dsimp only at hSw); go_simp; (try with_reducible rfl))); (try simp only [Act.put, List.setIfInBounds_toArray, List.set_cons_zero, List.set_cons_succ])
  refine wpAnyH_take (i := 8) (oi := ⟨some 5, _, _, _, _, _⟩) (v := ?_) rfl (by kernel_rfl) (by kernel_rfl) (by kernel_rfl) (fun _ _ _ h => h) (Or.inl ⟨by rfl, ?_⟩) (by assumption) ?_; rotate_left; (focus (intro w hSw; (try dsimp only at hSw); go_simp; (try with_reducible rfl))); (try simp only [Act.put, List.setIfInBounds_toArray, List.set_cons_zero, List.set_cons_succ])
  refine wpAnyH_done (by kernel_rfl) ?_ _
  go_wp2
  go_ret2
  have hb5 : Below w3.heap.size w3 w5 := (Below.refl w3.heap.size w3).drew.trans HB5.out
  have hown := own_mono (own_below HME.out hb5) (show w.heap.size ≤ w1.heap.size + 2 by omega)
  have hlt := fun q hq => (HME.out.lt q hq).2
  rw [HR1.out, HR2.out]

  refine ⟨Value.slice (some ⟨w3.heap.size, 0, none⟩) n n, Value.slice A3 R1.length c3, w3.heap.size, rfl, ?_, ⟨hown, hlt⟩, hwz, hb5.size, HB4.out.trans (hb5.mono hwz)⟩
  rw [HRL.out]
  exact HO5.out

set_option maxRecDepth 100000 in
set_option maxHeartbeats 3200000 in
theorem top_impl_DisposeOwner (ds : List On) (o : Int) (hO : OB ds) : ∀ (A : Option Addr) (n c : Nat) (w : World), n = ds.length → n ≤ c → OS w w.heap.size A ds →
    Calls Try.prog 15 #[.slice A n c, .int .i64 o] w fun e w' => RetOI2 w (dispF ds o) (dispL ds o) e w' := by
  intro A n c w hn hnc h
  have HH := Lib.hid (impl_hasOpenOwner A n c ds o w w.heap.size (Nat.le_refl _) hn hnc h hO)
  cases hv : hasOpO ds o
  · rw [hv] at HH
    unfold dispF dispL
    have hdf : dispB ds o = false := by unfold dispB; rw [hv]; rfl
    rw [hdf]
    simp only [Bool.false_eq_true, if_false]
    clear hn h hO hv
    go_enter Try.func15, Try.ntmps15
    go_wp2_with fail
    refine HH.out.mono ?_
    rintro e w1 ⟨rfl, hb⟩
    go_wp2
    go_ret2
    exact RetOI2.nil hb
  rw [hv] at HH
  obtain ⟨k0, hk0, hkd0, hval0⟩ := hasOpO_at hv
  have hp0 := (PO.of_valid hval0) k0 (by omega)
  obtain ⟨b, off, hAe, hbB, hc⟩ := h (by omega)
  subst hAe
  have hpc := (hc k0 hkd0).1
  have hkn0 : k0 < n := by omega
  have hn120 : n ≤ 12 := by rw [hn]; exact (validO_ok hval0).2.1
  have hpb : -1 ≤ (ds.getD k0 default).p ∧ (ds.getD k0 default).p ≤ 12 := by
    have h0 := hp0
    rcases Nat.eq_zero_or_pos k0 with e | e
    · have := h0.1 e; omega
    · have := h0.2 e; omega
  by_cases hz : o = 0
  · have hdf : dispB ds o = false := by unfold dispB; rw [decide_eq_true hz]; simp
    unfold dispF dispL
    rw [hdf]
    simp only [Bool.false_eq_true, if_false]
    subst hk0
    have hpx : (ds.getD k0 default).p = -1 := hp0.1 (by omega)
    have hk00 : k0 = 0 := by omega
    subst hk00
    rw [hpx] at hpc
    simp only [Nat.zero_mul, Nat.add_zero] at hpc
    clear hn h hO hv hdf hc hz hp0 hpb hpx hkd0
    go_enter Try.func15, Try.ntmps15
    go_wp2_with fail
    refine HH.out.mono ?_
    rintro e w1 ⟨rfl, hb⟩
    have pc1 := (hb.cell (p := ⟨b, off, none⟩) hbB).trans hpc
    have hnp : 0 < n := hkn0
    go_wp2
    go_ret2
    exact RetOI2.nil hb
  have hdB : dispB ds o = true := by unfold dispB; rw [hv, decide_eq_false hz]; rfl
  obtain ⟨k, hk, hk0', hkd, hval, hko, hF, hL, hCl, hSame, hVal2⟩ := valid_disp hdB
  rw [hF, hL]
  obtain rfl : k0 = k := by omega
  have hpne : ((ds.getD k0 default).p == -1) = false := by
    have := (hp0.2 hk0').1
    rw [beq_eq_false_iff_ne]
    omega
  obtain ⟨pq, hpq⟩ : ∃ pq, pq = (ds.getD k0 default).p := ⟨_, rfl⟩
  rw [← hpq] at hpc hpne
  clear hp0 hpb hdB hF hL hpq
  subst hk
  have hkn : k0 < n := by omega
  have hn12 : n ≤ 12 := by rw [hn]; exact (validO_ok hval).2.1
  have hPO := PO.of_valid hval
  have hVO := ((validO_iff ds).1 hval).2.2.2.1
  have hVO2 := ((validO_iff _).1 hVal2).2.2.2.1
  have hcI := clI_eq hPO ds.length ds k0 (by omega) hkd (SameP.refl _) hVO hko (fun i _ _ => rfl)
  have htv := tot_valid hval
  have HN := Lib.hid hn
  have HO := Lib.hid hO
  have HS := Lib.hid h
  have HC := Lib.hid hc
  have HVL := Lib.hid hval
  have HKO := Lib.hid hko
  have HCL := Lib.hid hCl
  have HSM := Lib.hid hSame
  have HPO := Lib.hid hPO
  have HVO2 := Lib.hid hVO2
  have HCI := Lib.hid hcI
  have HTV := Lib.hid htv
  have HKD := Lib.hid hkd
  have HPC := Lib.hid hpc
  clear hn h hO hv hc hval hko hCl hSame hPO hVO hVO2 hVal2 hcI htv hkd
  go_enter Try.func15, Try.ntmps15
  go_wp2_with fail
  refine HH.out.mono ?_
  rintro e w1 ⟨rfl, hb1⟩
  obtain ⟨C, X, hcx, hcl⟩ := OS.tree (off := off) HN.out hb1 hbB HC.out (okO_len5 HVL.out)
  have HTR := Lib.hid (impl_treeOf b off n c ds C X w1 HN.out (by have := hb1.size; omega) hcx HVL.out)
  have HCX := Lib.hid hcl
  have HB1 := Lib.hid hb1
  have hs1 : w.heap.size ≤ w1.heap.size := hb1.size
  have pc1 := (HB1.out.cell (p := ⟨b, off + k0 * 4, none⟩) hbB).trans HPC.out
  clear hpc
  clear hb1 hcx hcl
  go_wp2_with fail
  refine HTR.out.mono ?_
  rintro e w2 ⟨rfl, hT⟩
  obtain ⟨lb, V, cm, hlb, st2, hb2⟩ := ClW.of_tree HN.out hT hs1 HCX.out
  obtain ⟨g, hg⟩ := hlb k0 hkn HKO.out
  have hlook : (Instr.lookup 58 (.map (some w1.heap.size)) (.int .i64 (k0 : Int)) false).run Try.prog w2 = .ok (.pointer (some ⟨g, 0, none⟩)) w2 := by
    have := st2.mp.look (k0 : Int) (by omega) (by omega)
    rw [mf_nat, if_pos HKO.out, hg] at this
    exact this
  have t0 := st2.bx.c 0 _ rfl
  have htw := st2.bx.lt
  have HCLR := Lib.hid (impl_clear ds n HN.out hn12 HPO.out _ _ _ _ lb V X hlb ds.length k0 g cm C _ ds [] w2 (by omega) rfl HKD.out hg st2 (by have := HTV.out; simp; omega))
  rw [HCI.out] at HCLR
  simp only [List.nil_append] at HCLR
  generalize hR1 : (clr ds.length ds k0).1 = R1 at *
  generalize hR2 : (clr ds.length ds k0).2 = R2 at *
  have HR1 := Lib.hid hR1
  have HR2 := Lib.hid hR2
  have HB2 := Lib.hid (HB1.out.trans (hb2.mono hs1))
  have HLB := Lib.hid hlb
  have HG := Lib.hid hg
  have hs2 : w1.heap.size ≤ w2.heap.size := hb2.size
  clear hT st2 hb2 hlb hg hR1 hR2 HTR HH HCX HVL HC HCI
  go_wp2_with fail
  refine HCLR.out.mono ?_
  rintro e w3 ⟨rfl, C3, mv3, st3, kt3, bl3⟩
  have hgw := (st3.tr.bx k0 g HG.out).2.1
  have HCS := Lib.hid (impl_close (w1.heap.size + 1) w1.heap.size g cm k0 _ w3 st3.bx.lt (st3.bx.c 0 _ rfl) hgw.lt (hgw.c 0 _ rfl) (by omega) st3.mp (by omega) (by have := (st3.tr.bx k0 g HG.out).2.2.2; omega))
  have HST := Lib.hid st3
  have HBL := Lib.hid bl3
  have hsz3 : w2.heap.size ≤ w3.heap.size := kt3.1
  clear st3 kt3 bl3 hgw
  go_wp2_with fail
  refine HCS.out.mono ?_
  rintro e w4 ⟨rfl, hm4, hg4⟩
  have hdr : Below w3.heap.size w3 w3.drew := (Below.refl _ _).drew
  have st3 := (HST.out.below hdr).shut (b := k0) (by rw [HSM.out.len]; exact HKD.out) hm4 hg4
  have bl4 : Below w.heap.size w2 w4 := (HBL.out.trans (hdr.mono (by omega))).grown hg4 (by have := hdr.size; omega) (fun r e => by cases e; omega)
  have hsz4 : w3.heap.size ≤ w4.heap.size := hg4.size
  have HOP : Hid (∀ j, j < n → isO (shut R2 k0) j = true → ∃ g, lb j = some g) := fun j hj ho => by
    rw [isO_shut _ _ _ (by rw [HSM.out.len]; exact HKD.out)] at ho
    by_cases e : j = k0
    · rw [if_pos e] at ho; cases ho
    · rw [if_neg e] at ho
      exact HLB.out j hj (HCL.out.open_ HKO.out (by have := HN.out; omega) ho)
  have HSS : Hid (SameP ds (shut R2 k0)) := HSM.out.trans (SameP.shut _ _)
  clear HCS HST HBL hm4 hg4 hdr HSM HCLR
  generalize hR3 : shut R2 k0 = R3 at *
  have HR3 := Lib.hid hR3
  clear hR3
  have HB4 := Lib.hid (HB2.out.trans bl4)
  have t1 := st3.bx.c 1 _ rfl
  have htb := st3.bx.lt
  have st4 := st3.below (Below.refl w4.heap.size w4).drew
  have HAP := Lib.hid (impl_applyTo (w1.heap.size + 1) w1.heap.size cm lb (some ⟨b, off, none⟩) n c ds R3 w4.drew HN.out hn12 ((HS.out.below (HB4.out.drew) (Nat.le_refl _)).more (by show w.heap.size ≤ w4.heap.size; omega)) HO.out HSS.out HVO2.out htb (st4.bx.c 0 _ rfl) st4.mp (fun j hj ho => by
    obtain ⟨g', hg'⟩ := HOP.out j hj ho
    obtain ⟨A6, m6, c6, e1, e2, e3, e4⟩ := st4.cl j g' hg'
    have hbx := (st4.tr.bx j g' hg').2.1
    have h4 := hbx.c 4 _ rfl
    rw [e1] at h4
    exact ⟨g', A6, m6, c6, hg', hbx.lt, h4, e2, by omega, e4.more (by show w.heap.size ≤ w4.heap.size; omega)⟩))
  have HME := Lib.hid st3.me
  have hwz : w.heap.size ≤ w4.heap.size := by omega
  have HRL : Hid (R3.length = n) := by show _ = _; rw [HSS.out.len]; exact HN.out.symm
  clear st3 st4 bl4 HOP HSS HVO2 HCL HLB HG HB2 hlook t0
  obtain ⟨A3, c3, rfl⟩ := row_form' HME.out
  try go_wp2_with fail
  refine wp_region_held_drew (S := fun w' => w'.cell? ⟨w1.heap.size + 1, 1, none⟩ = some (.slice A3 R1.length c3)) (by kernel_rfl) t1 (fun hHeld => ?_)
  refine wpAnyH_take (i := 0) (oi := ⟨some 34, _, _, _, _, _⟩) (v := ?_) rfl (by kernel_rfl) (by kernel_rfl) (by kernel_rfl) (fun _ _ _ h => h) (Or.inl ⟨by rfl, ?_⟩) (by assumption) ?_; rotate_left; (focus (intro w hSw; (try dsimp only at hSw); go_simp; (try with_reducible rfl))); (try simp only [Act.put, List.setIfInBounds_toArray, List.set_cons_zero, List.set_cons_succ])
  refine wpAnyH_take (i := 1) (oi := ⟨some 35, _, _, _, _, _⟩) (v := ?_) rfl (by kernel_rfl) (by kernel_rfl) (by kernel_rfl) (fun _ _ _ h => h) (Or.inl ⟨by rfl, ?_⟩) (by assumption) ?_; rotate_left; (focus (intro w hSw; (try dsimp only at hSw); go_simp; (try with_reducible rfl))); (try simp only [Act.put, List.setIfInBounds_toArray, List.set_cons_zero, List.set_cons_succ])
  refine wpAnyH_take (i := 3) (oi := ⟨some 37, _, _, _, _, _⟩) (v := ?_) rfl (by kernel_rfl) (by kernel_rfl) (by kernel_rfl) (fun _ _ _ h => h) (Or.inl ⟨by rfl, ?_⟩) (by assumption) ?_; rotate_left; (focus (intro w hSw; (try dsimp only at hSw); go_simp; (try with_reducible rfl))); (try simp only [Act.put, List.setIfInBounds_toArray, List.set_cons_zero, List.set_cons_succ])
  refine wpAnyH_take (i := 4) (oi := ⟨some 38, _, _, _, _, _⟩) (v := ?_) rfl (by kernel_rfl) (by kernel_rfl) (by kernel_rfl) (fun _ _ _ h => h) (Or.inl ⟨by rfl, ?_⟩) (by assumption) ?_; rotate_left; (focus (intro w hSw; (try dsimp only at hSw); go_simp; (try with_reducible rfl))); (try simp only [Act.put, List.setIfInBounds_toArray, List.set_cons_zero, List.set_cons_succ])
  refine wpAnyH_take (i := 5) (oi := ⟨some 39, _, _, _, _, _⟩) (v := ?_) rfl (by kernel_rfl) (by kernel_rfl) (by kernel_rfl) (fun _ _ _ h => h) (Or.inl ⟨by rfl, ?_⟩) (by assumption) ?_; rotate_left; (focus (intro w hSw; (try dsimp only at hSw); go_simp; (try with_reducible rfl))); (try simp only [Act.put, List.setIfInBounds_toArray, List.set_cons_zero, List.set_cons_succ])
  refine wpAnyH_take (i := 6) (oi := ⟨some 40, _, _, _, _, _⟩) (v := ?_) rfl (by kernel_rfl) (by kernel_rfl) (by kernel_rfl) (fun _ _ _ h => h) (Or.inl ⟨by rfl, ?_⟩) (by assumption) ?_; rotate_left; (focus (intro w hSw; (try dsimp only at hSw); go_simp; (try with_reducible rfl))); (try simp only [Act.put, List.setIfInBounds_toArray, List.set_cons_zero, List.set_cons_succ])
  refine wpAnyH_ready (rs := [2]) (by kernel_rfl) (by simp) ?_; refine AllReadyH.cons (o := ⟨some 36, _, _, _, _, _⟩) rfl (fun K hK => ?_) AllReadyH.nil; go_simp
  go_at_call 51
  refine HAP.out.mono ?_
  rintro e w5 ⟨rfl, ho5, hb5⟩
  have c5 : w5.cell? ⟨w1.heap.size + 1, 1, none⟩ = some (.slice A3 R1.length c3) := (hb5.cell (p := ⟨w1.heap.size + 1, 1, none⟩) htb).trans t1
  have HO5 := Lib.hid ho5
  have HB5 := Lib.hid hb5
  clear ho5 hb5 HAP
  refine hK.out _ _ c5 (fun hHeld => ?_); clear hK K; (try simp only [Act.put, List.setIfInBounds_toArray, List.set_cons_zero, List.set_cons_succ])
  refine wpAnyH_take (i := 7) (oi := ⟨some 4, _, _, _, _, _⟩) (v := ?_) rfl (by kernel_rfl) (by kernel_rfl) (by kernel_rfl) (fun _ _ _ h => h) (Or.inl ⟨by rfl, ?_⟩) (by assumption) ?_; rotate_left; (focus (intro w hSw; (try dsimp only at hSw); go_simp; (try with_reducible rfl))); (try simp only [Act.put, List.setIfInBounds_toArray, List.set_cons_zero, List.set_cons_succ])
  refine wpAnyH_take (i := 8) (oi := ⟨some 5, _, _, _, _, _⟩) (v := ?_) rfl (by kernel_rfl) (by kernel_rfl) (by kernel_rfl) (fun _ _ _ h => h) (Or.inl ⟨by rfl, ?_⟩) (by assumption) ?_; rotate_left; (focus (intro w hSw; (try dsimp only at hSw); go_simp; (try with_reducible rfl))); (try simp only [Act.put, List.setIfInBounds_toArray, List.set_cons_zero, List.set_cons_succ])
  refine wpAnyH_done (by kernel_rfl) ?_ _
  go_wp2
  go_ret2
  have hb5 : Below w4.heap.size w4 w5 := (Below.refl w4.heap.size w4).drew.trans HB5.out
  have hown := own_mono (own_below HME.out hb5) (show w.heap.size ≤ w1.heap.size + 2 by omega)
  have hlt := fun q hq => (HME.out.lt q hq).2
  rw [HR1.out, HR2.out]
  rw [HR3.out]
  refine ⟨Value.slice (some ⟨w4.heap.size, 0, none⟩) n n, Value.slice A3 R1.length c3, w4.heap.size, rfl, ?_, ⟨hown, hlt⟩, hwz, hb5.size, HB4.out.trans (hb5.mono hwz)⟩
  rw [HRL.out]
  exact HO5.out

set_option maxRecDepth 100000 in
set_option maxHeartbeats 3200000 in
theorem top_impl_LabelsOf (ds : List On) (o : Int) (hO : OB ds) : ∀ (A : Option Addr) (n c : Nat) (w : World), n = ds.length → n ≤ c → OS w w.heap.size A ds →
    Calls Try.prog 20 #[.slice A n c, .int .i64 o] w fun e w' => RetI w (rerL ds o) e w' := by
  intro A n c w hn hnc h
  have HR := Lib.hid (top_impl_RerunOwner ds o hO A n c w hn hnc h)
  clear hn h hO
  go_enter Try.func20, Try.ntmps20
  go_wp2_with fail
  refine HR.out.mono ?_
  rintro e w1 ⟨v, u, mid, rfl, h1, h2, h3, h4, hb⟩
  have H2 := Lib.hid h2
  clear h1 h2
  go_wp2
  go_ret
  exact ⟨_, rfl, H2.out.1, hb⟩
end Go.Proofs.Ytkfglodjnnlbkaa
