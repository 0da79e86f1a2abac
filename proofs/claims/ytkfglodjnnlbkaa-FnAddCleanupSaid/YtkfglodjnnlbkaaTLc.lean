/- Words and contracts for memory that the texts behind use. -/
import Derived.Test.YtkfglodjnnlbkaaT0a
import Derived.Test.YtkfglodjnnlbkaaT1a
import Derived.Test.YtkfglodjnnlbkaaT2b
import Derived.Test.YtkfglodjnnlbkaaT3a
import Derived.Test.YtkfglodjnnlbkaaT4a
import Derived.Test.YtkfglodjnnlbkaaT5a
import Derived.Test.YtkfglodjnnlbkaaT6a
import Derived.Test.YtkfglodjnnlbkaaT7a
import Derived.Test.YtkfglodjnnlbkaaT8a
import Derived.Test.YtkfglodjnnlbkaaT9a
import Derived.Test.YtkfglodjnnlbkaaT10a
import Derived.Test.YtkfglodjnnlbkaaT11a
import Derived.Test.YtkfglodjnnlbkaaT13a
import Derived.Test.YtkfglodjnnlbkaaT14a
import Derived.Test.YtkfglodjnnlbkaaT15a
import Derived.Test.YtkfglodjnnlbkaaT16a
import Derived.Test.YtkfglodjnnlbkaaT17a
import Derived.Test.YtkfglodjnnlbkaaT18a
import Derived.Test.YtkfglodjnnlbkaaT19a
import Derived.Test.YtkfglodjnnlbkaaT20a
import Derived.Test.YtkfglodjnnlbkaaT21a
import Derived.Test.YtkfglodjnnlbkaaT22a
import Derived.Test.YtkfglodjnnlbkaaT23a
import Derived.Test.YtkfglodjnnlbkaaTLa
import Derived.Test.YtkfglodjnnlbkaaT24a
import Derived.WalkKit
import Derived.Laws.OwnMore
import Derived.Deep.Draws
import Derived.Test.YtkfglodjnnlbkaaProg
import Derived.WalkSpells
import Derived.WalkLawsBesides
import Derived.Outline
import Derived.Lib.Hide
import Derived.BigQuiet
import Derived.Deep.QuietTactic
import Derived.StillTailTactics
import Derived.Deep.LoopGhost
import Derived.Laws.MakeOwn
import Derived.WalkSmall
import Derived.RegionTactic
import Derived.BigRegion
import Derived.Deep.RegionWith
import Derived.Deep.RegionHeld3
import Derived.Maps.AppendAt
import Derived.Laws.CopyOwn
import Derived.Deep.Cut
import Derived.Laws.Entries
import Derived.Laws.Bits64
import Derived.IntWalk
import Derived.Deep.RegionLaw
import Derived.Deep.AppendLies
import Derived.Deep.DeepCutAuto
import Derived.ArgAppend
import Derived.Maps.Own
import Derived.Maps.Views
import Derived.RangeFuncNested
import Derived.RangeFuncBound
import Derived.RangeFuncCalls
import Derived.RangeFuncLeaves
import Derived.RangeFuncBox
import Derived.Shelf.Abstract
import Derived.Shelf.RegionOpen
import Derived.OwnWalkIn
import Derived.TacticsInMore
import Derived.LoopNIn
import Derived.LoopIn
import Derived.Sort.QuietIn
import Derived.Sort.QuietTacIn
import Derived.RegionIn
import Derived.Sort.CutIn
import Derived.ChangeAlike

namespace Go.Proofs.Ytkfglodjnnlbkaa
set_option linter.unusedSimpArgs false
set_option linter.unusedVariables false
open Go.RowKit
theorem addF_OB (ds : List On) (o l : Int) : OB (addF ds o l) := by
  unfold addF
  cases h : addB ds o l
  · exact OB.of_sum (by simp) (by simp [rowsO])
  · have h1 : hasOpO ds o = true := by unfold addB at h; rw [Bool.and_eq_true] at h; exact h.1
    obtain ⟨k, rfl, hk, hv⟩ := hasOpO_at h1
    have hl := okO_len hv
    simp only [if_true, Int.toNat_natCast]
    refine OB.small (by simp; exact (validO_ok hv).2.1) fun j => ?_
    rw [getD_set ds k j _ hk]
    by_cases e : j = k
    · rw [if_pos e]; have := hl k; simp [withCl]; simp [List.getD] at this; omega
    · rw [if_neg e]; have := hl j; omega
end Go.Proofs.Ytkfglodjnnlbkaa

namespace Go.Proofs.Ytkfglodjnnlbkaa
set_option linter.unusedSimpArgs false
set_option linter.unusedVariables false
open Go.RowKit
set_option maxRecDepth 100000 in
set_option maxHeartbeats 3200000 in
theorem top_impl_AddCleanup (ds : List On) (o l : Int) (hO : OB ds) : ∀ (A : Option Addr) (n c : Nat) (w : World), n = ds.length → n ≤ c → OS w w.heap.size A ds →
    Calls Try.prog 17 #[.slice A n c, .int .i64 o, .int .i64 l] w fun e w' => RetOB w (addF ds o l) (addB ds o l) e w' := by
  intro A n c w hn hnc h
  obtain ⟨i0, hi, hz0, hz1, hz2⟩ := info_parts info_int
  have hnb : n ≤ 1048576 := by rw [hn]; exact hO.1
  have HS := Lib.hid h
  have HC := Lib.hid (impl_hasOpenOwner A n c ds o w w.heap.size (Nat.le_refl _) hn hnc h hO)
  cases hv : hasOpO ds o
  · rw [hv] at HC
    have hf : addB ds o l = false := by unfold addB; rw [hv]; rfl
    unfold addF
    rw [hf]
    clear hf hn h hO hv
    simp only [Bool.false_eq_true, if_false]
    go_enter Try.func17, Try.ntmps17
    go_wp2_with fail
    refine HC.out.mono ?_
    rintro e w1 ⟨rfl, hb⟩
    go_wp2
    go_ret2
    exact RetOB.nil hb
  rw [hv] at HC
  obtain ⟨k, rfl, hkd, hval⟩ := hasOpO_at hv
  have hkn : k < n := by omega
  cases hr : rng l 0 50
  · have hE := hr
    have hf : addB ds (k : Int) l = false := by unfold addB; rw [hr]; simp
    unfold addF
    rw [hf]
    clear hf hn h hO hE hval
    simp only [Bool.false_eq_true, if_false]
    go_enter Try.func17, Try.ntmps17
    go_wp2_with fail
    refine HC.out.mono ?_
    rintro e w1 ⟨rfl, hb⟩
    go_wp2_with fail
    refine (impl_inRange _ _ _).mono ?_
    rintro e w' ⟨rfl, rfl⟩
    go_wp2
    go_ret2
    exact RetOB.nil hb
  obtain ⟨b, off, rfl, hbB, c0, c1, ⟨A1, n1, d1, c2, hn1, hp1⟩, -⟩ := h.at_ k hkd
  have hlen := (okO_len hval k).1
  by_cases h5 : n1 = 5
  · have h5' : ((n1 : Int) == 5) = true := by simp; omega
    have hf : addB ds (k : Int) l = false := by unfold addB; rw [Int.toNat_natCast, ← hn1, decide_eq_true h5]; simp
    unfold addF
    rw [hf]
    clear hf hn h hO hval c0 c1 hp1 hn1 hlen h5
    simp only [Bool.false_eq_true, if_false]
    go_enter Try.func17, Try.ntmps17
    go_wp2_with fail
    refine HC.out.mono ?_
    rintro e w1 ⟨rfl, hb⟩
    have b2 := (hb.cell (p := ⟨b, off + k * 4 + 2, none⟩) (by simp; omega)).trans c2
    go_wp2_with fail
    refine (impl_inRange _ _ _).mono ?_
    rintro e w' ⟨rfl, rfl⟩
    go_wp2
    go_ret2
    exact RetOB.nil hb
  have h5' : ((n1 : Int) == 5) = false := by simp; omega
  have hf : addB ds (k : Int) l = true := by unfold addB; rw [hv, hr, Int.toNat_natCast, ← hn1, decide_eq_false h5]; rfl
  have hce : addF ds (k : Int) l = ds.set k (withCl ds k l) := by unfold addF; rw [hf]; simp
  rw [hf, hce]
  have HCP := Lib.hid fun (w' : World) (hB : w.heap.size ≤ w'.heap.size) (h : OS w' w.heap.size (some ⟨b, off, none⟩) ds) => impl_copyOwners (some ⟨b, off, none⟩) n c ds w' w.heap.size hB hn h hO
  have HN := Lib.hid hn
  have HN1 := Lib.hid hn1
  have hn15 : n1 ≤ 5 := by omega
  have HKD := Lib.hid hkd
  clear hf hce hn h hO hval c0 c1 hp1 hn1 hlen h5 hv hkd
  go_enter Try.func17, Try.ntmps17
  go_wp2_with fail
  refine HC.out.mono ?_
  rintro e w1 ⟨rfl, hb⟩
  have b2 := (hb.cell (p := ⟨b, off + k * 4 + 2, none⟩) (by simp; omega)).trans c2
  have HB1 := Lib.hid hb
  go_wp2_with fail
  refine (impl_inRange _ _ _).mono ?_
  rintro e w' ⟨rfl, rfl⟩
  have hs1 := hb.size
  have HS1 := Lib.hid (HS.out.below hb (Nat.le_refl _))
  clear hb
  go_wp2_with fail
  refine (HCP.out w1 hs1 HS1.out).mono ?_
  rintro e w2 ⟨rfl, ho, hb2⟩
  obtain ⟨g, hg⟩ : ∃ g : Nat, g = w1.heap.size := ⟨_, rfl⟩
  obtain ⟨cap, hcap⟩ : ∃ cap : Nat, cap = n := ⟨_, rfl⟩
  have ho' : OwO w1.heap.size w2.heap.size (.slice (some ⟨g, 0, none⟩) n cap) n ds w2 := by rw [hg, hcap]; exact ho
  have hvv : Value.slice (some ⟨w1.heap.size, 0, none⟩) n n = .slice (some ⟨g, 0, none⟩) n cap := by rw [hg, hcap]
  rw [hvv]
  clear hvv hg hcap ho
  obtain ⟨-, xs, us, hr2', hul, hfl, hss⟩ := ho'
  have hxl : xs.length = n * 4 := hr2'.1.1
  obtain ⟨-, -, f2, f3⟩ := hfl k HKD.out
  have hs2 := hb2.size
  have hgl := (hr2'.1.lt g rfl).2
  obtain ⟨A5, m5, c5, r1, r2, r3⟩ := hss.row (k * 2) (by omega)
  rw [lenOfO, rowO_cl] at r2
  rw [rowOfO, rowO_cl] at r3
  have hm5 : m5 ≤ 5 := by have := HN1.out; omega
  have u2 := (hr2'.1.cellAt (k * 4 + 2) (by omega)).trans (f2.trans r1)
  have R1 := Lib.hid r1
  have R2 := Lib.hid r2
  have R3 := Lib.hid r3
  have HR := Lib.hid hr2'
  have HUL := Lib.hid hul
  have HFL := Lib.hid hfl
  have HSS := Lib.hid hss
  have HB2 := Lib.hid (HB1.out.trans (hb2.mono HB1.out.size))
  clear r1 r2 r3 hr2' hul hfl hss hxl f2 f3 hb2 HC HCP HS HS1
  go_wp2_with (at_builtin; refine wpList_append_own_at _ rfl _ _ 26 rfl w1.heap.size 3 i0 (.int .i64 0) 1 8 Try.underlying26 hi hz0 hz1 hz2 rfl (by decide) _ _ _ rfl (R3.out.1.alloc _) ⟨_, 0, none⟩ 1 1 [.int .i64 l] rfl rfl (cell_one_new _ _ _) ?c2 ?c3 ?c4 ?c5 ?_)
  case c2 => first | rfl | (intro u hu; simp at hu; subst hu; rfl)
  case c3 => unfold maxLen; omega
  case c4 => omega
  case c5 => first | omega | (simp; omega)
  intro v' w3 hown' hgrow _ hblk
  obtain ⟨A6, c6, rfl⟩ := own_form hown'
  have hz3 := hgrow.size
  have hz3' : w2.heap.size + 1 ≤ w3.heap.size := by simpa using hz3
  have hr3 : OwR w1.heap.size w2.heap.size 30 4 (.slice (some ⟨g, 0, none⟩) n cap) n xs w3 := ⟨(HR.out.1.alloc _).kept hgrow (blocks_ne (HR.out.1.alloc (.cells #[.int .i64 l] 3)) (R3.out.1.alloc (.cells #[.int .i64 l] 3)) owner_ne_int), HR.out.2⟩
  have hxl : xs.length = n * 4 := hr3.1.1
  have d2 := hr3.1.cellAt (k * 4 + 2) (by omega)
  rw [List.getElem?_eq_getElem (by omega)] at d2
  have e2 := hr3.1.frozenAt (k * 4 + 2)
  generalize xs[k * 4 + 2]'(by omega) = v2 at d2
  have hpos := (R3.out.1.alloc (.cells #[.int .i64 l] 3)).lt
  have HSG : Hid (SSk w1.heap.size w3.heap.size (us.set (k * 2) (.slice A6 (m5 + 1) c6)) (lenOf (rowsO (ds.set k (withCl ds k l)))) (rowOf (rowsO (ds.set k (withCl ds k l)))) w3) := by
    refine SSk.grow (w := w2.alloc (.cells #[.int .i64 l] 3)) (hi := w2.heap.size) (HSS.out.keep fun q _ hq => ((Below.refl w2.heap.size w2).alloc (Nat.le_refl _) _).block q hq) (by simp) R1.out hgrow hown' (by rw [World.size_alloc]; exact hblk) ?_ ?_ fun j hj => ?_
    · rw [lenOfO, rowO_set ds k _ HKD.out, if_pos rfl]; simp only [withCl, List.length_append, List.length_singleton]; rw [← R2.out]
    · rw [rowOfO, rowO_set ds k _ HKD.out, if_pos rfl]; simp only [withCl, List.map_append, List.map_cons, List.map_nil]; try rfl
    · rw [lenOfO, rowOfO, rowO_set ds k _ HKD.out, if_neg hj]
      by_cases e5 : j = k * 2 + 1
      · rw [if_pos e5, lenOfO, rowOfO, e5, rowO_cx]; exact ⟨rfl, rfl⟩
      · rw [if_neg e5, lenOfO, rowOfO]; exact ⟨rfl, rfl⟩
  have HR3 := Lib.hid hr3
  have HB3 := Lib.hid ((HB2.out.alloc HB2.out.size (.cells #[.int .i64 l] 3)).grown hgrow (by simp; omega) (fun q hq => by have := (hpos q hq).1; omega))
  clear hown' hgrow hblk hpos hr3 hxl hz3 u2
  go_wp2
  go_ret2
  have hfin := OwO.field (e := 0) (lo := w1.heap.size) (top := w3.heap.size) (d' := withCl ds k l) (by omega) HN.out HR3.out HUL.out HFL.out hkn (by simpa using HSG.out) rfl rfl (by omega)
  refine ⟨_, rfl, ?_, HB3.out.setCell (by show w.heap.size ≤ g; have := (HR3.out.1.lt g rfl).1; omega) _⟩
  have hsz : (w3.setCell ⟨g, k * 4 + 2, none⟩ (.slice A6 (m5 + 1) c6)).heap.size = w3.heap.size := by simp [World.setCell]
  rw [hsz, List.length_set, ← HN.out]
  exact hfin.mono (by omega) (Nat.le_refl _)
end Go.Proofs.Ytkfglodjnnlbkaa
