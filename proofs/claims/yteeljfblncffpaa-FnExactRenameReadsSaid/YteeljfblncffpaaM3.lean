/- Plain facts on parts in order: what a term's parts are, from an index on. -/
import Derived.Test.YteeljfblncffpaaA14
namespace Go.Proofs.Yteeljfblncffpaa
set_option linter.unusedSimpArgs false
set_option linter.unusedVariables false

def Tm.size : Tm → Nat
  | .num _ => 1
  | .rd _ => 1
  | .pr _ l r => l.size + r.size + 1
  | .ch t a b => t.size + a.size + b.size + 1

theorem Tm.size_pos (t : Tm) : 1 ≤ t.size := by cases t <;> simp [Tm.size]

/-- The parts of a term in order, from index k on. -/
def Tm.post : Tm → Nat → List Pt
  | .num v, _ => [⟨0, -1, -1, -1, v⟩]
  | .rd v, _ => [⟨1, -1, -1, -1, v⟩]
  | .pr K l r, k => l.post k ++ r.post (k + l.size) ++ [⟨K, ((k + l.size : Nat) : Int) - 1, ((k + l.size + r.size : Nat) : Int) - 1, -1, 0⟩]
  | .ch t a b, k => t.post k ++ a.post (k + t.size) ++ b.post (k + t.size + a.size) ++ [⟨8, ((k + t.size : Nat) : Int) - 1, ((k + t.size + a.size : Nat) : Int) - 1, ((k + t.size + a.size + b.size : Nat) : Int) - 1, 0⟩]

theorem Tm.post_len (t : Tm) (k : Nat) : (t.post k).length = t.size := by
  induction t generalizing k with
  | num v => rfl
  | rd v => rfl
  | pr K l r il ir => simp [Tm.post, Tm.size, il, ir]; omega
  | ch t a b it ia ib => simp [Tm.post, Tm.size, it, ia, ib]; omega

def kpost : List Tm → Nat → List Pt
  | [], _ => []
  | t :: ts, k => t.post k ++ kpost ts (k + t.size)

def kat : List Tm → Nat → List Int
  | [], _ => []
  | t :: ts, k => (((k + t.size : Nat) : Int) - 1) :: kat ts (k + t.size)

def ksize (ts : List Tm) : Nat := (ts.map Tm.size).sum

theorem ksize_snoc (ts : List Tm) (t : Tm) : ksize (ts ++ [t]) = ksize ts + t.size := by simp [ksize]

theorem kpost_len (ts : List Tm) (k : Nat) : (kpost ts k).length = ksize ts := by
  induction ts generalizing k with
  | nil => rfl
  | cons t ts ih => simp [kpost, ksize, Tm.post_len, ih]

theorem kat_len (ts : List Tm) (k : Nat) : (kat ts k).length = ts.length := by
  induction ts generalizing k with
  | nil => rfl
  | cons t ts ih => simp [kat, ih]

theorem kpost_snoc (ts : List Tm) (t : Tm) (k : Nat) : kpost (ts ++ [t]) k = kpost ts k ++ t.post (k + ksize ts) := by
  induction ts generalizing k with
  | nil => simp [kpost, ksize]
  | cons u ts ih =>
    have e : k + u.size + ksize ts = k + ksize (u :: ts) := by simp [ksize]; omega
    simp [kpost, ih, e]

theorem kat_snoc (ts : List Tm) (t : Tm) (k : Nat) : kat (ts ++ [t]) k = kat ts k ++ [((k + ksize ts + t.size : Nat) : Int) - 1] := by
  induction ts generalizing k with
  | nil => simp [kat, ksize]
  | cons u ts ih =>
    have e : k + u.size + ksize ts = k + ksize (u :: ts) := by simp [ksize]; omega
    simp [kat, ih, e]

/-- The part of a term, for the parts below it at some indices. -/
def Tm.own : Tm → List Int → Pt
  | .num v, _ => ⟨0, -1, -1, -1, v⟩
  | .rd v, _ => ⟨1, -1, -1, -1, v⟩
  | .pr K _ _, at_ => ⟨K, at_.getD 0 0, at_.getD 1 0, -1, 0⟩
  | .ch _ _ _, at_ => ⟨8, at_.getD 0 0, at_.getD 1 0, at_.getD 2 0, 0⟩

theorem Tm.post_kids (t : Tm) (k : Nat) : t.post k = kpost t.kids k ++ [t.own (kat t.kids k)] := by
  cases t with
  | num v => rfl
  | rd v => rfl
  | pr K l r => simp [Tm.post, Tm.kids, kpost, kat, Tm.own]
  | ch t a b => simp [Tm.post, Tm.kids, kpost, kat, Tm.own]

theorem Tm.size_kids (t : Tm) : t.size = ksize t.kids + 1 := by
  cases t <;> simp [Tm.size, Tm.kids, ksize, Nat.add_assoc]

theorem Tm.size_deep (t : Tm) : t.deep ≤ t.size := by
  induction t with
  | num v => simp [Tm.deep, Tm.size]
  | rd v => simp [Tm.deep, Tm.size]
  | pr K l r il ir => have := l.size_pos; have := r.size_pos; simp only [Tm.deep, Tm.size]; omega
  | ch t a b it ia ib => have := t.size_pos; have := a.size_pos; have := b.size_pos; simp only [Tm.deep, Tm.size]; omega

theorem ksize_take (ts : List Tm) (m : Nat) : ksize (ts.take m) ≤ ksize ts := by
  have h : ksize (ts.take m ++ ts.drop m) = ksize ts := by rw [List.take_append_drop]
  have h2 : ksize (ts.take m ++ ts.drop m) = ksize (ts.take m) + ksize (ts.drop m) := by unfold ksize; rw [List.map_append, List.sum_append]
  omega

/-- A term of depth d has at most as many parts as a full tree. -/
theorem size_tmAt (ps : List Pt) (f i : Nat) : 2 * (tmAt ps f i).size + 1 ≤ 3 ^ (f + 1) := by
  induction f generalizing i with
  | zero => simp [tmAt, Tm.size]
  | succ f ih =>
    have ha := ih (ps.getD i default).a.toNat
    have hb := ih (ps.getD i default).b.toNat
    have hc := ih (ps.getD i default).c.toNat
    have hp : 1 ≤ 3 ^ (f + 1) := Nat.one_le_pow _ _ (by omega)
    rw [tmAt_eq, Nat.pow_succ]
    split
    · simp only [Tm.size]; omega
    · split
      · simp only [Tm.size]; omega
      · split
        · simp only [Tm.size]; omega
        · simp only [Tm.size]; omega

/-- A part with the indices of the first parts below it. -/
def Pt.sub (p : Pt) (at_ : List Int) : Pt := ⟨p.k, at_.getD 0 p.a, at_.getD 1 p.b, at_.getD 2 p.c, p.n⟩

theorem Pt.sub_nil (p : Pt) : p.sub [] = p := rfl

theorem sub_own (ps : List Pt) (f i n : Nat) (hg : goodPt (ps.getD i default) i = true) : (ps.getD i default).sub (kat (tmAt ps (f + 1) i).kids n) = (tmAt ps (f + 1) i).own (kat (tmAt ps (f + 1) i).kids n) := by
  rw [tmAt_eq]
  generalize ps.getD i default = p at *
  have hh := hg
  rcases good_kind _ _ hg with h0 | h1 | h2 | h8
  · have ha : ar p.k = 0 := by unfold ar; rw [if_pos (by omega)]
    simp only [goodPt, ha] at hh
    simp [h0] at hh
    simp [h0, Tm.kids, kat, Tm.own, Pt.sub, hh]
  · have ha : ar p.k = 0 := by unfold ar; rw [if_pos (by omega)]
    simp only [goodPt, ha] at hh
    simp [h1] at hh
    simp [h1, Tm.kids, kat, Tm.own, Pt.sub, hh]
  · have k0 : (p.k == 0) = false := by simp only [beq_eq_false_iff_ne, ne_eq]; omega
    have k1 : (p.k == 1) = false := by simp only [beq_eq_false_iff_ne, ne_eq]; omega
    have k8 : (p.k == 8) = false := by simp only [beq_eq_false_iff_ne, ne_eq]; omega
    have ha : ar p.k = 2 := by unfold ar; rw [if_neg (by omega), if_pos h2]
    simp only [goodPt, ha] at hh
    simp at hh
    simp only [k0, k1, k8, Bool.false_eq_true, if_false]
    simp [Tm.kids, kat, Tm.own, Pt.sub, hh]
  · have ha : ar p.k = 3 := by unfold ar; rw [if_neg (by omega), if_neg (by omega), if_pos (by omega)]
    simp only [goodPt, ha] at hh
    simp at hh
    simp [h8, Tm.kids, kat, Tm.own, Pt.sub, hh]
end Go.Proofs.Yteeljfblncffpaa
