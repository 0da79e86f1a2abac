package tests

import (
	"math/rand"
	"slices"
	"testing"

	"loop.example/signalgraph/impl"
)

// meaning returns the value of a part and all reads for it, told by the indices of the parts.
func meaning(parts []impl.Part, i int, values []int) (int, []int) {
	p := parts[i]
	switch p.Kind {
	case impl.PaNum:
		return p.N, nil
	case impl.PaRead:
		return values[p.N], []int{p.N}
	}
	a, reads := meaning(parts, p.A, values)
	next := p.B
	if p.Kind == impl.PaIf && a == 0 {
		next = p.C
	}
	b, more := meaning(parts, next, values)
	reads = append(reads, more...)
	less := 0
	if a < b {
		less = 1
	}
	switch p.Kind {
	case impl.PaAdd:
		b = a + b
	case impl.PaSub:
		b = a - b
	case impl.PaMul:
		b = a * b
	case impl.PaMin:
		b = less*a + (1-less)*b
	case impl.PaMax:
		b = less*b + (1-less)*a
	case impl.PaLess:
		b = less
	}
	return ((b % 1000) + 1000) % 1000, reads
}

// firsts returns a list with each number once, where it comes first.
func firsts(list []int) []int {
	var out []int
	for i, n := range list {
		if slices.Index(list, n) == i {
			out = append(out, n)
		}
	}
	return out
}

// wantedParts returns the parts of a part in order, folded if asked for.
func wantedParts(parts []impl.Part, i int, folded bool) []impl.Part {
	p := parts[i]
	if p.Kind == impl.PaNum || p.Kind == impl.PaRead {
		return []impl.Part{p}
	}
	a := wantedParts(parts, p.A, folded)
	b := wantedParts(parts, p.B, folded)
	isNumber := folded && len(a) == 1 && a[0].Kind == impl.PaNum
	if p.Kind != impl.PaIf {
		if isNumber && len(b) == 1 && b[0].Kind == impl.PaNum {
			value, _ := meaning([]impl.Part{a[0], b[0], op(p.Kind, 0, 1)}, 2, nil)
			if value <= 99 {
				return []impl.Part{num(value)}
			}
		}
		out := append(a, behind(b, len(a))...)
		return append(out, op(p.Kind, len(a)-1, len(out)-1))
	}
	c := wantedParts(parts, p.C, folded)
	if isNumber && a[0].N == 0 {
		return c
	}
	if isNumber {
		return b
	}
	out := append(a, behind(b, len(a))...)
	then := len(out) - 1
	out = append(out, behind(c, len(out))...)
	return append(out, when(len(a)-1, then, len(out)-1))
}

// behind returns parts as they are behind n others.
func behind(parts []impl.Part, n int) []impl.Part {
	out := slices.Clone(parts)
	for i := range out {
		for _, x := range []*int{&out[i].A, &out[i].B, &out[i].C} {
			if *x >= 0 {
				*x += n
			}
		}
	}
	return out
}

func whole(f impl.Formula) ([]impl.Part, int) {
	return f.Parts, len(f.Parts) - 1
}

// valueOf returns the value of a formula, or -1 if there is none.
func valueOf(f impl.Formula, values []int) int {
	value, ok := impl.ValueOf(f, values)
	if !ok {
		return -1
	}
	return value
}

func TestTriedFormulasAreOfAllSorts(t *testing.T) {
	lengths := map[int]int{}
	kinds := map[int]int{}
	unread := 0
	tries(func(r *rand.Rand, f impl.Formula, values []int) {
		lengths[len(f.Parts)]++
		for _, p := range f.Parts {
			kinds[p.Kind]++
		}
		if !impl.ValidFormula(f) {
			t.Fatalf("not valid: %v", f)
		}
		if !impl.ReadsWhole(f, values) {
			unread++
		}
	})
	for _, n := range []int{1, 3, 4, 5, 9, 12} {
		if lengths[n] < 50 {
			t.Errorf("%d formulas of %d parts", lengths[n], n)
		}
	}
	for kind := impl.PaNum; kind <= impl.PaIf; kind++ {
		if kinds[kind] < 500 {
			t.Errorf("%d parts of the kind %d", kinds[kind], kind)
		}
	}
	if unread < 200 {
		t.Errorf("%d formulas that do not read all nodes", unread)
	}
}

func TestValuesAndReadsAreMeant(t *testing.T) {
	tries(func(r *rand.Rand, f impl.Formula, values []int) {
		parts, last := whole(f)
		value, reads := meaning(parts, last, values)
		if valueOf(f, values) != value || !slices.Equal(impl.ReadsOf(f, values), firsts(reads)) {
			t.Errorf("%v with %v: %d and %v; want %d and %v", f, values, valueOf(f, values), impl.ReadsOf(f, values), value, firsts(reads))
		}
	})
}

func TestP1FormulasHaveValues(t *testing.T) {
	tries(func(r *rand.Rand, f impl.Formula, values []int) {
		value, ok := impl.ValueOf(f, make([]int, impl.MaxNodes))
		want, _ := meaning(f.Parts, len(f.Parts)-1, make([]int, impl.MaxNodes))
		if !ok || value != want || value < 0 || value >= impl.Modulus {
			t.Errorf("ValueOf(%v) = %d, %v", f, value, ok)
		}
	})
}

func TestP2WhatIsNotReadDoesNotMatter(t *testing.T) {
	tries(func(r *rand.Rand, f impl.Formula, values []int) {
		reads := impl.ReadsOf(f, values)
		others := slices.Clone(values)
		for n := range others {
			if !slices.Contains(reads, n) {
				others[n] = r.Intn(impl.Modulus)
			}
		}
		if valueOf(f, others) != valueOf(f, values) || !slices.Equal(impl.ReadsOf(f, others), reads) {
			t.Errorf("%v with %v and with %v", f, values, others)
		}
	})
}

func TestP3OnlyWhatMayBeReadIsRead(t *testing.T) {
	tries(func(r *rand.Rand, f impl.Formula, values []int) {
		reads := impl.ReadsOf(f, values)
		for i, n := range reads {
			if slices.Index(reads, n) != i || !slices.Contains(impl.MayRead(f), n) {
				t.Errorf("ReadsOf(%v, %v) = %v", f, values, reads)
			}
		}
	})
}

func TestP4AllNodesOfAFormulaMayBeRead(t *testing.T) {
	self := []int{0, 1, 2, 3, 4, 5, 6, 7, 8, 9}
	tries(func(r *rand.Rand, f impl.Formula, values []int) {
		nodes := impl.MayRead(f)
		for i := 1; i < len(nodes); i++ {
			if nodes[i-1] >= nodes[i] {
				t.Errorf("MayRead(%v) = %v", f, nodes)
			}
		}
		for n := range impl.MaxNodes {
			if slices.Contains(nodes, n) != slices.Contains(f.Parts, read(n)) {
				t.Errorf("MayRead(%v) = %v", f, nodes)
			}
		}
		if !slices.Equal(impl.RenameReads(f, self).Parts, f.Parts) {
			t.Errorf("RenameReads(%v) = %v", f, impl.RenameReads(f, self))
		}
	})
}

func TestP5FormulasAreNoDeeperThanLong(t *testing.T) {
	tries(func(r *rand.Rand, f impl.Formula, values []int) {
		// The longest way down to each part, from the last one on.
		down := make([]int, len(f.Parts))
		deep := 0
		for i := len(f.Parts) - 1; i >= 0; i-- {
			down[i]++
			deep = max(deep, down[i])
			for _, x := range []int{f.Parts[i].A, f.Parts[i].B, f.Parts[i].C} {
				if x >= 0 {
					down[x] = down[i]
				}
			}
		}
		got := impl.DeepOf(f)
		if got != deep || got < 1 || got > len(f.Parts) || got != impl.DeepOf(impl.OrderParts(f)) {
			t.Errorf("DeepOf(%v) = %d; want %d", f, got, deep)
		}
	})
}

func TestP6OrderChangesNothing(t *testing.T) {
	changed := 0
	tries(func(r *rand.Rand, f impl.Formula, values []int) {
		o := impl.OrderParts(f)
		if valueOf(o, values) != valueOf(f, values) || !slices.Equal(impl.ReadsOf(o, values), impl.ReadsOf(f, values)) {
			t.Errorf("OrderParts(%v) = %v is not the same with %v", f, o, values)
		}
		if !slices.Equal(impl.OrderParts(o).Parts, o.Parts) {
			t.Errorf("OrderParts(%v) = %v", o, impl.OrderParts(o))
		}
		parts, last := whole(f)
		if want := wantedParts(parts, last, false); !slices.Equal(o.Parts, want) {
			t.Errorf("OrderParts(%v) = %v; want %v", f, o, want)
		}
		if !slices.Equal(o.Parts, f.Parts) {
			changed++
		}
	})
	if changed < 1000 {
		t.Errorf("%d formulas were out of order", changed)
	}
}

func TestP7RenamedReadsReadRenamedValues(t *testing.T) {
	tries(func(r *rand.Rand, f impl.Formula, values []int) {
		to := make([]int, impl.MaxNodes)
		renamed := make([]int, impl.MaxNodes)
		for n := range to {
			to[n] = r.Intn(impl.MaxNodes)
			renamed[n] = values[to[n]]
		}
		g := impl.RenameReads(f, to)
		if valueOf(g, values) != valueOf(f, renamed) || len(g.Parts) != len(f.Parts) {
			t.Errorf("RenameReads(%v, %v) = %v", f, to, g)
		}
		var reads []int
		for _, n := range impl.ReadsOf(f, renamed) {
			reads = append(reads, to[n])
		}
		if !slices.Equal(impl.ReadsOf(g, values), firsts(reads)) {
			t.Errorf("RenameReads(%v, %v) = %v reads %v", f, to, g, impl.ReadsOf(g, values))
		}
	})
}

func TestP8FoldedFormulasMeanTheSame(t *testing.T) {
	fewer := 0
	tries(func(r *rand.Rand, f impl.Formula, values []int) {
		d := impl.FoldFormula(f)
		if valueOf(d, values) != valueOf(f, values) || len(d.Parts) > len(f.Parts) {
			t.Errorf("FoldFormula(%v) = %v", f, d)
		}
		if len(impl.MayRead(d)) > len(impl.MayRead(f)) || !slices.Equal(impl.ReadsOf(d, values), impl.ReadsOf(f, values)) {
			t.Errorf("FoldFormula(%v) = %v reads %v", f, d, impl.MayRead(d))
		}
		if !slices.Equal(impl.FoldFormula(d).Parts, d.Parts) {
			t.Errorf("FoldFormula(%v) = %v", d, impl.FoldFormula(d))
		}
		parts, last := whole(f)
		if want := wantedParts(parts, last, true); !slices.Equal(d.Parts, want) {
			t.Errorf("FoldFormula(%v) = %v; want %v", f, d, want)
		}
		if len(d.Parts) < len(f.Parts) {
			fewer++
		}
	})
	if fewer < 500 {
		t.Errorf("%d formulas were folded", fewer)
	}
}

func TestP9WhoReadsAllReadsAsMuchAsThereIs(t *testing.T) {
	tries(func(r *rand.Rand, f impl.Formula, values []int) {
		reads := impl.ReadsOf(f, values)
		want := len(reads) == len(impl.MayRead(f))
		for _, n := range impl.MayRead(f) {
			if !slices.Contains(reads, n) && want {
				t.Errorf("ReadsOf(%v, %v) = %v", f, values, reads)
			}
		}
		if impl.ReadsWhole(f, values) != want {
			t.Errorf("ReadsWhole(%v, %v) = %v", f, values, !want)
		}
	})
}
