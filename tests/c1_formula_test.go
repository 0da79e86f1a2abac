package tests

import (
	"math"
	"math/rand"
	"slices"
	"testing"

	"loop.example/signalgraph/impl"
)

// chain returns the sum of n reads of the node 0, which has 2n-1 parts.
func chain(n int) impl.Formula {
	parts := []impl.Part{read(0)}
	for len(parts) < 2*n-1 {
		parts = append(parts, read(0), op(impl.PaAdd, len(parts)-1, len(parts)))
	}
	return formula(parts...)
}

// longest returns a valid formula of MaxParts parts.
func longest() impl.Formula {
	f := chain(5)
	return formula(append(f.Parts, num(1), num(2), when(8, 9, 10))...)
}

func validFormulas() []impl.Formula {
	return []impl.Formula{
		formula(num(0)),
		formula(num(impl.MaxNumber)),
		formula(read(0)),
		formula(read(impl.MaxNodes - 1)),
		formula(num(1), num(2), op(impl.PaAdd, 0, 1)),
		formula(num(1), num(2), op(impl.PaAdd, 1, 0)),
		formula(num(1), num(2), op(impl.PaSub, 0, 1)),
		formula(num(1), num(2), op(impl.PaMul, 0, 1)),
		formula(num(1), num(2), op(impl.PaMin, 0, 1)),
		formula(num(1), num(2), op(impl.PaMax, 0, 1)),
		formula(num(1), num(2), op(impl.PaLess, 0, 1)),
		formula(num(1), num(2), num(3), when(2, 0, 1)),
		formula(num(1), num(2), num(3), op(impl.PaAdd, 0, 2), op(impl.PaAdd, 3, 1)),
		longest(),
	}
}

func invalidFormulas() []impl.Formula {
	leaf := func(kind int, a int, b int, c int, n int) impl.Formula {
		return formula(impl.Part{Kind: kind, A: a, B: b, C: c, N: n})
	}
	over := func(p impl.Part) impl.Formula {
		return formula(num(1), num(2), num(3), p)
	}
	return []impl.Formula{
		{},
		{Parts: []impl.Part{}},
		chain(7),
		formula(append(longest().Parts[:11:11], num(3), when(8, 9, 10))...),
		leaf(impl.PaNum, -1, -1, -1, impl.MaxNumber+1),
		leaf(impl.PaNum, -1, -1, -1, -1),
		leaf(impl.PaNum, -1, -1, -1, math.MaxInt),
		leaf(impl.PaNum, 0, -1, -1, 1),
		leaf(impl.PaNum, -1, 0, -1, 1),
		leaf(impl.PaNum, -1, -1, 0, 1),
		leaf(impl.PaNum, 0, 0, 0, 1),
		leaf(impl.PaRead, -1, -1, -1, impl.MaxNodes),
		leaf(impl.PaRead, -1, -1, -1, -1),
		leaf(impl.PaRead, -1, -1, -1, math.MinInt),
		leaf(impl.PaRead, 0, -1, -1, 1),
		leaf(impl.PaRead, -1, -2, -1, 1),
		leaf(impl.PaRead, -1, -1, 0, 1),
		leaf(-1, -1, -1, -1, 0),
		leaf(impl.PaIf+1, -1, -1, -1, 0),
		leaf(math.MaxInt, -1, -1, -1, 0),
		leaf(impl.PaAdd, -1, -1, -1, 0),
		leaf(impl.PaIf, -1, -1, -1, 0),
		leaf(impl.PaAdd, 0, 0, -1, 0),
		// Parts that are below none, or below two, or twice below one.
		formula(num(1), num(2)),
		over(op(impl.PaAdd, 0, 1)),
		over(op(impl.PaAdd, 1, 2)),
		over(when(0, 1, 1)),
		formula(num(1), op(impl.PaAdd, 0, 0)),
		formula(num(1), num(2), op(impl.PaAdd, 0, 1), op(impl.PaAdd, 2, 0)),
		formula(num(1), num(2), op(impl.PaAdd, 0, 1), num(3)),
		// Parts that are not ahead of the part that has them.
		formula(op(impl.PaAdd, 1, 2), num(1), num(2)),
		formula(num(1), op(impl.PaAdd, 0, 1)),
		formula(num(1), op(impl.PaAdd, 1, 0)),
		formula(num(1), op(impl.PaAdd, 0, 2)),
		formula(num(1), num(2), when(0, 1, 2)),
		formula(num(1), num(2), op(impl.PaAdd, 0, 3), op(impl.PaAdd, 1, 2)),
		formula(num(1), op(impl.PaAdd, 0, math.MaxInt)),
		formula(num(1), op(impl.PaAdd, math.MinInt, 0)),
		// Fields that a kind does not have, or that it lacks.
		formula(num(1), op(impl.PaAdd, 0, -1)),
		formula(num(1), op(impl.PaAdd, -1, 0)),
		over(impl.Part{Kind: impl.PaAdd, A: 0, B: 1, C: 2}),
		formula(num(1), num(2), impl.Part{Kind: impl.PaAdd, A: 0, B: 1, C: -2}),
		formula(num(1), num(2), impl.Part{Kind: impl.PaAdd, A: 0, B: 1, C: -1, N: 1}),
		formula(num(1), num(2), impl.Part{Kind: impl.PaLess, A: 0, B: 1, C: -1, N: -1}),
		formula(num(1), num(2), op(impl.PaNum, 0, 1)),
		formula(num(1), num(2), op(impl.PaRead, 0, 1)),
		formula(num(1), num(2), op(impl.PaIf, 0, 1)),
		formula(num(1), num(2), impl.Part{Kind: impl.PaIf, A: 0, B: -1, C: 1}),
		formula(num(1), num(2), impl.Part{Kind: impl.PaIf, A: -1, B: 0, C: 1}),
		over(impl.Part{Kind: impl.PaIf, A: 0, B: 1, C: 2, N: 1}),
		over(impl.Part{Kind: impl.PaIf + 1, A: 0, B: 1, C: 2}),
		// A part that is wrong, but not the last one.
		formula(num(100), num(2), op(impl.PaAdd, 0, 1)),
		formula(num(1), read(10), op(impl.PaAdd, 0, 1)),
	}
}

func isZero(f impl.Formula) bool {
	return len(f.Parts) == 0
}

func TestValidFormula(t *testing.T) {
	for _, f := range validFormulas() {
		if !impl.ValidFormula(f) {
			t.Errorf("not valid: %v", f)
		}
	}
	if len(longest().Parts) != impl.MaxParts {
		t.Error("the longest formula is too short")
	}
	for _, f := range invalidFormulas() {
		if impl.ValidFormula(f) {
			t.Errorf("valid: %v", f)
		}
	}
}

// isValid is another way to tell: each part but the last one is named once, by a later part.
func isValid(f impl.Formula) bool {
	n := len(f.Parts)
	if n == 0 || n > 12 {
		return false
	}
	for i := range f.Parts {
		named := 0
		for j, p := range f.Parts {
			for _, x := range []int{p.A, p.B, p.C} {
				if x == i && j <= i {
					return false
				}
				if x == i {
					named++
				}
			}
		}
		if named != 1 && i < n-1 || named != 0 && i == n-1 {
			return false
		}
	}
	for _, p := range f.Parts {
		has := 0
		for _, x := range []int{p.A, p.B, p.C} {
			if x < -1 || x >= n {
				return false
			}
			if x >= 0 {
				has++
			}
		}
		want := map[int]int{0: 0, 1: 0, 2: 2, 3: 2, 4: 2, 5: 2, 6: 2, 7: 2, 8: 3}
		most := map[int]int{0: 99, 1: 9}
		below, known := want[p.Kind]
		if !known || has != below || below == 2 && p.C != -1 || p.N < 0 || p.N > most[p.Kind] {
			return false
		}
	}
	return true
}

func TestValidFormulaAfterOneChange(t *testing.T) {
	valid, invalid := 0, 0
	tries(func(r *rand.Rand, f impl.Formula, values []int) {
		p := &f.Parts[r.Intn(len(f.Parts))]
		n := r.Intn(len(f.Parts)+3) - 2
		switch r.Intn(5) {
		case 0:
			p.A = n
		case 1:
			p.B = n
		case 2:
			p.C = n
		case 3:
			p.Kind = r.Intn(11) - 1
		case 4:
			p.N = []int{-1, 0, 1, 9, 10, 99, 100}[r.Intn(7)]
		}
		if impl.ValidFormula(f) != isValid(f) {
			t.Errorf("ValidFormula(%v) = %v", f, impl.ValidFormula(f))
		}
		if isValid(f) {
			valid++
		} else {
			invalid++
		}
	})
	if valid < 100 || invalid < 100 {
		t.Errorf("%d valid and %d invalid formulas", valid, invalid)
	}
}

func TestInvalidFormulas(t *testing.T) {
	values := make([]int, impl.MaxNodes)
	for _, f := range invalidFormulas() {
		value, ok := impl.ValueOf(f, values)
		if value != 0 || ok {
			t.Errorf("ValueOf(%v) = %d, %v", f, value, ok)
		}
		if len(impl.ReadsOf(f, values)) != 0 || len(impl.MayRead(f)) != 0 || impl.ReadsWhole(f, values) {
			t.Errorf("reads of %v", f)
		}
		if impl.DeepOf(f) != -1 {
			t.Errorf("DeepOf(%v) = %d", f, impl.DeepOf(f))
		}
		if !isZero(impl.OrderParts(f)) || !isZero(impl.RenameReads(f, values)) || !isZero(impl.FoldFormula(f)) {
			t.Errorf("another formula of %v", f)
		}
	}
}

func TestInvalidValues(t *testing.T) {
	numbers := formula(num(1), num(2), op(impl.PaAdd, 0, 1))
	branch := formula(num(1), read(0), read(1), when(0, 1, 2))
	for _, c := range []struct {
		f      impl.Formula
		values []int
		ok     bool
	}{
		{numbers, nil, true},
		{numbers, []int{999}, true},
		{numbers, []int{-1}, false},
		{numbers, []int{1000}, false},
		{numbers, make([]int, 10), true},
		{numbers, make([]int, 11), false},
		{formula(read(0)), nil, false},
		{formula(read(0)), []int{0}, true},
		{formula(read(9)), make([]int, 9), false},
		{formula(read(9)), make([]int, 10), true},
		// The node 1 is not read, but its value is asked for.
		{branch, []int{5}, false},
		{branch, []int{5, 6}, true},
		{branch, []int{5, 1000}, false},
		{branch, []int{5, 6, -1}, false},
		{branch, []int{5, 6, 7}, true},
		{branch, []int{math.MinInt, 6}, false},
		{branch, []int{math.MaxInt, 6}, false},
	} {
		value, ok := impl.ValueOf(c.f, c.values)
		if ok != c.ok || !ok && value != 0 {
			t.Errorf("ValueOf(%v, %v) = %d, %v", c.f, c.values, value, ok)
		}
		if !c.ok && (len(impl.ReadsOf(c.f, c.values)) != 0 || impl.ReadsWhole(c.f, c.values)) {
			t.Errorf("reads of %v with %v", c.f, c.values)
		}
	}
}

func TestValues(t *testing.T) {
	pair := func(kind int) impl.Formula {
		return formula(read(0), read(1), op(kind, 0, 1))
	}
	branch := formula(read(0), read(1), read(2), when(0, 1, 2))
	for _, c := range []struct {
		f      impl.Formula
		values []int
		want   int
	}{
		{formula(num(99)), nil, 99},
		{formula(read(2)), []int{7, 8, 9}, 9},
		{pair(impl.PaAdd), []int{500, 499}, 999},
		{pair(impl.PaAdd), []int{500, 500}, 0},
		{pair(impl.PaAdd), []int{999, 999}, 998},
		{pair(impl.PaSub), []int{5, 3}, 2},
		{pair(impl.PaSub), []int{5, 5}, 0},
		{pair(impl.PaSub), []int{3, 5}, 998},
		{pair(impl.PaSub), []int{0, 999}, 1},
		{pair(impl.PaSub), []int{999, 0}, 999},
		{pair(impl.PaMul), []int{20, 30}, 600},
		{pair(impl.PaMul), []int{40, 25}, 0},
		{pair(impl.PaMul), []int{999, 999}, 1},
		{pair(impl.PaMin), []int{3, 5}, 3},
		{pair(impl.PaMin), []int{5, 3}, 3},
		{pair(impl.PaMax), []int{3, 5}, 5},
		{pair(impl.PaMax), []int{5, 3}, 5},
		{pair(impl.PaLess), []int{3, 5}, 1},
		{pair(impl.PaLess), []int{5, 3}, 0},
		{pair(impl.PaLess), []int{5, 5}, 0},
		{branch, []int{0, 20, 30}, 30},
		{branch, []int{1, 20, 30}, 20},
		{branch, []int{999, 20, 30}, 20},
		{formula(read(1), read(0), op(impl.PaSub, 1, 0)), []int{9, 4}, 5},
		{chain(6), []int{200}, 200},
	} {
		value, ok := impl.ValueOf(c.f, c.values)
		if value != c.want || !ok {
			t.Errorf("ValueOf(%v, %v) = %d, %v; want %d", c.f, c.values, value, ok, c.want)
		}
	}
}

func TestReads(t *testing.T) {
	branch := formula(read(2), read(1), read(0), when(0, 1, 2))
	for _, c := range []struct {
		f      impl.Formula
		values []int
		want   []int
		whole  bool
	}{
		{formula(num(5)), nil, nil, true},
		{formula(read(3)), make([]int, 4), []int{3}, true},
		{chain(6), []int{4}, []int{0}, true},
		{formula(read(1), read(0), op(impl.PaAdd, 0, 1)), []int{0, 0}, []int{1, 0}, true},
		{formula(read(1), read(0), op(impl.PaAdd, 1, 0)), []int{0, 0}, []int{0, 1}, true},
		{branch, []int{7, 8, 1}, []int{2, 1}, false},
		{branch, []int{7, 8, 0}, []int{2, 0}, false},
		// A product with 0 and a comparison read both parts all the same.
		{formula(num(0), read(0), op(impl.PaMul, 0, 1)), []int{3}, []int{0}, true},
		{formula(read(0), read(1), op(impl.PaLess, 0, 1)), []int{0, 0}, []int{0, 1}, true},
		// One branch has all nodes, the other one has none.
		{formula(read(0), read(0), num(4), when(0, 1, 2)), []int{0}, []int{0}, true},
		{formula(num(0), read(0), num(4), when(0, 1, 2)), []int{0}, nil, false},
		{formula(num(1), read(0), num(4), when(0, 1, 2)), []int{0}, []int{0}, true},
	} {
		if reads := impl.ReadsOf(c.f, c.values); !slices.Equal(reads, c.want) {
			t.Errorf("ReadsOf(%v, %v) = %v; want %v", c.f, c.values, reads, c.want)
		}
		if impl.ReadsWhole(c.f, c.values) != c.whole {
			t.Errorf("ReadsWhole(%v, %v) = %v", c.f, c.values, !c.whole)
		}
	}
}

func TestMayRead(t *testing.T) {
	for _, c := range []struct {
		f    impl.Formula
		want []int
	}{
		{formula(num(5)), nil},
		{chain(6), []int{0}},
		{formula(read(9), read(0), read(4), when(0, 1, 2)), []int{0, 4, 9}},
		{formula(num(0), read(7), num(1), when(0, 1, 2)), []int{7}},
	} {
		if nodes := impl.MayRead(c.f); !slices.Equal(nodes, c.want) {
			t.Errorf("MayRead(%v) = %v; want %v", c.f, nodes, c.want)
		}
	}
}

func TestDeepOf(t *testing.T) {
	for _, c := range []struct {
		f    impl.Formula
		want int
	}{
		{formula(num(5)), 1},
		{chain(2), 2},
		{chain(6), 6},
		{longest(), 6},
		{formula(num(1), num(2), chain(2).Parts[0], op(impl.PaAdd, 0, 1), op(impl.PaAdd, 2, 3)), 3},
		{formula(num(1), num(2), num(3), num(4), op(impl.PaAdd, 0, 1), when(2, 3, 4)), 3},
		{formula(num(1), num(2), num(3), num(4), op(impl.PaAdd, 0, 1), when(2, 4, 3)), 3},
		{formula(num(1), num(2), num(3), num(4), op(impl.PaAdd, 0, 1), when(4, 2, 3)), 3},
	} {
		if deep := impl.DeepOf(c.f); deep != c.want {
			t.Errorf("DeepOf(%v) = %d; want %d", c.f, deep, c.want)
		}
	}
}

func TestOrderParts(t *testing.T) {
	for _, c := range []struct{ f, want impl.Formula }{
		{formula(num(5)), formula(num(5))},
		{
			formula(num(1), num(2), op(impl.PaSub, 1, 0)),
			formula(num(2), num(1), op(impl.PaSub, 0, 1)),
		},
		{
			formula(num(1), num(2), num(3), when(2, 0, 1)),
			formula(num(3), num(1), num(2), when(0, 1, 2)),
		},
		{
			formula(num(1), read(2), num(3), read(4), op(impl.PaMul, 3, 1), when(2, 4, 0)),
			formula(num(3), read(4), read(2), op(impl.PaMul, 1, 2), num(1), when(0, 3, 4)),
		},
	} {
		if f := impl.OrderParts(c.f); !slices.Equal(f.Parts, c.want.Parts) {
			t.Errorf("OrderParts(%v) = %v; want %v", c.f, f, c.want)
		}
	}
}

func TestRenameReads(t *testing.T) {
	sum := formula(num(3), read(2), op(impl.PaAdd, 1, 0))
	for _, c := range []struct {
		f    impl.Formula
		to   []int
		want impl.Formula
	}{
		{sum, []int{0, 0, 9}, formula(num(3), read(9), op(impl.PaAdd, 1, 0))},
		{sum, []int{0, 0}, impl.Formula{}},
		{sum, nil, impl.Formula{}},
		{sum, []int{0, 0, 10}, impl.Formula{}},
		{sum, []int{-1, 0, 9}, impl.Formula{}},
		{sum, []int{0, 0, 9, 10}, impl.Formula{}},
		{sum, make([]int, 11), impl.Formula{}},
		{sum, make([]int, 10), formula(num(3), read(0), op(impl.PaAdd, 1, 0))},
		{formula(num(3)), nil, formula(num(3))},
		{formula(num(3)), []int{10}, impl.Formula{}},
		// All reads are renamed at once: 0 is not renamed twice.
		{
			formula(read(0), read(1), op(impl.PaAdd, 0, 1)), []int{1, 2},
			formula(read(1), read(2), op(impl.PaAdd, 0, 1)),
		},
	} {
		if f := impl.RenameReads(c.f, c.to); !slices.Equal(f.Parts, c.want.Parts) {
			t.Errorf("RenameReads(%v, %v) = %v; want %v", c.f, c.to, f, c.want)
		}
	}
}

func TestFoldFormula(t *testing.T) {
	numbers := func(kind int, a int, b int) impl.Formula {
		return formula(num(a), num(b), op(kind, 0, 1))
	}
	for _, c := range []struct{ f, want impl.Formula }{
		{formula(num(5)), formula(num(5))},
		{formula(read(5)), formula(read(5))},
		{numbers(impl.PaAdd, 50, 49), formula(num(99))},
		{numbers(impl.PaAdd, 50, 50), numbers(impl.PaAdd, 50, 50)},
		{numbers(impl.PaSub, 50, 49), formula(num(1))},
		{numbers(impl.PaSub, 0, 1), numbers(impl.PaSub, 0, 1)},
		{numbers(impl.PaMul, 9, 11), formula(num(99))},
		{numbers(impl.PaMul, 10, 10), numbers(impl.PaMul, 10, 10)},
		{numbers(impl.PaMul, 40, 25), formula(num(0))},
		{numbers(impl.PaMin, 5, 99), formula(num(5))},
		{numbers(impl.PaMax, 5, 99), formula(num(99))},
		{numbers(impl.PaLess, 5, 99), formula(num(1))},
		{numbers(impl.PaLess, 5, 5), formula(num(0))},
		// Parts that are one number and one read stay, even where the value would be known.
		{
			formula(read(0), num(0), op(impl.PaMul, 1, 0)),
			formula(num(0), read(0), op(impl.PaMul, 0, 1)),
		},
		// What was folded below is folded further up.
		{formula(num(2), num(3), op(impl.PaMul, 0, 1), num(4), op(impl.PaAdd, 2, 3)), formula(num(10))},
		{
			formula(num(50), num(50), op(impl.PaAdd, 0, 1), num(9), op(impl.PaMin, 2, 3)),
			formula(num(50), num(50), op(impl.PaAdd, 0, 1), num(9), op(impl.PaMin, 2, 3)),
		},
		{formula(num(0), read(1), read(2), when(0, 1, 2)), formula(read(2))},
		{formula(num(7), read(1), read(2), when(0, 1, 2)), formula(read(1))},
		{
			formula(num(3), num(3), op(impl.PaLess, 0, 1), read(1), read(2), when(2, 3, 4)),
			formula(read(2)),
		},
		{
			formula(num(1), num(2), op(impl.PaAdd, 0, 1), num(3), read(1), when(3, 2, 4), num(1), op(impl.PaAdd, 5, 6)),
			formula(num(4)),
		},
		// Numbers as B and C do not matter as long as A is not one.
		{
			formula(num(3), read(0), num(3), when(1, 0, 2)),
			formula(read(0), num(3), num(3), when(0, 1, 2)),
		},
		{
			formula(read(0), num(3), num(4), op(impl.PaAdd, 1, 2), num(5), when(0, 3, 4)),
			formula(read(0), num(7), num(5), when(0, 1, 2)),
		},
		{
			formula(read(0), num(3), num(4), op(impl.PaAdd, 1, 2), num(5), when(0, 4, 3)),
			formula(read(0), num(5), num(7), when(0, 1, 2)),
		},
		{
			formula(num(60), num(60), op(impl.PaAdd, 0, 1), read(1), read(2), when(2, 3, 4)),
			formula(num(60), num(60), op(impl.PaAdd, 0, 1), read(1), read(2), when(2, 3, 4)),
		},
	} {
		if f := impl.FoldFormula(c.f); !slices.Equal(f.Parts, c.want.Parts) {
			t.Errorf("FoldFormula(%v) = %v; want %v", c.f, f, c.want)
		}
	}
}

func TestArgumentsAreLeftAlone(t *testing.T) {
	tries(func(r *rand.Rand, f impl.Formula, values []int) {
		parts := slices.Clone(f.Parts)
		given := slices.Clone(values)
		to := r.Perm(impl.MaxNodes)
		names := slices.Clone(to)
		results := []impl.Formula{impl.OrderParts(f), impl.FoldFormula(f), impl.RenameReads(f, to)}
		lists := [][]int{impl.ReadsOf(f, values), impl.MayRead(f)}
		for _, x := range results {
			clear(x.Parts[:cap(x.Parts)])
		}
		for _, x := range lists {
			clear(x[:cap(x)])
		}
		impl.ValueOf(f, values)
		impl.ReadsWhole(f, values)
		if !slices.Equal(f.Parts, parts) || !slices.Equal(values, given) || !slices.Equal(to, names) {
			t.Fatalf("changed: %v with %v", parts, given)
		}
	})
}
