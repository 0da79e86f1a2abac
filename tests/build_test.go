package tests

import (
	"math/rand"

	"loop.example/signalgraph/impl"
)

// num returns the part of a number.
func num(n int) impl.Part {
	return impl.Part{Kind: impl.PaNum, A: -1, B: -1, C: -1, N: n}
}

// read returns the part that reads a node.
func read(n int) impl.Part {
	return impl.Part{Kind: impl.PaRead, A: -1, B: -1, C: -1, N: n}
}

// op returns a part of two parts.
func op(kind int, a int, b int) impl.Part {
	return impl.Part{Kind: kind, A: a, B: b, C: -1}
}

// when returns a part that is one of two others.
func when(a int, b int, c int) impl.Part {
	return impl.Part{Kind: impl.PaIf, A: a, B: b, C: c}
}

// formula returns a formula of parts.
func formula(parts ...impl.Part) impl.Formula {
	return impl.Formula{Parts: parts}
}

// randomLeaf returns a number or a read; small numbers are often among them, so that branches go both ways.
func randomLeaf(r *rand.Rand) impl.Part {
	switch r.Intn(4) {
	case 0:
		return num(r.Intn(2))
	case 1:
		return num(r.Intn(impl.MaxNumber + 1))
	}
	return read(r.Intn(impl.MaxNodes))
}

// randomFormula returns a valid formula, mostly with its parts out of order.
func randomFormula(r *rand.Rand) impl.Formula {
	var parts []impl.Part
	var open []int
	take := func() int {
		i := r.Intn(len(open))
		x := open[i]
		open = append(open[:i], open[i+1:]...)
		return x
	}
	least := 1 + r.Intn(impl.MaxParts)
	for len(parts) < least || len(open) > 1 {
		isFull := len(parts)+1+len(open) > impl.MaxParts
		if len(open) < 2 && isFull {
			break
		}
		if len(open) < 2 || !isFull && r.Intn(2) == 0 {
			parts = append(parts, randomLeaf(r))
		} else if len(open) > 2 && r.Intn(2) == 0 {
			parts = append(parts, when(take(), take(), take()))
		} else {
			parts = append(parts, op(impl.PaAdd+r.Intn(impl.PaLess-impl.PaAdd+1), take(), take()))
		}
		open = append(open, len(parts)-1)
	}
	return formula(parts...)
}

// randomValues returns values for all nodes, many of them 0.
func randomValues(r *rand.Rand) []int {
	values := make([]int, impl.MaxNodes)
	for i := range values {
		if r.Intn(3) > 0 {
			values[i] = r.Intn(impl.Modulus)
		}
	}
	return values
}

// tries calls a function with formulas and values, the same ones each time.
func tries(check func(r *rand.Rand, f impl.Formula, values []int)) {
	r := rand.New(rand.NewSource(1))
	for range 4000 {
		check(r, randomFormula(r), randomValues(r))
	}
}
