package sixteen

import (
	"math/big"
	"math/rand"
	"slices"
	"strings"
	"testing"

	"verdigris/api"
	"verdigris/chain"
	"verdigris/frac"
)

func fr(text string) api.Frac {
	x, ok := new(big.Rat).SetString(text)
	if !ok {
		panic(text)
	}
	return api.Frac{N: api.Whole(x.Num().String()), D: api.Whole(x.Denom().String())}
}

func fracs(text string) []api.Frac {
	var l []api.Frac
	for _, word := range strings.Fields(text) {
		l = append(l, fr(word))
	}
	return l
}

func chainOf(in int, l ...api.Element) api.Chain { return api.Chain{In: in, Elements: l} }

func matrix(offset []int, rows ...[]int) api.Element {
	return api.Element{Kind: api.ElMatrix, Rows: rows, Offset: offset}
}

func curves(l ...api.Curve) api.Element { return api.Element{Kind: api.ElCurves, Curves: l} }

func program(in, out int, p ...api.Op) api.Element {
	return api.Element{Kind: api.ElProgram, In: in, Out: out, Program: p}
}

var (
	half   = matrix([]int{0}, []int{500000})
	double = matrix([]int{0}, []int{2000000})
	below  = matrix([]int{-1}, []int{1000000})
	tent   = api.Curve{Kind: api.CuTable, Table: []int{0, 65535, 0}}
	same   = api.Curve{Kind: api.CuIdentity}
	root   = api.Curve{Kind: api.CuFormula, Segments: []api.Segment{{Till: 1000000, Mul: 1000000, Num: 1, Den: 2}}}
	jump   = api.Curve{Kind: api.CuFormula, Segments: []api.Segment{{Till: 500000, Num: 1, Den: 1}, {Till: 1000000, Num: 1, Den: 1, Off: 1}}}
	pick   = program(1, 1, api.Op{Code: api.PuNum}, api.Op{Code: api.PuIn}, api.Op{Code: api.PuIn}, api.Op{Code: api.PuNum, Arg: 500000}, api.Op{Code: api.PuSub}, api.Op{Code: api.PuPick})
)

// powers is a program with the 1024-th power of 0.999999937 x + 0.00000006.
func powers() api.Element {
	p := []api.Op{{Code: api.PuIn}}
	for range 10 {
		p = append(p, api.Op{Code: api.PuCopy}, api.Op{Code: api.PuMul})
	}
	return program(1, 1, p...)
}

// P19.1
func TestTame(t *testing.T) {
	near := matrix([]int{1}, []int{999937})
	for i, x := range []struct {
		c    api.Chain
		want bool
		e    api.Errno
	}{
		{chainOf(1, half), true, api.OK}, {chainOf(1, curves(tent), half), true, api.OK}, {chainOf(4), true, api.OK},
		{chainOf(1, double), false, api.OK}, {chainOf(1, below), false, api.OK}, {chainOf(1, double, curves(tent)), false, api.OK}, {chainOf(1, half, double), true, api.OK}, {chainOf(1, double, half), false, api.OK},
		{chainOf(1, curves(root)), false, api.OK}, {chainOf(1, curves(jump)), true, api.OK},
		{chainOf(1, near, powers()), false, api.ErrBig}, {chainOf(1, curves(root), near, powers()), false, api.OK},
		{chainOf(2, half), false, api.ErrChain}, {api.Chain{}, false, api.ErrChain},
	} {
		if got, e := Tame(x.c); got != x.want || e != x.e {
			t.Errorf("%d: %v, %d", i, got, e)
		}
	}
}

// P19.2
func TestRun(t *testing.T) {
	near := matrix([]int{1}, []int{999937})
	for i, x := range []struct {
		c        api.Chain
		in, want []int
		e        api.Errno
	}{
		{chainOf(1, half), []int{65535}, []int{32768}, api.OK}, {chainOf(1, half), []int{3}, []int{2}, api.OK}, {chainOf(1, half), []int{0}, []int{0}, api.OK},
		{chainOf(1, curves(tent)), []int{16384}, []int{32768}, api.OK}, {chainOf(1, curves(tent), half), []int{16384}, []int{16384}, api.OK},
		{chainOf(1, half, half), []int{1}, []int{1}, api.OK}, // rounded twice
		{chainOf(2), []int{5, 6}, []int{5, 6}, api.OK},
		{chainOf(1, double), []int{1}, nil, api.ErrForm}, {chainOf(1, double), nil, nil, api.ErrForm}, {chainOf(1, curves(root)), []int{1}, nil, api.ErrForm},
		{chainOf(1, half), []int{65536}, nil, api.ErrArg}, {chainOf(1, half), []int{-1}, nil, api.ErrArg}, {chainOf(1, half), []int{1, 2}, nil, api.ErrArg}, {chainOf(1, half), nil, nil, api.ErrArg}, {chainOf(2), []int{5}, nil, api.ErrArg}, {chainOf(2), []int{5, 6, 7}, nil, api.ErrArg}, {chainOf(1), []int{65536}, nil, api.ErrArg}, {chainOf(1), []int{-1}, nil, api.ErrArg},
		{chainOf(1, near, powers()), []int{1, 2}, nil, api.ErrBig}, {chainOf(2, half), []int{1}, nil, api.ErrChain},
		{chainOf(1, powers()), []int{1}, nil, api.ErrBig}, {chainOf(1, powers()), []int{65535}, []int{65535}, api.OK},
	} {
		if got, e := Run(x.c, x.in); !slices.Equal(got, x.want) || e != x.e {
			t.Errorf("%d: %v, %d", i, got, e)
		}
	}
	in := []int{5, 6}
	if out, _ := Run(chainOf(2), in); len(out) == 2 {
		out[0] = 9
	}
	if in[0] != 5 {
		t.Error("Run shares memory with its argument")
	}
}

// steep is a program whose results have 600 digits, and slopes one more.
func steep() api.Element {
	num, again, mul := func(n int) api.Op { return api.Op{Code: api.PuNum, Arg: n} }, api.Op{Code: api.PuCopy}, api.Op{Code: api.PuMul}
	return program(1, 1, api.Op{Code: api.PuIn}, num(999983), mul, again, again, mul, again, again, mul, again, mul, again, mul, again, mul, again, again, mul, mul, mul, mul, num(999990), mul)
}

// P19.3
func TestBound(t *testing.T) {
	spread := matrix([]int{0, 0}, []int{250000, 500000}, []int{0, 1000000})
	for i, x := range []struct {
		c    api.Chain
		want []api.Frac
		e    api.Errno
	}{
		{chainOf(1, half), fracs("1/131070"), api.OK}, {chainOf(1, curves(tent), half), fracs("1/87380"), api.OK}, {chainOf(3), fracs("0 0 0"), api.OK},
		{chainOf(2, curves(tent, same), spread), fracs("7/524280 1/65535"), api.OK},
		{chainOf(1, half, half, half), fracs("7/524280"), api.OK},
		{chainOf(1, double), nil, api.ErrForm}, {chainOf(1, curves(root)), nil, api.ErrForm}, {chainOf(1, curves(jump)), nil, api.ErrForm}, {chainOf(1, pick), nil, api.ErrForm},
		{chainOf(2, half), nil, api.ErrChain}, {chainOf(1, matrix([]int{1}, []int{999937}), powers()), nil, api.ErrBig},
		{chainOf(1, half, curves(jump)), nil, api.ErrForm}, {chainOf(1, steep()), nil, api.ErrBig}, {chainOf(1, steep(), curves(jump)), nil, api.ErrForm}, {chainOf(1, steep(), curves(tent)), nil, api.ErrBig},
	} {
		if got, e := Bound(x.c); !slices.Equal(got, x.want) || e != x.e {
			t.Errorf("%d: %v, %d", i, got, e)
		}
	}
}

func someElement(r *rand.Rand) api.Element {
	switch r.Intn(4) {
	case 0:
		return curves(tent, api.Curve{Kind: api.CuTable, Table: []int{r.Intn(65536), r.Intn(65536), r.Intn(65536)}})
	case 1:
		a, b := r.Intn(1000001), r.Intn(1000001)
		return matrix([]int{0, 0}, []int{a, 1000000 - a}, []int{b, 1000000 - b})
	case 2:
		x := api.Element{Kind: api.ElGrid, Grid: api.Grid{Size: []int{3, 2}, Out: 2}}
		for range 12 {
			x.Grid.Data = append(x.Grid.Data, r.Intn(65536))
		}
		return x
	}
	return program(2, 2, api.Op{Code: api.PuIn}, api.Op{Code: api.PuIn, Arg: 1}, api.Op{Code: api.PuMul}, api.Op{Code: api.PuIn}, api.Op{Code: api.PuIn, Arg: 1}, api.Op{Code: api.PuMax})
}

// P19.4: the certified bound, and running in parts.
func TestSome(t *testing.T) {
	r := rand.New(rand.NewSource(1))
	for range 400 {
		c := chainOf(2)
		for range r.Intn(5) {
			c.Elements = append(c.Elements, someElement(r))
		}
		in := []int{r.Intn(65536), r.Intn(65536)}
		out, e := Run(c, in)
		bound, e2 := Bound(c)
		x, _ := frac.Of(in[0], api.Full)
		y, _ := frac.Of(in[1], api.Full)
		exact, e3 := chain.Eval(c, []api.Frac{x, y})
		if e != api.OK || e2 != api.OK || e3 != api.OK {
			t.Fatalf("%v: %d, %d, %d", c, e, e2, e3)
		}
		for i, n := range out {
			got, _ := frac.Of(n, api.Full)
			away, _ := frac.Sub(got, exact[i])
			away, _ = frac.Abs(away)
			if order, _ := frac.Cmp(away, bound[i]); order > 0 {
				t.Fatalf("Run(%v, %v): %v, exactly %v, bound %v", c, in, out, exact, bound)
			}
		}
		at := r.Intn(len(c.Elements) + 1)
		left, _ := chain.Cut(c, 0, at)
		right, _ := chain.Cut(c, at, len(c.Elements))
		between, _ := Run(left, in)
		if again, e := Run(right, between); !slices.Equal(again, out) || e != api.OK {
			t.Fatalf("Run(%v, %v) in parts: %v, not %v", c, in, again, out)
		}
	}
}

func BenchmarkRun(b *testing.B) {
	r := rand.New(rand.NewSource(1))
	c := chainOf(2, someElement(r), someElement(r), someElement(r), someElement(r))
	for b.Loop() {
		Run(c, []int{5, 60000})
	}
}
