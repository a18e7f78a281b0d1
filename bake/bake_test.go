package bake

import (
	"math/big"
	"math/rand"
	"slices"
	"strings"
	"testing"

	"verdigris/api"
	"verdigris/chain"
	"verdigris/frac"
	"verdigris/grid"
	"verdigris/simplex"
)

func fr(text string) api.Frac {
	x, ok := new(big.Rat).SetString(text)
	if !ok {
		panic(text)
	}
	return api.Frac{N: api.Whole(x.Num().String()), D: api.Whole(x.Denom().String())}
}

func fracs(text string) []api.Frac {
	var l []api.Frac
	for _, word := range strings.Fields(text) {
		l = append(l, fr(word))
	}
	return l
}

func chainOf(in int, l ...api.Element) api.Chain { return api.Chain{In: in, Elements: l} }

func matrix(offset []int, rows ...[]int) api.Element {
	return api.Element{Kind: api.ElMatrix, Rows: rows, Offset: offset}
}

func curves(l ...api.Curve) api.Element { return api.Element{Kind: api.ElCurves, Curves: l} }

func program(in, out int, p ...api.Op) api.Element {
	return api.Element{Kind: api.ElProgram, In: in, Out: out, Program: p}
}

var (
	tent   = api.Curve{Kind: api.CuTable, Table: []int{0, 65535, 0}}
	root   = api.Curve{Kind: api.CuFormula, Segments: []api.Segment{{Till: 1000000, Mul: 1000000, Num: 1, Den: 2}}}
	jump   = api.Curve{Kind: api.CuFormula, Segments: []api.Segment{{Till: 500000, Num: 1, Den: 1}, {Till: 1000000, Num: 1, Den: 1, Off: 1}}}
	double = matrix([]int{0}, []int{2000000})
	square = program(1, 1, api.Op{Code: api.PuIn}, api.Op{Code: api.PuCopy}, api.Op{Code: api.PuMul})
)

// P20.1
func TestBake(t *testing.T) {
	for i, x := range []struct {
		c     api.Chain
		size  []int
		data  []int
		bound string
	}{
		{chainOf(1, curves(tent)), []int{3}, []int{0, 65535, 0}, "32768/65535"},
		{chainOf(1, square), []int{3}, []int{0, 16384, 65535}, "32768/65535"},
		{chainOf(1), []int{2}, []int{0, 65535}, "65536/131070"},
		{chainOf(2, matrix([]int{0, 0}, []int{500000, 250000}, []int{0, 1000000})), []int{2, 3}, []int{0, 0, 8192, 32768, 16384, 65535, 32768, 0, 40959, 32768, 49151, 65535}, "1/4 1/4"},
	} {
		g, bound, e := Bake(x.c, x.size)
		if !slices.Equal(g.Size, x.size) || !slices.Equal(g.Data, x.data) || e != api.OK {
			t.Errorf("Bake %d: %v, %d", i, g, e)
		}
		want := fracs(x.bound)
		if i == 3 {
			for k, sum := range []string{"1/4 1/16 1/131070", "1/4 1/131070"} {
				want[k], _ = frac.Sum(fracs(sum))
			}
		}
		if !slices.Equal(bound, want) {
			t.Errorf("Bake %d: %v, want %v", i, bound, want)
		}
	}
}

// P20.1
func TestBakeErrors(t *testing.T) {
	near := matrix([]int{1}, []int{999937})
	p := []api.Op{{Code: api.PuIn}}
	for range 10 {
		p = append(p, api.Op{Code: api.PuCopy}, api.Op{Code: api.PuMul})
	}
	powers := program(1, 1, p...)
	// The slopes of a high power are short at 0 and 1, but its value at 1/9 is long.
	p = p[:19]
	longAtNodes := program(1, 1, append(p, api.Op{Code: api.PuNum, Arg: 999983}, api.Op{Code: api.PuMul}, api.Op{Code: api.PuCopy}, api.Op{Code: api.PuMul})...)
	for i, x := range []struct {
		c    api.Chain
		size []int
		e    api.Errno
	}{
		{api.Chain{}, nil, api.ErrChain}, {chainOf(2, double), []int{2}, api.ErrChain},
		{chainOf(1, curves(root)), nil, api.ErrForm},
		{chainOf(1, double), nil, api.ErrArg}, {chainOf(1, double), []int{1}, api.ErrArg}, {chainOf(1, double), []int{10}, api.ErrArg}, {chainOf(1, double), []int{2, 2}, api.ErrArg}, {chainOf(1, double), []int{-1 << 62}, api.ErrArg},
		{chainOf(4), []int{9, 9, 9, 9}, api.ErrLong}, {chainOf(4), []int{9, 9, 9, 2}, api.ErrLong}, {chainOf(4, matrix(make([]int, 4), make([]int, 4), make([]int, 4), make([]int, 4), make([]int, 4))), []int{9, 9, 9, 9}, api.ErrLong},
		{chainOf(1, curves(jump), double), []int{2}, api.ErrForm}, {chainOf(1, near, powers), []int{2}, api.ErrBig},
		{chainOf(1, double), []int{2}, api.ErrForm}, {chainOf(1, matrix([]int{-1}, []int{1000000})), []int{2}, api.ErrForm},
		{chainOf(1, longAtNodes), []int{8}, api.ErrBig},
	} {
		g, bound, e := Bake(x.c, x.size)
		if !grid.Same(g, api.Grid{}) || bound != nil || e != x.e {
			t.Errorf("%d: %v, %v, %d", i, g, bound, e)
		}
	}
	if g, _, e := Bake(chainOf(4, matrix([]int{0}, []int{250000, 250000, 250000, 250000})), []int{8, 8, 8, 8}); len(g.Data) != 4096 || e != api.OK {
		t.Errorf("Bake: %d entries, %d", len(g.Data), e)
	}
	if g, _, e := Bake(chainOf(1, double, curves(tent)), []int{9}); g.Out != 1 || e != api.OK {
		t.Errorf("Bake: %v, %d", g, e)
	}
}

// P20.2
func TestWorst(t *testing.T) {
	rough, _, _ := Bake(chainOf(1, square), []int{3})
	third := [][]api.Frac{fracs("1/4"), fracs("1/2")}
	two := chainOf(1, program(1, 2, api.Op{Code: api.PuIn}, api.Op{Code: api.PuNum, Arg: 500000}))
	pair := api.Grid{Size: []int{2}, Out: 2, Data: []int{0, 0, 65535, 65535}}
	many := make([][]api.Frac, 101)
	for i, x := range []struct {
		c    api.Chain
		g    api.Grid
		x    [][]api.Frac
		most string
		at   int
		e    api.Errno
	}{
		{chainOf(1, square), rough, third, "65537/1048560", 0, api.OK},
		{chainOf(1, square), rough, [][]api.Frac{fracs("0"), fracs("1/2"), fracs("3/4"), fracs("1/4")}, "65537/1048560", 2, api.OK},
		{chainOf(1, square), rough, nil, "0", 0, api.OK},
		{chainOf(1, square), rough, [][]api.Frac{fracs("1"), fracs("0")}, "0", 0, api.OK},
		{two, pair, [][]api.Frac{fracs("1/2"), fracs("1/4"), fracs("0"), fracs("1")}, "0 1/2", 2, api.OK},
		{chainOf(2, double), api.Grid{}, nil, "", 0, api.ErrChain},
		{chainOf(1, square), api.Grid{}, nil, "", 0, api.ErrGrid},
		{two, rough, many, "", 0, api.ErrArg}, {chainOf(2), pair, many, "", 0, api.ErrArg},
		{two, pair, many, "", 0, api.ErrLong},
		{two, pair, many[:100], "", 0, api.ErrArg},
		{two, pair, [][]api.Frac{fracs("1/2"), {{}}}, "", 0, api.ErrFrac},
		{two, pair, [][]api.Frac{fracs("2")}, "", 0, api.ErrArg},
		{chainOf(1, curves(root)), rough, third, "", 0, api.ErrForm},
		{chainOf(1), api.Grid{Size: []int{2}, Out: 1, Data: []int{0, 1}}, [][]api.Frac{{{N: "1", D: api.Whole(strings.Repeat("9", 600))}}}, "", 0, api.ErrBig},
	} {
		most, at, e := Worst(x.c, x.g, x.x)
		if !slices.Equal(most, fracs(x.most)) || at != x.at || e != x.e {
			t.Errorf("%d: %v, %d, %d", i, most, at, e)
		}
	}
}

func someElement(r *rand.Rand) api.Element {
	switch r.Intn(4) {
	case 0:
		return curves(tent, api.Curve{Kind: api.CuTable, Table: []int{r.Intn(65536), r.Intn(65536), r.Intn(65536)}})
	case 1:
		a, b := r.Intn(1000001), r.Intn(1000001)
		return matrix([]int{0, 0}, []int{a, 1000000 - a}, []int{b, 1000000 - b})
	case 2:
		x := api.Element{Kind: api.ElGrid, Grid: api.Grid{Size: []int{3, 2}, Out: 2}}
		for range 12 {
			x.Grid.Data = append(x.Grid.Data, r.Intn(65536))
		}
		return x
	}
	return program(2, 2, api.Op{Code: api.PuIn}, api.Op{Code: api.PuIn, Arg: 1}, api.Op{Code: api.PuMul}, api.Op{Code: api.PuIn}, api.Op{Code: api.PuIn, Arg: 1}, api.Op{Code: api.PuMax})
}

// P20.3
func TestSome(t *testing.T) {
	r := rand.New(rand.NewSource(1))
	half := fr("1/131070")
	for range 150 {
		c := chainOf(2)
		for range r.Intn(4) {
			c.Elements = append(c.Elements, someElement(r))
		}
		size := []int{2 + r.Intn(4), 2 + r.Intn(4)}
		g, bound, e := Bake(c, size)
		if e != api.OK || grid.Check(g) != api.OK {
			t.Fatalf("Bake(%v): %v, %d", c, g, e)
		}
		var x, y [][]api.Frac
		for range 6 {
			a, _ := frac.Of(r.Intn(101), 100)
			b, _ := frac.Of(r.Intn(8), 7)
			x = append(x, []api.Frac{a, b})
			a, _ = frac.Of(r.Intn(size[0]), size[0]-1)
			b, _ = frac.Of(r.Intn(size[1]), size[1]-1)
			y = append(y, []api.Frac{a, b})
		}
		most, at, e := Worst(c, g, x)
		exact, _ := chain.Eval(c, x[at])
		rough, _ := simplex.Eval(g, x[at])
		atNodes, _, e2 := Worst(c, g, y)
		found := false
		for out, away := range most {
			order, _ := frac.Cmp(away, bound[out])
			node, _ := frac.Cmp(atNodes[out], half)
			if order > 0 || node > 0 || e != api.OK || e2 != api.OK {
				t.Fatalf("Worst(%v): %v, %v, %d; bound %v", c, most, atNodes, e, bound)
			}
			difference, _ := frac.Sub(exact[out], rough[out])
			difference, _ = frac.Abs(difference)
			found = found || difference == away
		}
		if !found {
			t.Fatalf("Worst(%v): %v is not at %v", c, most, x[at])
		}
	}
}

// P20.3
func TestGridOfGrid(t *testing.T) {
	r := rand.New(rand.NewSource(2))
	for range 30 {
		x := someElement(r)
		for x.Kind != api.ElGrid {
			x = someElement(r)
		}
		if g, _, e := Bake(chainOf(2, x), x.Grid.Size); !grid.Same(g, x.Grid) || e != api.OK {
			t.Fatalf("Bake(%v): %v, %d", x, g, e)
		}
	}
}
