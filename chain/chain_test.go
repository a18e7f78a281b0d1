package chain

import (
	"math/big"
	"math/rand"
	"slices"
	"strings"
	"testing"

	"verdigris/api"
	"verdigris/band"
	"verdigris/element"
	"verdigris/frac"
)

const one = api.OneBand

func fr(text string) api.Frac {
	x, ok := new(big.Rat).SetString(text)
	if !ok {
		panic(text)
	}
	return api.Frac{N: api.Whole(x.Num().String()), D: api.Whole(x.Denom().String())}
}

func fracs(text string) []api.Frac {
	var l []api.Frac
	for _, word := range strings.Fields(text) {
		l = append(l, fr(word))
	}
	return l
}

var (
	identity = api.Curve{Kind: api.CuIdentity}
	falling  = api.Curve{Kind: api.CuTable, Table: []int{65535, 0}}
	root     = api.Curve{Kind: api.CuFormula, Segments: []api.Segment{{Till: 1000000, Mul: 1000000, Num: 1, Den: 2}}}
	matrix   = api.Element{Kind: api.ElMatrix, Rows: [][]int{{500000, 500000}, {1000000, -1000000}}, Offset: []int{0, 250000}}
	curves   = api.Element{Kind: api.ElCurves, Curves: []api.Curve{identity, falling}}
	roots    = api.Element{Kind: api.ElCurves, Curves: []api.Curve{identity, root}}
	grid     = api.Element{Kind: api.ElGrid, Grid: api.Grid{Size: []int{2, 2}, Out: 1, Data: []int{0, 13107, 26214, 65535}}}
	spread   = api.Element{Kind: api.ElProgram, In: 1, Out: 3, Program: []api.Op{{Code: api.PuIn}, {Code: api.PuIn}, {Code: api.PuNeg}, {Code: api.PuIn}}}
	example  = chain(2, matrix, curves)
)

func chain(in int, l ...api.Element) api.Chain { return api.Chain{In: in, Elements: l} }

var invalid = []api.Chain{
	{}, chain(5), chain(-1), chain(1, matrix), chain(2, matrix, spread), chain(2, grid, matrix), chain(2, grid, spread, curves),
	chain(2, api.Element{}), chain(2, matrix, api.Element{Kind: api.ElCurves}),
	chain(2, matrix, matrix, matrix, matrix, matrix, matrix, matrix, matrix, matrix),
}

// P14.1
func TestCheck(t *testing.T) {
	for i, c := range invalid {
		if e := Check(c); e != api.ErrChain {
			t.Errorf("Check of %d: %d", i, e)
		}
		if Exact(c) {
			t.Errorf("Exact of %d", i)
		}
		if n, e := Outs(c); n != 0 || e != api.ErrChain {
			t.Errorf("Outs of %d: %d, %d", i, n, e)
		}
		if l, e := Eval(c, nil); l != nil || e != api.ErrChain {
			t.Errorf("Eval of %d: %v, %d", i, l, e)
		}
		if l, e := Bands(c, nil); l != nil || e != api.ErrChain {
			t.Errorf("Bands of %d: %v, %d", i, l, e)
		}
		for _, d := range []func() (api.Chain, api.Errno){
			func() (api.Chain, api.Errno) { return Join(c, example) },
			func() (api.Chain, api.Errno) { return Join(example, c) },
			func() (api.Chain, api.Errno) { return Cut(c, 0, -1) },
		} {
			if got, e := d(); !Same(got, api.Chain{}) || e != api.ErrChain {
				t.Errorf("%d: %v, %d", i, got, e)
			}
		}
	}
	for i, x := range []struct {
		c     api.Chain
		outs  int
		exact bool
	}{
		{chain(1), 1, true}, {chain(4), 4, true}, {example, 2, true}, {chain(2, grid, spread), 3, true}, {chain(2, curves, roots), 2, false},
		{chain(2, matrix, matrix, matrix, matrix, matrix, matrix, matrix, grid), 1, true},
	} {
		if e := Check(x.c); e != api.OK {
			t.Errorf("Check of %d: %d", i, e)
		}
		if n, e := Outs(x.c); n != x.outs || e != api.OK {
			t.Errorf("Outs of %d: %d, %d", i, n, e)
		}
		if Exact(x.c) != x.exact {
			t.Errorf("Exact of %d", i)
		}
	}
}

// P14.1
func TestSame(t *testing.T) {
	if !Same(example, chain(2, matrix, curves)) || !Same(chain(9), api.Chain{In: 9, Elements: []api.Element{}}) {
		t.Error("Same is false")
	}
	if Same(example, chain(3, matrix, curves)) || Same(example, chain(2, matrix)) || Same(example, chain(2, curves, matrix)) {
		t.Error("Same is true")
	}
}

// P14.2
func TestEval(t *testing.T) {
	for i, x := range []struct {
		c    api.Chain
		x    string
		want string
		e    api.Errno
	}{
		{example, "1/2 1/4", "3/8 1/2", api.OK},
		{example, "0 1", "1/2 1", api.OK},
		{chain(3), "0 1 1/3", "0 1 1/3", api.OK},
		{chain(2, matrix, matrix), "0 1", "-1/8 3/2", api.OK},
		{chain(2, grid, spread), "1/2 1/4", "7/20 -7/20 7/20", api.OK},
		{example, "3/2 0", "", api.ErrArg},
		{example, "0 -1/1000000", "", api.ErrArg},
		{example, "1/2", "", api.ErrArg},
		{example, "1/2 1 1", "", api.ErrArg},
		{example, "", "", api.ErrArg},
		{chain(3), "0 1", "", api.ErrArg},
		{chain(3), "0 1 1 1", "", api.ErrArg},
		{chain(2, matrix, roots), "1/2 1/2", "", api.ErrForm},
	} {
		if got, e := Eval(x.c, fracs(x.x)); !slices.Equal(got, fracs(x.want)) || e != x.e {
			t.Errorf("%d: %v, %d", i, got, e)
		}
	}
	for i, x := range [][]api.Frac{{fr("2"), {}}, {fr("1/2"), {N: "2", D: "2"}}} {
		if got, e := Eval(example, x); got != nil || e != api.ErrFrac {
			t.Errorf("Eval %d: %v, %d", i, got, e)
		}
	}
	long := api.Frac{N: "1", D: api.Whole(strings.Repeat("9", 600))}
	if got, e := Eval(example, []api.Frac{long, long}); got != nil || e != api.ErrBig {
		t.Errorf("Eval: %v, %d", got, e)
	}
}

// P14.2
func TestBands(t *testing.T) {
	b := func(lo, hi int) api.Band { return api.Band{Lo: lo, Hi: hi} }
	for i, x := range []struct {
		c    api.Chain
		x    []api.Band
		want []api.Band
		e    api.Errno
	}{
		{example, []api.Band{b(0, one), b(one, one)}, []api.Band{b(one/2, one), b(3*one/4, one)}, api.OK},
		{chain(1), []api.Band{b(0, one)}, []api.Band{b(0, one)}, api.OK},
		{example, []api.Band{b(0, one), b(0, one+1)}, nil, api.ErrArg},
		{example, []api.Band{b(-1, one), b(0, one)}, nil, api.ErrArg},
		{example, []api.Band{b(0, one)}, nil, api.ErrArg},
		{example, []api.Band{b(-1, one), b(1, 0)}, nil, api.ErrBand},
		{chain(2, matrix, roots), []api.Band{b(0, 0), b(0, 0)}, []api.Band{b(0, 0), b(one/2, one/2)}, api.OK},
	} {
		if got, e := Bands(x.c, x.x); !slices.Equal(got, x.want) || e != x.e {
			t.Errorf("%d: %v, %d", i, got, e)
		}
	}
	steep := api.Element{Kind: api.ElMatrix, Rows: [][]int{{1000000000}}, Offset: []int{0}}
	if got, e := Bands(chain(1, steep, steep, steep), []api.Band{b(0, one)}); got != nil || e != api.ErrBig {
		t.Errorf("Bands: %v, %d", got, e)
	}
}

// P14.3
func TestJoinAndCut(t *testing.T) {
	if c, e := Join(example, example); !Same(c, chain(2, matrix, curves, matrix, curves)) || e != api.OK {
		t.Errorf("Join: %v, %d", c, e)
	}
	if c, e := Join(example, chain(1)); !Same(c, api.Chain{}) || e != api.ErrForm {
		t.Errorf("Join: %v, %d", c, e)
	}
	four := chain(2, matrix, matrix, matrix, matrix)
	five := chain(2, matrix, matrix, matrix, matrix, curves)
	if c, e := Join(four, five); !Same(c, api.Chain{}) || e != api.ErrLong {
		t.Errorf("Join: %v, %d", c, e)
	}
	if c, e := Join(four, four); len(c.Elements) != 8 || e != api.OK {
		t.Errorf("Join: %v, %d", c, e)
	}
	if c, e := Join(four, chain(1, api.Element{Kind: api.ElCurves, Curves: []api.Curve{identity}}, spread, spread)); !Same(c, api.Chain{}) || e != api.ErrChain {
		t.Errorf("Join: %v, %d", c, e)
	}
	wide := chain(2, grid, spread)
	for i, x := range []struct {
		c        api.Chain
		from, to int
		want     api.Chain
		e        api.Errno
	}{
		{example, 1, 2, chain(2, curves), api.OK}, {example, 2, 2, chain(2), api.OK}, {example, 0, 0, chain(2), api.OK}, {example, 0, 2, example, api.OK},
		{wide, 1, 2, chain(1, spread), api.OK}, {wide, 2, 2, chain(3), api.OK}, {wide, 1, 1, chain(1), api.OK},
		{example, 1, 0, api.Chain{}, api.ErrArg}, {example, 0, 3, api.Chain{}, api.ErrArg}, {example, -1, 1, api.Chain{}, api.ErrArg}, {example, 3, 3, api.Chain{}, api.ErrArg},
	} {
		if c, e := Cut(x.c, x.from, x.to); !Same(c, x.want) || e != x.e {
			t.Errorf("Cut %d: %v, %d", i, c, e)
		}
	}
}

// P14.3: neither the arguments nor the memory behind them are written to.
func TestMemory(t *testing.T) {
	room := make([]api.Element, 3, 8)
	copy(room, []api.Element{matrix, curves, grid})
	c := chain(2, room[:2]...)
	joined, _ := Join(c, chain(2, grid, spread))
	cut, _ := Cut(api.Chain{In: 2, Elements: room}, 0, 1)
	_, _ = Join(cut, c)
	if !element.Same(room[2], grid) || !element.Same(room[1], curves) || len(joined.Elements) != 4 {
		t.Error("an argument was written to")
	}
	joined.Elements[0].Rows[0][0] = 7
	cut.Elements[0].Rows[0][0] = 7
	if matrix.Rows[0][0] != 500000 {
		t.Error("a result shares memory with an argument")
	}
}

// P14.4
func TestLaws(t *testing.T) {
	r := rand.New(rand.NewSource(1))
	pool := []api.Element{matrix, curves, roots}
	for range 300 {
		some := func() api.Chain {
			var l []api.Element
			for range r.Intn(3) {
				l = append(l, pool[r.Intn(len(pool))])
			}
			return chain(2, l...)
		}
		a, b, c := some(), some(), some()
		join := func(a, b api.Chain) api.Chain {
			d, e := Join(a, b)
			if e != api.OK {
				t.Fatalf("Join: %d", e)
			}
			return d
		}
		all := join(join(a, b), c)
		if !Same(all, join(a, join(b, c))) || !Same(all, join(all, chain(2))) || !Same(all, join(chain(2), all)) {
			t.Fatalf("joining %v, %v, %v", a, b, c)
		}
		at := r.Intn(len(all.Elements) + 1)
		left, _ := Cut(all, 0, at)
		right, _ := Cut(all, at, len(all.Elements))
		if !Same(join(left, right), all) {
			t.Fatalf("cutting %v at %d", all, at)
		}
		checkValues(t, r, left, right, all)
	}
}

func checkValues(t *testing.T, r *rand.Rand, left, right, all api.Chain) {
	lo, lo2 := r.Intn(one+1), r.Intn(one+1)
	x0, _ := frac.Of(lo, one)
	x1, _ := frac.Of(lo2, one)
	value, e := Eval(all, []api.Frac{x0, x1})
	between, e1 := Eval(left, []api.Frac{x0, x1})
	if e1 == api.OK {
		if second, e2 := Eval(right, between); e2 == api.OK && (!slices.Equal(second, value) || e != api.OK) {
			t.Fatalf("Eval of %v, %v at %v: %v", left, right, x0, second)
		}
	}
	wide := []api.Band{{Lo: lo, Hi: lo + r.Intn(one-lo+1)}, {Lo: lo2, Hi: lo2 + r.Intn(one-lo2+1)}}
	onBands, e2 := Bands(all, wide)
	if e != api.OK || e2 != api.OK {
		return
	}
	for i, b := range onBands {
		if ok, _ := band.Has(b, value[i]); !ok {
			t.Fatalf("Bands(%v, %v): %v, not %v", all, wide, onBands, value)
		}
	}
}
