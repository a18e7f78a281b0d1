package element

import (
	"math/big"
	"math/rand"
	"slices"
	"strings"
	"testing"

	"verdigris/api"
	"verdigris/band"
	"verdigris/curve"
	"verdigris/program"
	"verdigris/simplex"
)

const one = api.OneBand

func fr(text string) api.Frac {
	x, ok := new(big.Rat).SetString(text)
	if !ok {
		panic(text)
	}
	return of(x)
}

func of(x *big.Rat) api.Frac {
	return api.Frac{N: api.Whole(x.Num().String()), D: api.Whole(x.Denom().String())}
}

func value(a api.Frac) *big.Rat {
	x, _ := new(big.Rat).SetString(string(a.N) + "/" + string(a.D))
	return x
}

func fracs(text string) []api.Frac {
	var l []api.Frac
	for _, word := range strings.Fields(text) {
		l = append(l, fr(word))
	}
	return l
}

var (
	identity = api.Curve{Kind: api.CuIdentity}
	falling  = api.Curve{Kind: api.CuTable, Table: []int{65535, 0}}
	root     = api.Curve{Kind: api.CuFormula, Segments: []api.Segment{{Till: 1000000, Mul: 1000000, Num: 1, Den: 2}}}
	matrix   = api.Element{Kind: api.ElMatrix, Rows: [][]int{{500000, 500000}, {1000000, -1000000}}, Offset: []int{0, 250000}}
	curves   = api.Element{Kind: api.ElCurves, Curves: []api.Curve{identity, falling}}
	table    = api.Element{Kind: api.ElGrid, Grid: api.Grid{Size: []int{2, 2}, Out: 1, Data: []int{0, 13107, 26214, 65535}}}
	half     = api.Element{Kind: api.ElProgram, In: 2, Out: 1, Program: []api.Op{{Code: api.PuIn}, {Code: api.PuIn, Arg: 1}, {Code: api.PuAdd}, {Code: api.PuNum, Arg: 500000}, {Code: api.PuMul}}}
)

func with(x api.Element, change func(x *api.Element)) api.Element {
	change(&x)
	return x
}

var invalid = []api.Element{
	{}, {Kind: 5}, {Kind: -1}, {Kind: api.ElCurves}, {Kind: api.ElMatrix}, {Kind: api.ElGrid}, {Kind: api.ElProgram},
	with(curves, func(x *api.Element) { x.Kind = api.ElMatrix }),
	with(curves, func(x *api.Element) { x.Curves = make([]api.Curve, 2) }),
	with(curves, func(x *api.Element) { x.Curves = []api.Curve{identity, identity, identity, identity, identity} }),
	with(curves, func(x *api.Element) { x.Rows = matrix.Rows }),
	with(curves, func(x *api.Element) { x.Offset = matrix.Offset }),
	with(curves, func(x *api.Element) { x.Grid.Out = 1 }),
	with(curves, func(x *api.Element) { x.Grid.Size = []int{1} }),
	with(curves, func(x *api.Element) { x.Grid.Data = []int{1} }),
	with(curves, func(x *api.Element) { x.Program = half.Program }),
	with(curves, func(x *api.Element) { x.In = 2 }),
	with(curves, func(x *api.Element) { x.Out = 2 }),
	with(matrix, func(x *api.Element) { x.Offset = []int{0} }),
	with(matrix, func(x *api.Element) { x.Offset = []int{0, 1000000001} }),
	with(matrix, func(x *api.Element) { x.Rows = [][]int{{1, 2}, {1}} }),
	with(matrix, func(x *api.Element) { x.Rows = [][]int{{}, {}} }),
	with(matrix, func(x *api.Element) { x.Rows = [][]int{{1, 2, 3, 4, 5}, {1, 2, 3, 4, 5}} }),
	with(matrix, func(x *api.Element) { x.Rows = [][]int{{1, -1000000001}, {1, 2}} }),
	with(matrix, func(x *api.Element) { x.Rows, x.Offset = make([][]int, 5), make([]int, 5) }),
	with(matrix, func(x *api.Element) { x.Rows, x.Offset = [][]int{{1}, {1}, {1}, {1}, {1}}, make([]int, 5) }),
	with(matrix, func(x *api.Element) { x.Rows, x.Offset = nil, nil }),
	with(matrix, func(x *api.Element) { x.Curves = curves.Curves }),
	with(matrix, func(x *api.Element) { x.In = 2 }),
	with(table, func(x *api.Element) { x.Grid.Data = []int{1} }),
	with(table, func(x *api.Element) { x.Offset = []int{1} }),
	with(half, func(x *api.Element) { x.In = 1 }),
	with(half, func(x *api.Element) { x.Out = 2 }),
	with(half, func(x *api.Element) { x.Grid = table.Grid }),
	with(half, func(x *api.Element) { x.Curves = curves.Curves }),
}

// P13.1
func TestCheck(t *testing.T) {
	for i, x := range invalid {
		if e := Check(x); e != api.ErrElement {
			t.Errorf("Check of %d: %d", i, e)
		}
		if Exact(x) {
			t.Errorf("Exact of %d", i)
		}
		if n, e := Ins(x); n != 0 || e != api.ErrElement {
			t.Errorf("Ins of %d: %d, %d", i, n, e)
		}
		if n, e := Outs(x); n != 0 || e != api.ErrElement {
			t.Errorf("Outs of %d: %d, %d", i, n, e)
		}
		if l, e := Eval(x, nil); l != nil || e != api.ErrElement {
			t.Errorf("Eval of %d: %v, %d", i, l, e)
		}
		if l, e := Bands(x, nil); l != nil || e != api.ErrElement {
			t.Errorf("Bands of %d: %v, %d", i, l, e)
		}
		if !Same(x, x) {
			t.Errorf("Same of %d", i)
		}
	}
}

// P13.1
func TestNumbersOfElements(t *testing.T) {
	wide := api.Element{Kind: api.ElMatrix, Rows: [][]int{{1, 2, 3, 1000000000}}, Offset: []int{-1000000000}}
	for i, x := range []struct {
		x         api.Element
		ins, outs int
		exact     bool
	}{
		{matrix, 2, 2, true}, {curves, 2, 2, true}, {table, 2, 1, true}, {half, 2, 1, true}, {wide, 4, 1, true},
		{api.Element{Kind: api.ElCurves, Curves: []api.Curve{identity, root, falling}}, 3, 3, false},
		{api.Element{Kind: api.ElCurves, Curves: []api.Curve{falling}}, 1, 1, true},
		{api.Element{Kind: api.ElCurves, Curves: []api.Curve{falling, falling, falling, identity}}, 4, 4, true},
	} {
		if e := Check(x.x); e != api.OK {
			t.Errorf("Check of %d: %d", i, e)
		}
		if n, e := Ins(x.x); n != x.ins || e != api.OK {
			t.Errorf("Ins of %d: %d, %d", i, n, e)
		}
		if n, e := Outs(x.x); n != x.outs || e != api.OK {
			t.Errorf("Outs of %d: %d, %d", i, n, e)
		}
		if Exact(x.x) != x.exact {
			t.Errorf("Exact of %d", i)
		}
	}
}

// P13.1
func TestSame(t *testing.T) {
	base := api.Element{Kind: 9, Curves: curves.Curves, Rows: matrix.Rows, Offset: matrix.Offset, Grid: table.Grid, Program: half.Program, In: 2, Out: 3}
	if !Same(base, base) || !Same(api.Element{Curves: []api.Curve{}, Rows: [][]int{nil}}, api.Element{Rows: [][]int{{}}, Offset: []int{}, Program: []api.Op{}}) {
		t.Error("Same is false")
	}
	for i, change := range []func(x *api.Element){
		func(x *api.Element) { x.Kind = 1 },
		func(x *api.Element) { x.Curves = []api.Curve{identity, identity} },
		func(x *api.Element) { x.Curves = nil },
		func(x *api.Element) { x.Rows = [][]int{{500000, 500000}, {1000000, 1000000}} },
		func(x *api.Element) { x.Rows = x.Rows[:1] },
		func(x *api.Element) { x.Offset = []int{0, 0} },
		func(x *api.Element) { x.Grid.Out = 2 },
		func(x *api.Element) { x.Program = x.Program[1:] },
		func(x *api.Element) { x.In = 1 },
		func(x *api.Element) { x.Out = 1 },
	} {
		if other := with(base, change); Same(base, other) || Same(other, base) {
			t.Errorf("Same with %d", i)
		}
	}
}

// P13.2
func TestEval(t *testing.T) {
	for i, x := range []struct {
		x        api.Element
		in, want string
	}{
		{matrix, "1/2 1/4", "3/8 1/2"}, {matrix, "3 -5", "-1 33/4"},
		{curves, "1/3 1/3", "1/3 2/3"}, {curves, "2 -1", "1 1"},
		{table, "1/2 1/4", "7/20"}, {half, "1/2 1/4", "3/8"}, {half, "5 -1/4", "19/8"},
	} {
		if got, e := Eval(x.x, fracs(x.in)); !slices.Equal(got, fracs(x.want)) || e != api.OK {
			t.Errorf("%d: %v, %d", i, got, e)
		}
	}
	long := api.Frac{N: "1", D: api.Whole(strings.Repeat("9", 600))}
	big := api.Frac{N: api.Whole(strings.Repeat("9", 600)), D: "1"}
	flat := api.Element{Kind: api.ElMatrix, Rows: [][]int{{0, 0}}, Offset: []int{7000000}}
	ten := api.Element{Kind: api.ElMatrix, Rows: [][]int{{10000000, -10000000}}, Offset: []int{0}}
	for i, x := range []struct {
		x  api.Element
		in []api.Frac
		e  api.Errno
	}{
		{matrix, nil, api.ErrArg}, {matrix, fracs("1/2"), api.ErrArg}, {matrix, []api.Frac{{}}, api.ErrArg}, {matrix, make([]api.Frac, 3), api.ErrArg},
		{matrix, []api.Frac{fr("1"), {}}, api.ErrFrac}, {curves, []api.Frac{fr("1"), {N: "2", D: "2"}}, api.ErrFrac}, {table, make([]api.Frac, 2), api.ErrFrac}, {half, make([]api.Frac, 2), api.ErrFrac},
		{api.Element{Kind: api.ElCurves, Curves: []api.Curve{identity, root}}, fracs("1 1/4"), api.ErrForm},
		{api.Element{Kind: api.ElCurves, Curves: []api.Curve{root, falling}}, []api.Frac{fr("1"), long}, api.ErrForm},
		{api.Element{Kind: api.ElCurves, Curves: []api.Curve{root, falling}}, []api.Frac{fr("1"), {}}, api.ErrFrac},
		{api.Element{Kind: api.ElCurves, Curves: []api.Curve{{Kind: api.CuTable, Table: []int{0, 1}}, root}}, []api.Frac{long, fr("1")}, api.ErrBig},
		{matrix, []api.Frac{fr("1"), long}, api.ErrBig}, {table, []api.Frac{fr("1"), long}, api.ErrBig}, {half, []api.Frac{fr("1"), long}, api.ErrBig},
		{ten, []api.Frac{big, big}, api.ErrBig},
	} {
		if got, e := Eval(x.x, x.in); got != nil || e != x.e {
			t.Errorf("%d: %v, %d", i, got, e)
		}
	}
	if got, e := Eval(flat, []api.Frac{big, long}); !slices.Equal(got, fracs("7")) || e != api.OK {
		t.Errorf("Eval: %v, %d", got, e)
	}
}

// P13.3
func TestBands(t *testing.T) {
	b := func(lo, hi int) api.Band { return api.Band{Lo: lo, Hi: hi} }
	third := api.Element{Kind: api.ElMatrix, Rows: [][]int{{333333}}, Offset: []int{1}}
	for i, x := range []struct {
		x        api.Element
		in, want []api.Band
		e        api.Errno
	}{
		{matrix, []api.Band{b(0, one), b(one, one)}, []api.Band{b(one/2, one), b(-3*one/4, one/4)}, api.OK},
		{curves, []api.Band{b(-one, one/4), b(0, one/4)}, []api.Band{b(0, one/4), b(3*one/4, one)}, api.OK},
		{third, []api.Band{b(1, 1)}, []api.Band{b(1000000, 1000001)}, api.OK},
		{half, []api.Band{b(0, one), b(one, one)}, []api.Band{b(one/2, one)}, api.OK},
		{matrix, []api.Band{b(1, 0)}, nil, api.ErrArg},
		{matrix, []api.Band{b(0, 0), b(1, 0)}, nil, api.ErrBand},
		{table, []api.Band{b(0, 0), b(1, 0)}, nil, api.ErrBand},
		{curves, nil, nil, api.ErrArg},
		{api.Element{Kind: api.ElMatrix, Rows: [][]int{{1000000000, 0}}, Offset: []int{0}}, []api.Band{b(0, 1001*one), b(1, 0)}, nil, api.ErrBand},
		{matrix, []api.Band{b(-api.MaxBand, 0), b(api.MaxBand, api.MaxBand)}, nil, api.ErrBig},
		{api.Element{Kind: api.ElMatrix, Rows: [][]int{{1000000000}}, Offset: []int{0}}, []api.Band{b(0, 1001*one)}, nil, api.ErrBig},
	} {
		if got, e := Bands(x.x, x.in); !slices.Equal(got, x.want) || e != x.e {
			t.Errorf("%d: %v, %d", i, got, e)
		}
	}
	in := []api.Band{b(one/4, one/2), b(0, one/3)}
	onGrid, _ := simplex.Bands(table.Grid, in)
	if got, e := Bands(table, in); !slices.Equal(got, onGrid) || e != api.OK {
		t.Errorf("Bands of a grid: %v, %d", got, e)
	}
	onProgram, _ := program.Bands(half.Program, in, 1)
	if got, e := Bands(half, in); !slices.Equal(got, onProgram) || e != api.OK {
		t.Errorf("Bands of a program: %v, %d", got, e)
	}
	square := api.Element{Kind: api.ElCurves, Curves: []api.Curve{root, falling}}
	first, _ := curve.Bands(root, in[0])
	second, _ := curve.Bands(falling, in[1])
	if got, e := Bands(square, in); !slices.Equal(got, []api.Band{first, second}) || e != api.OK {
		t.Errorf("Bands of curves: %v, %d", got, e)
	}
}

// P13.2, P13.3, P13.4: matrices against another implementation; the values at numbers that lie in bands.
func TestMatrices(t *testing.T) {
	r := rand.New(rand.NewSource(1))
	for range 500 {
		x := api.Element{Kind: api.ElMatrix}
		ins := 1 + r.Intn(4)
		for range 1 + r.Intn(4) {
			var row []int
			for range ins {
				row = append(row, r.Intn(4000001)-2000000)
			}
			x.Rows = append(x.Rows, row)
			x.Offset = append(x.Offset, r.Intn(2000001)-1000000)
		}
		var in, twice []api.Frac
		var wide []api.Band
		for range ins {
			lo := r.Intn(4*one) - 2*one
			hi := lo + r.Intn(one)
			wide = append(wide, api.Band{Lo: lo, Hi: hi})
			at := big.NewRat(int64(lo+r.Intn(hi-lo+1)), one)
			in = append(in, of(at))
			twice = append(twice, of(new(big.Rat).Add(at, at)))
		}
		got, e := Eval(x, in)
		double, _ := Eval(x, twice)
		onBands, e2 := Bands(x, wide)
		if e != api.OK || e2 != api.OK {
			t.Fatalf("Eval, Bands of %v: %d, %d", x, e, e2)
		}
		for i, row := range x.Rows {
			linear := new(big.Rat)
			for j, n := range row {
				linear.Add(linear, new(big.Rat).Mul(big.NewRat(int64(n), 1000000), value(in[j])))
			}
			offset := big.NewRat(int64(x.Offset[i]), 1000000)
			if got[i] != of(new(big.Rat).Add(linear, offset)) || double[i] != of(linear.Add(linear, linear).Add(linear, offset)) {
				t.Fatalf("Eval(%v, %v): %v", x, in, got)
			}
			if ok, _ := band.Has(onBands[i], got[i]); !ok {
				t.Fatalf("Bands(%v, %v): %v, not %v", x, wide, onBands, got)
			}
		}
	}
}

// P13.4
func TestUnits(t *testing.T) {
	unit := api.Element{Kind: api.ElMatrix, Rows: [][]int{{1000000, 0}, {0, 1000000}}, Offset: []int{0, 0}}
	same := api.Element{Kind: api.ElCurves, Curves: []api.Curve{identity, identity}}
	in := fracs("1/3 5/7")
	for _, x := range []api.Element{unit, same} {
		if got, e := Eval(x, in); !slices.Equal(got, in) || e != api.OK {
			t.Errorf("Eval(%v): %v, %d", x, got, e)
		}
	}
}
