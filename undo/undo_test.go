package undo

import (
	"math/big"
	"math/rand"
	"slices"
	"strings"
	"testing"

	"verdigris/api"
	"verdigris/chain"
	"verdigris/curve"
	"verdigris/element"
	"verdigris/frac"
	"verdigris/matrix"
)

func fr(text string) api.Frac {
	x, ok := new(big.Rat).SetString(text)
	if !ok {
		panic(text)
	}
	return api.Frac{N: api.Whole(x.Num().String()), D: api.Whole(x.Denom().String())}
}

func fracs(text string) []api.Frac {
	var l []api.Frac
	for _, word := range strings.Fields(text) {
		l = append(l, fr(word))
	}
	return l
}

func points(text string) [][2]api.Frac {
	var out [][2]api.Frac
	for _, word := range strings.Fields(text) {
		x, y, _ := strings.Cut(word, ",")
		out = append(out, [2]api.Frac{fr(x), fr(y)})
	}
	return out
}

func chainOf(in int, l ...api.Element) api.Chain { return api.Chain{In: in, Elements: l} }

func matrixOf(offset []int, rows ...[]int) api.Element {
	return api.Element{Kind: api.ElMatrix, Rows: rows, Offset: offset}
}

func curves(l ...api.Curve) api.Element { return api.Element{Kind: api.ElCurves, Curves: l} }

func table(l ...int) api.Curve { return api.Curve{Kind: api.CuTable, Table: l} }

func formula(l ...api.Segment) api.Curve { return api.Curve{Kind: api.CuFormula, Segments: l} }

func line(till, mul, add, off int) api.Segment {
	return api.Segment{Till: till, Mul: mul, Add: add, Num: 1, Den: 1, Off: off}
}

var (
	same    = api.Curve{Kind: api.CuIdentity}
	tent    = table(0, 65535, 0)
	steep   = formula(line(1000000, 2000000, -500000, 0))
	jump    = formula(line(500000, 0, 0, 0), line(1000000, 0, 0, 1))
	square  = formula(api.Segment{Till: 1000000, Mul: 1000000, Num: 2, Den: 1})
	root    = formula(api.Segment{Till: 1000000, Mul: 1000000, Num: 1, Den: 2})
	hidden  = formula(line(500000, 0, 0, -5), line(1000000, 0, 0, -7))
	program = api.Element{Kind: api.ElProgram, In: 1, Out: 1, Program: []api.Op{{Code: api.PuIn}}}
)

// P21.1
func TestKnots(t *testing.T) {
	for i, x := range []struct {
		c    api.Curve
		want string
		e    api.Errno
	}{
		{same, "0,0 1,1", api.OK}, {tent, "0,0 1/2,1 1,0", api.OK}, {table(5, 5, 5), "0,1/13107 1/2,1/13107 1,1/13107", api.OK},
		{steep, "0,0 1/4,0 3/4,1 1,1", api.OK}, {hidden, "0,0 1/2,0 1,0", api.OK},
		{formula(line(1000000, 1000000, 0, 0)), "0,0 1,1", api.OK},
		{formula(line(1000000, 4000000, -1000000, -500000)), "0,0 1/4,0 3/8,0 5/8,1 1,1", api.OK},
		{formula(line(1000000, -2000000, 1500000, 250000)), "0,1 3/8,1 3/4,1/4 7/8,1/4 1,1/4", api.OK},
		{formula(line(250000, 2000000, 0, 0), line(1000000, 0, 500000, 0)), "0,0 1/4,1/2 1,1/2", api.OK},
		{formula(line(500000, 4000000, 0, 0), line(1000000, -4000000, 4000000, 0)), "0,0 1/4,1 1/2,1 3/4,1 1,0", api.OK},
		{jump, "", api.ErrForm}, {square, "", api.ErrForm}, {root, "", api.ErrForm},
		{api.Curve{}, "", api.ErrCurve}, {table(5), "", api.ErrCurve},
	} {
		if got, e := Knots(x.c); !slices.Equal(got, points(x.want)) || e != x.e {
			t.Errorf("%d: %v, %d", i, got, e)
		}
	}
}

// P21.1
func TestPreimage(t *testing.T) {
	tiny := api.Frac{N: "1", D: api.Whole(strings.Repeat("9", 600))}
	for i, x := range []struct {
		c    api.Curve
		y    api.Frac
		want string
		e    api.Errno
	}{
		{tent, fr("1/3"), "1/6 5/6", api.OK}, {tent, fr("1"), "1/2 1/2", api.OK}, {tent, fr("0"), "0 1", api.OK}, {tent, fr("2"), "", api.ErrNone}, {tent, fr("-1"), "", api.ErrNone},
		{steep, fr("0"), "0 1/4", api.OK}, {steep, fr("1/2"), "1/2 1/2", api.OK}, {steep, fr("1"), "3/4 1", api.OK},
		{table(5, 5, 5), fr("1/13107"), "0 1", api.OK}, {table(5, 5, 5), fr("0"), "", api.ErrNone},
		{table(65535, 0, 0, 65535), fr("0"), "1/3 2/3", api.OK}, {table(0, 30000, 30000, 0, 60000), fr("30000/65535"), "1/4 7/8", api.OK},
		{same, fr("2/7"), "2/7 2/7", api.OK}, {same, fr("8/7"), "", api.ErrNone},
		{tent, api.Frac{}, "", api.ErrFrac}, {api.Curve{}, api.Frac{}, "", api.ErrCurve}, {jump, api.Frac{}, "", api.ErrFrac}, {jump, fr("2"), "", api.ErrForm}, {root, fr("2"), "", api.ErrForm},
		{table(0, 7), tiny, "", api.ErrBig}, {table(7, 7), tiny, "", api.ErrNone},
	} {
		low, high, e := Preimage(x.c, x.y)
		want := fracs(x.want)
		if want == nil {
			want = make([]api.Frac, 2)
		}
		if low != want[0] || high != want[1] || e != x.e {
			t.Errorf("%d: %v, %v, %d", i, low, high, e)
		}
	}
}

func somePolyline(r *rand.Rand) api.Curve {
	if r.Intn(2) == 0 {
		var l []int
		for range 2 + r.Intn(7) {
			l = append(l, r.Intn(6)*13107)
		}
		return table(l...)
	}
	// Segments that go on where the one before ends.
	var l []api.Segment
	till, at := 0, r.Intn(1000001)
	for range 1 + r.Intn(3) {
		from := till
		till += 100000 * (1 + r.Intn(3))
		mul := (r.Intn(9) - 4) * 1000000
		l = append(l, line(till, mul, at-mul/1000000*from, 0))
		at = min(max(at+mul/1000000*(till-from), 0), 1000000)
	}
	last := &l[len(l)-1]
	last.Till = 1000000
	return formula(l...)
}

// P21.1, P21.4
func TestPreimages(t *testing.T) {
	r := rand.New(rand.NewSource(1))
	for range 800 {
		c := somePolyline(r)
		l, e := Knots(c)
		if e != api.OK {
			t.Fatalf("Knots(%v): %d", c, e)
		}
		// Between two knots the values lie on a line.
		for i := range l[1:] {
			share, _ := frac.Of(r.Intn(101), 100)
			x, _ := frac.Mul(share, sub(l[i+1][0], l[i][0]))
			x, _ = frac.Add(x, l[i][0])
			y, _ := frac.Mul(share, sub(l[i+1][1], l[i][1]))
			y, _ = frac.Add(y, l[i][1])
			if got, _ := curve.Eval(c, x); got != y || order(l[i][0], l[i+1][0]) >= 0 {
				t.Fatalf("Knots(%v): %v, but %v at %v", c, l, got, x)
			}
		}
		y, _ := frac.Of(r.Intn(7)-1, 5)
		low, high, e := Preimage(c, y)
		if e == api.OK {
			a, _ := curve.Eval(c, low)
			b, _ := curve.Eval(c, high)
			if a != y || b != y || order(low, high) > 0 {
				t.Fatalf("Preimage(%v, %v): %v, %v", c, y, low, high)
			}
		}
		for n := range 61 {
			x, _ := frac.Of(n, 60)
			if v, _ := curve.Eval(c, x); v == y && (e != api.OK || order(x, low) < 0 || order(x, high) > 0) {
				t.Fatalf("Preimage(%v, %v): %v, %v, %d, but %v has it", c, y, low, high, e, x)
			}
		}
		if e == api.ErrNone {
			below, above := true, true
			for _, k := range l {
				below, above = below && order(k[1], y) < 0, above && order(k[1], y) > 0
			}
			if !below && !above {
				t.Fatalf("Preimage(%v, %v): none", c, y)
			}
		}
	}
}

func sub(a, b api.Frac) api.Frac {
	c, _ := frac.Sub(a, b)
	return c
}

// P21.2
func TestInverse(t *testing.T) {
	rows, offset, e := Inverse(matrixOf([]int{1000000, 0}, []int{2000000, 0}, []int{0, 500000}))
	if !matrix.Same(rows, api.Mat{fracs("1/2 0"), fracs("0 2")}) || !slices.Equal(offset, fracs("-1/2 0")) || e != api.OK {
		t.Errorf("Inverse: %v, %v, %d", rows, offset, e)
	}
	for i, x := range []struct {
		x api.Element
		e api.Errno
	}{
		{api.Element{}, api.ErrElement}, {curves(same), api.ErrForm}, {program, api.ErrForm}, {matrixOf([]int{0}, []int{1, 2}), api.ErrForm}, {matrixOf([]int{0, 0}, []int{1}, []int{2}), api.ErrForm},
		{matrixOf([]int{0, 0}, []int{1, 2}, []int{2, 4}), api.ErrZero}, {matrixOf([]int{0}, []int{0}), api.ErrZero},
	} {
		if rows, offset, e := Inverse(x.x); rows != nil || offset != nil || e != x.e {
			t.Errorf("%d: %v, %v, %d", i, rows, offset, e)
		}
	}
	r := rand.New(rand.NewSource(2))
	for range 300 {
		x := someMatrix(r, 1+r.Intn(4))
		rows, offset, e := Inverse(x)
		if e != api.OK {
			continue
		}
		var in []api.Frac
		for range x.Rows {
			a, _ := frac.Of(r.Intn(41)-20, 7)
			in = append(in, a)
		}
		out, _ := element.Eval(x, in)
		back, _ := matrix.Apply(rows, out)
		for i := range back {
			if back[i], _ = frac.Add(back[i], offset[i]); back[i] != in[i] {
				t.Fatalf("Inverse(%v): %v, %v", x, rows, offset)
			}
		}
	}
}

func someMatrix(r *rand.Rand, n int) api.Element {
	x := api.Element{Kind: api.ElMatrix}
	for range n {
		var row []int
		for range n {
			row = append(row, r.Intn(2000001)-1000000)
		}
		x.Rows = append(x.Rows, row)
		x.Offset = append(x.Offset, r.Intn(2000001)-1000000)
	}
	return x
}

// P21.3
func TestBack(t *testing.T) {
	half := matrixOf([]int{0}, []int{500000})
	tiny := api.Frac{N: "1", D: api.Whole(strings.Repeat("9", 600))}
	seventh := matrixOf([]int{1}, []int{7})
	singular := matrixOf([]int{0}, []int{0})
	for i, x := range []struct {
		c    api.Chain
		out  []api.Frac
		want string
		e    api.Errno
	}{
		{chainOf(1, curves(steep)), fracs("1/2"), "1/2", api.OK}, {chainOf(1, curves(steep)), fracs("0"), "", api.ErrFail}, {chainOf(1, curves(tent)), fracs("1/2"), "", api.ErrFail}, {chainOf(1, curves(tent)), fracs("1"), "1/2", api.OK}, {chainOf(1, curves(tent)), fracs("2"), "", api.ErrNone},
		{chainOf(1, half), fracs("1/4"), "1/2", api.OK}, {chainOf(1, half), fracs("1"), "", api.ErrNone}, {chainOf(1, half), fracs("-1"), "", api.ErrNone}, {chainOf(1, half), fracs("1/2"), "1", api.OK}, {chainOf(1, half), fracs("0"), "0", api.OK},
		{chainOf(1, program), fracs("1"), "", api.ErrForm}, {chainOf(1, curves(root)), fracs("1"), "", api.ErrForm}, {chainOf(1, curves(square)), fracs("1"), "", api.ErrForm}, {chainOf(1, curves(jump)), fracs("1"), "", api.ErrForm},
		{chainOf(1, matrixOf([]int{0, 0}, []int{1}, []int{2})), fracs("1 1"), "", api.ErrForm}, {chainOf(1, program, half), []api.Frac{{}}, "", api.ErrFrac}, {chainOf(1, program, half), nil, "", api.ErrArg}, {chainOf(1, half), make([]api.Frac, 2), "", api.ErrArg},
		{chainOf(2, half), nil, "", api.ErrChain}, {chainOf(2), fracs("1/3 1"), "1/3 1", api.OK}, {chainOf(2), fracs("1/3 2"), "", api.ErrNone},
		{chainOf(1, singular), fracs("0"), "", api.ErrZero}, {chainOf(1, singular, curves(tent)), fracs("0"), "", api.ErrFail}, {chainOf(1, curves(tent), singular), fracs("0"), "", api.ErrZero}, {chainOf(1, curves(root), singular), fracs("0"), "", api.ErrForm}, {chainOf(1, program, singular), fracs("0"), "", api.ErrForm},
		{chainOf(1, seventh), []api.Frac{tiny}, "", api.ErrBig}, {chainOf(1, curves(table(0, 7))), []api.Frac{tiny}, "", api.ErrBig},
		{chainOf(1, curves(table(65535, 0)), half, half), fracs("1/5"), "1/5", api.OK},
		{chainOf(2, matrixOf([]int{0, 0}, []int{0, 1000000}, []int{1000000, 0}), curves(same, table(65535, 0))), fracs("1/5 1/3"), "2/3 1/5", api.OK},
	} {
		if got, e := Back(x.c, x.out); !slices.Equal(got, fracs(x.want)) || e != x.e {
			t.Errorf("%d: %v, %d", i, got, e)
		}
	}
}

// P21.4
func TestRoundTrips(t *testing.T) {
	r := rand.New(rand.NewSource(3))
	rising := func() api.Curve {
		l := []int{r.Intn(9)}
		for range 1 + r.Intn(5) {
			l = append(l, l[len(l)-1]+1+r.Intn(9000))
		}
		if r.Intn(2) == 0 {
			slices.Reverse(l)
		}
		return table(l...)
	}
	tried := 0
	for range 400 {
		a, b := r.Intn(400001), 200000+r.Intn(400001)
		mix := matrixOf([]int{0, 0}, []int{a, b}, []int{1000000 - b, a / 2})
		c := chainOf(2, curves(rising(), rising()), mix, curves(rising(), rising()))
		x, _ := frac.Of(r.Intn(14), 13)
		y, _ := frac.Of(r.Intn(8), 7)
		out, e := chain.Eval(c, []api.Frac{x, y})
		if e != api.OK {
			t.Fatalf("Eval: %d", e)
		}
		back, e := Back(c, out)
		if e == api.ErrZero {
			continue
		}
		tried++
		if !slices.Equal(back, []api.Frac{x, y}) || e != api.OK {
			t.Fatalf("Back(%v, %v): %v, %d; want %v, %v", c, out, back, e, x, y)
		}
		other, _ := frac.Of(r.Intn(100), 99)
		if back, e := Back(c, []api.Frac{other, out[1]}); e == api.OK {
			if again, _ := chain.Eval(c, back); !slices.Equal(again, []api.Frac{other, out[1]}) {
				t.Fatalf("Eval(%v) at what Back returns: %v", c, again)
			}
		}
	}
	if tried < 300 {
		t.Errorf("only %d trips", tried)
	}
}
