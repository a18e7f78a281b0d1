package slope

import (
	"math/big"
	"math/rand"
	"slices"
	"strings"
	"testing"

	"verdigris/api"
	"verdigris/chain"
	"verdigris/frac"
)

func fr(text string) api.Frac {
	x, ok := new(big.Rat).SetString(text)
	if !ok {
		panic(text)
	}
	return api.Frac{N: api.Whole(x.Num().String()), D: api.Whole(x.Denom().String())}
}

// ranges reads ranges, written as low:high.
func ranges(text string) []api.Range {
	var out []api.Range
	for _, word := range strings.Fields(text) {
		low, high, _ := strings.Cut(word, ":")
		out = append(out, api.Range{Low: fr(low), High: fr(high)})
	}
	return out
}

func fracs(text string) []api.Frac {
	var l []api.Frac
	for _, word := range strings.Fields(text) {
		l = append(l, fr(word))
	}
	return l
}

func chainOf(in int, l ...api.Element) api.Chain { return api.Chain{In: in, Elements: l} }

func op(code int, arg ...int) api.Op {
	if len(arg) == 0 {
		return api.Op{Code: code}
	}
	return api.Op{Code: code, Arg: arg[0]}
}

func program(in, out int, p ...api.Op) api.Element {
	return api.Element{Kind: api.ElProgram, In: in, Out: out, Program: p}
}

func curves(l ...api.Curve) api.Element { return api.Element{Kind: api.ElCurves, Curves: l} }

func formulaOf(l ...api.Segment) api.Curve { return api.Curve{Kind: api.CuFormula, Segments: l} }

var (
	identity = api.Curve{Kind: api.CuIdentity}
	tent     = api.Curve{Kind: api.CuTable, Table: []int{0, 65535, 0}}
	matrix   = api.Element{Kind: api.ElMatrix, Rows: [][]int{{500000, 500000}, {1000000, -1000000}}, Offset: []int{0, 250000}}
	half     = api.Element{Kind: api.ElMatrix, Rows: [][]int{{500000}}, Offset: []int{0}}
	shifted  = api.Element{Kind: api.ElMatrix, Rows: [][]int{{500000}}, Offset: []int{250000}}
	wide     = api.Element{Kind: api.ElMatrix, Rows: [][]int{{4000000}}, Offset: []int{-2000000}}
	grid     = api.Element{Kind: api.ElGrid, Grid: api.Grid{Size: []int{2, 3}, Out: 2, Data: []int{0, 65535, 10, 100, 20, 200, 30, 300, 40, 400, 50, 500}}}
	square   = formulaOf(api.Segment{Till: 500000, Mul: 1000000, Num: 2, Den: 1}, api.Segment{Till: 1000000, Mul: -2000000, Add: 2000000, Num: 3, Den: 1, Off: -750000})
	smooth   = formulaOf(api.Segment{Till: 500000, Mul: 1000000, Num: 2, Den: 1}, api.Segment{Till: 1000000, Mul: -1000000, Add: 1000000, Num: 1, Den: 1, Off: -250000})
	jump     = formulaOf(api.Segment{Till: 500000, Num: 1, Den: 1}, api.Segment{Till: 1000000, Num: 1, Den: 1, Off: 1})
	hidden   = formulaOf(api.Segment{Till: 500000, Num: 1, Den: 1, Off: -5}, api.Segment{Till: 1000000, Num: 1, Den: 1, Off: -7})
	root     = formulaOf(api.Segment{Till: 1000000, Mul: 1000000, Num: 1, Den: 2})
)

// P17.1
func TestReach(t *testing.T) {
	for i, x := range []struct {
		c    api.Chain
		want []string
	}{
		{chainOf(2), []string{"0:1 0:1"}},
		{chainOf(2, matrix), []string{"0:1 0:1", "0:1 -3/4:5/4"}},
		{chainOf(2, curves(tent, identity), matrix), []string{"0:1 0:1", "0:1 0:1", "0:1 -3/4:5/4"}},
		{chainOf(1, half, curves(tent)), []string{"0:1", "0:1/2", "0:1"}},
		{chainOf(1, half, half, curves(tent)), []string{"0:1", "0:1/2", "0:1/4", "0:1/2"}},
		{chainOf(1, wide, curves(identity)), []string{"0:1", "-2:2", "0:1"}},
		{chainOf(1, shifted, curves(tent)), []string{"0:1", "1/4:3/4", "1/2:1"}},
		{chainOf(1, shifted, curves(identity)), []string{"0:1", "1/4:3/4", "1/4:3/4"}},
		{chainOf(2, grid), []string{"0:1 0:1", "0:10/13107 100/65535:1"}},
		{chainOf(1, shifted, curves(square)), []string{"0:1", "1/4:3/4", "0:1/4"}},
		{chainOf(1, half, curves(square)), []string{"0:1", "0:1/2", "0:1/4"}},
		{chainOf(1, half, curves(square), curves(square)), []string{"0:1", "0:1/2", "0:1/4", "0:1/16"}},
		{chainOf(1, curves(square)), []string{"0:1", "0:1/4"}},
		{chainOf(1, api.Element{Kind: api.ElMatrix, Rows: [][]int{{0}}, Offset: []int{0}}, curves(jump)), []string{"0:1", "0:0", "0:0"}},
		{chainOf(1, api.Element{Kind: api.ElMatrix, Rows: [][]int{{0}}, Offset: []int{500000}}, curves(jump)), []string{"0:1", "1/2:1/2", "0:0"}},
		{chainOf(1, wide, curves(square)), []string{"0:1", "-2:2", "0:1/4"}},
		{chainOf(1, curves(jump)), []string{"0:1", "0:1/1000000"}},
		{chainOf(1, half, curves(jump)), []string{"0:1", "0:1/2", "0:0"}},
		{chainOf(1, curves(formulaOf(api.Segment{Till: 1000000, Mul: 5000000, Num: 1, Den: 1, Off: -1000000}))), []string{"0:1", "0:1"}},
		{chainOf(1, shifted, curves(formulaOf(api.Segment{Till: 1000000, Mul: -1000000, Add: 1000000, Num: 2, Den: 1}))), []string{"0:1", "1/4:3/4", "1/16:9/16"}},
	} {
		got, e := Reach(x.c)
		if e != api.OK || len(got) != len(x.want) {
			t.Errorf("Reach %d: %v, %d", i, got, e)
			continue
		}
		for k, text := range x.want {
			if !slices.Equal(got[k], ranges(text)) {
				t.Errorf("Reach %d at %d: %v", i, k, got[k])
			}
		}
	}
}

// behind returns what a program, on the inputs from -1/2 to 3/2 and from 1/4 to 3/4, reaches.
func behind(p ...api.Op) ([][]api.Range, [][]api.Frac, api.Errno, api.Errno) {
	spread := api.Element{Kind: api.ElMatrix, Rows: [][]int{{2000000, 0}, {0, 500000}}, Offset: []int{-500000, 250000}}
	c := chainOf(2, spread, program(2, 1, p...))
	got, e := Reach(c)
	slopes, e2 := Slope(c)
	return got, slopes, e, e2
}

// P17.1, P17.2: every step of a program.
func TestPrograms(t *testing.T) {
	a, b := op(api.PuIn, 0), op(api.PuIn, 1)
	for i, x := range []struct {
		p             []api.Op
		ranges, slope string
	}{
		{[]api.Op{a}, "-1/2:3/2", "2 0"},
		{[]api.Op{op(api.PuNum, -7)}, "-7/1000000:-7/1000000", "0 0"},
		{[]api.Op{a, b, op(api.PuAdd)}, "-1/4:9/4", "2 1/2"},
		{[]api.Op{a, b, op(api.PuSub)}, "-5/4:5/4", "2 1/2"},
		{[]api.Op{a, b, op(api.PuMul)}, "-3/8:9/8", "3/2 3/4"},
		{[]api.Op{a, a, op(api.PuMul)}, "-3/4:9/4", "6 0"},
		{[]api.Op{a, op(api.PuNeg), a, op(api.PuMul)}, "-9/4:3/4", "6 0"},
		{[]api.Op{a, b, op(api.PuMin)}, "-1/2:3/4", "2 1/2"},
		{[]api.Op{a, b, op(api.PuMax)}, "1/4:3/2", "2 1/2"},
		{[]api.Op{b, a, op(api.PuMax)}, "1/4:3/2", "2 1/2"},
		{[]api.Op{b, a, op(api.PuMin)}, "-1/2:3/4", "2 1/2"},
		{[]api.Op{b, a, op(api.PuNum, 0), op(api.PuPick)}, "1/4:3/4", "0 1/2"},
		{[]api.Op{a, b, op(api.PuNum, -1), op(api.PuPick)}, "1/4:3/4", "0 1/2"},
		{[]api.Op{b, op(api.PuNum, 2000000), a, op(api.PuAbs), op(api.PuNeg), op(api.PuPick)}, "1/4:2", ""},
		{[]api.Op{a, op(api.PuNeg)}, "-3/2:1/2", "2 0"},
		{[]api.Op{a, op(api.PuAbs)}, "0:3/2", "2 0"},
		{[]api.Op{b, op(api.PuAbs)}, "1/4:3/4", "0 1/2"},
		{[]api.Op{b, op(api.PuNeg), op(api.PuAbs)}, "1/4:3/4", "0 1/2"},
		{[]api.Op{a, op(api.PuNeg), op(api.PuAbs)}, "0:3/2", "2 0"},
		{[]api.Op{a, b, b, op(api.PuPick)}, "-1/2:3/2", "2 0"},
		{[]api.Op{a, b, b, op(api.PuNeg), op(api.PuPick)}, "1/4:3/4", "0 1/2"},
		{[]api.Op{a, b, op(api.PuNum, 0), op(api.PuPick)}, "-1/2:3/2", "2 0"},
		{[]api.Op{a, b, a, op(api.PuPick)}, "-1/2:3/2", ""},
		{[]api.Op{b, op(api.PuNum, 2000000), a, op(api.PuPick)}, "1/4:2", ""},
		{[]api.Op{a, op(api.PuClamp)}, "0:1", "2 0"},
		{[]api.Op{b, op(api.PuCopy, 0), op(api.PuAdd)}, "1/2:3/2", "0 1"},
		{[]api.Op{a, b, op(api.PuCopy, 1), op(api.PuAdd), op(api.PuMin)}, "-1/2:3/2", "2 1/2"},
	} {
		got, slope, e, e2 := behind(x.p...)
		if e != api.OK || !slices.Equal(got[2], ranges(x.ranges)) {
			t.Errorf("Reach %d: %v, %d", i, got, e)
		}
		if x.slope == "" {
			if slope != nil || e2 != api.ErrForm {
				t.Errorf("Slope %d: %v, %d", i, slope, e2)
			}
		} else if e2 != api.OK || len(slope) != 1 || !slices.Equal(slope[0], fracs(x.slope)) {
			t.Errorf("Slope %d: %v, %d", i, slope, e2)
		}
	}
}

// P17.2
func TestSlope(t *testing.T) {
	for i, x := range []struct {
		c    api.Chain
		want []string
	}{
		{chainOf(3), []string{"1 0 0", "0 1 0", "0 0 1"}},
		{chainOf(2, matrix), []string{"1/2 1/2", "1 1"}},
		{chainOf(2, curves(tent, identity), matrix), []string{"1 1/2", "2 1"}},
		{chainOf(2, grid), []string{"30/65535 20/65535", "65235/65535 130870/65535"}},
		{chainOf(1, program(1, 1, op(api.PuIn, 0), op(api.PuIn, 0), op(api.PuNum, 1000000), op(api.PuSub), op(api.PuMul))), []string{"2"}},
		{chainOf(1, curves(api.Curve{Kind: api.CuTable, Table: []int{5, 5, 65535, 0}})), []string{"3"}},
		{chainOf(1, curves(smooth)), []string{"1"}},
		{chainOf(1, curves(api.Curve{Kind: api.CuTable, Table: []int{9, 9}})), []string{"0"}},
		{chainOf(1, curves(formulaOf(api.Segment{Till: 1000000, Mul: 2000000, Num: 3, Den: 1}))), []string{"24"}},
		{chainOf(1, curves(formulaOf(api.Segment{Till: 1000000, Mul: -3000000, Add: 2000000, Num: 2, Den: 1}))), []string{"12"}},
		{chainOf(1, curves(formulaOf(api.Segment{Till: 1000000, Add: 2000000, Num: 2, Den: 1}))), []string{"0"}},
		{chainOf(1, curves(formulaOf(api.Segment{Till: 1000000, Mul: 1000000, Add: -5000000, Num: 1, Den: 1}))), []string{"1"}},
		{chainOf(1, curves(hidden)), []string{"0"}},
		{chainOf(2, matrix, matrix), []string{"3/4 3/4", "3/2 3/2"}},
	} {
		got, e := Slope(x.c)
		if e != api.OK || len(got) != len(x.want) {
			t.Errorf("Slope %d: %v, %d", i, got, e)
			continue
		}
		for k, text := range x.want {
			if !slices.Equal(got[k], fracs(text)) {
				t.Errorf("Slope %d of output %d: %v", i, k, got[k])
			}
		}
	}
}

// P17.1, P17.2
func TestErrors(t *testing.T) {
	p := []api.Op{op(api.PuIn, 0)}
	for range 10 {
		p = append(p, op(api.PuCopy, 0), op(api.PuMul))
	}
	tiny := api.Element{Kind: api.ElMatrix, Rows: [][]int{{1}}, Offset: []int{999999937}}
	pick := program(1, 1, op(api.PuNum, 0), op(api.PuIn, 0), op(api.PuIn, 0), op(api.PuNum, 500000), op(api.PuSub), op(api.PuPick))
	for i, x := range []struct {
		c            api.Chain
		reach, slope api.Errno
	}{
		{api.Chain{}, api.ErrChain, api.ErrChain},
		{chainOf(3, matrix), api.ErrChain, api.ErrChain},
		{chainOf(1, curves(root)), api.ErrForm, api.ErrForm},
		{chainOf(1, curves(jump)), api.OK, api.ErrForm},
		{chainOf(1, curves(jump), tiny, program(1, 1, p...)), api.ErrBig, api.ErrForm},
		{chainOf(1, tiny, program(1, 1, p...)), api.ErrBig, api.ErrBig},
		{chainOf(1, tiny, program(1, 1, p...), curves(root)), api.ErrForm, api.ErrForm},
		{chainOf(1, curves(smooth)), api.OK, api.OK},
		{chainOf(1, pick), api.OK, api.ErrForm},
	} {
		got, e := Reach(x.c)
		if e != x.reach || e != api.OK && got != nil {
			t.Errorf("Reach %d: %v, %d", i, got, e)
		}
		slope, e := Slope(x.c)
		if e != x.slope || e != api.OK && slope != nil {
			t.Errorf("Slope %d: %v, %d", i, slope, e)
		}
	}
}

func someElement(r *rand.Rand) api.Element {
	switch r.Intn(4) {
	case 0:
		return curves([]api.Curve{identity, tent, square, smooth, {Kind: api.CuTable, Table: []int{r.Intn(65536), r.Intn(65536), r.Intn(65536), r.Intn(65536)}}}[r.Intn(5)], tent)
	case 1:
		n := func() int { return r.Intn(3000001) - 1500000 }
		return api.Element{Kind: api.ElMatrix, Rows: [][]int{{n(), n()}, {n(), n()}}, Offset: []int{n(), n()}}
	case 2:
		x := api.Element{Kind: api.ElGrid, Grid: api.Grid{Size: []int{3, 2}, Out: 2}}
		for range 12 {
			x.Grid.Data = append(x.Grid.Data, r.Intn(65536))
		}
		return x
	}
	code := func() api.Op { return op(api.PuAdd + r.Intn(5)) }
	last := []int{api.PuNeg, api.PuAbs, api.PuClamp}[r.Intn(3)]
	return program(2, 2, op(api.PuIn, 0), op(api.PuIn, 1), code(), op(api.PuIn, 1), op(api.PuNum, r.Intn(2000001)-1000000), code(), op(api.PuCopy, 1), code(), op(last))
}

// P17.3: numbers lie in their ranges, and results differ by no more than the slopes say.
func TestSome(t *testing.T) {
	r := rand.New(rand.NewSource(1))
	color := func() []api.Frac {
		x, _ := frac.Of(r.Intn(101), 100)
		y, _ := frac.Of(r.Intn(8), 7)
		return []api.Frac{x, y}
	}
	tried := 0
	for range 800 {
		var c api.Chain
		c.In = 2
		for range 1 + r.Intn(3) {
			c.Elements = append(c.Elements, someElement(r))
		}
		reach, e := Reach(c)
		if e != api.OK {
			t.Fatalf("Reach(%v): %d", c, e)
		}
		x, y := color(), color()
		for n := range len(c.Elements) + 1 {
			part, _ := chain.Cut(c, 0, n)
			values, e := chain.Eval(part, x)
			for i, v := range values {
				if e != api.OK || compare(v, reach[n][i].Low) < 0 || compare(v, reach[n][i].High) > 0 {
					t.Fatalf("Reach(%v) at %d: %v, but %v at %v", c, n, reach[n], values, x)
				}
			}
		}
		slope, e := Slope(c)
		if e == api.ErrForm {
			continue
		}
		tried++
		a, _ := chain.Eval(c, x)
		b, _ := chain.Eval(c, y)
		for out := range a {
			bound := zero()
			for in := range x {
				bound = add(bound, mul(slope[out][in], size(sub(x[in], y[in]))))
			}
			if e != api.OK || compare(size(sub(a[out], b[out])), bound) > 0 {
				t.Fatalf("Slope(%v): %v, %d; %v at %v, %v at %v", c, slope, e, a, x, b, y)
			}
		}
	}
	if tried < 300 {
		t.Errorf("only %d chains have slopes", tried)
	}
}
