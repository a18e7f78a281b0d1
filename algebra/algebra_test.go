package algebra

import (
	"math/rand"
	"slices"
	"testing"

	"verdigris/api"
	"verdigris/chain"
	"verdigris/frac"
)

func chainOf(in int, l ...api.Element) api.Chain { return api.Chain{In: in, Elements: l} }

func op(code int, arg ...int) api.Op {
	if len(arg) == 0 {
		return api.Op{Code: code}
	}
	return api.Op{Code: code, Arg: arg[0]}
}

func program(in, out int, p ...api.Op) api.Element {
	return api.Element{Kind: api.ElProgram, In: in, Out: out, Program: p}
}

func curves(l ...api.Curve) api.Element { return api.Element{Kind: api.ElCurves, Curves: l} }

func matrix(offset []int, rows ...[]int) api.Element {
	return api.Element{Kind: api.ElMatrix, Rows: rows, Offset: offset}
}

var (
	same  = api.Curve{Kind: api.CuIdentity}
	tent  = api.Curve{Kind: api.CuTable, Table: []int{0, 65535, 0}}
	fall  = api.Curve{Kind: api.CuTable, Table: []int{65535, 0}}
	root  = api.Curve{Kind: api.CuFormula, Segments: []api.Segment{{Till: 1000000, Mul: 1000000, Num: 1, Den: 2}}}
	exI   = curves(same, same)
	exU   = matrix([]int{0, 0}, []int{1000000, 0}, []int{0, 1000000})
	exM   = matrix([]int{0, 250000}, []int{500000, 500000}, []int{1000000, -1000000})
	exT   = curves(tent, same)
	exS   = curves(same, fall)
	exN   = program(2, 2, op(api.PuIn, 1), op(api.PuIn, 0))
	exP   = program(2, 2, op(api.PuIn, 0), op(api.PuNum, 250000), op(api.PuNum, 4000000), op(api.PuMul), op(api.PuMul), op(api.PuIn, 1))
	wide  = matrix([]int{0, 0}, []int{2000000, 0}, []int{0, 1000000})
	mixed = curves(same, root)
)

// P18.1
func TestSimplify(t *testing.T) {
	for i, x := range []struct {
		c     api.Chain
		want  []api.Element
		steps []int
	}{
		{chainOf(2, exI, exM), []api.Element{exM}, []int{1}},
		{chainOf(2, exM, exI), []api.Element{exM, exI}, nil},
		{chainOf(2, exT, exI, exU, exS), []api.Element{curves(tent, fall)}, []int{5, 2, 5}},
		{chainOf(2, exN, exN), nil, []int{4, 4, 6, 2}},
		{chainOf(2, exP), []api.Element{program(2, 2, op(api.PuIn, 0), op(api.PuNum, 1000000), op(api.PuMul), op(api.PuIn, 1))}, []int{3}},
		{chainOf(2, exM, exM), []api.Element{matrix([]int{125000, 0}, []int{750000, -250000}, []int{-500000, 1500000})}, []int{6}},
		{chainOf(2), nil, nil},
		{chainOf(2, wide, exT, exI), []api.Element{wide, exT}, []int{5}},
		{chainOf(2, wide, exI, exT), []api.Element{wide, exT}, []int{5}},
		{chainOf(2, exI, mixed), []api.Element{mixed}, []int{5}}, // not exact, so that there are no ranges
		{chainOf(2, mixed, exI), []api.Element{mixed}, []int{5}},
		{chainOf(2, exI, exM, mixed), []api.Element{exI, exM, mixed}, nil},
		{chainOf(1, program(1, 1, op(api.PuNum, -5), op(api.PuNeg), op(api.PuAbs), op(api.PuClamp))), []api.Element{program(1, 1, op(api.PuNum, 5))}, []int{3, 3, 3}},
	} {
		out, steps, e := Simplify(x.c)
		if !chain.Same(out, chainOf(x.c.In, x.want...)) || !slices.Equal(steps, x.steps) || e != api.OK {
			t.Errorf("%d: %v, %v, %d", i, out, steps, e)
		}
	}
}

// P18.1: the conditions of the rules.
func TestRule(t *testing.T) {
	num := func(n int) api.Op { return op(api.PuNum, n) }
	fold := func(p ...api.Op) api.Chain { return chainOf(1, program(1, 1, p...)) }
	huge := matrix([]int{0}, []int{1000000000})
	row := func(n int) api.Element { return matrix([]int{0}, []int{n}) }
	shift := func(n int) api.Element { return matrix([]int{n}, []int{2000000}) }
	for i, x := range []struct {
		c    api.Chain
		at   int
		want int
	}{
		{chainOf(2, exI), 0, api.AlDrop}, {chainOf(2, exT), 0, 0}, {chainOf(2, exM, exI), 1, 0}, {chainOf(2, mixed, exI), 1, 0},
		{chainOf(2, exT, matrix([]int{0, 500000}, []int{1000000, 0}, []int{0, 500000}), exI), 2, api.AlDrop},
		{chainOf(1, matrix([]int{-1}, []int{1000000}), curves(same)), 1, 0}, {chainOf(1, matrix([]int{1}, []int{1000000}), curves(same)), 1, 0}, {chainOf(1, matrix([]int{1}, []int{999999}), curves(same)), 1, api.AlDrop},
		{chainOf(2, exU), 0, api.AlUnit}, {chainOf(2, matrix([]int{0, 1}, []int{1000000, 0}, []int{0, 1000000})), 0, 0}, {chainOf(2, matrix([]int{0, 0}, []int{1000000, 1}, []int{0, 1000000})), 0, 0}, {chainOf(2, matrix([]int{0}, []int{1000000, 0})), 0, 0}, {chainOf(1, matrix([]int{0, 0}, []int{1000000}, []int{0})), 0, 0}, {chainOf(1, row(1000000)), 0, api.AlUnit},
		{fold(num(1), op(api.PuNeg)), 0, api.AlFold}, {fold(num(-1), op(api.PuAbs)), 0, api.AlFold}, {fold(num(-1), op(api.PuClamp)), 0, api.AlFold}, {fold(op(api.PuIn, 0), op(api.PuNeg)), 0, 0},
		{fold(num(1), num(2), op(api.PuAdd)), 0, api.AlFold}, {fold(num(1), num(2), op(api.PuSub)), 0, api.AlFold}, {fold(num(1), num(2), op(api.PuMin)), 0, api.AlFold}, {fold(num(1), num(2), op(api.PuMax)), 0, api.AlFold},
		{fold(num(1), num(2), op(api.PuMul)), 0, 0}, {fold(num(1000), num(2000), op(api.PuMul)), 0, api.AlFold}, {fold(num(-1000), num(1001), op(api.PuMul)), 0, 0}, {fold(num(1000000000), num(1000000000), op(api.PuMul)), 0, 0}, {fold(num(1000000000), num(1000000), op(api.PuMul)), 0, api.AlFold},
		{fold(num(1000000000), op(api.PuNeg)), 0, api.AlFold}, {fold(num(999999999), num(1), op(api.PuAdd)), 0, api.AlFold}, {chainOf(1, huge, row(-1000000)), 0, api.AlMerge}, {chainOf(1, matrix([]int{-500000000}, []int{1000000}), matrix([]int{0}, []int{2000000})), 0, api.AlMerge},
		{fold(num(1000000000), num(1), op(api.PuAdd)), 0, 0}, {fold(num(-1000000000), num(1), op(api.PuSub)), 0, 0}, {fold(num(-1000000000), num(1000000000), op(api.PuAdd)), 0, api.AlFold},
		{fold(num(1), num(2), num(3), op(api.PuPick)), 0, 0}, {fold(num(1)), 0, 0}, {fold(num(1), op(api.PuCopy, 0), op(api.PuAdd)), 0, 0}, {fold(num(1), op(api.PuIn, 0), op(api.PuAdd)), 0, 0},
		{chainOf(2, exN), 0, api.AlPick}, {chainOf(2, program(2, 3, op(api.PuIn, 1), op(api.PuIn, 1), op(api.PuIn, 0))), 0, api.AlPick}, {chainOf(2, program(2, 1, op(api.PuIn, 1), op(api.PuNeg))), 0, 0},
		{chainOf(2, exT, exS), 0, api.AlJoin}, {chainOf(2, exT, exS), 1, 0}, {chainOf(2, exT, exT), 0, 0}, {chainOf(2, mixed, exS), 0, 0}, {chainOf(2, exT, exM), 0, 0}, {chainOf(2, wide, exI, exI), 1, api.AlJoin},
		{chainOf(2, exM, exM), 0, api.AlMerge}, {chainOf(2, exM, exM), 1, 0}, {chainOf(2, exM, exT), 0, 0}, {chainOf(1, row(1), row(1)), 0, 0}, {chainOf(1, row(1000), row(2000)), 0, api.AlMerge}, {chainOf(1, huge, huge), 0, 0}, {chainOf(1, huge, row(999999)), 0, api.AlMerge}, {chainOf(1, huge, row(1000000)), 1, api.AlUnit},
		{chainOf(1, shift(1000000000), shift(-999999999)), 0, 0}, {chainOf(1, shift(500000000), shift(0)), 0, api.AlMerge}, {chainOf(1, shift(500000000), shift(1)), 0, 0}, {chainOf(1, matrix([]int{1}, []int{2000000}), row(1500000)), 0, 0}, {chainOf(1, matrix([]int{2}, []int{2000000}), row(1500000)), 0, api.AlMerge},
	} {
		if got, e := Rule(x.c, x.at); got != x.want || e != api.OK {
			t.Errorf("%d: %d, %d; want %d", i, got, e, x.want)
		}
	}
	for _, at := range []int{-1, 1, 1 << 60} {
		if got, e := Rule(chainOf(2, exI), at); got != 0 || e != api.ErrArg {
			t.Errorf("Rule at %d: %d, %d", at, got, e)
		}
	}
	if got, e := Rule(chainOf(2), 0); got != 0 || e != api.ErrArg {
		t.Errorf("Rule: %d, %d", got, e)
	}
	if got, e := Rule(chainOf(1, exI), -1); got != 0 || e != api.ErrChain {
		t.Errorf("Rule: %d, %d", got, e)
	}
	if out, steps, e := Simplify(chainOf(1, exI)); !chain.Same(out, api.Chain{}) || steps != nil || e != api.ErrChain {
		t.Errorf("Simplify: %v, %v, %d", out, steps, e)
	}
}

// P18.1: what AlFold makes, at the first place.
func TestFold(t *testing.T) {
	num := func(n int) api.Op { return op(api.PuNum, n) }
	for i, x := range []struct{ p, want []api.Op }{
		{[]api.Op{num(7), op(api.PuNeg)}, []api.Op{num(-7)}},
		{[]api.Op{num(-7), op(api.PuAbs)}, []api.Op{num(7)}},
		{[]api.Op{num(-7), op(api.PuClamp)}, []api.Op{num(0)}},
		{[]api.Op{num(1000001), op(api.PuClamp)}, []api.Op{num(1000000)}},
		{[]api.Op{num(5), op(api.PuClamp)}, []api.Op{num(5)}},
		{[]api.Op{num(5), num(7), op(api.PuAdd)}, []api.Op{num(12)}},
		{[]api.Op{num(5), num(7), op(api.PuSub)}, []api.Op{num(-2)}},
		{[]api.Op{num(5), num(7), op(api.PuMin)}, []api.Op{num(5)}},
		{[]api.Op{num(5), num(7), op(api.PuMax)}, []api.Op{num(7)}},
		{[]api.Op{num(-2500000), num(3), op(api.PuMul), op(api.PuIn, 0), op(api.PuAdd)}, nil},
		{[]api.Op{num(-2500000), num(4), op(api.PuMul), op(api.PuIn, 0), op(api.PuAdd)}, []api.Op{num(-10), op(api.PuIn, 0), op(api.PuAdd)}},
		{[]api.Op{op(api.PuIn, 0), num(1), num(2), op(api.PuNeg), op(api.PuPick)}, []api.Op{op(api.PuIn, 0), num(1), num(-2), op(api.PuPick)}},
		{[]api.Op{op(api.PuIn, 0), num(1), num(2), num(3), op(api.PuAdd), op(api.PuAdd), op(api.PuMul)}, []api.Op{op(api.PuIn, 0), num(6), op(api.PuMul)}},
	} {
		want := x.want
		if want == nil {
			want = x.p
		}
		if out, _, e := Simplify(chainOf(1, program(1, 1, x.p...))); !chain.Same(out, chainOf(1, program(1, 1, want...))) || e != api.OK {
			t.Errorf("%d: %v, %d", i, out, e)
		}
	}
}

func someElement(r *rand.Rand) api.Element {
	switch r.Intn(7) {
	case 0:
		return exI
	case 1:
		l := []api.Curve{same, tent, same, fall}
		return curves(l[r.Intn(4)], l[r.Intn(4)])
	case 2:
		return exU
	case 3:
		n := func() int { return (r.Intn(9) - 4) * 250000 }
		return matrix([]int{n(), n()}, []int{n(), n()}, []int{n(), n()})
	case 4:
		return program(2, 2, op(api.PuIn, r.Intn(2)), op(api.PuIn, r.Intn(2)))
	case 5:
		code := func() api.Op { return op(api.PuAdd + r.Intn(5)) }
		n := func() api.Op { return op(api.PuNum, (r.Intn(9)-4)*250000) }
		return program(2, 2, op(api.PuIn, 0), n(), n(), code(), op(api.PuNeg+r.Intn(2)), code(), n(), op(api.PuClamp), op(api.PuIn, 1), code())
	}
	x := api.Element{Kind: api.ElGrid, Grid: api.Grid{Size: []int{2, 2}, Out: 2}}
	for range 8 {
		x.Grid.Data = append(x.Grid.Data, r.Intn(65536))
	}
	return x
}

// P18.3
func TestSome(t *testing.T) {
	r := rand.New(rand.NewSource(1))
	applied := map[int]int{}
	for range 600 {
		c := chainOf(2)
		for range r.Intn(7) {
			c.Elements = append(c.Elements, someElement(r))
		}
		out, steps, e := Simplify(c)
		if e != api.OK || chain.Check(out) != api.OK || len(out.Elements) > len(c.Elements) {
			t.Fatalf("Simplify(%v): %v, %d", c, out, e)
		}
		for _, s := range steps {
			applied[s]++
		}
		if outs, _ := chain.Outs(out); outs != 2 || out.In != 2 {
			t.Fatalf("Simplify(%v): %v", c, out)
		}
		if again, more, _ := Simplify(out); !chain.Same(again, out) || more != nil {
			t.Fatalf("Simplify(%v): %v, and again %v", c, out, again)
		}
		for range 4 {
			x, _ := frac.Of(r.Intn(13), 12)
			y, _ := frac.Of(r.Intn(8), 7)
			before, e1 := chain.Eval(c, []api.Frac{x, y})
			after, e2 := chain.Eval(out, []api.Frac{x, y})
			if e1 != api.OK || e2 != api.OK || !slices.Equal(before, after) {
				t.Fatalf("Simplify(%v): %v; %v, not %v at %v, %v", c, out, after, before, x, y)
			}
		}
	}
	for rule := api.AlDrop; rule <= api.AlMerge; rule++ {
		if applied[rule] < 20 {
			t.Errorf("rule %d was applied %d times", rule, applied[rule])
		}
	}
}

func profileOf(space, pcs int, tags ...api.Tag) api.Profile {
	return api.Profile{Version: 4, Class: api.ClOutput, Space: space, Pcs: pcs, Name: "p", White: [3]int{1, 1, 1}, Tags: tags}
}

func tagged(sign string, c api.Chain) api.Tag {
	return api.Tag{Sign: sign, Kind: api.TaChain, Chain: c}
}

// P18.2
func TestCompose(t *testing.T) {
	desc := api.Tag{Sign: "desc", Kind: api.TaText, Text: "x"}
	three := curves(same, same, same)
	turn := matrix([]int{0, 0, 0}, []int{0, 0, 1000000}, []int{0, 1000000, 0}, []int{1000000, 0, 0})
	grid := api.Element{Kind: api.ElGrid, Grid: api.Grid{Size: []int{2, 2, 2}, Out: 3, Data: make([]int, 24)}}
	rgb := profileOf(api.SpRGB, api.SpLab, tagged("bwd0", chainOf(3, turn)), desc, tagged("fwd0", chainOf(3, three, turn)), tagged("fwd1", chainOf(3, grid)))
	xyz := profileOf(api.SpRGB, api.SpXYZ, tagged("bwd0", chainOf(3, turn)), desc, tagged("fwd0", chainOf(3, turn)))
	input := profileOf(api.SpRGB, api.SpLab, desc, tagged("fwd0", chainOf(3, turn)))
	eight := make([]api.Element, 8)
	for i := range eight {
		eight[i] = grid
	}
	long := profileOf(api.SpRGB, api.SpLab, tagged("bwd0", chainOf(3, eight...)), desc, tagged("fwd0", chainOf(3, turn)))
	link := api.Profile{Version: 4, Class: api.ClLink, Space: api.SpRGB, Pcs: api.SpLab, Name: "p", White: [3]int{1, 1, 1}, Tags: []api.Tag{desc, tagged("link", chainOf(3, turn))}}
	for i, x := range []struct {
		a, b   api.Profile
		intent int
		want   api.Chain
		e      api.Errno
	}{
		{rgb, rgb, 0, chainOf(3), api.OK},
		{rgb, rgb, 1, chainOf(3, grid, turn), api.OK},
		{rgb, rgb, 4, api.Chain{}, api.ErrArg},
		{api.Profile{}, link, 0, api.Chain{}, api.ErrProfile},
		{link, api.Profile{}, 0, api.Chain{}, api.ErrForm},
		{rgb, link, 0, api.Chain{}, api.ErrForm},
		{rgb, api.Profile{}, 0, api.Chain{}, api.ErrProfile},
		{rgb, input, 0, api.Chain{}, api.ErrNone},
		{xyz, input, 0, api.Chain{}, api.ErrNone},
		{rgb, xyz, 0, api.Chain{}, api.ErrForm},
		{xyz, rgb, 0, api.Chain{}, api.ErrForm},
		{xyz, long, 0, api.Chain{}, api.ErrForm},
		{rgb, long, 0, api.Chain{}, api.ErrLong},
	} {
		if got, e := Compose(x.a, x.b, x.intent); !chain.Same(got, x.want) || e != x.e {
			t.Errorf("%d: %v, %d", i, got, e)
		}
	}
}

// Results share no memory with arguments.
func TestMemory(t *testing.T) {
	c := chainOf(2, exT, exM)
	out, _, _ := Simplify(c)
	out.Elements[0].Curves[0].Table[0] = 9
	out.Elements[1].Rows[0][0] = 9
	if tent.Table[0] != 0 || exM.Rows[0][0] != 500000 {
		t.Error("a result shares memory with an argument")
	}
}
