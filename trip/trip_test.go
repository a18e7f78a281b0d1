package trip

import (
	"math/big"
	"math/rand"
	"slices"
	"strings"
	"testing"

	"verdigris/api"
	"verdigris/chain"
	"verdigris/cross"
	"verdigris/frac"
)

func fr(text string) api.Frac {
	x, ok := new(big.Rat).SetString(text)
	if !ok {
		panic(text)
	}
	return api.Frac{N: api.Whole(x.Num().String()), D: api.Whole(x.Denom().String())}
}

func fracs(text string) []api.Frac {
	var l []api.Frac
	for _, word := range strings.Fields(text) {
		l = append(l, fr(word))
	}
	return l
}

func tripOf(points, failed int, greatest, mean, at string) api.Trip {
	return api.Trip{Points: points, Failed: failed, Greatest: fr(greatest), Mean: fr(mean), At: fracs(at)}
}

func sameTrip(a, b api.Trip) bool {
	return a.Points == b.Points && a.Failed == b.Failed && a.Greatest == b.Greatest && a.Mean == b.Mean && slices.Equal(a.At, b.At)
}

func chainOf(in int, l ...api.Element) api.Chain { return api.Chain{In: in, Elements: l} }

func curves(l ...api.Curve) api.Element { return api.Element{Kind: api.ElCurves, Curves: l} }

func matrix(offset []int, rows ...[]int) api.Element {
	return api.Element{Kind: api.ElMatrix, Rows: rows, Offset: offset}
}

var (
	same   = api.Curve{Kind: api.CuIdentity}
	fall   = api.Curve{Kind: api.CuTable, Table: []int{65535, 0}}
	half   = api.Curve{Kind: api.CuFormula, Segments: []api.Segment{{Till: 500000, Mul: 1000000, Num: 1, Den: 1}, {Till: 1000000, Mul: 1000000, Num: 1, Den: 2}}} // fails above 1/2
	double = matrix([]int{0}, []int{2000000})
	bad    = api.Trip{}
)

// P41.1
func TestCheck(t *testing.T) {
	for i, x := range []struct {
		t api.Trip
		e api.Errno
	}{
		{tripOf(0, 0, "0", "0", ""), api.OK}, {tripOf(5, 5, "0", "0", ""), api.OK}, {tripOf(5, 4, "1", "1", "0"), api.OK}, {tripOf(api.MaxTrips, 0, "7/2", "1/3", "-1 2 3 4"), api.OK}, {tripOf(1, 0, "0", "0", "1/2"), api.OK},
		{bad, api.ErrTrip}, {tripOf(-1, 0, "0", "0", ""), api.ErrTrip}, {tripOf(api.MaxTrips+1, 0, "0", "0", "0"), api.ErrTrip}, {tripOf(5, 6, "0", "0", ""), api.ErrTrip}, {tripOf(5, -1, "0", "0", "1"), api.ErrTrip}, {tripOf(5, 0, "-1", "-1", "1"), api.ErrTrip}, {tripOf(5, 0, "1", "-1", "1"), api.ErrTrip}, {tripOf(5, 0, "1", "2", "1"), api.ErrTrip},
		{tripOf(5, 5, "0", "0", "1"), api.ErrTrip}, {tripOf(5, 5, "1", "0", ""), api.ErrTrip}, {tripOf(0, 0, "1", "0", ""), api.ErrTrip}, {tripOf(5, 4, "1", "1", ""), api.ErrTrip}, {tripOf(5, 4, "1", "1", "1 1 1 1 1"), api.ErrTrip}, {api.Trip{Points: 1, Greatest: fr("1"), Mean: fr("1"), At: []api.Frac{{}}}, api.ErrTrip}, {api.Trip{Points: 1, Mean: fr("1"), At: fracs("1")}, api.ErrTrip}, {api.Trip{Points: 1, Greatest: fr("1"), At: fracs("1")}, api.ErrTrip},
	} {
		if e := Check(x.t); e != x.e {
			t.Errorf("Check %d: %d", i, e)
		}
		if s, e := Text(x.t); e != x.e || (s == "") != (e != api.OK) {
			t.Errorf("Text %d: %q, %d", i, s, e)
		}
		good := tripOf(0, 0, "0", "0", "")
		if got, e := Join(x.t, good); e != x.e || e == api.OK && !sameTrip(got, x.t) || e != api.OK && !sameTrip(got, bad) {
			t.Errorf("Join %d: %v, %d", i, got, e)
		}
		if got, e := Join(good, x.t); e != x.e || e == api.OK && !sameTrip(got, x.t) || e != api.OK && !sameTrip(got, bad) {
			t.Errorf("Join %d: %v, %d", i, got, e)
		}
	}
}

// P41.1
func TestText(t *testing.T) {
	for i, x := range []struct {
		t    api.Trip
		want string
	}{
		{tripOf(3, 0, "1", "2/3", "0"), "points 3\nfailed 0\ngreatest 1.000000\nmean 0.666667\nat 0.000000\n"}, {tripOf(7, 7, "0", "0", ""), "points 7\nfailed 7\ngreatest 0.000000\nmean 0.000000\nat -\n"}, {tripOf(12, 1, "3/2", "1/8", "1/3 -1/7"), "points 12\nfailed 1\ngreatest 1.500000\nmean 0.125000\nat 0.333333 -0.142857\n"},
	} {
		if got, e := Text(x.t); got != x.want || e != api.OK {
			t.Errorf("%d: %q, %d", i, got, e)
		}
	}
}

// P41.2
func TestNodes(t *testing.T) {
	for i, x := range []struct {
		forward, backward api.Chain
		steps             int
		want              api.Trip
		e                 api.Errno
	}{
		{chainOf(2), chainOf(2), 3, tripOf(9, 0, "0", "0", "0 0"), api.OK}, {chainOf(1), chainOf(1, curves(fall)), 3, tripOf(3, 0, "1", "2/3", "0"), api.OK}, {chainOf(1, curves(fall)), chainOf(1, curves(fall)), 4, tripOf(4, 0, "0", "0", "0"), api.OK},
		{chainOf(1, double), chainOf(1), 5, tripOf(5, 0, "1/2", "1/5", "1/2"), api.OK}, // 0 1/4 1/2 1/4 0
		{chainOf(1), chainOf(1, double), 3, tripOf(3, 0, "1", "1/2", "1"), api.OK},
		{chainOf(1, curves(half)), chainOf(1, curves(fall)), 5, tripOf(5, 2, "1", "1/2", "0"), api.OK}, {chainOf(1), chainOf(1, curves(half)), 2, tripOf(2, 1, "0", "0", "0"), api.OK}, {chainOf(1, curves(fall)), chainOf(1, curves(half)), 2, tripOf(2, 1, "1", "1", "1"), api.OK},
		{chainOf(2), chainOf(2, matrix([]int{0, 0}, []int{0, 1000000}, []int{1000000, 0})), 2, tripOf(4, 0, "1", "1/2", "0 1"), api.OK},
		{chainOf(1, api.Element{}), chainOf(5), 1, bad, api.ErrChain}, {chainOf(1, api.Element{}), chainOf(2), 1, bad, api.ErrChain}, {chainOf(1), chainOf(5), 1, bad, api.ErrChain}, {chainOf(1), chainOf(2), 1, bad, api.ErrForm}, {chainOf(1), chainOf(1, matrix([]int{0, 0}, []int{1}, []int{1})), 1, bad, api.ErrForm}, {chainOf(1), chainOf(1), 1, bad, api.ErrArg}, {chainOf(1), chainOf(1), 26, bad, api.ErrArg}, {chainOf(4), chainOf(4), 6, bad, api.ErrArg}, {chainOf(3), chainOf(3), 9, bad, api.ErrArg}, {chainOf(1), chainOf(1), -1 << 63, bad, api.ErrArg},
	} {
		if got, e := Nodes(x.forward, x.backward, x.steps); !sameTrip(got, x.want) || e != x.e {
			t.Errorf("%d: %v, %d", i, got, e)
		}
	}
	if got, e := Nodes(chainOf(2), chainOf(2), 25); got.Points != 625 || e != api.OK {
		t.Errorf("Nodes: %v, %d", got, e)
	}
	if got, e := Nodes(chainOf(4), chainOf(4), 5); got.Points != 625 || e != api.OK {
		t.Errorf("Nodes: %v, %d", got, e)
	}
	// All round trips fail.
	always := api.Curve{Kind: api.CuFormula, Segments: []api.Segment{{Till: 1000000, Mul: 1000000, Num: 1, Den: 2}}}
	if got, e := Nodes(chainOf(1), chainOf(1, curves(always)), 3); !sameTrip(got, tripOf(3, 3, "0", "0", "")) || e != api.OK {
		t.Errorf("Nodes: %v, %d", got, e)
	}
	// A constant whose denominator is 10^599: its difference from 1/23 is too long.
	num, again, mul := func(n int) api.Op { return api.Op{Code: api.PuNum, Arg: n} }, api.Op{Code: api.PuCopy}, api.Op{Code: api.PuMul}
	p := []api.Op{num(999983), again, again, mul, again, again, mul, again, mul, again, mul, again, mul, again, again, mul, mul, mul, mul, num(999990), mul}
	constant := api.Element{Kind: api.ElProgram, In: 1, Out: 1, Program: p}
	if got, e := Nodes(chainOf(1), chainOf(1, constant), 2); got.Failed != 0 || got.Points != 2 || e != api.OK {
		t.Errorf("Nodes: %v, %d", got, e)
	}
	if got, e := Nodes(chainOf(1), chainOf(1, constant), 24); !sameTrip(got, bad) || e != api.ErrBig {
		t.Errorf("Nodes: %v, %d", got, e)
	}
}

// P41.3
func TestSeeded(t *testing.T) {
	got, next, e := Seeded(chainOf(2), chainOf(2, curves(same, fall)), 1, 2)
	var x []api.Frac
	seed := 1
	for range 4 {
		var v int
		v, seed, _ = cross.Draw(seed, 1001)
		a, _ := frac.Of(v, 1000)
		x = append(x, a)
	}
	away := func(a api.Frac) api.Frac {
		d, _ := frac.Add(a, a)
		d, _ = frac.Sub(d, fr("1"))
		d, _ = frac.Abs(d)
		return d
	}
	a, b := away(x[1]), away(x[3])
	mean, _ := frac.Add(a, b)
	mean, _ = frac.Mul(mean, fr("1/2"))
	most, _ := frac.Max(a, b)
	at := x[:2]
	if most != a {
		at = x[2:]
	}
	if !sameTrip(got, api.Trip{Points: 2, Greatest: most, Mean: mean, At: at}) || next != seed || e != api.OK {
		t.Errorf("Seeded: %v, %d, %d; want %v, %v, %v, %d", got, next, e, most, mean, at, seed)
	}
	for i, y := range []struct {
		forward, backward api.Chain
		seed, count       int
		e                 api.Errno
	}{
		{chainOf(0), chainOf(0), 0, 0, api.ErrChain}, {chainOf(1), chainOf(0), 0, 0, api.ErrChain}, {chainOf(1), chainOf(2), 0, 0, api.ErrForm}, {chainOf(1), chainOf(1), 0, 0, api.ErrArg}, {chainOf(1), chainOf(1), 1, 51, api.ErrArg}, {chainOf(1), chainOf(1), 0, 1, api.ErrArg}, {chainOf(1), chainOf(1), -5, 1, api.ErrArg}, {chainOf(1), chainOf(1), api.MaxSeed + 1, 1, api.ErrArg},
	} {
		if got, next, e := Seeded(y.forward, y.backward, y.seed, y.count); !sameTrip(got, bad) || next != 0 || e != y.e {
			t.Errorf("%d: %v, %d, %d", i, got, next, e)
		}
	}
}

// P41.3: the greatest number of colours.
func TestMost(t *testing.T) {
	if got, next, e := Seeded(chainOf(1), chainOf(1), 7, 50); got.Points != 50 || got.Greatest != fr("0") || next == 0 || e != api.OK {
		t.Errorf("Seeded: %v, %d, %d", got, next, e)
	}
}

// P41.4
func TestJoin(t *testing.T) {
	for i, x := range []struct{ a, b, want api.Trip }{
		{tripOf(3, 1, "1", "1/2", "0"), tripOf(5, 1, "2", "1", "1/2"), tripOf(8, 2, "2", "5/6", "1/2")}, {tripOf(3, 1, "2", "1/2", "0"), tripOf(5, 1, "2", "1", "1/2"), tripOf(8, 2, "2", "5/6", "0")}, {tripOf(3, 3, "0", "0", ""), tripOf(2, 0, "0", "0", "1/2"), tripOf(5, 3, "0", "0", "1/2")}, {tripOf(2, 0, "0", "0", "1/2"), tripOf(3, 3, "0", "0", ""), tripOf(5, 3, "0", "0", "1/2")}, {tripOf(3, 3, "0", "0", ""), tripOf(3, 3, "0", "0", ""), tripOf(6, 6, "0", "0", "")}, {tripOf(500000, 0, "1", "0", "1"), tripOf(500000, 0, "1/2", "0", "0"), tripOf(1000000, 0, "1", "0", "1")},
	} {
		if got, e := Join(x.a, x.b); !sameTrip(got, x.want) || e != api.OK {
			t.Errorf("%d: %v, %d", i, got, e)
		}
	}
	if got, e := Join(tripOf(500001, 0, "1", "0", "1"), tripOf(500000, 0, "1", "0", "1")); !sameTrip(got, bad) || e != api.ErrTrip {
		t.Errorf("Join: %v, %d", got, e)
	}
	long := api.Frac{N: "1", D: api.Whole(strings.Repeat("9", 600))}
	if got, e := Join(api.Trip{Points: 1, Greatest: fr("1"), Mean: long, At: fracs("1")}, tripOf(1, 0, "1", "1/17", "1")); !sameTrip(got, bad) || e != api.ErrBig {
		t.Errorf("Join: %v, %d", got, e)
	}
	a := tripOf(1, 0, "1", "1", "1")
	got, _ := Join(a, tripOf(0, 0, "0", "0", ""))
	got.At[0] = fr("7")
	if a.At[0] != fr("1") {
		t.Error("Join shares memory with its argument")
	}
}

// P41.5
func TestLaws(t *testing.T) {
	r := rand.New(rand.NewSource(1))
	for range 40 {
		n := func() int { return r.Intn(2000001) - 600000 }
		forward := chainOf(2, matrix([]int{n(), n()}, []int{n(), n()}, []int{n(), n()}))
		backward := chainOf(2, matrix([]int{n(), n()}, []int{n(), n()}, []int{n(), n()}))
		seed, count := 1+r.Intn(1000000), 2+r.Intn(12)
		whole, end, e := Seeded(forward, backward, seed, count)
		first := 1 + r.Intn(count-1)
		left, middle, e2 := Seeded(forward, backward, seed, first)
		right, end2, e3 := Seeded(forward, backward, middle, count-first)
		joined, e4 := Join(left, right)
		if !sameTrip(joined, whole) || end != end2 || e != api.OK || e2 != api.OK || e3 != api.OK || e4 != api.OK || Check(whole) != api.OK {
			t.Fatalf("Seeded(%d, %d): %v; %v and %v: %v", seed, count, whole, left, right, joined)
		}
		coarse, _ := Nodes(forward, backward, 4)
		fine, _ := Nodes(forward, backward, 7)
		if c, _ := frac.Cmp(fine.Greatest, coarse.Greatest); c < 0 {
			t.Fatalf("Nodes: %v, finer %v", coarse, fine)
		}
		y, _ := chain.Eval(forward, coarse.At)
		for i := range y {
			y[i], _ = frac.Clamp(y[i], fr("0"), fr("1"))
		}
		z, _ := chain.Eval(backward, y)
		most := fr("0")
		for i := range z {
			d, _ := frac.Sub(z[i], coarse.At[i])
			d, _ = frac.Abs(d)
			most, _ = frac.Max(most, d)
		}
		if most != coarse.Greatest {
			t.Fatalf("Nodes: %v, but %v there", coarse, most)
		}
	}
}
