package curve

import (
	"math/big"
	"math/rand"
	"strings"
	"testing"

	"verdigris/api"
	"verdigris/band"
	"verdigris/frac"
	"verdigris/power"
)

const one = api.OneBand

func fr(text string) api.Frac {
	x, ok := new(big.Rat).SetString(text)
	if !ok {
		panic(text)
	}
	return of(x)
}

func of(x *big.Rat) api.Frac {
	return api.Frac{N: api.Whole(x.Num().String()), D: api.Whole(x.Denom().String())}
}

func value(a api.Frac) *big.Rat {
	x, _ := new(big.Rat).SetString(string(a.N) + "/" + string(a.D))
	return x
}

func table(l ...int) api.Curve { return api.Curve{Kind: api.CuTable, Table: l} }

func formula(l ...api.Segment) api.Curve { return api.Curve{Kind: api.CuFormula, Segments: l} }

func seg(till, mul, add, num, den, off int) api.Segment {
	return api.Segment{Till: till, Mul: mul, Add: add, Num: num, Den: den, Off: off}
}

var (
	identity = api.Curve{Kind: api.CuIdentity}
	tent     = table(0, 65535, 0)
	two      = formula(seg(500000, 1000000, 0, 1, 1, 0), seg(1000000, 2000000, -1000000, 2, 1, 500000))
	root     = formula(seg(1000000, 1000000, 0, 1, 2, 0))
)

var invalid = []api.Curve{
	{}, {Kind: 4}, {Kind: -1},
	{Kind: api.CuIdentity, Table: []int{0, 1}}, {Kind: api.CuIdentity, Segments: root.Segments},
	table(), table(5), table(make([]int, 18)...), table(0, -1), table(0, 65536),
	{Kind: api.CuTable, Table: []int{0, 1}, Segments: root.Segments},
	formula(), {Kind: api.CuFormula, Table: []int{0, 1}, Segments: root.Segments},
	formula(seg(1000000, 1, 1, 1, 1, 1), seg(1000000, 1, 1, 1, 1, 1)),
	formula(seg(999999, 1, 1, 1, 1, 1)), formula(seg(1000001, 1, 1, 1, 1, 1)),
	formula(seg(0, 1, 1, 1, 1, 1), seg(1000000, 1, 1, 1, 1, 1)),
	formula(seg(3, 1, 1, 1, 1, 1), seg(2, 1, 1, 1, 1, 1), seg(1000000, 1, 1, 1, 1, 1)),
	formula(seg(1, 1, 1, 1, 1, 1), seg(2, 1, 1, 1, 1, 1), seg(3, 1, 1, 1, 1, 1), seg(4, 1, 1, 1, 1, 1), seg(1000000, 1, 1, 1, 1, 1)),
	formula(seg(1000000, 100000001, 1, 1, 1, 1)), formula(seg(1000000, 1, -100000001, 1, 1, 1)), formula(seg(1000000, 1, 1, 1, 1, 100000001)),
	formula(seg(1000000, 1, 1, 0, 1, 1)), formula(seg(1000000, 1, 1, 37, 1, 1)), formula(seg(1000000, 1, 1, 1, 0, 1)), formula(seg(1000000, 1, 1, 1, 13, 1)),
	formula(seg(1000000, 1, 1, 2, 4, 1)), formula(seg(1000000, 1, 1, 36, 9, 1)), formula(seg(1000000, 1, 1, 2, 2, 1)),
	formula(seg(1000000, -1<<63, 1, 1, 1, 1)),
}

// P9.1
func TestCheck(t *testing.T) {
	for i, c := range invalid {
		if e := Check(c); e != api.ErrCurve {
			t.Errorf("Check of %d: %d", i, e)
		}
		if Exact(c) {
			t.Errorf("Exact of %d", i)
		}
		if n, e := Trend(c); n != 0 || e != api.ErrCurve {
			t.Errorf("Trend of %d: %d, %d", i, n, e)
		}
		if x, e := Eval(c, api.Frac{}); x != (api.Frac{}) || e != api.ErrCurve {
			t.Errorf("Eval of %d: %v, %d", i, x, e)
		}
		if x, e := Bands(c, api.Band{Lo: 1}); x != (api.Band{}) || e != api.ErrCurve {
			t.Errorf("Bands of %d: %v, %d", i, x, e)
		}
	}
	for i, c := range []api.Curve{identity, tent, two, root, table(make([]int, 17)...), formula(seg(1, 100000000, -100000000, 36, 1, 100000000), seg(2, 1, 1, 11, 12, 1), seg(999999, 0, 0, 1, 1, 0), seg(1000000, 1, 1, 35, 12, 1)), {Kind: api.CuIdentity, Table: []int{}, Segments: []api.Segment{}}} {
		if e := Check(c); e != api.OK {
			t.Errorf("Check of %d: %d", i, e)
		}
	}
}

// P9.1
func TestSameExactTrend(t *testing.T) {
	if !Same(identity, api.Curve{Kind: api.CuIdentity, Table: []int{}, Segments: []api.Segment{}}) || !Same(two, formula(two.Segments...)) || !Same(api.Curve{Kind: 9, Table: []int{-1}}, api.Curve{Kind: 9, Table: []int{-1}}) {
		t.Error("Same is false")
	}
	if Same(identity, tent) || Same(tent, table(0, 65535, 1)) || Same(tent, table(0, 65535)) || Same(two, root) || Same(two, formula(two.Segments[:1]...)) || Same(identity, api.Curve{Kind: api.CuIdentity, Segments: root.Segments}) {
		t.Error("Same is true")
	}
	if !Exact(identity) || !Exact(tent) || !Exact(two) || Exact(root) || Exact(formula(seg(1, 1, 1, 1, 1, 1), seg(1000000, 1, 1, 1, 3, 1))) {
		t.Error("Exact")
	}
	for i, x := range []struct {
		c    api.Curve
		want int
	}{{identity, 1}, {tent, 0}, {root, 1}, {two, 0}, {table(3, 3), 1}, {table(3, 3, 4), 1}, {table(4, 3, 3), -1}, {table(4, 3, 5), 0}, {formula(seg(1000000, 0, 5, 1, 1, 0)), 1}, {formula(seg(1000000, -1, 5, 1, 1, 0)), -1}} {
		if n, e := Trend(x.c); n != x.want || e != api.OK {
			t.Errorf("Trend of %d: %d, %d", i, n, e)
		}
	}
}

func clampRat(x *big.Rat) *big.Rat {
	if x.Sign() < 0 {
		return new(big.Rat)
	}
	if x.Cmp(big.NewRat(1, 1)) > 0 {
		return big.NewRat(1, 1)
	}
	return x
}

// exact is the value of a curve, computed in another way; nil if it is irrational.
func exact(c api.Curve, x *big.Rat) *big.Rat {
	x = clampRat(x)
	switch c.Kind {
	case api.CuTable:
		n := len(c.Table) - 1
		for i := range n {
			from := big.NewRat(int64(i), int64(n))
			if x.Cmp(from) >= 0 && x.Cmp(big.NewRat(int64(i+1), int64(n))) <= 0 {
				part := new(big.Rat).Mul(new(big.Rat).Sub(x, from), big.NewRat(int64(n), 1))
				y := part.Mul(part, big.NewRat(int64(c.Table[i+1]-c.Table[i]), 1))
				y.Add(y, big.NewRat(int64(c.Table[i]), 1))
				return y.Mul(y, big.NewRat(1, 65535))
			}
		}
	case api.CuFormula:
		for _, s := range c.Segments {
			if x.Cmp(big.NewRat(int64(s.Till), 1000000)) > 0 {
				continue
			}
			if s.Den != 1 {
				return nil
			}
			u := new(big.Rat).Mul(x, big.NewRat(int64(s.Mul), 1000000))
			u.Add(u, big.NewRat(int64(s.Add), 1000000))
			if u.Sign() < 0 {
				u.SetInt64(0)
			}
			y := big.NewRat(1, 1)
			for range s.Num {
				y.Mul(y, u)
			}
			return clampRat(y.Add(y, big.NewRat(int64(s.Off), 1000000)))
		}
	}
	return x
}

func someCurve(r *rand.Rand) api.Curve {
	switch r.Intn(5) {
	case 0:
		return identity
	case 1, 2:
		var l []int
		for range 2 + r.Intn(16) {
			l = append(l, r.Intn(65536))
		}
		return table(l...)
	}
	var l []api.Segment
	till := 0
	for range r.Intn(4) {
		till += 1 + r.Intn(300000)
		l = append(l, someSegment(r, till))
	}
	return formula(append(l, someSegment(r, 1000000))...)
}

func someSegment(r *rand.Rand, till int) api.Segment {
	s := seg(till, r.Intn(6000001)-3000000, r.Intn(4000001)-2000000, 1+r.Intn(4), 1, r.Intn(2000001)-1000000)
	if r.Intn(4) == 0 {
		s.Num, s.Den = 5, 12
	}
	return s
}

func someX(r *rand.Rand, c api.Curve) *big.Rat {
	switch r.Intn(6) {
	case 0:
		return big.NewRat(int64(r.Intn(40)-10), 16)
	case 1:
		if len(c.Segments) > 0 {
			return big.NewRat(int64(c.Segments[r.Intn(len(c.Segments))].Till+r.Intn(3)-1), 1000000)
		}
	}
	return big.NewRat(r.Int63n(1<<30), 1<<30)
}

// P9.2, P9.4
func TestEval(t *testing.T) {
	r := rand.New(rand.NewSource(1))
	for range 3000 {
		c := someCurve(r)
		x := someX(r, c)
		want := exact(c, x)
		got, e := Eval(c, of(x))
		if want == nil {
			if got != (api.Frac{}) || e != api.ErrForm {
				t.Fatalf("Eval(%v, %s): %v, %d", c, x, got, e)
			}
			continue
		}
		if got != of(want) || e != api.OK {
			t.Fatalf("Eval(%v, %s): %v, %d; want %s", c, x, got, e, want)
		}
	}
}

func TestExamples(t *testing.T) {
	for i, x := range []struct {
		c       api.Curve
		x, want string
	}{{tent, "1/4", "1/2"}, {tent, "3/4", "1/2"}, {tent, "2", "0"}, {tent, "-1", "0"}, {two, "1/4", "1/4"}, {two, "1/2", "1/2"}, {two, "3/4", "3/4"}, {two, "1", "1"}, {identity, "3/2", "1"}, {identity, "-3/2", "0"}, {identity, "1/3", "1/3"}} {
		if got, e := Eval(x.c, fr(x.x)); got != fr(x.want) || e != api.OK {
			t.Errorf("%d: %v, %d", i, got, e)
		}
	}
	quarter := api.Band{Lo: one / 4, Hi: one / 4}
	if got, e := Bands(root, quarter); got != (api.Band{Lo: one / 2, Hi: one / 2}) || e != api.OK {
		t.Errorf("Bands: %v, %d", got, e)
	}
	if got, e := Bands(tent, api.Band{Lo: one / 4, Hi: 3 * one / 4}); got != (api.Band{Lo: one / 2, Hi: one}) || e != api.OK {
		t.Errorf("Bands: %v, %d", got, e)
	}
}

// P9.2
func TestEvalErrors(t *testing.T) {
	if got, e := Eval(root, fr("1/4")); got != (api.Frac{}) || e != api.ErrForm {
		t.Errorf("Eval: %v, %d", got, e)
	}
	if got, e := Eval(root, api.Frac{N: "2", D: "2"}); got != (api.Frac{}) || e != api.ErrFrac {
		t.Errorf("Eval: %v, %d", got, e)
	}
	if got, e := Eval(identity, api.Frac{}); got != (api.Frac{}) || e != api.ErrFrac {
		t.Errorf("Eval: %v, %d", got, e)
	}
	mixed := formula(seg(500000, 1000000, 0, 1, 1, 0), seg(1000000, 1000000, 0, 1, 2, 0))
	if got, e := Eval(mixed, fr("1/2")); got != fr("1/2") || e != api.OK {
		t.Errorf("Eval: %v, %d", got, e)
	}
	if got, e := Eval(mixed, fr("500001/1000000")); got != (api.Frac{}) || e != api.ErrForm {
		t.Errorf("Eval: %v, %d", got, e)
	}
	long := api.Frac{N: "1", D: api.Whole("1" + strings.Repeat("0", 599))}
	almost := api.Frac{N: api.Whole(strings.Repeat("9", 600)), D: api.Whole("1" + strings.Repeat("0", 599))}
	half := api.Frac{N: api.Whole(strings.Repeat("9", 599) + "8"), D: api.Whole(strings.Repeat("9", 600))}
	for i, x := range []struct {
		c    api.Curve
		x    api.Frac
		want api.Frac
		e    api.Errno
	}{
		{identity, long, long, api.OK},
		{identity, almost, fr("1"), api.OK},
		{table(0, 1), long, api.Frac{}, api.ErrBig},
		{table(7, 7), long, fr("7/65535"), api.OK},
		{formula(seg(1000000, 1000000, 0, 2, 1, 0)), long, api.Frac{}, api.ErrBig},
		{formula(seg(1000000, 0, 1000000, 36, 1, 0)), long, fr("1"), api.OK},
		{formula(seg(1000000, 1000000, -1000000, 2, 1, 500000)), long, fr("1/2"), api.OK},
		{table(make([]int, 17)...), half, api.Frac{}, api.ErrBig},
	} {
		if got, e := Eval(x.c, x.x); got != x.want || e != x.e {
			t.Errorf("%d: %.20s / %.20s, %d", i, got.N, got.D, e)
		}
	}
}

// bandOf is the values on a band of a formula, segment by segment.
func bandOf(t *testing.T, c api.Curve, lo, hi int) (api.Band, api.Errno) {
	lo, hi = min(max(lo, 0), one), min(max(hi, 0), one)
	var out api.Band
	first, from := true, 0
	for i, s := range c.Segments {
		till := s.Till * 1000000
		if lo <= till && (i == 0 || hi > from) {
			var u api.Band
			for k, x := range []int{max(lo, from), min(hi, till)} {
				y := new(big.Rat).Mul(big.NewRat(int64(x), one), big.NewRat(int64(s.Mul), 1000000))
				y.Add(y, big.NewRat(int64(s.Add), 1000000))
				b, e := band.Around(of(y))
				if e != api.OK {
					t.Fatal(e)
				}
				if k == 0 {
					u = b
				}
				u = api.Band{Lo: min(u.Lo, b.Lo), Hi: max(u.Hi, b.Hi)}
			}
			part, e := power.Power(api.Band{Lo: max(u.Lo, 0), Hi: max(u.Hi, 0)}, s.Num, s.Den)
			if e != api.OK {
				return api.Band{}, e
			}
			part = api.Band{Lo: min(max(part.Lo+s.Off*1000000, 0), one), Hi: min(max(part.Hi+s.Off*1000000, 0), one)}
			if first {
				out, first = part, false
			}
			out = api.Band{Lo: min(out.Lo, part.Lo), Hi: max(out.Hi, part.Hi)}
		}
		from = till
	}
	return out, api.OK
}

func someBand(r *rand.Rand, c api.Curve) api.Band {
	end := func() int {
		x := new(big.Rat).Mul(someX(r, c), big.NewRat(one, 1))
		return int(new(big.Int).Div(x.Num(), x.Denom()).Int64())
	}
	a, b := end(), end()
	if r.Intn(3) == 0 {
		b = a + r.Intn(3)
	}
	return api.Band{Lo: min(a, b), Hi: max(a, b)}
}

// P9.3, P9.4
func TestBands(t *testing.T) {
	r := rand.New(rand.NewSource(2))
	for range 3000 {
		c := someCurve(r)
		x := someBand(r, c)
		got, e := Bands(c, x)
		if c.Kind == api.CuFormula {
			if want, wantError := bandOf(t, c, x.Lo, x.Hi); got != want || e != wantError {
				t.Fatalf("Bands(%v, %v): %v, %d; want %v", c, x, got, e, want)
			}
		} else if want := tightestOf(c, x); got != want || e != api.OK {
			t.Fatalf("Bands(%v, %v): %v, %d; want %v", c, x, got, e, want)
		}
		checkContains(t, r, c, x, got)
	}
}

// tightestOf is the tightest band of an identity or a table.
func tightestOf(c api.Curve, x api.Band) api.Band {
	lo, hi := big.NewRat(int64(x.Lo), one), big.NewRat(int64(x.Hi), one)
	l := []*big.Rat{exact(c, lo), exact(c, hi)}
	for i := range c.Table {
		at := big.NewRat(int64(i), int64(len(c.Table)-1))
		if at.Cmp(lo) >= 0 && at.Cmp(hi) <= 0 {
			l = append(l, exact(c, at))
		}
	}
	out, _ := band.Around(of(l[0]))
	for _, y := range l {
		b, _ := band.Around(of(y))
		out = api.Band{Lo: min(out.Lo, b.Lo), Hi: max(out.Hi, b.Hi)}
	}
	return out
}

// checkContains checks that the values at numbers of a band, and on a part of it, lie in its values.
func checkContains(t *testing.T, r *rand.Rand, c api.Curve, x, wide api.Band) {
	lo := x.Lo + r.Intn(x.Hi-x.Lo+1)
	hi := lo + r.Intn(x.Hi-lo+1)
	narrow, e := Bands(c, api.Band{Lo: lo, Hi: hi})
	if e != api.OK || narrow.Lo < wide.Lo || narrow.Hi > wide.Hi {
		t.Fatalf("Bands(%v, %d, %d): %v, %d in %v", c, lo, hi, narrow, e, wide)
	}
	at, _ := frac.Of(lo, one)
	y, e := Eval(c, at)
	if e == api.ErrForm {
		return
	}
	if ok, _ := band.Has(wide, y); !ok || e != api.OK {
		t.Fatalf("Eval(%v, %v): %v, %d not in %v", c, at, y, e, wide)
	}
}

// P9.3
func TestBandsErrors(t *testing.T) {
	for _, b := range []api.Band{{Lo: 1}, {Lo: 0, Hi: api.MaxBand + 1}} {
		if got, e := Bands(root, b); got != (api.Band{}) || e != api.ErrBand {
			t.Errorf("Bands(%v): %v, %d", b, got, e)
		}
	}
	steep := formula(seg(500000, 1000000, 0, 1, 1, 0), seg(1000000, 100000000, 0, 36, 1, 0))
	if got, e := Bands(steep, api.Band{Lo: 0, Hi: one}); got != (api.Band{}) || e != api.ErrBig {
		t.Errorf("Bands: %v, %d", got, e)
	}
	if got, e := Bands(steep, api.Band{Lo: 0, Hi: one / 2}); got != (api.Band{Lo: 0, Hi: one / 2}) || e != api.OK {
		t.Errorf("Bands: %v, %d", got, e)
	}
	// The value jumps behind the end of the first segment, which belongs to the first one alone.
	jump := formula(seg(500000, 0, 0, 1, 1, 0), seg(1000000, 0, 0, 1, 1, 1000000))
	for _, x := range []struct{ lo, hi, low, high int }{{0, one / 2, 0, 0}, {one / 2, one / 2, 0, 0}, {one / 2, one/2 + 1, 0, one}, {one/2 + 1, one, one, one}, {-5 * one, -one, 0, 0}, {2 * one, 3 * one, one, one}} {
		if got, e := Bands(jump, api.Band{Lo: x.lo, Hi: x.hi}); got != (api.Band{Lo: x.low, Hi: x.high}) || e != api.OK {
			t.Errorf("Bands(%v): %v, %d", x, got, e)
		}
	}
	// A part that is too great for a band with what is added to it.
	high := formula(seg(1000000, 0, 100000000, 3, 1, 100000000))
	if got, e := Bands(high, api.Band{}); got != (api.Band{}) || e != api.ErrBig {
		t.Errorf("Bands: %v, %d", got, e)
	}
}

// P9.4: values are from 0 to 1, and go with the trend.
func TestTrends(t *testing.T) {
	r := rand.New(rand.NewSource(3))
	for range 1000 {
		c := someCurve(r)
		trend, _ := Trend(c)
		x, y := someX(r, c), someX(r, c)
		if x.Cmp(y) > 0 {
			x, y = y, x
		}
		a, e1 := Eval(c, of(x))
		b, e2 := Eval(c, of(y))
		if e1 != api.OK || e2 != api.OK {
			continue
		}
		rise := value(b).Cmp(value(a))
		if trend == 1 && rise < 0 || trend == -1 && rise > 0 || value(a).Cmp(clampRat(value(a))) != 0 {
			t.Fatalf("Trend(%v): %d; %v at %s, %v at %s", c, trend, a, x, b, y)
		}
	}
}
