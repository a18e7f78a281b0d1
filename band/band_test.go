package band

import (
	"math/big"
	"math/rand"
	"strings"
	"testing"

	"verdigris/api"
)

const (
	one = api.OneBand
	top = api.MaxBand
)

var wrong = []api.Band{{Lo: 1, Hi: 0}, {Lo: -top - 1, Hi: 0}, {Lo: 0, Hi: top + 1}, {Lo: -1 << 63, Hi: 1<<63 - 1}, {Lo: 1<<63 - 1, Hi: -1 << 63}}

func fr(n, d string) api.Frac { return api.Frac{N: api.Whole(n), D: api.Whole(d)} }

// P3.1
func TestCheckOfPoint(t *testing.T) {
	for _, b := range wrong {
		if e := Check(b); e != api.ErrBand {
			t.Errorf("Check(%v): %d", b, e)
		}
		if got, e := Of(b.Lo, b.Hi); got != (api.Band{}) || e != api.ErrBand {
			t.Errorf("Of(%v): %v, %d", b, got, e)
		}
	}
	for _, b := range []api.Band{{}, {Lo: -top, Hi: top}, {Lo: 5, Hi: 5}, {Lo: -2, Hi: -1}} {
		if e := Check(b); e != api.OK {
			t.Errorf("Check(%v): %d", b, e)
		}
		if got, e := Of(b.Lo, b.Hi); got != b || e != api.OK {
			t.Errorf("Of(%v): %v, %d", b, got, e)
		}
	}
	for _, n := range []int{top + 1, -top - 1, 1<<63 - 1} {
		if got, e := Point(n); got != (api.Band{}) || e != api.ErrBand {
			t.Errorf("Point(%d): %v, %d", n, got, e)
		}
	}
	if got, e := Point(-7); got != (api.Band{Lo: -7, Hi: -7}) || e != api.OK {
		t.Errorf("Point(-7): %v, %d", got, e)
	}
}

// P3.1
func TestAround(t *testing.T) {
	nines := strings.Repeat("9", 600)
	almost := strings.Repeat("9", 599) + "8"
	for _, x := range []struct {
		a    api.Frac
		want api.Band
		e    api.Errno
	}{
		{fr("1", "3"), api.Band{Lo: 333333333333, Hi: 333333333334}, api.OK},
		{fr("-1", "3"), api.Band{Lo: -333333333334, Hi: -333333333333}, api.OK},
		{fr("2", "3"), api.Band{Lo: 666666666666, Hi: 666666666667}, api.OK},
		{fr("-2", "1"), api.Band{Lo: -2 * one, Hi: -2 * one}, api.OK},
		{fr("1000000", "1"), api.Band{Lo: top, Hi: top}, api.OK},
		{fr("-1000000", "1"), api.Band{Lo: -top, Hi: -top}, api.OK},
		{fr("1000001", "1"), api.Band{}, api.ErrBig},
		{fr("1000000000000000000000001", "1000000000000000000"), api.Band{}, api.ErrBig},
		{fr("-1000000000000000000000001", "1000000000000000000"), api.Band{}, api.ErrBig},
		{fr("-3000000000000000000000000000", "1"), api.Band{}, api.ErrBig},
		{fr(nines, "1"), api.Band{}, api.ErrBig},
		{fr("1", nines), api.Band{Lo: 0, Hi: 1}, api.OK},
		{fr("-1", nines), api.Band{Lo: -1, Hi: 0}, api.OK},
		{fr(almost, nines), api.Band{Lo: one - 1, Hi: one}, api.OK},
		{fr("1", "2000000000000"), api.Band{Lo: 0, Hi: 1}, api.OK},
		{fr("2", "4"), api.Band{}, api.ErrFrac},
		{api.Frac{}, api.Band{}, api.ErrFrac},
	} {
		if got, e := Around(x.a); got != x.want || e != x.e {
			t.Errorf("Around(%.30s / %.30s): %v, %d", x.a.N, x.a.D, got, e)
		}
	}
}

// P3.2
func TestHas(t *testing.T) {
	b := api.Band{Lo: -1, Hi: one}
	for _, x := range []struct {
		a    api.Frac
		want bool
	}{{fr("0", "1"), true}, {fr("1", "1"), true}, {fr("-1", "1000000000000"), true}, {fr("-1", "999999999999"), false}, {fr("1000000000001", "1000000000000"), false}, {fr("1", "3"), true}} {
		if got, e := Has(b, x.a); got != x.want || e != api.OK {
			t.Errorf("Has(%v): %v, %d", x.a, got, e)
		}
	}
	if got, e := Has(b, fr("2", "2")); got || e != api.ErrFrac {
		t.Errorf("Has: %v, %d", got, e)
	}
	if got, e := Has(wrong[0], fr("2", "2")); got || e != api.ErrBand {
		t.Errorf("Has: %v, %d", got, e)
	}
}

// P3.2, P3.3
func TestNumbersOfBands(t *testing.T) {
	for _, x := range []struct {
		b                api.Band
		low, high        api.Frac
		mid, width, sign int
	}{
		{api.Band{Lo: 1, Hi: 2}, fr("1", "1000000000000"), fr("1", "500000000000"), 1, 1, 1},
		{api.Band{Lo: -2, Hi: -1}, fr("-1", "500000000000"), fr("-1", "1000000000000"), -2, 1, -1},
		{api.Band{Lo: -top, Hi: top}, fr("-1000000", "1"), fr("1000000", "1"), 0, 2 * top, 2},
		{api.Band{Lo: top, Hi: top}, fr("1000000", "1"), fr("1000000", "1"), top, 0, 1},
		{api.Band{}, fr("0", "1"), fr("0", "1"), 0, 0, 0},
		{api.Band{Lo: 0, Hi: 1}, fr("0", "1"), fr("1", "1000000000000"), 0, 1, 2},
		{api.Band{Lo: -1, Hi: 0}, fr("-1", "1000000000000"), fr("0", "1"), -1, 1, 2},
	} {
		if got, e := Low(x.b); got != x.low || e != api.OK {
			t.Errorf("Low(%v): %v, %d", x.b, got, e)
		}
		if got, e := High(x.b); got != x.high || e != api.OK {
			t.Errorf("High(%v): %v, %d", x.b, got, e)
		}
		if got, e := Mid(x.b); got != x.mid || e != api.OK {
			t.Errorf("Mid(%v): %v, %d", x.b, got, e)
		}
		if got, e := Width(x.b); got != x.width || e != api.OK {
			t.Errorf("Width(%v): %v, %d", x.b, got, e)
		}
		if got, e := Sign(x.b); got != x.sign || e != api.OK {
			t.Errorf("Sign(%v): %v, %d", x.b, got, e)
		}
	}
}

// P3.3
func TestCmp(t *testing.T) {
	for _, x := range []struct {
		a, b api.Band
		want int
	}{
		{api.Band{Lo: 1, Hi: 2}, api.Band{Lo: 3, Hi: 4}, -1},
		{api.Band{Lo: 3, Hi: 4}, api.Band{Lo: 1, Hi: 2}, 1},
		{api.Band{Lo: 1, Hi: 2}, api.Band{Lo: 2, Hi: 3}, 2},
		{api.Band{Lo: 2, Hi: 3}, api.Band{Lo: 1, Hi: 2}, 2},
		{api.Band{Lo: 2, Hi: 2}, api.Band{Lo: 2, Hi: 2}, 0},
		{api.Band{Lo: 1, Hi: 2}, api.Band{Lo: 1, Hi: 2}, 2},
	} {
		if got, e := Cmp(x.a, x.b); got != x.want || e != api.OK {
			t.Errorf("Cmp(%v, %v): %d, %d", x.a, x.b, got, e)
		}
	}
}

type operation struct {
	name string
	f    func(a, b api.Band) (api.Band, api.Errno)
	// exact returns the result for two numbers, nil for none.
	exact func(x, y *big.Rat) *big.Rat
}

var operations = []operation{
	{"Add", Add, func(x, y *big.Rat) *big.Rat { return new(big.Rat).Add(x, y) }},
	{"Sub", Sub, func(x, y *big.Rat) *big.Rat { return new(big.Rat).Sub(x, y) }},
	{"Mul", Mul, func(x, y *big.Rat) *big.Rat { return new(big.Rat).Mul(x, y) }},
	{"Div", Div, func(x, y *big.Rat) *big.Rat {
		if y.Sign() == 0 {
			return nil
		}
		return new(big.Rat).Quo(x, y)
	}},
	{"Min", Min, func(x, y *big.Rat) *big.Rat {
		if x.Cmp(y) < 0 {
			return x
		}
		return y
	}},
	{"Max", Max, func(x, y *big.Rat) *big.Rat {
		if x.Cmp(y) > 0 {
			return x
		}
		return y
	}},
}

// numbers returns the ends of a band, and 0 if it contains it.
func numbers(b api.Band) []*big.Rat {
	l := []*big.Rat{big.NewRat(int64(b.Lo), one), big.NewRat(int64(b.Hi), one)}
	if b.Lo <= 0 && b.Hi >= 0 {
		l = append(l, new(big.Rat))
	}
	return l
}

// tightest returns the tightest band of some numbers.
func tightest(l []*big.Rat) (api.Band, api.Errno) {
	low, high := l[0], l[0]
	for _, x := range l {
		if x.Cmp(low) < 0 {
			low = x
		}
		if x.Cmp(high) > 0 {
			high = x
		}
	}
	floor := func(x *big.Rat) *big.Int {
		y := new(big.Rat).Mul(x, big.NewRat(one, 1))
		return new(big.Int).Div(y.Num(), y.Denom())
	}
	lo := floor(low)
	hi := floor(new(big.Rat).Neg(high))
	hi.Neg(hi)
	limit := big.NewInt(top)
	if lo.CmpAbs(limit) > 0 || hi.CmpAbs(limit) > 0 {
		return api.Band{}, api.ErrBig
	}
	return api.Band{Lo: int(lo.Int64()), Hi: int(hi.Int64())}, api.OK
}

func someEnd(r *rand.Rand) int {
	switch r.Intn(6) {
	case 0:
		return r.Intn(11) - 5
	case 1:
		return (r.Intn(11) - 5) * one
	case 2:
		return r.Intn(2*top) - top
	case 3:
		return (r.Intn(2)*2 - 1) * top
	}
	return r.Intn(8*one) - 4*one
}

func some(r *rand.Rand) api.Band {
	a, b := someEnd(r), someEnd(r)
	if r.Intn(3) == 0 {
		b = min(top, a+r.Intn(100))
	}
	return api.Band{Lo: min(a, b), Hi: max(a, b)}
}

// P3.4, P3.5: the tightest bands.
func TestTightest(t *testing.T) {
	r := rand.New(rand.NewSource(1))
	for range 20000 {
		a, b := some(r), some(r)
		for _, o := range operations {
			var l []*big.Rat
			zero := false
			for _, x := range numbers(a) {
				for _, y := range numbers(b) {
					z := o.exact(x, y)
					if z == nil {
						zero = true
						break
					}
					l = append(l, z)
				}
			}
			got, e := o.f(a, b)
			if zero {
				if got != (api.Band{}) || e != api.ErrZero {
					t.Fatalf("%s(%v, %v): %v, %d", o.name, a, b, got, e)
				}
				continue
			}
			if want, wantError := tightest(l); got != want || e != wantError {
				t.Fatalf("%s(%v, %v): %v, %d; want %v, %d", o.name, a, b, got, e, want, wantError)
			}
		}
		checkAlone(t, r, a)
		checkJoined(t, a, b)
	}
}

func checkAlone(t *testing.T, r *rand.Rand, a api.Band) {
	n, d := r.Intn(2*api.MaxRatio+1)-api.MaxRatio, 1+r.Intn(api.MaxRatio)
	if r.Intn(2) == 0 {
		n, d = r.Intn(7)-3, 1+r.Intn(9)
	}
	var turned, sizes, squares, scaled []*big.Rat
	for _, x := range numbers(a) {
		turned = append(turned, new(big.Rat).Neg(x))
		sizes = append(sizes, new(big.Rat).Abs(x))
		squares = append(squares, new(big.Rat).Mul(x, x))
		scaled = append(scaled, new(big.Rat).Mul(x, big.NewRat(int64(n), int64(d))))
	}
	check := func(name string, got api.Band, e api.Errno, l []*big.Rat) {
		if want, wantError := tightest(l); got != want || e != wantError {
			t.Fatalf("%s(%v; %d, %d): %v, %d; want %v, %d", name, a, n, d, got, e, want, wantError)
		}
	}
	got, e := Neg(a)
	check("Neg", got, e, turned)
	got, e = Abs(a)
	check("Abs", got, e, sizes)
	got, e = Sqr(a)
	check("Sqr", got, e, squares)
	got, e = Scale(a, n, d)
	check("Scale", got, e, scaled)
}

func checkJoined(t *testing.T, a, b api.Band) {
	if got, e := Hull(a, b); got != (api.Band{Lo: min(a.Lo, b.Lo), Hi: max(a.Hi, b.Hi)}) || e != api.OK {
		t.Fatalf("Hull(%v, %v): %v, %d", a, b, got, e)
	}
	want, wantError := api.Band{Lo: max(a.Lo, b.Lo), Hi: min(a.Hi, b.Hi)}, api.OK
	if want.Lo > want.Hi {
		want, wantError = api.Band{}, api.ErrNone
	}
	if got, e := Meet(a, b); got != want || e != wantError {
		t.Fatalf("Meet(%v, %v): %v, %d", a, b, got, e)
	}
	got, e := Clamp(a, b.Lo, b.Hi)
	if want := (api.Band{Lo: min(max(a.Lo, b.Lo), b.Hi), Hi: min(max(a.Hi, b.Lo), b.Hi)}); got != want || e != api.OK {
		t.Fatalf("Clamp(%v, %v): %v, %d", a, b, got, e)
	}
}

// P3.2 to P3.5: all functions of bands want valid ones.
func TestInvalid(t *testing.T) {
	good := api.Band{Lo: 1, Hi: 2}
	for _, b := range wrong {
		for i, f := range []func(a, b api.Band) (api.Band, api.Errno){Add, Sub, Mul, Div, Min, Max, Hull, Meet} {
			for _, pair := range [][2]api.Band{{b, good}, {good, b}, {b, {}}} {
				if got, e := f(pair[0], pair[1]); got != (api.Band{}) || e != api.ErrBand {
					t.Errorf("%d(%v): %v, %d", i, pair, got, e)
				}
			}
		}
		for i, f := range []func(api.Band) (api.Band, api.Errno){Neg, Abs, Sqr, func(b api.Band) (api.Band, api.Errno) { return Scale(b, 1, 0) }, func(b api.Band) (api.Band, api.Errno) { return Clamp(b, 1, 0) }} {
			if got, e := f(b); got != (api.Band{}) || e != api.ErrBand {
				t.Errorf("%d(%v): %v, %d", i, b, got, e)
			}
		}
		for i, f := range []func(api.Band) (int, api.Errno){Mid, Width, Sign, func(b api.Band) (int, api.Errno) { return Cmp(good, b) }} {
			if got, e := f(b); got != 0 || e != api.ErrBand {
				t.Errorf("%d(%v): %v, %d", i, b, got, e)
			}
		}
		if got, e := Low(b); got != (api.Frac{}) || e != api.ErrBand {
			t.Errorf("Low(%v): %v, %d", b, got, e)
		}
		if got, e := High(b); got != (api.Frac{}) || e != api.ErrBand {
			t.Errorf("High(%v): %v, %d", b, got, e)
		}
	}
}

// P3.4, P3.5
func TestArguments(t *testing.T) {
	b := api.Band{Lo: 1, Hi: 2}
	for _, x := range [][2]int{{1, 0}, {1, -1}, {1, api.MaxRatio + 1}, {api.MaxRatio + 1, 1}, {-api.MaxRatio - 1, 1}, {-1 << 63, 1}} {
		if got, e := Scale(b, x[0], x[1]); got != (api.Band{}) || e != api.ErrArg {
			t.Errorf("Scale(%v): %v, %d", x, got, e)
		}
	}
	for _, x := range [][2]int{{1, 0}, {-top - 1, 0}, {0, top + 1}, {1<<63 - 1, -1 << 63}} {
		if got, e := Clamp(b, x[0], x[1]); got != (api.Band{}) || e != api.ErrArg {
			t.Errorf("Clamp(%v): %v, %d", x, got, e)
		}
	}
	// The least and the greatest numbers, and a product of just 65 bits.
	if got, e := Scale(api.Band{Lo: 1, Hi: 2}, -api.MaxRatio, api.MaxRatio); got != (api.Band{Lo: -2, Hi: -1}) || e != api.OK {
		t.Errorf("Scale: %v, %d", got, e)
	}
	for _, n := range []int{19, 20, 36, 37, 40} {
		if got, e := Scale(api.Band{Lo: 0, Hi: top}, n, 1); got != (api.Band{}) || e != api.ErrBig {
			t.Errorf("Scale(%d): %v, %d", n, got, e)
		}
	}
	if got, e := Scale(api.Band{Lo: -top, Hi: top}, api.MaxRatio, api.MaxRatio); got != (api.Band{Lo: -top, Hi: top}) || e != api.OK {
		t.Errorf("Scale: %v, %d", got, e)
	}
}

// P3.6: smaller arguments give smaller results.
func TestSmaller(t *testing.T) {
	r := rand.New(rand.NewSource(2))
	part := func(b api.Band) api.Band {
		lo := b.Lo + r.Intn(b.Hi-b.Lo+1)
		return api.Band{Lo: lo, Hi: lo + r.Intn(b.Hi-lo+1)}
	}
	for range 5000 {
		a, b := some(r), some(r)
		smallA, smallB := part(a), part(b)
		for _, o := range operations {
			wide, e := o.f(a, b)
			if e != api.OK {
				continue
			}
			narrow, e := o.f(smallA, smallB)
			if e != api.OK || narrow.Lo < wide.Lo || narrow.Hi > wide.Hi {
				t.Fatalf("%s(%v, %v) in (%v, %v): %v, %d", o.name, smallA, smallB, a, b, narrow, e)
			}
		}
	}
}
