package frac

import (
	"math/big"
	"math/rand"
	"strings"
	"testing"

	"verdigris/api"
)

func f(n, d string) api.Frac { return api.Frac{N: api.Whole(n), D: api.Whole(d)} }

var (
	nines   = strings.Repeat("9", api.MaxWhole)
	tooLong = "1" + strings.Repeat("0", api.MaxWhole)
	wrong   = []api.Frac{{}, f("1", ""), f("", "1"), f("2", "4"), f("1", "0"), f("1", "-2"), f("0", "2"), f("-0", "1"), f("01", "1"), f("1", "01"), f("x", "1"), f("1", "x"), f("1:", "1"), f("1/", "1"), f("1", "1:"), f("-", "1"), f("--1", "1"), f("1", "-1"), f("1.5", "1"), f(tooLong, "1"), f("1", tooLong),
		f("1000000000000000000000000", "2000000000000000000000000"), f("3000000000000000000003", "9")}
)

// P2.1
func TestCheck(t *testing.T) {
	for _, a := range wrong {
		if e := Check(a); e != api.ErrFrac {
			t.Errorf("Check(%.30s / %.30s): %d", a.N, a.D, e)
		}
	}
	for _, a := range []api.Frac{f("0", "1"), f("-1", "2"), f("17", "1"), f(nines, "2"), f("-"+nines, "10"), f("1", nines), f("1000000000000000000", "999999999999999999")} {
		if e := Check(a); e != api.OK {
			t.Errorf("Check(%.30s / %.30s): %d", a.N, a.D, e)
		}
	}
}

// P2.1
func TestMakeAndOf(t *testing.T) {
	for _, x := range []struct {
		n, d string
		want api.Frac
		e    api.Errno
	}{
		{"6", "-4", f("-3", "2"), api.OK},
		{"-6", "-4", f("3", "2"), api.OK},
		{"0", "-5", f("0", "1"), api.OK},
		{"1", "0", api.Frac{}, api.ErrZero},
		{"x", "0", api.Frac{}, api.ErrWhole},
		{"1", "00", api.Frac{}, api.ErrWhole},
		{tooLong, "1", api.Frac{}, api.ErrWhole},
		{nines, nines, f("1", "1"), api.OK},
		{nines, "-9", f("-"+strings.Repeat("1", 600), "1"), api.OK},
	} {
		if got, e := Make(api.Whole(x.n), api.Whole(x.d)); got != x.want || e != x.e {
			t.Errorf("Make(%.20s, %.20s): %v, %d", x.n, x.d, got, e)
		}
	}
	const least = -1 << 63
	for _, x := range []struct {
		n, d int
		want api.Frac
		e    api.Errno
	}{
		{6, -4, f("-3", "2"), api.OK},
		{0, 5, f("0", "1"), api.OK},
		{1, 0, api.Frac{}, api.ErrZero},
		{0, 0, api.Frac{}, api.ErrZero},
		{least, -1, f("9223372036854775808", "1"), api.OK},
		{least, 1, f("-9223372036854775808", "1"), api.OK},
		{1, least, f("-1", "9223372036854775808"), api.OK},
		{least, least, f("1", "1"), api.OK},
		{least, 6, f("-4611686018427387904", "3"), api.OK},
		{1<<63 - 1, -1 << 62, f("-9223372036854775807", "4611686018427387904"), api.OK},
	} {
		if got, e := Of(x.n, x.d); got != x.want || e != x.e {
			t.Errorf("Of(%d, %d): %v, %d", x.n, x.d, got, e)
		}
	}
}

type binary struct {
	name string
	f    func(a, b api.Frac) (api.Frac, api.Errno)
	want func(x, y *big.Rat) *big.Rat
}

var binaries = []binary{
	{"Add", Add, func(x, y *big.Rat) *big.Rat { return new(big.Rat).Add(x, y) }},
	{"Sub", Sub, func(x, y *big.Rat) *big.Rat { return new(big.Rat).Sub(x, y) }},
	{"Mul", Mul, func(x, y *big.Rat) *big.Rat { return new(big.Rat).Mul(x, y) }},
	{"Div", Div, func(x, y *big.Rat) *big.Rat {
		if y.Sign() == 0 {
			return nil
		}
		return new(big.Rat).Quo(x, y)
	}},
	{"Min", Min, func(x, y *big.Rat) *big.Rat {
		if x.Cmp(y) < 0 {
			return x
		}
		return y
	}},
	{"Max", Max, func(x, y *big.Rat) *big.Rat {
		if x.Cmp(y) > 0 {
			return x
		}
		return y
	}},
}

func someWhole(r *rand.Rand, n int) string {
	b := []byte{byte('1' + r.Intn(9))}
	for range r.Intn(n) {
		b = append(b, byte('0'+r.Intn(10)))
	}
	return string(b)
}

func some(r *rand.Rand, n int) api.Frac {
	above := someWhole(r, n)
	switch r.Intn(10) {
	case 0:
		above = "0"
	case 1, 2, 3, 4:
		above = "-" + above
	}
	x, _ := new(big.Rat).SetString(above + "/" + someWhole(r, n))
	return of(x)
}

func of(x *big.Rat) api.Frac { return f(x.Num().String(), x.Denom().String()) }

func value(a api.Frac) *big.Rat {
	x, _ := new(big.Rat).SetString(string(a.N) + "/" + string(a.D))
	return x
}

// expected returns the fraction, or the error, that a result is to be.
func expected(x *big.Rat) (api.Frac, api.Errno) {
	if x == nil {
		return api.Frac{}, api.ErrZero
	}
	a := of(x)
	if len(strings.TrimPrefix(string(a.N), "-")) > api.MaxWhole || len(a.D) > api.MaxWhole {
		return api.Frac{}, api.ErrBig
	}
	return a, api.OK
}

// P2.2, P2.3: results against another implementation, for short, middle and long fractions.
func TestAgainstBig(t *testing.T) {
	r := rand.New(rand.NewSource(1))
	lengths := []int{2, 8, 10, 18, 19, 40, 300, 600}
	for i := range 8000 {
		long := lengths[i%len(lengths)]
		if long > 100 && i%40 > 8 {
			long = 18
		}
		a, b := some(r, long), some(r, long)
		if r.Intn(5) == 0 {
			b = some(r, 4)
		}
		x, y := value(a), value(b)
		for _, u := range binaries {
			want, wantError := expected(u.want(x, y))
			if got, e := u.f(a, b); got != want || e != wantError {
				t.Fatalf("%s(%s, %s): %v, %d; want %v, %d", u.name, x, y, got, e, want, wantError)
			}
		}
		if c, e := Cmp(a, b); c != x.Cmp(y) || e != api.OK {
			t.Fatalf("Cmp(%s, %s): %d, %d", x, y, c, e)
		}
		if s, e := Sign(a); s != x.Sign() || e != api.OK {
			t.Fatalf("Sign(%s): %d, %d", x, s, e)
		}
		if n, e := Neg(a); n != of(new(big.Rat).Neg(x)) || e != api.OK {
			t.Fatalf("Neg(%s): %v, %d", x, n, e)
		}
		if n, e := Abs(a); n != of(new(big.Rat).Abs(x)) || e != api.OK {
			t.Fatalf("Abs(%s): %v, %d", x, n, e)
		}
		checkRounding(t, r, a)
	}
}

// P2.4
func checkRounding(t *testing.T, r *rand.Rand, a api.Frac) {
	x := value(a)
	if w, e := Floor(a); string(w) != new(big.Int).Div(x.Num(), x.Denom()).String() || e != api.OK {
		t.Fatalf("Floor(%s): %s, %d", x, w, e)
	}
	for _, scale := range []int{1, 1 + r.Intn(api.MaxScale), api.MaxScale} {
		y := new(big.Rat).Mul(x, big.NewRat(int64(scale), 1))
		y.Add(y, big.NewRat(1, 2))
		near := new(big.Int).Div(y.Num(), y.Denom())
		got, e := Near(a, scale)
		if near.IsInt64() && (int64(got) != near.Int64() || e != api.OK) || !near.IsInt64() && (got != 0 || e != api.ErrBig) {
			t.Fatalf("Near(%s, %d): %d, %d", x, scale, got, e)
		}
	}
}

// P2.2 to P2.5: all functions of fractions want valid ones.
func TestInvalid(t *testing.T) {
	one := f("1", "1")
	for _, a := range wrong {
		for _, u := range binaries {
			for _, pair := range [][2]api.Frac{{a, one}, {one, a}, {a, f("0", "1")}} {
				if got, e := u.f(pair[0], pair[1]); got != (api.Frac{}) || e != api.ErrFrac {
					t.Errorf("%s of %.20s / %.20s: %v, %d", u.name, a.N, a.D, got, e)
				}
			}
		}
		for i, g := range []func() (api.Frac, api.Errno){
			func() (api.Frac, api.Errno) { return Neg(a) },
			func() (api.Frac, api.Errno) { return Abs(a) },
			func() (api.Frac, api.Errno) { return Pow(a, 41) },
			func() (api.Frac, api.Errno) { return Sum([]api.Frac{one, a}) },
			func() (api.Frac, api.Errno) { return Clamp(a, one, f("0", "1")) },
			func() (api.Frac, api.Errno) { return Clamp(one, a, one) },
			func() (api.Frac, api.Errno) { return Clamp(one, one, a) },
		} {
			if got, e := g(); got != (api.Frac{}) || e != api.ErrFrac {
				t.Errorf("%d of %.20s / %.20s: %v, %d", i, a.N, a.D, got, e)
			}
		}
		if n, e := Sign(a); n != 0 || e != api.ErrFrac {
			t.Errorf("Sign: %d, %d", n, e)
		}
		if n, e := Cmp(one, a); n != 0 || e != api.ErrFrac {
			t.Errorf("Cmp: %d, %d", n, e)
		}
		if w, e := Floor(a); w != "" || e != api.ErrFrac {
			t.Errorf("Floor: %s, %d", w, e)
		}
		if n, e := Near(a, 0); n != 0 || e != api.ErrFrac {
			t.Errorf("Near: %d, %d", n, e)
		}
		if s, e := Text(a, -1); s != "" || e != api.ErrFrac {
			t.Errorf("Text: %s, %d", s, e)
		}
	}
}

// P2.2
func TestClamp(t *testing.T) {
	for _, x := range []struct{ a, low, high, want api.Frac }{
		{f("3", "2"), f("0", "1"), f("1", "1"), f("1", "1")},
		{f("-3", "2"), f("0", "1"), f("1", "1"), f("0", "1")},
		{f("1", "2"), f("0", "1"), f("1", "1"), f("1", "2")},
		{f("5", "2"), f("1", "3"), f("1", "3"), f("1", "3")},
	} {
		if got, e := Clamp(x.a, x.low, x.high); got != x.want || e != api.OK {
			t.Errorf("Clamp(%v): %v, %d", x, got, e)
		}
	}
	if got, e := Clamp(f("0", "1"), f("1", "1"), f("0", "1")); got != (api.Frac{}) || e != api.ErrArg {
		t.Errorf("Clamp: %v, %d", got, e)
	}
}

// P2.3
func TestPowAndSum(t *testing.T) {
	r := rand.New(rand.NewSource(2))
	for range 400 {
		a, n := some(r, 20), r.Intn(41)
		want := big.NewRat(1, 1)
		for range n {
			want.Mul(want, value(a))
		}
		wantFrac, wantError := expected(want)
		if got, e := Pow(a, n); got != wantFrac || e != wantError {
			t.Fatalf("Pow(%v, %d): %v, %d", a, n, got, e)
		}
	}
	for _, n := range []int{-1, 41, 1 << 62} {
		if got, e := Pow(f("1", "2"), n); got != (api.Frac{}) || e != api.ErrArg {
			t.Errorf("Pow(1/2, %d): %v, %d", n, got, e)
		}
	}
	for range 100 {
		var l []api.Frac
		want := new(big.Rat)
		for range r.Intn(12) {
			a := some(r, 60)
			l = append(l, a)
			want.Add(want, value(a))
		}
		wantFrac, wantError := expected(want)
		if got, e := Sum(l); got != wantFrac || e != wantError {
			t.Fatalf("Sum(%v): %v, %d", l, got, e)
		}
	}
	if got, e := Sum(nil); got != f("0", "1") || e != api.OK {
		t.Errorf("Sum of none: %v, %d", got, e)
	}
	if got, e := Sum(make([]api.Frac, 301)); got != (api.Frac{}) || e != api.ErrLong {
		t.Errorf("Sum of 301: %v, %d", got, e)
	}
	if got, e := Sum(make([]api.Frac, 300)); got != (api.Frac{}) || e != api.ErrFrac {
		t.Errorf("Sum of 300: %v, %d", got, e)
	}
	// What is too long on the way does not matter.
	if got, e := Sum([]api.Frac{f(nines, "1"), f(nines, "1"), f("-"+nines, "1")}); got != f(nines, "1") || e != api.OK {
		t.Errorf("Sum: %v, %d", got, e)
	}
}

// P2.4
func TestNear(t *testing.T) {
	for _, x := range []struct {
		a     api.Frac
		scale int
		want  int
	}{{f("1", "2"), 1, 1}, {f("-1", "2"), 1, 0}, {f("2", "3"), 1000, 667}, {f("-3", "2"), 1, -1}, {f("-5", "3"), 1, -2}, {f("1", "4"), 2, 1}, {f("-9223372036854775808", "1"), 1, -1 << 63}} {
		if n, e := Near(x.a, x.scale); n != x.want || e != api.OK {
			t.Errorf("Near(%v): %d, %d", x, n, e)
		}
	}
	for _, scale := range []int{0, -1, api.MaxScale + 1} {
		if n, e := Near(f("1", "1"), scale); n != 0 || e != api.ErrArg {
			t.Errorf("Near(1, %d): %d, %d", scale, n, e)
		}
	}
	if n, e := Near(f("9223372036854775808", "1"), 1); n != 0 || e != api.ErrBig {
		t.Errorf("Near: %d, %d", n, e)
	}
}

// P2.5
func TestText(t *testing.T) {
	for _, x := range []struct {
		a      api.Frac
		places int
		want   string
	}{{f("-1", "8"), 2, "-0.12"}, {f("1", "3"), 4, "0.3333"}, {f("5", "2"), 0, "3"}, {f("-5", "2"), 0, "-2"}, {f("-1", "1000"), 2, "0.00"}, {f("-1", "2"), 0, "0"}, {f("12", "1"), 3, "12.000"}, {f("999", "1000"), 2, "1.00"}, {f("1", "3"), 20, "0.33333333333333333333"}, {f("-2", "3"), 1, "-0.7"}, {f("0", "1"), 0, "0"}} {
		if s, e := Text(x.a, x.places); s != x.want || e != api.OK {
			t.Errorf("Text(%v): %s, %d", x, s, e)
		}
	}
	for _, places := range []int{-1, 21} {
		if s, e := Text(f("1", "2"), places); s != "" || e != api.ErrArg {
			t.Errorf("Text(1/2, %d): %s, %d", places, s, e)
		}
	}
}

// P2.5
func TestParse(t *testing.T) {
	for s, want := range map[string]api.Frac{"-0.50": f("-1", "2"), "12": f("12", "1"), "0": f("0", "1"), "0.0": f("0", "1"), "0.000": f("0", "1"), "-0.001": f("-1", "1000"), "10.25": f("41", "4"), "1.00000000000000000000": f("1", "1"), "-7": f("-7", "1"), nines: f(nines, "1"), "0." + strings.Repeat("0", 19) + "1": f("1", "1"+strings.Repeat("0", 20))} {
		if a, e := Parse(s); a != want || e != api.OK {
			t.Errorf("Parse(%.30s): %v, %d", s, a, e)
		}
	}
	for _, s := range []string{"", "-", ".", "-.", "007", "1.", ".5", "-0", "-0.0", "-0.000", "+1", "1 ", " 1", "1.2.3", "--1", "1-", "0-1", "1e3", "1,5", "00", "00.5", "-01", "1.000000000000000000000", "\xff", "1\xff", "१", "1.२"} {
		if a, e := Parse(s); a != (api.Frac{}) || e != api.ErrForm {
			t.Errorf("Parse(%q): %v, %d", s, a, e)
		}
	}
	for _, s := range []string{tooLong, nines + ".5", "-" + tooLong + ".25"} {
		if a, e := Parse(s); a != (api.Frac{}) || e != api.ErrBig {
			t.Errorf("Parse(%.30s): %v, %d", s, a, e)
		}
	}
}

// P2.5, P2.6: a text with enough places is read back, a rounded one is at most half of the last place away.
func TestTextIsReadBack(t *testing.T) {
	r := rand.New(rand.NewSource(3))
	for range 2000 {
		a, places := some(r, 15), r.Intn(21)
		s, e := Text(a, places)
		if e != api.OK || places > 0 && len(s)-strings.Index(s, ".") != places+1 || places == 0 && strings.Contains(s, ".") {
			t.Fatalf("Text(%v, %d): %s, %d", a, places, s, e)
		}
		back, e := Parse(s)
		if e != api.OK {
			t.Fatalf("Parse(%s): %d", s, e)
		}
		away := new(big.Rat).Sub(value(back), value(a))
		half := new(big.Rat).SetFrac(big.NewInt(1), new(big.Int).Mul(big.NewInt(2), new(big.Int).Exp(big.NewInt(10), big.NewInt(int64(places)), nil)))
		if away.Abs(away).Cmp(half) > 0 {
			t.Fatalf("Text(%v, %d): %s", a, places, s)
		}
	}
}

// P2.6: the laws of a field.
func TestLaws(t *testing.T) {
	r := rand.New(rand.NewSource(4))
	must := func(a api.Frac, e api.Errno) api.Frac {
		if e != api.OK {
			t.Fatalf("error %d", e)
		}
		return a
	}
	for range 500 {
		a, b, c := some(r, 30), some(r, 30), some(r, 30)
		if must(Mul(a, must(Add(b, c)))) != must(Add(must(Mul(a, b)), must(Mul(a, c)))) {
			t.Fatalf("distributive law of %v, %v, %v", a, b, c)
		}
		if must(Add(a, must(Neg(a)))) != f("0", "1") || must(Sub(must(Add(a, b)), b)) != a {
			t.Fatalf("sums of %v, %v", a, b)
		}
		if b.N != "0" && must(Mul(must(Div(a, b)), b)) != a {
			t.Fatalf("quotient of %v, %v", a, b)
		}
	}
	if a, e := Div(f("1", "1"), f("0", "1")); a != (api.Frac{}) || e != api.ErrZero {
		t.Errorf("Div: %v, %d", a, e)
	}
}

func BenchmarkAddShort(b *testing.B) {
	x, y := f("12345", "65535000000"), f("777", "1000000")
	for b.Loop() {
		Add(x, y)
	}
}

func BenchmarkMulMiddle(b *testing.B) {
	x, y := f("1234567890123456789012345", "65535000000000001"), f("77777777777777777771", "1000000000000000")
	for b.Loop() {
		Mul(x, y)
	}
}
