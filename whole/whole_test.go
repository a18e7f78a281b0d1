package whole

import (
	"math/big"
	"math/rand"
	"strings"
	"testing"

	"verdigris/api"
)

var (
	longest = api.Whole(strings.Repeat("9", api.MaxWhole))
	tooLong = api.Whole("1" + strings.Repeat("0", api.MaxWhole))
	wrong   = []api.Whole{"", "-", "-0", "00", "017", "-017", "+1", " 1", "1 ", "1.0", "1e3", "a", "1:", "/1", "-:", "१", tooLong, "-" + tooLong, api.Whole(strings.Repeat("1", 100000))}
)

// P1.1
func TestCheck(t *testing.T) {
	for _, a := range wrong {
		if e := Check(a); e != api.ErrWhole {
			t.Errorf("Check(%.20s): %d", a, e)
		}
	}
	for _, a := range []api.Whole{"0", "1", "-1", "-17", "10", longest, "-" + longest} {
		if e := Check(a); e != api.OK {
			t.Errorf("Check(%.20s): %d", a, e)
		}
	}
}

// P1.1
func TestOfAndInt(t *testing.T) {
	for _, n := range []int{0, 1, -1, 7, -42, 1000000000000000000, 999999999999999999, 1<<63 - 1, -1 << 63} {
		a := Of(n)
		if string(a) != big.NewInt(int64(n)).String() {
			t.Errorf("Of(%d): %s", n, a)
		}
		if m, e := Int(a); m != n || e != api.OK {
			t.Errorf("Int(%s): %d, %d", a, m, e)
		}
	}
	for _, a := range []api.Whole{"9223372036854775808", "-9223372036854775809", "18446744073709551616", longest, "-" + longest} {
		if n, e := Int(a); n != 0 || e != api.ErrBig {
			t.Errorf("Int(%.30s): %d, %d", a, n, e)
		}
	}
}

type unary struct {
	name string
	f    func(a api.Whole) (api.Whole, api.Errno)
	want func(x *big.Int) *big.Int
}

type binary struct {
	name string
	f    func(a, b api.Whole) (api.Whole, api.Errno)
	want func(x, y *big.Int) *big.Int
}

var unaries = []unary{
	{"Neg", Neg, func(x *big.Int) *big.Int { return x.Neg(x) }},
	{"Abs", Abs, func(x *big.Int) *big.Int { return x.Abs(x) }},
}

var binaries = []binary{
	{"Add", Add, func(x, y *big.Int) *big.Int { return x.Add(x, y) }},
	{"Sub", Sub, func(x, y *big.Int) *big.Int { return x.Sub(x, y) }},
	{"Mul", Mul, func(x, y *big.Int) *big.Int { return x.Mul(x, y) }},
	{"Gcd", Gcd, func(x, y *big.Int) *big.Int { return x.GCD(nil, nil, x.Abs(x), y.Abs(y)) }},
}

func some(r *rand.Rand, n int) api.Whole {
	n = 1 + r.Intn(n)
	b := []byte{byte('1' + r.Intn(9))}
	for len(b) < n {
		b = append(b, byte('0'+r.Intn(10)))
	}
	switch r.Intn(12) {
	case 0:
		return "0"
	case 1, 2, 3, 4:
		return api.Whole("-" + string(b))
	}
	return api.Whole(b)
}

func value(a api.Whole) *big.Int {
	x, _ := new(big.Int).SetString(string(a), 10)
	return x
}

// P1.2 to P1.4: results against another implementation, with ErrBig for what is too long.
func TestAgainstBig(t *testing.T) {
	r := rand.New(rand.NewSource(1))
	for i := range 3000 {
		long := 30
		if i%4 == 0 {
			long = 600
		}
		a, b := some(r, long), some(r, long)
		for _, u := range unaries {
			if got, e := u.f(a); e != api.OK || string(got) != u.want(value(a)).String() {
				t.Fatalf("%s(%s): %s, %d", u.name, a, got, e)
			}
		}
		for _, u := range binaries {
			got, e := u.f(a, b)
			want, wantError := u.want(value(a), value(b)).String(), api.OK
			if len(strings.TrimPrefix(want, "-")) > api.MaxWhole {
				want, wantError = "", api.ErrBig
			}
			if e != wantError || string(got) != want {
				t.Fatalf("%s(%s, %s): %s, %d", u.name, a, b, got, e)
			}
		}
		if c, e := Cmp(a, b); c != value(a).Cmp(value(b)) || e != api.OK {
			t.Fatalf("Cmp(%s, %s): %d, %d", a, b, c, e)
		}
		if s, e := Sign(a); s != value(a).Sign() || e != api.OK {
			t.Fatalf("Sign(%s): %d, %d", a, s, e)
		}
		checkDivision(t, a, b)
	}
}

func checkDivision(t *testing.T, a, b api.Whole) {
	q, r, e := Div(a, b)
	if b == "0" {
		if q != "" || r != "" || e != api.ErrZero {
			t.Fatalf("Div(%s, 0): %s, %s, %d", a, q, r, e)
		}
		return
	}
	quotient, rest := new(big.Int).DivMod(value(a), value(b), new(big.Int))
	if e != api.OK || string(q) != quotient.String() || string(r) != rest.String() {
		t.Fatalf("Div(%s, %s): %s, %s, %d", a, b, q, r, e)
	}
}

// P1.2 to P1.5: every function but Of wants valid numbers.
func TestInvalid(t *testing.T) {
	for _, a := range wrong {
		for _, u := range unaries {
			if got, e := u.f(a); got != "" || e != api.ErrWhole {
				t.Errorf("%s(%.20s): %s, %d", u.name, a, got, e)
			}
		}
		for _, u := range binaries {
			for _, pair := range [][2]api.Whole{{a, "1"}, {"1", a}, {a, a}} {
				if got, e := u.f(pair[0], pair[1]); got != "" || e != api.ErrWhole {
					t.Errorf("%s(%.20s, %.20s): %s, %d", u.name, pair[0], pair[1], got, e)
				}
			}
		}
		if n, e := Int(a); n != 0 || e != api.ErrWhole {
			t.Errorf("Int(%.20s): %d, %d", a, n, e)
		}
		if n, e := Sign(a); n != 0 || e != api.ErrWhole {
			t.Errorf("Sign(%.20s): %d, %d", a, n, e)
		}
		if n, e := Cmp(a, "1"); n != 0 || e != api.ErrWhole {
			t.Errorf("Cmp(%.20s, 1): %d, %d", a, n, e)
		}
		if n, e := Cmp("1", a); n != 0 || e != api.ErrWhole {
			t.Errorf("Cmp(1, %.20s): %d, %d", a, n, e)
		}
		if q, r, e := Div(a, "0"); q != "" || r != "" || e != api.ErrWhole {
			t.Errorf("Div(%.20s, 0): %s, %s, %d", a, q, r, e)
		}
		if q, r, e := Div("1", a); q != "" || r != "" || e != api.ErrWhole {
			t.Errorf("Div(1, %.20s): %s, %s, %d", a, q, r, e)
		}
		if p, e := Pow(a, 41); p != "" || e != api.ErrWhole {
			t.Errorf("Pow(%.20s, 41): %s, %d", a, p, e)
		}
		if p, e := Root(a, 13); p != "" || e != api.ErrWhole {
			t.Errorf("Root(%.20s, 13): %s, %d", a, p, e)
		}
	}
}

// P1.3: the limit of 600 digits.
func TestLimit(t *testing.T) {
	if a, e := Add(longest, "1"); a != "" || e != api.ErrBig {
		t.Errorf("Add: %.20s, %d", a, e)
	}
	if a, e := Sub("-"+longest, "1"); a != "" || e != api.ErrBig {
		t.Errorf("Sub: %.20s, %d", a, e)
	}
	if a, e := Mul(api.Whole("1"+strings.Repeat("0", 300)), api.Whole("1"+strings.Repeat("0", 300))); a != "" || e != api.ErrBig {
		t.Errorf("Mul: %.20s, %d", a, e)
	}
	if a, e := Mul(api.Whole("1"+strings.Repeat("0", 300)), api.Whole("-1"+strings.Repeat("0", 299))); a != api.Whole("-1"+strings.Repeat("0", 599)) || e != api.OK {
		t.Errorf("Mul: %.20s, %d", a, e)
	}
	if a, e := Add(longest, "0"); a != longest || e != api.OK {
		t.Errorf("Add: %.20s, %d", a, e)
	}
}

// P1.5
func TestPow(t *testing.T) {
	r := rand.New(rand.NewSource(2))
	for range 500 {
		a, n := some(r, 25), r.Intn(41)
		want := new(big.Int).Exp(value(a), big.NewInt(int64(n)), nil).String()
		got, e := Pow(a, n)
		if len(strings.TrimPrefix(want, "-")) > api.MaxWhole {
			if got != "" || e != api.ErrBig {
				t.Fatalf("Pow(%s, %d): %s, %d", a, n, got, e)
			}
		} else if string(got) != want || e != api.OK {
			t.Fatalf("Pow(%s, %d): %s, %d", a, n, got, e)
		}
	}
	for _, n := range []int{-1, 41, 1 << 62, -1 << 63} {
		if a, e := Pow("2", n); a != "" || e != api.ErrArg {
			t.Errorf("Pow(2, %d): %s, %d", n, a, e)
		}
	}
	if a, e := Pow("0", 0); a != "1" || e != api.OK {
		t.Errorf("Pow(0, 0): %s, %d", a, e)
	}
	if a, e := Pow(longest, 40); a != "" || e != api.ErrBig {
		t.Errorf("Pow: %.20s, %d", a, e)
	}
}

// P1.5, P1.6: a root and the next number have powers around the number.
func TestRoot(t *testing.T) {
	r := rand.New(rand.NewSource(3))
	for range 500 {
		a, k := some(r, 600), 1+r.Intn(12)
		root, e := Root(a, k)
		if value(a).Sign() < 0 {
			if root != "" || e != api.ErrArg {
				t.Fatalf("Root(%s, %d): %s, %d", a, k, root, e)
			}
			continue
		}
		degree := big.NewInt(int64(k))
		low, high := value(root), new(big.Int).Add(value(root), big.NewInt(1))
		if e != api.OK || low.Exp(low, degree, nil).Cmp(value(a)) > 0 || high.Exp(high, degree, nil).Cmp(value(a)) <= 0 {
			t.Fatalf("Root(%s, %d): %s, %d", a, k, root, e)
		}
	}
	for _, k := range []int{0, -1, 13, 1 << 62} {
		if a, e := Root("4", k); a != "" || e != api.ErrArg {
			t.Errorf("Root(4, %d): %s, %d", k, a, e)
		}
	}
	if a, e := Root("-1", 3); a != "" || e != api.ErrArg {
		t.Errorf("Root(-1, 3): %s, %d", a, e)
	}
}

// P1.6
func TestLaws(t *testing.T) {
	r := rand.New(rand.NewSource(4))
	must := func(a api.Whole, e api.Errno) api.Whole {
		if e != api.OK {
			t.Fatalf("error %d", e)
		}
		return a
	}
	for range 300 {
		a, b, c := some(r, 200), some(r, 200), some(r, 200)
		if must(Add(a, b)) != must(Add(b, a)) || must(Mul(a, b)) != must(Mul(b, a)) {
			t.Fatalf("order of %s and %s", a, b)
		}
		if must(Mul(a, must(Add(b, c)))) != must(Add(must(Mul(a, b)), must(Mul(a, c)))) {
			t.Fatalf("distributive law of %s, %s, %s", a, b, c)
		}
		g := must(Gcd(must(Mul(a, c)), must(Mul(b, c))))
		if g != must(Mul(must(Gcd(a, b)), must(Abs(c)))) {
			t.Fatalf("divisor of %s, %s times %s", a, b, c)
		}
		if b == "0" {
			continue
		}
		if q, rest, e := Div(must(Mul(a, b)), b); q != a || rest != "0" || e != api.OK {
			t.Fatalf("Div of Mul of %s, %s: %s, %s, %d", a, b, q, rest, e)
		}
	}
}
