package matrix

import (
	"math/big"
	"math/rand"
	"strings"
	"testing"

	"verdigris/api"
	"verdigris/band"
)

func fr(text string) api.Frac {
	x, ok := new(big.Rat).SetString(text)
	if !ok {
		panic(text)
	}
	return of(x)
}

func of(x *big.Rat) api.Frac {
	return api.Frac{N: api.Whole(x.Num().String()), D: api.Whole(x.Denom().String())}
}

func value(a api.Frac) *big.Rat {
	x, _ := new(big.Rat).SetString(string(a.N) + "/" + string(a.D))
	return x
}

// mat reads rows, separated by semicolons, of numbers.
func mat(text string) api.Mat {
	var m api.Mat
	for _, row := range strings.Split(text, ";") {
		m = append(m, list(row))
	}
	return m
}

func list(text string) []api.Frac {
	var l []api.Frac
	for _, word := range strings.Fields(text) {
		l = append(l, fr(word))
	}
	return l
}

func some(r *rand.Rand, n, m, long int) api.Mat {
	out := make(api.Mat, n)
	for i := range out {
		for range m {
			out[i] = append(out[i], someFrac(r, long))
		}
	}
	return out
}

func someFrac(r *rand.Rand, long int) api.Frac {
	number := func() *big.Int {
		return new(big.Int).Rand(r, new(big.Int).Exp(big.NewInt(10), big.NewInt(int64(1+r.Intn(long))), nil))
	}
	x := new(big.Rat).SetFrac(number(), new(big.Int).Add(number(), big.NewInt(1)))
	if r.Intn(2) == 0 {
		x.Neg(x)
	}
	if r.Intn(6) == 0 {
		x.SetInt64(0)
	}
	return of(x)
}

var wrong = []api.Mat{nil, {}, {nil}, mat("1;1 2"), mat("1 2;1"), mat("1 1 1 1 1"), mat("1;1;1;1;1"), {{{N: "2", D: "2"}}}, {{fr("1"), {}}}}

func sameList(a, b []api.Frac) bool { return Same(api.Mat{a}, api.Mat{b}) }

// P5.1
func TestCheckAndSame(t *testing.T) {
	for i, m := range wrong {
		if e := Check(m); e != api.ErrMat {
			t.Errorf("Check of %d: %d", i, e)
		}
	}
	for _, m := range []api.Mat{mat("1"), mat("1 2 3 4"), mat("1;2;3;4"), mat("1 2;3 4")} {
		if e := Check(m); e != api.OK {
			t.Errorf("Check(%v): %d", m, e)
		}
	}
	for _, x := range []struct {
		a, b api.Mat
		want bool
	}{
		{mat("1 2;3 4"), mat("1 2;3 4"), true},
		{mat("1 2;3 4"), mat("1 2;3 5"), false},
		{mat("1 2;3 4"), mat("1 2"), false},
		{mat("1 2"), mat("1;2"), false},
		{nil, api.Mat{}, true},
		{api.Mat{nil}, api.Mat{{}}, true},
		{api.Mat{nil}, nil, false},
		{api.Mat{{{N: "x"}}}, api.Mat{{{N: "x"}}}, true},
		{api.Mat{{{N: "2", D: "2"}}}, mat("1"), false},
	} {
		if Same(x.a, x.b) != x.want || Same(x.b, x.a) != x.want {
			t.Errorf("Same(%v, %v)", x.a, x.b)
		}
	}
}

// P5.1
func TestMade(t *testing.T) {
	for n, want := range map[int]api.Mat{1: mat("1"), 2: mat("1 0;0 1"), 3: mat("1 0 0;0 1 0;0 0 1"), 4: mat("1 0 0 0;0 1 0 0;0 0 1 0;0 0 0 1")} {
		if m, e := Identity(n); !Same(m, want) || e != api.OK {
			t.Errorf("Identity(%d): %v, %d", n, m, e)
		}
	}
	for _, n := range []int{0, -1, 5} {
		if m, e := Identity(n); m != nil || e != api.ErrArg {
			t.Errorf("Identity(%d): %v, %d", n, m, e)
		}
	}
	for _, x := range []struct {
		l    []api.Frac
		want api.Mat
		e    api.Errno
	}{
		{list("7/2"), mat("7/2"), api.OK},
		{list("2 3"), mat("2 0;0 3"), api.OK},
		{list("1/2 0 -3 4"), mat("1/2 0 0 0;0 0 0 0;0 0 -3 0;0 0 0 4"), api.OK},
		{nil, nil, api.ErrArg},
		{make([]api.Frac, 5), nil, api.ErrArg},
		{make([]api.Frac, 4), nil, api.ErrFrac},
	} {
		if m, e := Diagonal(x.l); !Same(m, x.want) || e != x.e {
			t.Errorf("Diagonal(%v): %v, %d", x.l, m, e)
		}
	}
	if m, e := Transpose(mat("1 2 3;4 5 6")); !Same(m, mat("1 4;2 5;3 6")) || e != api.OK {
		t.Errorf("Transpose: %v, %d", m, e)
	}
}

func product(a, b api.Mat) [][]*big.Rat {
	var out [][]*big.Rat
	for i := range a {
		var row []*big.Rat
		for j := range b[0] {
			sum := new(big.Rat)
			for k := range b {
				sum.Add(sum, new(big.Rat).Mul(value(a[i][k]), value(b[k][j])))
			}
			row = append(row, sum)
		}
		out = append(out, row)
	}
	return out
}

func matOf(m [][]*big.Rat) api.Mat {
	var out api.Mat
	for _, row := range m {
		var l []api.Frac
		for _, x := range row {
			l = append(l, of(x))
		}
		out = append(out, l)
	}
	return out
}

// det is the determinant, by its first row.
func det(m api.Mat) *big.Rat {
	if len(m) == 0 {
		return big.NewRat(1, 1)
	}
	out := new(big.Rat)
	for j := range m[0] {
		var rest api.Mat
		for _, row := range m[1:] {
			var l []api.Frac
			for k, a := range row {
				if k != j {
					l = append(l, a)
				}
			}
			rest = append(rest, l)
		}
		x := new(big.Rat).Mul(value(m[0][j]), det(rest))
		if j%2 == 1 {
			x.Neg(x)
		}
		out.Add(out, x)
	}
	return out
}

// P5.2, P5.3, P5.5
func TestAgainstBig(t *testing.T) {
	r := rand.New(rand.NewSource(1))
	for i := range 400 {
		long := 3
		if i%10 == 0 {
			long = 30
		}
		n, m, k := 1+r.Intn(4), 1+r.Intn(4), 1+r.Intn(4)
		a, b := some(r, n, m, long), some(r, m, k, long)
		want := matOf(product(a, b))
		if got, e := Mul(a, b); !Same(got, want) || e != api.OK {
			t.Fatalf("Mul(%v, %v): %v, %d", a, b, got, e)
		}
		column, _ := Transpose(b)
		wantColumn, _ := Transpose(want)
		if got, e := Apply(a, column[0]); !sameList(got, wantColumn[0]) || e != api.OK {
			t.Fatalf("Apply(%v, %v): %v, %d", a, column[0], got, e)
		}
		left, _ := Transpose(a)
		if got, e := Mul(column, left); !Same(got, wantColumn) || e != api.OK {
			t.Fatalf("Mul of transposed %v, %v: %v, %d", a, b, got, e)
		}
		square := some(r, n, n, long)
		if r.Intn(3) == 0 && n > 1 {
			square[r.Intn(n)] = square[r.Intn(n)]
		}
		checkSquare(t, square)
	}
}

func checkSquare(t *testing.T, m api.Mat) {
	want := det(m)
	if got, e := Det(m); got != of(want) || e != api.OK {
		t.Fatalf("Det(%v): %v, %d; want %s", m, got, e, want)
	}
	inverse, e := Inverse(m)
	if want.Sign() == 0 {
		if inverse != nil || e != api.ErrZero {
			t.Fatalf("Inverse(%v): %v, %d", m, inverse, e)
		}
		return
	}
	identity, _ := Identity(len(m))
	if e != api.OK || !Same(matOf(product(m, inverse)), identity) || !Same(matOf(product(inverse, m)), identity) {
		t.Fatalf("Inverse(%v): %v, %d", m, inverse, e)
	}
}

// P5.2, P5.3
func TestErrors(t *testing.T) {
	good := mat("1 2;3 4")
	for i, m := range wrong {
		for _, f := range []func() (api.Mat, api.Errno){
			func() (api.Mat, api.Errno) { return Transpose(m) },
			func() (api.Mat, api.Errno) { return Mul(m, good) },
			func() (api.Mat, api.Errno) { return Mul(good, m) },
			func() (api.Mat, api.Errno) { return Inverse(m) },
		} {
			if got, e := f(); got != nil || e != api.ErrMat {
				t.Errorf("%d: %v, %d", i, got, e)
			}
		}
		if got, e := Det(m); got != (api.Frac{}) || e != api.ErrMat {
			t.Errorf("Det of %d: %v, %d", i, got, e)
		}
		if got, e := Apply(m, make([]api.Frac, 7)); got != nil || e != api.ErrMat {
			t.Errorf("Apply of %d: %v, %d", i, got, e)
		}
		if got, e := Bands(m, []api.Band{{Lo: 1}}); got != nil || e != api.ErrMat {
			t.Errorf("Bands of %d: %v, %d", i, got, e)
		}
	}
	if m, e := Mul(mat("1 2"), mat("1 2")); m != nil || e != api.ErrArg {
		t.Errorf("Mul: %v, %d", m, e)
	}
	if x, e := Det(mat("1 2")); x != (api.Frac{}) || e != api.ErrArg {
		t.Errorf("Det: %v, %d", x, e)
	}
	if m, e := Inverse(mat("0;0")); m != nil || e != api.ErrArg {
		t.Errorf("Inverse: %v, %d", m, e)
	}
	if l, e := Apply(good, make([]api.Frac, 3)); l != nil || e != api.ErrFrac {
		t.Errorf("Apply: %v, %d", l, e)
	}
	for _, l := range [][]api.Frac{nil, list("1"), list("1 2 3")} {
		if got, e := Apply(good, l); got != nil || e != api.ErrArg {
			t.Errorf("Apply(%v): %v, %d", l, got, e)
		}
	}
}

// ErrBig is for results alone.
func TestBig(t *testing.T) {
	long := "1" + strings.Repeat("0", 599)
	m := mat(long + " 0;0 1/" + long)
	if x, e := Det(m); x != fr("1") || e != api.OK {
		t.Errorf("Det: %v, %d", x, e)
	}
	if x, e := Det(mat(long + " 0;0 10")); x != (api.Frac{}) || e != api.ErrBig {
		t.Errorf("Det: %v, %d", x, e)
	}
	if got, e := Mul(mat(long+" "+long), mat("10;-10")); !Same(got, mat("0")) || e != api.OK {
		t.Errorf("Mul: %v, %d", got, e)
	}
	if got, e := Mul(mat(long), mat("10")); got != nil || e != api.ErrBig {
		t.Errorf("Mul: %v, %d", got, e)
	}
	if got, e := Apply(mat(long+" "+long), list("10 -10")); !sameList(got, list("0")) || e != api.OK {
		t.Errorf("Apply: %v, %d", got, e)
	}
	if got, e := Apply(mat(long+" "+long), list("10 0")); got != nil || e != api.ErrBig {
		t.Errorf("Apply: %v, %d", got, e)
	}
	if got, e := Inverse(mat("1/" + long + " " + long + ";0 10")); got != nil || e != api.ErrBig {
		t.Errorf("Inverse: %v, %d", got, e)
	}
}

// P5.4
func TestBands(t *testing.T) {
	b := func(lo, hi int) api.Band { return api.Band{Lo: lo, Hi: hi} }
	got, e := Bands(mat("1/3 1;-1 2"), []api.Band{b(api.OneBand, api.OneBand), b(0, 7)})
	if len(got) != 2 || got[0] != b(333333333333, 333333333341) || got[1] != b(-api.OneBand, -api.OneBand+14) || e != api.OK {
		t.Errorf("Bands: %v, %d", got, e)
	}
	for _, x := range []struct {
		m api.Mat
		l []api.Band
		e api.Errno
	}{
		{mat("1 2"), []api.Band{b(1, 0)}, api.ErrBand},
		{mat("1 2"), []api.Band{b(1, 1)}, api.ErrArg},
		{mat("1 2"), nil, api.ErrArg},
		{mat("1000001"), []api.Band{b(0, 0)}, api.ErrBig},
		{mat("1000"), []api.Band{b(0, 1001*api.OneBand)}, api.ErrBig},
		{mat("1 1"), []api.Band{b(0, api.MaxBand), b(0, 1)}, api.ErrBig},
		{mat("1;1000"), []api.Band{b(0, 1001*api.OneBand)}, api.ErrBig},
	} {
		if got, e := Bands(x.m, x.l); got != nil || e != x.e {
			t.Errorf("Bands(%v, %v): %v, %d", x.m, x.l, got, e)
		}
	}
	if got, e := Bands(mat("1 1"), []api.Band{b(0, api.MaxBand), b(-1, 0)}); len(got) != 1 || got[0] != b(-1, api.MaxBand) || e != api.OK {
		t.Errorf("Bands: %v, %d", got, e)
	}
}

// P5.5: bands around the elements of a list contain the exact results.
func TestBandsContain(t *testing.T) {
	r := rand.New(rand.NewSource(2))
	for range 300 {
		n, m := 1+r.Intn(4), 1+r.Intn(4)
		a, l := some(r, n, m, 3), some(r, 1, m, 3)[0]
		var bands []api.Band
		for _, x := range l {
			b, _ := band.Around(x)
			bands = append(bands, b)
		}
		exact, _ := Apply(a, l)
		got, e := Bands(a, bands)
		for i := range exact {
			if e != api.OK {
				t.Fatalf("Bands: %d", e)
			}
			if ok, _ := band.Has(got[i], exact[i]); !ok {
				t.Fatalf("Bands(%v, %v): %v, not %v", a, l, got[i], exact[i])
			}
		}
	}
}
