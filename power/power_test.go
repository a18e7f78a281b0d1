package power

import (
	"math/big"
	"math/rand"
	"strings"
	"testing"

	"verdigris/api"
	"verdigris/band"
	"verdigris/frac"
)

const (
	one = api.OneBand
	top = api.MaxBand
)

var wrong = []api.Band{{Lo: 1, Hi: 0}, {Lo: -top - 1, Hi: 0}, {Lo: 0, Hi: top + 1}}

// below reports whether y^q <= x^p, for y and x in units.
func below(y, x *big.Int, p, q int) bool {
	unit := big.NewInt(one)
	left := new(big.Int).Exp(y, big.NewInt(int64(q)), nil)
	left.Mul(left, new(big.Int).Exp(unit, big.NewInt(int64(p)), nil))
	right := new(big.Int).Exp(x, big.NewInt(int64(p)), nil)
	right.Mul(right, new(big.Int).Exp(unit, big.NewInt(int64(q)), nil))
	return left.Cmp(right) <= 0
}

// floorPower returns the power of an end, rounded down, by halving.
func floorPower(x, p, q int) *big.Int {
	low, high := big.NewInt(0), new(big.Int).Exp(big.NewInt(10), big.NewInt(250), nil)
	for {
		mid := new(big.Int).Add(low, high)
		mid.Rsh(mid, 1)
		if mid.Cmp(low) == 0 {
			return low
		}
		if below(mid, big.NewInt(int64(x)), p, q) {
			low = mid
		} else {
			high = mid
		}
	}
}

// ceilPower returns the power of an end, rounded up.
func ceilPower(x, p, q int) *big.Int {
	y := floorPower(x, p, q)
	unit := big.NewInt(one)
	left := new(big.Int).Exp(y, big.NewInt(int64(q)), nil)
	left.Mul(left, new(big.Int).Exp(unit, big.NewInt(int64(p)), nil))
	right := new(big.Int).Exp(big.NewInt(int64(x)), big.NewInt(int64(p)), nil)
	right.Mul(right, new(big.Int).Exp(unit, big.NewInt(int64(q)), nil))
	if left.Cmp(right) == 0 {
		return y
	}
	return y.Add(y, big.NewInt(1))
}

func someEnd(r *rand.Rand) int {
	switch r.Intn(5) {
	case 0:
		return r.Intn(20)
	case 1:
		return r.Intn(30) * one
	case 2:
		return r.Intn(top + 1)
	}
	return r.Intn(3 * one)
}

// P4.1
func TestPower(t *testing.T) {
	r := rand.New(rand.NewSource(1))
	limit := big.NewInt(top)
	for i := range 300 {
		a, b := someEnd(r), someEnd(r)
		if i%3 == 0 {
			b = a
		}
		x := api.Band{Lo: min(a, b), Hi: max(a, b)}
		p, q := 1+r.Intn(36), 1+r.Intn(12)
		low, high := floorPower(x.Lo, p, q), ceilPower(x.Hi, p, q)
		got, e := Power(x, p, q)
		if high.Cmp(limit) > 0 {
			if got != (api.Band{}) || e != api.ErrBig {
				t.Fatalf("Power(%v, %d, %d): %v, %d", x, p, q, got, e)
			}
			continue
		}
		if want := (api.Band{Lo: int(low.Int64()), Hi: int(high.Int64())}); got != want || e != api.OK {
			t.Fatalf("Power(%v, %d, %d): %v, %d; want %v", x, p, q, got, e, want)
		}
		if p == 1 {
			continue
		}
		root, e := Root(x, q)
		if again, e2 := Power(x, 1, q); root != again || e != e2 {
			t.Fatalf("Root(%v, %d): %v, %d", x, q, root, e)
		}
	}
}

// P4.1
func TestPowerExamples(t *testing.T) {
	for _, x := range []struct {
		lo, hi, p, q int
		want         api.Band
		e            api.Errno
	}{
		{4 * one, 9 * one, 1, 2, api.Band{Lo: 2 * one, Hi: 3 * one}, api.OK},
		{0, one, 3, 1, api.Band{Lo: 0, Hi: one}, api.OK},
		{2 * one, 2 * one, 1, 2, api.Band{Lo: 1414213562373, Hi: 1414213562374}, api.OK},
		{1, 1, 1, 3, api.Band{Lo: 100000000, Hi: 100000000}, api.OK},
		{8 * one, 8 * one, 2, 3, api.Band{Lo: 4 * one, Hi: 4 * one}, api.OK},
		{one, one, 36, 12, api.Band{Lo: one, Hi: one}, api.OK},
		{1, 1, 36, 1, api.Band{Lo: 0, Hi: 1}, api.OK},
		{0, 0, 36, 12, api.Band{}, api.OK},
		{top, top, 1, 1, api.Band{Lo: top, Hi: top}, api.OK},
		{1000 * one, 1000 * one, 2, 1, api.Band{Lo: top, Hi: top}, api.OK},
		{1000 * one, 1000*one + 1, 2, 1, api.Band{}, api.ErrBig},
		{top, top, 36, 1, api.Band{}, api.ErrBig},
		{-1, 1, 1, 2, api.Band{}, api.ErrArg},
		{one, one, 37, 1, api.Band{}, api.ErrArg},
		{one, one, 0, 1, api.Band{}, api.ErrArg},
		{one, one, 1, 13, api.Band{}, api.ErrArg},
		{one, one, 1, 0, api.Band{}, api.ErrArg},
		{1, 0, 37, 13, api.Band{}, api.ErrBand},
	} {
		if got, e := Power(api.Band{Lo: x.lo, Hi: x.hi}, x.p, x.q); got != x.want || e != x.e {
			t.Errorf("Power(%d, %d, %d, %d): %v, %d", x.lo, x.hi, x.p, x.q, got, e)
		}
	}
	for _, b := range wrong {
		if got, e := Root(b, 0); got != (api.Band{}) || e != api.ErrBand {
			t.Errorf("Root(%v): %v, %d", b, got, e)
		}
	}
	for _, q := range []int{0, -1, 13} {
		if got, e := Root(api.Band{}, q); got != (api.Band{}) || e != api.ErrArg {
			t.Errorf("Root(0, %d): %v, %d", q, got, e)
		}
	}
}

func fr(n, d string) api.Frac { return api.Frac{N: api.Whole(n), D: api.Whole(d)} }

// P4.2
func TestExact(t *testing.T) {
	long := "1" + strings.Repeat("0", 588)
	for _, x := range []struct {
		a    api.Frac
		p, q int
		want api.Frac
		e    api.Errno
	}{
		{fr("8", "27"), 2, 3, fr("4", "9"), api.OK},
		{fr("8", "27"), 4, 6, fr("4", "9"), api.OK},
		{fr("8", "27"), 12, 12, fr("8", "27"), api.OK},
		{fr("2", "1"), 1, 2, api.Frac{}, api.ErrNone},
		{fr("4", "3"), 1, 2, api.Frac{}, api.ErrNone},
		{fr("3", "4"), 1, 2, api.Frac{}, api.ErrNone},
		{fr("2", "1"), 2, 4, api.Frac{}, api.ErrNone},
		{fr("2", "1"), 4, 2, fr("4", "1"), api.OK},
		{fr("0", "1"), 1, 12, fr("0", "1"), api.OK},
		{fr("-1", "1"), 2, 1, api.Frac{}, api.ErrArg},
		{fr("1", "1"), 37, 1, api.Frac{}, api.ErrArg},
		{fr("1", "1"), 0, 1, api.Frac{}, api.ErrArg},
		{fr("1", "1"), 1, 13, api.Frac{}, api.ErrArg},
		{fr("1", "1"), 1, 0, api.Frac{}, api.ErrArg},
		{fr("2", "2"), 37, 0, api.Frac{}, api.ErrFrac},
		{fr(long, "1"), 5, 12, fr("1"+strings.Repeat("0", 245), "1"), api.OK},
		{fr(long, "1"), 36, 12, api.Frac{}, api.ErrBig},
		{fr("1", long), 36, 12, api.Frac{}, api.ErrBig},
		{fr(long, "1"), 25, 11, api.Frac{}, api.ErrNone},
	} {
		if got, e := Exact(x.a, x.p, x.q); got != x.want || e != x.e {
			t.Errorf("Exact(%.20s / %.20s, %d, %d): %v, %d", x.a.N, x.a.D, x.p, x.q, got, e)
		}
	}
}

// P4.2, P4.4: the power of a power is found again, and a power of a product is the product of the powers.
func TestExactLaws(t *testing.T) {
	r := rand.New(rand.NewSource(2))
	for range 300 {
		q := 1 + r.Intn(12)
		p := 1 + r.Intn(12)
		a, _ := frac.Of(1+r.Intn(500), 1+r.Intn(500))
		b, _ := frac.Of(r.Intn(500), 1+r.Intn(500))
		raisedA, _ := frac.Pow(a, q)
		raisedB, _ := frac.Pow(b, q)
		product, _ := frac.Mul(raisedA, raisedB)
		powerA, e1 := Exact(raisedA, p, q)
		powerB, e2 := Exact(raisedB, p, q)
		powerOfProduct, e3 := Exact(product, p, q)
		want, _ := frac.Mul(powerA, powerB)
		wantA, _ := frac.Pow(a, p)
		if e1 != api.OK || e2 != api.OK || e3 != api.OK || powerA != wantA || powerOfProduct != want {
			t.Fatalf("Exact of %v, %v with %d / %d: %v, %v", a, b, p, q, powerA, powerOfProduct)
		}
	}
}

// P4.3
func TestNorm(t *testing.T) {
	b := func(lo, hi int) api.Band { return api.Band{Lo: lo, Hi: hi} }
	for _, x := range []struct {
		l    []api.Band
		want api.Band
		e    api.Errno
	}{
		{[]api.Band{b(3*one, 3*one), b(-4*one, -4*one)}, b(5*one, 5*one), api.OK},
		{[]api.Band{b(-1, 2)}, b(0, 2), api.OK},
		{[]api.Band{b(-5, -2)}, b(2, 5), api.OK},
		{[]api.Band{b(1, 1), b(1, 1)}, b(1, 2), api.OK},
		{[]api.Band{b(-1, 1), b(2, 3), b(-7, -6)}, b(6, 8), api.OK},
		{nil, b(0, 0), api.ErrArg},
		{make([]api.Band, 8), b(0, 0), api.OK},
		{make([]api.Band, 9), b(0, 0), api.ErrLong},
		{append(make([]api.Band, 8), wrong[0]), b(0, 0), api.ErrLong},
		{[]api.Band{b(1, 1), wrong[1]}, b(0, 0), api.ErrBand},
		{[]api.Band{b(top, top)}, b(top, top), api.OK},
		{[]api.Band{b(top, top), b(1, 1)}, b(0, 0), api.ErrBig},
		{[]api.Band{b(-top, -top), b(0, top)}, b(0, 0), api.ErrBig},
	} {
		if got, e := Norm(x.l); got != x.want || e != x.e {
			t.Errorf("Norm(%v): %v, %d", x.l, got, e)
		}
	}
}

// P4.3, P4.4: norms are the tightest, whatever the order and the signs.
func TestNormTightest(t *testing.T) {
	r := rand.New(rand.NewSource(3))
	for range 2000 {
		var l, turned []api.Band
		low, high := new(big.Int), new(big.Int)
		for range 1 + r.Intn(8) {
			lo := r.Intn(2*one) - one
			b := api.Band{Lo: lo, Hi: lo + r.Intn(one)}
			l = append(l, b)
			neg, _ := band.Neg(b)
			turned = append([]api.Band{neg}, turned...)
			size, _ := band.Abs(b)
			square := func(n int) *big.Int { return new(big.Int).Mul(big.NewInt(int64(n)), big.NewInt(int64(n))) }
			low.Add(low, square(size.Lo))
			high.Add(high, square(size.Hi))
		}
		lo := new(big.Int).Sqrt(low).Int64()
		root := new(big.Int).Sqrt(high)
		hi := root.Int64()
		if root.Mul(root, root).Cmp(high) < 0 {
			hi++
		}
		want := api.Band{Lo: int(lo), Hi: int(hi)}
		if got, e := Norm(l); got != want || e != api.OK {
			t.Fatalf("Norm(%v): %v, %d; want %v", l, got, e, want)
		}
		if got, e := Norm(turned); got != want || e != api.OK {
			t.Fatalf("Norm(%v): %v, %d; want %v", turned, got, e, want)
		}
	}
}

// P4.4: the q-th power of a q-th root contains the band; the band of a point is at most one unit wide.
func TestRootsAreUndone(t *testing.T) {
	r := rand.New(rand.NewSource(4))
	for range 1000 {
		q := 1 + r.Intn(12)
		lo := r.Intn(100 * one)
		b := api.Band{Lo: lo, Hi: lo + r.Intn(one)}
		root, e := Root(b, q)
		if e != api.OK {
			t.Fatalf("Root(%v, %d): %d", b, q, e)
		}
		back, e := Power(root, q, 1)
		if e != api.OK || back.Lo > b.Lo || back.Hi < b.Hi {
			t.Fatalf("Power(Root(%v, %d)): %v, %d", b, q, back, e)
		}
		if point, _ := Root(api.Band{Lo: lo, Hi: lo}, q); point.Hi-point.Lo > 1 {
			t.Fatalf("Root(%d, %d): %v", lo, q, point)
		}
	}
}

func BenchmarkPower(b *testing.B) {
	x := api.Band{Lo: 123456789012, Hi: 123456789013}
	for b.Loop() {
		Power(x, 5, 12)
	}
}
