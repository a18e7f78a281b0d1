package view

import (
	"math"
	"math/big"
	"math/rand"
	"strings"
	"testing"

	"verdigris/api"
	"verdigris/band"
	"verdigris/frac"
)

const one = api.OneBand

func fr(text string) api.Frac {
	x, ok := new(big.Rat).SetString(text)
	if !ok {
		panic(text)
	}
	return api.Frac{N: api.Whole(x.Num().String()), D: api.Whole(x.Denom().String())}
}

func float(a api.Frac) float64 {
	x, _ := new(big.Rat).SetString(string(a.N) + "/" + string(a.D))
	f, _ := x.Float64()
	return f
}

func tri(text string) api.Tri {
	var t api.Tri
	for i, word := range strings.Fields(text) {
		t[i] = fr(word)
	}
	return t
}

func point(n int) api.Band { return api.Band{Lo: n, Hi: n} }

func near(b api.Band, want float64) bool {
	return b.Lo <= b.Hi && b.Hi-b.Lo < 1000000 && math.Abs(float64(b.Lo)/one-want) < 1e-5*(1+math.Abs(want))
}

var example = api.View{White: tri("1 1 1"), La: fr("64"), Yb: fr("1/5"), Surround: api.SuAverage}

func with(v api.View, change func(v *api.View)) api.View {
	change(&v)
	return v
}

var long = api.Frac{N: api.Whole(strings.Repeat("9", 600)), D: api.Whole("1" + strings.Repeat("0", 599))}

// P28.1, P28.2
func TestCheck(t *testing.T) {
	for i, x := range []struct {
		v api.View
		e api.Errno
	}{
		{example, api.OK}, {with(example, func(v *api.View) { v.La = fr("1") }), api.OK}, {with(example, func(v *api.View) { v.La = fr("2000") }), api.OK}, {with(example, func(v *api.View) { v.Yb = fr("1") }), api.OK}, {with(example, func(v *api.View) { v.Surround = api.SuDark }), api.OK}, {with(example, func(v *api.View) { v.White = tri("2 1/2 3"); v.Yb = fr("1/2") }), api.ErrView},
		{with(example, func(v *api.View) { v.La = fr("1/2") }), api.ErrView}, {with(example, func(v *api.View) { v.La = fr("2001") }), api.ErrView}, {with(example, func(v *api.View) { v.La = fr("-1") }), api.ErrView}, {with(example, func(v *api.View) { v.Yb = fr("2") }), api.ErrView}, {with(example, func(v *api.View) { v.Yb = fr("0") }), api.ErrView}, {with(example, func(v *api.View) { v.Yb = fr("-1") }), api.ErrView},
		{with(example, func(v *api.View) { v.Surround = 4 }), api.ErrView}, {with(example, func(v *api.View) { v.Surround = 0 }), api.ErrView}, {with(example, func(v *api.View) { v.White = tri("9 1 1") }), api.ErrView}, {with(example, func(v *api.View) { v.White = tri("17502/7502 1 1") }), api.ErrView}, {with(example, func(v *api.View) { v.White, v.Yb = tri("1 1 11/10"), fr("21/20") }), api.ErrView}, {with(example, func(v *api.View) { v.White, v.Yb = tri("1 11/10 1"), fr("21/20") }), api.OK}, {with(example, func(v *api.View) { v.White = tri("1 1 9") }), api.ErrView}, {with(example, func(v *api.View) { v.White = tri("1/100 1 1/100") }), api.ErrView},
		{api.View{}, api.ErrFrac}, {with(example, func(v *api.View) { v.White = tri("1 0 1"); v.La = api.Frac{} }), api.ErrArg}, {with(example, func(v *api.View) { v.La = api.Frac{}; v.Surround = 4 }), api.ErrFrac}, {with(example, func(v *api.View) { v.Yb = api.Frac{N: "2", D: "2"}; v.La = fr("1/2") }), api.ErrFrac},
		{with(example, func(v *api.View) { v.White[0] = long; v.La = fr("1/2") }), api.ErrBig}, {with(example, func(v *api.View) { v.White[0] = long; v.La = api.Frac{} }), api.ErrFrac},
	} {
		if e := Check(x.v); e != x.e {
			t.Errorf("Check %d: %d", i, e)
		}
		if d, e := Derive(x.v); e != x.e || e != api.OK && d != (api.Derived{}) {
			t.Errorf("Derive %d: %v, %d", i, d, e)
		}
	}
	if d, e := Derive(with(example, func(v *api.View) { v.La = long })); d != (api.Derived{}) || e != api.ErrBig {
		t.Errorf("Derive: %v, %d", d, e)
	}
}

// compress0 is the compression in floating point.
func compress0(fl, x float64) float64 {
	u := math.Pow(fl*x, 5.0/12)
	return 400 * u / (u + 27.13)
}

// P28.2
func TestDerive(t *testing.T) {
	surrounds := [][5]float64{{1, 1, 0.69, 4, 3}, {0.9, 0.95, 0.59, 7, 6}, {0.8, 0.8, 0.525, 1, 1}}
	r := rand.New(rand.NewSource(1))
	for range 150 {
		var v api.View
		for i := range v.White {
			v.White[i], _ = frac.Of(90+r.Intn(20), 100)
		}
		v.La, _ = frac.Of(10+r.Intn(19990), 10)
		share, _ := frac.Of(1+r.Intn(50), 50)
		v.Yb, _ = frac.Mul(share, v.White[1])
		v.Surround = 1 + r.Intn(3)
		s := surrounds[v.Surround-1]
		d, e := Derive(v)
		la := float(v.La)
		k4 := math.Pow(1/(5*la+1), 4)
		fl := k4*la + 0.1*math.Pow(1-k4, 2)*math.Cbrt(5*la)
		degree := s[0] * (1 - 5/(18*(1+la/92)))
		nbb := 0.725 * math.Pow(1/float(share), 0.2)
		if e != api.OK || float(d.F) != s[0] || float(d.Nc) != s[1] || float(d.C) != s[2] || d.Num != int(s[3]) || d.Den != int(s[4]) || d.N != share || math.Abs(float(d.D)-degree) > 1e-9 || !near(d.Fl, fl) || !near(d.Nbb, nbb) {
			t.Fatalf("Derive(%v): %v, %d", v, d, e)
		}
		x, y, z := float(v.White[0]), float(v.White[1]), float(v.White[2])
		rgb := []float64{0.895*x + 0.2664*y - 0.1614*z, -0.7502*x + 1.7135*y + 0.0367*z, 0.0389*x - 0.0685*y + 1.0296*z}
		var c [3]float64
		for i := range rgb {
			gain := degree*y/rgb[i] + 1 - degree
			if math.Abs(float(d.Gain[i])-gain) > 1e-9 {
				t.Fatalf("Derive(%v): gain %v, not %v", v, d.Gain[i], gain)
			}
			c[i] = compress0(fl, rgb[i]*gain)
		}
		if !near(d.Aw, (2*c[0]+c[1]+c[2]/20)*nbb) {
			t.Fatalf("Derive(%v): Aw %v, not %v", v, d.Aw, (2*c[0]+c[1]+c[2]/20)*nbb)
		}
	}
	dim := example
	dim.La = fr("1")
	if d, e := Derive(dim); e != api.OK || math.Abs(float64(d.Fl.Lo)/one-(1.0/1296+0.1*math.Pow(1-1.0/1296, 2)*math.Cbrt(5))) > 1e-10 {
		t.Errorf("Derive: %v, %d", d.Fl, e)
	}
	d, e := Derive(example)
	if d.F != fr("1") || d.Nc != fr("1") || d.C != fr("0.69") || d.Num != 4 || d.Den != 3 || d.N != fr("1/5") || d.D != fr("587/702") || d.Gain != tri("1 1 1") || e != api.OK {
		t.Errorf("Derive: %v, %d", d, e)
	}
}

// P28.3
func TestCompress(t *testing.T) {
	if b, e := Compress(point(one), point(0)); b != point(0) || e != api.OK {
		t.Errorf("Compress: %v, %d", b, e)
	}
	if b, e := Compress(point(0), point(one)); b != point(0) || e != api.OK {
		t.Errorf("Compress: %v, %d", b, e)
	}
	b, e := Compress(point(one), point(one))
	if ok, _ := band.Has(b, fr("40000/2813")); !ok || b.Hi-b.Lo > 1 || e != api.OK {
		t.Errorf("Compress: %v, %d", b, e)
	}
	// The twelfth part of a power: (2^12)^(5/12) = 32.
	if b, e := Compress(point(one), point(4096*one)); e != api.OK || !near(b, 400*32/59.13) || b.Hi-b.Lo > 1 {
		t.Errorf("Compress: %v, %d", b, e)
	}
	if b, e := Compress(api.Band{Lo: 2 * one, Hi: 3 * one}, api.Band{Lo: one, Hi: 5 * one}); e != api.OK || math.Abs(float64(b.Lo)/one-compress0(2, 1)) > 1e-9 || math.Abs(float64(b.Hi)/one-compress0(3, 5)) > 1e-9 {
		t.Errorf("Compress: %v, %d", b, e)
	}
	for i, x := range []struct {
		fl, x api.Band
		e     api.Errno
	}{
		{api.Band{Lo: 1}, api.Band{Lo: -1, Hi: 0}, api.ErrBand}, {api.Band{Lo: -1, Hi: 1}, api.Band{Lo: 1}, api.ErrBand}, {api.Band{Lo: -1, Hi: 1}, point(0), api.ErrArg}, {point(0), api.Band{Lo: -1, Hi: 1}, api.ErrArg}, {point(api.MaxBand), point(2 * one), api.ErrBig},
	} {
		if b, e := Compress(x.fl, x.x); b != (api.Band{}) || e != x.e {
			t.Errorf("Compress %d: %v, %d", i, b, e)
		}
	}
}

// P28.3
func TestAchromatic(t *testing.T) {
	rgb := api.Trib{point(one), point(one), point(one)}
	if b, e := Achromatic(api.Derived{Nbb: point(one)}, rgb); b != point(3050000000000) || e != api.OK {
		t.Errorf("Achromatic: %v, %d", b, e)
	}
	if b, e := Achromatic(api.Derived{Nbb: point(2 * one), Fl: api.Band{Lo: 1}}, api.Trib{{Lo: 1, Hi: 2}, {Lo: 10, Hi: 20}, {Lo: 110, Hi: 115}}); b != (api.Band{Lo: 34, Hi: 60}) || e != api.OK {
		t.Errorf("Achromatic: %v, %d", b, e)
	}
	bad := api.Band{Lo: 1}
	for i, x := range []struct {
		nbb api.Band
		rgb api.Trib
		e   api.Errno
	}{
		{bad, rgb, api.ErrBand}, {point(one), api.Trib{bad, {}, {}}, api.ErrBand}, {point(one), api.Trib{{}, bad, {}}, api.ErrBand}, {point(one), api.Trib{{}, {}, bad}, api.ErrBand}, {point(one), api.Trib{point(api.MaxBand), {}, {}}, api.ErrBig}, {point(one), api.Trib{point(api.MaxBand), {}, bad}, api.ErrBand}, {point(2 * one), api.Trib{{}, point(api.MaxBand), {}}, api.ErrBig},
	} {
		if b, e := Achromatic(api.Derived{Nbb: x.nbb}, x.rgb); b != (api.Band{}) || e != x.e {
			t.Errorf("Achromatic %d: %v, %d", i, b, e)
		}
	}
}

// P28.4
func TestLaws(t *testing.T) {
	r := rand.New(rand.NewSource(2))
	before := fr("0")
	for la := 1; la <= 2000; la += 50 {
		v := example
		v.La, _ = frac.Of(la, 1)
		d, e := Derive(v)
		grows, _ := frac.Cmp(d.D, before)
		atMost, _ := frac.Cmp(d.D, d.F)
		if e != api.OK || grows <= 0 || atMost > 0 || d.Fl.Lo <= 0 || d.Nbb.Lo <= 0 || d.Aw.Lo <= 0 {
			t.Fatalf("Derive with La %d: %v, %d", la, d, e)
		}
		before = d.D
	}
	for range 200 {
		a := r.Intn(50 * one)
		b := a + 1 + r.Intn(50*one)
		low, _ := Compress(point(one), point(a))
		high, e := Compress(point(one), point(b))
		if e != api.OK || low.Lo > high.Lo || low.Hi > high.Hi || high.Hi >= 400*one {
			t.Fatalf("Compress of %d and %d: %v, %v", a, b, low, high)
		}
	}
}
