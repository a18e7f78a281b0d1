package appear

import (
	"math"
	"math/big"
	"math/rand"
	"strings"
	"testing"

	"verdigris/adapt"
	"verdigris/api"
	"verdigris/band"
	"verdigris/frac"
	"verdigris/matrix"
	"verdigris/view"
)

const one = api.OneBand

func fr(text string) api.Frac {
	x, ok := new(big.Rat).SetString(text)
	if !ok {
		panic(text)
	}
	return api.Frac{N: api.Whole(x.Num().String()), D: api.Whole(x.Denom().String())}
}

func float(a api.Frac) float64 {
	x, _ := new(big.Rat).SetString(string(a.N) + "/" + string(a.D))
	f, _ := x.Float64()
	return f
}

func middle(b api.Band) float64 { return (float64(b.Lo) + float64(b.Hi)) / 2 / one }

func tri(text string) api.Tri {
	var t api.Tri
	for i, word := range strings.Fields(text) {
		t[i] = fr(word)
	}
	return t
}

func point(n int) api.Band { return api.Band{Lo: n, Hi: n} }

var (
	example = api.View{White: tri("1 1 1"), La: fr("64"), Yb: fr("1/5"), Surround: api.SuAverage}
	dim     = api.View{White: tri("24/25 1 41/50"), La: fr("20"), Yb: fr("1/4"), Surround: api.SuDim}
	dark    = api.View{White: tri("19/20 1 27/25"), La: fr("300"), Yb: fr("1/10"), Surround: api.SuDark}
	huge    = api.Frac{N: api.Whole("1" + strings.Repeat("0", 599)), D: "1"}
)

// lookOf is the look in floating point.
func lookOf(d api.Derived, xyz [3]float64) (j, c, m, q, x, y float64, rgb [3]float64) {
	x0, y0, z0 := xyz[0], xyz[1], xyz[2]
	rgb = [3]float64{0.895*x0 + 0.2664*y0 - 0.1614*z0, -0.7502*x0 + 1.7135*y0 + 0.0367*z0, 0.0389*x0 - 0.0685*y0 + 1.0296*z0}
	fl, nbb, aw := middle(d.Fl), middle(d.Nbb), middle(d.Aw)
	for i := range rgb {
		u := math.Pow(fl*rgb[i]*float(d.Gain[i]), 5.0/12)
		rgb[i] = 400 * u / (u + 27.13)
	}
	r, g, b := rgb[0], rgb[1], rgb[2]
	j = 100 * math.Pow((2*r+g+b/20)*nbb/aw, float64(d.Num)/float64(d.Den))
	w := math.Sqrt(j / 100)
	q = 4 / float(d.C) * w * (aw + 4) * math.Pow(fl, 0.25)
	p, s := r-12*g/11+b/11, (r+g-2*b)/9
	chroma := math.Hypot(p, s)
	x, y = p/chroma, s/chroma
	h := math.Atan2(s, p)
	e := (math.Cos(h+2) + 3.8) / 4
	t := 50000.0 / 13 * float(d.Nc) * nbb * e * chroma / (r + g + 21*b/20)
	c = math.Pow(t, 11.0/12) * w
	return j, c, c * math.Pow(fl, 0.25), q, x, y, rgb
}

func near(b api.Band, want float64) bool {
	return b.Lo <= b.Hi && math.Abs(float64(b.Lo)/one-want) < 1e-5*(1+math.Abs(want)) && math.Abs(float64(b.Hi)/one-want) < 1e-5*(1+math.Abs(want))
}

// P29.1, P29.2
func TestLooks(t *testing.T) {
	r := rand.New(rand.NewSource(1))
	tried := 0
	for i := range 250 {
		v := []api.View{example, dim, dark}[i%3]
		d, _ := view.Derive(v)
		var xyz api.Tri
		var exact api.Trib
		var f [3]float64
		for k := range xyz {
			xyz[k], _ = frac.Of(1+r.Intn(1000), 1000)
			exact[k], _ = band.Around(xyz[k])
			f[k] = float(xyz[k])
		}
		got, e := Appear(v, xyz)
		if e == api.ErrFail {
			continue
		}
		tried++
		j, c, m, q, x, y, rgb := lookOf(d, f)
		if e != api.OK || !near(got.J, j) || !near(got.C, c) || !near(got.M, m) || !near(got.Q, q) || !near(got.Hue[0], x) || !near(got.Hue[1], y) || !near(got.Rgb[0], rgb[0]) || !near(got.Rgb[1], rgb[1]) || !near(got.Rgb[2], rgb[2]) {
			t.Fatalf("Appear(%v, %v): %v, %d; want %v", v, f, got, e, []float64{j, c, m, q, x, y})
		}
		onBands, e := Bands(v, exact)
		if e != api.OK || !contains(onBands, got) {
			t.Fatalf("Bands(%v, %v): %v, %d; not %v", v, exact, onBands, e, got)
		}
	}
	if tried < 100 {
		t.Errorf("only %d colours", tried)
	}
}

// contains reports whether the bands of a look meet those of another one, as they must if both contain the same numbers.
func contains(wide, narrow api.Look) bool {
	for _, pair := range [][2]api.Band{{wide.J, narrow.J}, {wide.C, narrow.C}, {wide.M, narrow.M}, {wide.Q, narrow.Q}, {wide.Hue[0], narrow.Hue[0]}, {wide.Hue[1], narrow.Hue[1]}, {wide.Rgb[0], narrow.Rgb[0]}, {wide.Rgb[1], narrow.Rgb[1]}, {wide.Rgb[2], narrow.Rgb[2]}} {
		if pair[0].Lo > pair[1].Hi || pair[0].Hi < pair[1].Lo {
			return false
		}
	}
	return true
}

// P29.1
func TestNeutral(t *testing.T) {
	got, e := Appear(example, tri("1 1 1"))
	hundred, _ := band.Has(got.J, fr("100"))
	if !hundred || got.C != point(0) || got.M != point(0) || got.Hue != [2]api.Band{point(one), point(0)} || got.Q.Lo <= 0 || e != api.OK {
		t.Errorf("Appear: %v, %d", got, e)
	}
	got, e = Appear(example, tri("0 0 0"))
	if got != (api.Look{Hue: [2]api.Band{point(one), point(0)}}) || e != api.OK {
		t.Errorf("Appear: %v, %d", got, e)
	}
	// A part of the white is not neutral unless the eye is adapted to it wholly: the responses differ by their gains.
	if got, e := Appear(dim, tri("24/25 1 41/50")); e != api.OK || got.C.Lo <= 0 {
		t.Errorf("Appear: %v, %d", got, e)
	}
	// As bands, a grey is neutral only if the adapted responses are single numbers.
	if got, e := Bands(example, api.Trib{}); got != (api.Look{Hue: [2]api.Band{point(one), point(0)}}) || e != api.OK {
		t.Errorf("Bands: %v, %d", got, e)
	}
	grey := point(one)
	if got, e := Bands(example, api.Trib{grey, grey, grey}); e != api.OK || got.C != point(0) {
		t.Errorf("Bands: %v, %d", got, e)
	}
	wide := api.Band{Lo: one / 2, Hi: one/2 + 1000}
	if got, e := Bands(example, api.Trib{wide, wide, wide}); got != (api.Look{}) || e != api.ErrZero {
		t.Errorf("Bands: %v, %d", got, e)
	}
}

// P29.1, P29.2: two equal responses are not enough for a neutral colour.
func TestAlmostNeutral(t *testing.T) {
	for i, xyz := range []api.Tri{tri("2.4471 2.6452 1"), tri("2.782 1.7891 1"), tri("1 2.191 1.3349")} {
		var points api.Trib
		for k, a := range xyz {
			points[k], _ = band.Around(a)
		}
		got, e := Appear(example, xyz)
		onBands, e2 := Bands(example, points)
		equal := 0
		for k := range 3 {
			if got.Rgb[k] == got.Rgb[(k+1)%3] {
				equal++
			}
		}
		if e != api.OK || e2 != api.OK || equal != 1 || got.C.Lo <= 0 || onBands.C.Lo <= 0 {
			t.Errorf("%d: %v, %d; %v, %d", i, got, e, onBands, e2)
		}
	}
	// Bands of several numbers with the same responses: all from 0 to the same number.
	cone, _ := adapt.Cone(api.AdEven)
	inverse, _ := matrix.Inverse(api.Mat{{cone[0][0], cone[0][1], fr("0")}, {fr("0"), cone[1][1], cone[1][2]}, {cone[2][0], fr("0"), cone[2][2]}})
	tops, _ := matrix.Apply(inverse, []api.Frac{fr("1/2"), fr("1/2"), fr("1/2")})
	var near [3]int
	for i, a := range tops {
		near[i], _ = frac.Near(a, one)
	}
	for n := range 1000 {
		xyz := api.Trib{{Hi: near[0] + n/100 - 5}, {Hi: near[1] + n/10%10 - 5}, {Hi: near[2] + n%10 - 5}}
		l, e := matrix.Bands(cone, xyz[:])
		if e == api.OK && l[0].Hi == l[1].Hi && l[1].Hi == l[2].Hi && l[0].Lo <= 0 && l[1].Lo <= 0 && l[2].Lo <= 0 {
			if got, e := Bands(example, xyz); got != (api.Look{}) || e != api.ErrZero {
				t.Errorf("Bands(%v): %v, %d", xyz, got, e)
			}
			return
		}
	}
	t.Error("there are no such bands")
}

// P29.1, P29.2
func TestErrors(t *testing.T) {
	for i, x := range []struct {
		v   api.View
		xyz api.Tri
		e   api.Errno
	}{
		{api.View{}, tri("-1 1 1"), api.ErrFrac}, {api.View{White: tri("1 1 1"), La: fr("1/2"), Yb: fr("1/5"), Surround: 1}, api.Tri{}, api.ErrView},
		{example, api.Tri{}, api.ErrFrac}, {example, tri("-1 1 1"), api.ErrArg}, {example, tri("0 0 1"), api.ErrFail}, {example, tri("1 0 0"), api.ErrFail}, {example, tri("0 1 0"), api.ErrFail},
		{example, api.Tri{huge, huge, huge}, api.ErrBig}, {example, tri("2000000 2000000 2000000"), api.ErrBig},
	} {
		if got, e := Appear(x.v, x.xyz); got != (api.Look{}) || e != x.e {
			t.Errorf("Appear %d: %v, %d", i, got, e)
		}
	}
	b := func(lo, hi int) api.Band { return api.Band{Lo: lo, Hi: hi} }
	for i, x := range []struct {
		v   api.View
		xyz api.Trib
		e   api.Errno
	}{
		{api.View{}, api.Trib{{Lo: 1}}, api.ErrFrac}, {example, api.Trib{{}, {}, {Lo: 1}}, api.ErrBand}, {example, api.Trib{{}, {}, b(one, one)}, api.ErrFail}, {example, api.Trib{b(-one, -one), b(-one, -one), b(-one, -one)}, api.ErrFail},
		{example, api.Trib{b(0, api.MaxBand), b(0, api.MaxBand), b(0, api.MaxBand)}, api.ErrBig}, {example, api.Trib{{}, {}, b(0, one)}, api.ErrZero},
	} {
		if got, e := Bands(x.v, x.xyz); got != (api.Look{}) || e != x.e {
			t.Errorf("Bands %d: %v, %d", i, got, e)
		}
	}
}

// P29.2, P29.3: the look of bands contains that of every colour in them; negative numbers that cannot be are left out.
func TestWide(t *testing.T) {
	r := rand.New(rand.NewSource(2))
	tried := 0
	for range 150 {
		var wide api.Trib
		var xyz api.Tri
		for i := range wide {
			lo := one/3 + r.Intn(one/3)
			hi := lo + r.Intn(one/100)
			wide[i] = api.Band{Lo: lo, Hi: hi}
			xyz[i], _ = frac.Of(lo+r.Intn(hi-lo+1), one)
		}
		onBands, e := Bands(example, wide)
		if e != api.OK {
			continue
		}
		tried++
		got, e := Appear(example, xyz)
		if e != api.OK || !contains(onBands, got) {
			t.Fatalf("Bands(%v): %v; %v, %d at %v", wide, onBands, got, e, xyz)
		}
		j, c, m, q, _, _, _ := lookOf(must0(view.Derive(example)), [3]float64{float(xyz[0]), float(xyz[1]), float(xyz[2])})
		for i, pair := range []struct {
			b api.Band
			n float64
		}{{onBands.J, j}, {onBands.C, c}, {onBands.M, m}, {onBands.Q, q}} {
			if pair.n < float64(pair.b.Lo)/one-1e-6 || pair.n > float64(pair.b.Hi)/one+1e-6 {
				t.Fatalf("Bands(%v) %d: %v, not %v", wide, i, pair.b, pair.n)
			}
		}
	}
	if tried < 50 {
		t.Errorf("only %d tried", tried)
	}
	// The third response goes from below 0 to above 0.
	low := api.Trib{point(one / 2), point(one / 2), {Lo: 0, Hi: one / 50}}
	got, e := Bands(example, low)
	if e != api.OK || got.Rgb[2].Lo != 0 || got.Rgb[2].Hi <= 0 {
		t.Errorf("Bands: %v, %d", got, e)
	}
}

func must0(d api.Derived, e api.Errno) api.Derived {
	if e != api.OK {
		panic(e)
	}
	return d
}

// P29.3: J grows with the colour.
func TestGrowing(t *testing.T) {
	before := point(0)
	for n := 1; n <= 20; n++ {
		share, _ := frac.Of(n, 20)
		var xyz api.Tri
		for i, a := range tri("9/10 1 1/2") {
			xyz[i], _ = frac.Mul(share, a)
		}
		got, e := Appear(example, xyz)
		if e != api.OK || got.J.Lo < before.Lo || got.J.Hi < before.Hi {
			t.Fatalf("Appear(%v): %v, %d", xyz, got, e)
		}
		before = got.J
	}
}
