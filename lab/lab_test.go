package lab

import (
	"math"
	"math/big"
	"math/rand"
	"strings"
	"testing"

	"verdigris/api"
	"verdigris/band"
	"verdigris/frac"
	"verdigris/light"
)

const one = api.OneBand

func fr(text string) api.Frac {
	x, ok := new(big.Rat).SetString(text)
	if !ok {
		panic(text)
	}
	return api.Frac{N: api.Whole(x.Num().String()), D: api.Whole(x.Denom().String())}
}

func float(a api.Frac) float64 {
	x, _ := new(big.Rat).SetString(string(a.N) + "/" + string(a.D))
	f, _ := x.Float64()
	return f
}

func tri(text string) api.Tri {
	var t api.Tri
	for i, word := range strings.Fields(text) {
		t[i] = fr(word)
	}
	return t
}

func points(l, a, b int) api.Trib {
	return api.Trib{{Lo: l * one, Hi: l * one}, {Lo: a * one, Hi: a * one}, {Lo: b * one, Hi: b * one}}
}

var (
	grey = tri("1 1 1")
	bad  = api.Trib{{}, {}, {Lo: 1}}
	huge = api.Frac{N: api.Whole("1" + strings.Repeat("0", 599)), D: "1"}
	long = api.Frac{N: "1", D: api.Whole(strings.Repeat("9", 600))}
)

// near reports whether a band is narrow, and lies at a number.
func near(b api.Band, want float64) bool {
	return b.Hi-b.Lo < 100000 && math.Abs(float64(b.Lo)/one-want) < 1e-6
}

// response is the curve of Lab in floating point.
func response0(t float64) float64 {
	if t > 216.0/24389 {
		return math.Cbrt(t)
	}
	return 841.0/108*t + 4.0/29
}

// P24.1
func TestToLab(t *testing.T) {
	r := rand.New(rand.NewSource(1))
	for i := range 400 {
		var xyz, white api.Tri
		var f [3]float64
		for k := range xyz {
			xyz[k], _ = frac.Of(r.Intn(1000), 700)
			if i%2 == 0 {
				xyz[k], _ = frac.Of(r.Intn(1000), 60000)
			}
			white[k], _ = frac.Of(1+r.Intn(1000), 700)
			f[k] = response0(float(xyz[k]) / float(white[k]))
		}
		got, e := ToLab(xyz, white)
		if e != api.OK || !near(got[0], 116*f[1]-16) || !near(got[1], 500*(f[0]-f[1])) || !near(got[2], 200*(f[1]-f[2])) {
			t.Fatalf("ToLab(%v, %v): %v, %d; f %v", xyz, white, got, e, f)
		}
	}
	for i, x := range []struct {
		xyz, white api.Tri
		want       api.Trib
		e          api.Errno
	}{
		{tri("1/2 1/3 5"), tri("1/2 1/3 5"), points(100, 0, 0), api.OK}, {tri("1/8 1/8 1/8"), grey, points(42, 0, 0), api.OK}, {tri("1 1000000 1"), grey, points(11584, -49500, 19800), api.OK},
		{tri("-1 1 1"), api.Tri{}, api.Trib{}, api.ErrArg}, {api.Tri{}, grey, api.Trib{}, api.ErrFrac}, {tri("1 1 1"), tri("1 1 0"), api.Trib{}, api.ErrArg}, {tri("1 1 1"), tri("1 -1 1"), api.Trib{}, api.ErrArg}, {tri("1 1 1"), api.Tri{}, api.Trib{}, api.ErrFrac},
		{tri("1000001 1 1"), grey, api.Trib{}, api.ErrBig}, {api.Tri{huge, fr("1"), fr("1")}, tri("1/10 1 1"), api.Trib{}, api.ErrBig},
	} {
		if got, e := ToLab(x.xyz, x.white); got != x.want || e != x.e {
			t.Errorf("%d: %v, %d", i, got, e)
		}
	}
	// Colours of whole Labs, whose responses are no bands of one number; the third one lies where both parts of the curve meet.
	for i, x := range []struct {
		xyz api.Tri
		lab [3]int
	}{{tri("1/8 1/64 27/1000"), [3]int{13, 125, -10}}, {tri("0 0 0"), [3]int{0, 0, 0}}, {tri("216/24389 216/24389 216/24389"), [3]int{8, 0, 0}}} {
		got, e := ToLab(x.xyz, grey)
		for k, n := range x.lab {
			if b := got[k]; e != api.OK || b.Lo > n*one || b.Hi < n*one || b.Hi-b.Lo > 1000 {
				t.Errorf("%d: %v, %d", i, got, e)
			}
		}
	}
}

// P24.2
func TestFromLab(t *testing.T) {
	for i, x := range []struct {
		lab, white, want api.Tri
		e                api.Errno
	}{
		{tri("42 0 0"), grey, tri("1/8 1/8 1/8"), api.OK}, {tri("100 0 0"), tri("2 1/3 5"), tri("2 1/3 5"), api.OK}, {tri("42 125 50"), grey, tri("27/64 1/8 1/64"), api.OK}, {tri("0 0 0"), grey, tri("0 0 0"), api.OK}, {tri("8 0 0"), grey, tri("216/24389 216/24389 216/24389"), api.OK}, {tri("4 0 0"), grey, tri("108/24389 108/24389 108/24389"), api.OK},
		{tri("-16 0 0"), grey, api.Tri{}, api.ErrFail}, {tri("42 -400 0"), grey, api.Tri{}, api.ErrFail}, {tri("42 0 100"), grey, api.Tri{}, api.ErrFail}, {tri("-1 100 -100"), grey, api.Tri{}, api.ErrFail},
		{api.Tri{}, api.Tri{}, api.Tri{}, api.ErrFrac}, {api.Tri{}, tri("1 0 1"), api.Tri{}, api.ErrFrac}, {api.Tri{huge, fr("1"), {}}, grey, api.Tri{}, api.ErrFrac}, {tri("-16 0 0"), tri("1 0 1"), api.Tri{}, api.ErrArg}, {tri("-16 0 0"), api.Tri{}, api.Tri{}, api.ErrFrac},
		{api.Tri{huge, fr("0"), fr("0")}, grey, api.Tri{}, api.ErrBig}, {tri("1000 0 0"), api.Tri{long, fr("1"), fr("1")}, api.Tri{}, api.ErrBig},
	} {
		if got, e := FromLab(x.lab, x.white); got != x.want || e != x.e {
			t.Errorf("%d: %v, %d", i, got, e)
		}
	}
}

// P24.2, P24.5: there and back, with fractions and with bands.
func TestThereAndBack(t *testing.T) {
	r := rand.New(rand.NewSource(2))
	whites := []api.Tri{grey, tri("3/4 1 6/5")}
	if d65, e := light.White(api.IlD65); e == api.OK {
		whites = append(whites, d65)
	}
	for range 300 {
		white := whites[r.Intn(len(whites))]
		var lab api.Tri
		var around0 api.Trib
		for i, n := range []int{1001, 2001, 2001} {
			lab[i], _ = frac.Of(r.Intn(n)-(n-1001), 10)
			around0[i], _ = band.Around(lab[i])
		}
		back, e := Back(around0, white)
		if e != api.OK {
			t.Fatalf("Back(%v): %d", around0, e)
		}
		xyz, e := FromLab(lab, white)
		if e == api.ErrFail {
			if back[0].Lo >= 0 && back[1].Lo >= 0 && back[2].Lo >= 0 {
				t.Fatalf("FromLab(%v): %d, but %v", lab, e, back)
			}
			continue
		}
		again, e2 := ToLab(xyz, white)
		for i, a := range lab {
			in, _ := band.Has(again[i], a)
			inBack, _ := band.Has(back[i], xyz[i])
			if !in || !inBack || e != api.OK || e2 != api.OK {
				t.Fatalf("FromLab(%v): %v; %v, %v", lab, xyz, again, back)
			}
		}
	}
}

// P24.2
func TestBack(t *testing.T) {
	wide := api.Trib{{Lo: 40 * one, Hi: 44 * one}, {Lo: -10 * one, Hi: 10 * one}, {Lo: 0, Hi: 20 * one}}
	got, e := Back(wide, tri("1 1 2"))
	for i, x := range []struct{ low, high float64 }{{math.Pow(56.0/116-0.02, 3), math.Pow(60.0/116+0.02, 3)}, {math.Pow(56.0/116, 3), math.Pow(60.0/116, 3)}, {2 * math.Pow(56.0/116-0.1, 3), 2 * math.Pow(60.0/116, 3)}} {
		if e != api.OK || math.Abs(float64(got[i].Lo)/one-x.low) > 1e-9 || math.Abs(float64(got[i].Hi)/one-x.high) > 1e-9 {
			t.Errorf("Back: %v, %d; want %v at %d", got, e, x, i)
		}
	}
	if got, e := Back(points(42, 0, 0), grey); e != api.OK || got[1].Lo > one/8 || got[1].Hi < one/8 || got[1].Hi-got[1].Lo > 4 {
		t.Errorf("Back: %v, %d", got, e)
	}
	if got, e := Back(points(-16, 0, 0), grey); e != api.OK || got[0].Hi >= 0 {
		t.Errorf("Back: %v, %d", got, e)
	}
	for i, x := range []struct {
		lab   api.Trib
		white api.Tri
		e     api.Errno
	}{
		{bad, api.Tri{}, api.ErrBand}, {points(1, 1, 1), tri("1 0 1"), api.ErrArg}, {points(1, 1, 1), api.Tri{}, api.ErrFrac}, {points(1000000, 0, 0), grey, api.ErrBig}, {points(12000, 0, 0), grey, api.ErrBig}, {points(100, 0, 0), tri("1 1 1000001"), api.ErrBig},
	} {
		if got, e := Back(x.lab, x.white); got != (api.Trib{}) || e != x.e {
			t.Errorf("%d: %v, %d", i, got, e)
		}
	}
}

// P24.3
func TestPolar(t *testing.T) {
	p := func(n int) api.Band { return api.Band{Lo: n, Hi: n} }
	for i, x := range []struct {
		lab api.Trib
		c   api.Band
		hue [2]api.Band
		e   api.Errno
	}{
		{points(50, 3, 4), p(5 * one), [2]api.Band{p(3 * one / 5), p(4 * one / 5)}, api.OK}, {points(50, 0, 0), p(0), [2]api.Band{p(one), p(0)}, api.OK}, {points(50, -3, 0), p(3 * one), [2]api.Band{p(-one), p(0)}, api.OK},
		{api.Trib{{}, p(1), p(1)}, api.Band{Lo: 1, Hi: 2}, [2]api.Band{{Lo: one / 2, Hi: one}, {Lo: one / 2, Hi: one}}, api.OK},
		{api.Trib{{}, {Lo: 3 * one, Hi: 4 * one}, p(0)}, api.Band{Lo: 3 * one, Hi: 4 * one}, [2]api.Band{{Lo: 3 * one / 4, Hi: one}, p(0)}, api.OK},
		{api.Trib{{}, {Lo: 0, Hi: 1}, p(0)}, p(0), [2]api.Band{}, api.ErrZero}, {api.Trib{{}, {Lo: -1, Hi: 1}, {Lo: 0, Hi: one}}, p(0), [2]api.Band{}, api.ErrZero},
		{bad, p(0), [2]api.Band{}, api.ErrBand}, {api.Trib{{Lo: 1}}, p(0), [2]api.Band{}, api.ErrBand}, {api.Trib{{}, p(api.MaxBand), p(1)}, p(0), [2]api.Band{}, api.ErrBig},
	} {
		c, hue, e := Polar(x.lab)
		if c != x.c || hue != x.hue || e != x.e {
			t.Errorf("%d: %v, %v, %d", i, c, hue, e)
		}
	}
}

// P24.5: the squares of a hue's components add up to 1, and C times them contains a and b.
func TestHues(t *testing.T) {
	r := rand.New(rand.NewSource(3))
	for range 300 {
		lo, lo2 := r.Intn(200*one)-100*one, r.Intn(200*one)-100*one
		lab := api.Trib{{}, {Lo: lo, Hi: lo + r.Intn(1000)}, {Lo: lo2, Hi: lo2 + r.Intn(1000)}}
		c, hue, e := Polar(lab)
		if e != api.OK {
			t.Fatalf("Polar(%v): %d", lab, e)
		}
		sum := api.Band{}
		for i, h := range hue {
			square, _ := band.Sqr(h)
			sum, _ = band.Add(sum, square)
			product, _ := band.Mul(c, h)
			if product.Lo > lab[i+1].Lo || product.Hi < lab[i+1].Hi {
				t.Fatalf("Polar(%v): %v, %v", lab, c, hue)
			}
		}
		if sum.Lo > one || sum.Hi < one {
			t.Fatalf("Polar(%v): %v, %v", lab, c, hue)
		}
	}
}

// P24.4
func TestCode(t *testing.T) {
	for i, x := range []struct {
		lab, code api.Tri
	}{{tri("50 0 -128"), tri("1/2 1/2 0")}, {tri("100 128 127"), tri("1 1 255/256")}, {tri("-7 300 -1/3"), tri("-7/100 107/64 383/768")}} {
		if got, e := Encode(x.lab); got != x.code || e != api.OK {
			t.Errorf("Encode %d: %v, %d", i, got, e)
		}
		if got, e := Decode(x.code); got != x.lab || e != api.OK {
			t.Errorf("Decode %d: %v, %d", i, got, e)
		}
	}
	for i, x := range []struct {
		t        api.Tri
		enc, dec api.Errno
	}{{api.Tri{}, api.ErrFrac, api.ErrFrac}, {api.Tri{fr("1"), fr("1"), {N: "2", D: "2"}}, api.ErrFrac, api.ErrFrac}, {api.Tri{long, fr("1"), {}}, api.ErrFrac, api.ErrFrac}, {api.Tri{huge, fr("1"), {}}, api.ErrFrac, api.ErrFrac}, {api.Tri{long, fr("1"), fr("1")}, api.ErrBig, api.OK}, {api.Tri{huge, fr("1"), fr("1")}, api.OK, api.ErrBig}} {
		if got, e := Encode(x.t); e != x.enc || e != api.OK && got != (api.Tri{}) {
			t.Errorf("Encode %d: %v, %d", i, got, e)
		}
		if got, e := Decode(x.t); e != x.dec || e != api.OK && got != (api.Tri{}) {
			t.Errorf("Decode %d: %v, %d", i, got, e)
		}
	}
}
