package regain

import (
	"math"
	"math/big"
	"math/rand"
	"strings"
	"testing"

	"verdigris/api"
	"verdigris/appear"
	"verdigris/band"
	"verdigris/frac"
	"verdigris/must"
	"verdigris/view"
)

const one = api.OneBand

func fr(text string) api.Frac {
	x, ok := new(big.Rat).SetString(text)
	if !ok {
		panic(text)
	}
	return api.Frac{N: api.Whole(x.Num().String()), D: api.Whole(x.Denom().String())}
}

func tri(text string) api.Tri {
	var t api.Tri
	for i, word := range strings.Fields(text) {
		t[i] = fr(word)
	}
	return t
}

func point(n int) api.Band { return api.Band{Lo: n, Hi: n} }

var (
	example = api.View{White: tri("1 1 1"), La: fr("64"), Yb: fr("1/5"), Surround: api.SuAverage}
	dim     = api.View{White: tri("24/25 1 41/50"), La: fr("20"), Yb: fr("1/4"), Surround: api.SuDim}
	dark    = api.View{White: tri("19/20 1 27/25"), La: fr("300"), Yb: fr("1/10"), Surround: api.SuDark}
	red     = [2]api.Band{point(one), point(0)}
	bad     = api.Band{Lo: 1}
)

func has(b api.Band, a api.Frac) bool {
	ok, e := band.Has(b, a)
	return ok && e == api.OK
}

// P30.1
func TestExamples(t *testing.T) {
	if got, e := Regain(example, point(0), point(0), red); got != (api.Trib{}) || e != api.OK {
		t.Errorf("Regain: %v, %d", got, e)
	}
	if got, e := Regain(example, point(0), point(50*one), red); got != (api.Trib{}) || e != api.OK {
		t.Errorf("Regain: %v, %d", got, e)
	}
	got, e := Regain(example, point(100*one), point(0), red)
	for _, b := range got {
		if !has(b, fr("1")) || b.Hi-b.Lo > 100000 || e != api.OK {
			t.Errorf("Regain: %v, %d", got, e)
		}
	}
}

// P30.1
func TestErrors(t *testing.T) {
	hue := func(x, y api.Band) [2]api.Band { return [2]api.Band{x, y} }
	minus := api.Band{Lo: -1, Hi: one}
	for i, x := range []struct {
		v    api.View
		j, c api.Band
		hue  [2]api.Band
		e    api.Errno
	}{
		{api.View{}, bad, bad, hue(bad, bad), api.ErrFrac}, {api.View{White: tri("1 1 1"), La: fr("1/2"), Yb: fr("1/5"), Surround: 1}, bad, bad, hue(bad, bad), api.ErrView},
		{example, bad, minus, red, api.ErrBand}, {example, minus, bad, red, api.ErrBand}, {example, minus, minus, hue(bad, point(0)), api.ErrBand}, {example, minus, minus, hue(point(0), bad), api.ErrBand},
		{example, minus, point(0), red, api.ErrArg}, {example, point(one), minus, red, api.ErrArg}, {example, point(one), point(0), hue(point(one+1), point(0)), api.ErrArg}, {example, point(one), point(0), hue(point(0), point(-one-1)), api.ErrArg}, {example, point(0), minus, red, api.ErrArg},
		{example, api.Band{Lo: 0, Hi: one}, point(one), red, api.ErrZero}, {example, point(50 * one), point(500 * one), hue(point(0), point(one)), api.ErrFail}, {example, point(100000 * one), point(0), red, api.ErrFail}, {example, point(700000 * one), point(0), red, api.ErrFail},
		{example, point(one), point(api.MaxBand), red, api.ErrBig},
	} {
		if got, e := Regain(x.v, x.j, x.c, x.hue); got != (api.Trib{}) || e != x.e {
			t.Errorf("%d: %v, %d", i, got, e)
		}
	}
}

// P30.1, P30.4: the colour of a look contains the colour that had it.
func TestLooks(t *testing.T) {
	r := rand.New(rand.NewSource(1))
	tried := 0
	for i := range 200 {
		v := []api.View{example, dim, dark}[i%3]
		var xyz api.Tri
		for k := range xyz {
			xyz[k], _ = frac.Of(50+r.Intn(1000), 1000)
		}
		look, e := appear.Appear(v, xyz)
		if e != api.OK {
			continue
		}
		got, e := Regain(v, look.J, look.C, look.Hue)
		if e == api.ErrFail {
			continue
		}
		tried++
		for k, b := range got {
			if !has(b, xyz[k]) || e != api.OK || b.Hi-b.Lo > one/1000 {
				t.Fatalf("Regain of the look of %v: %v, %d", xyz, got, e)
			}
		}
	}
	if tried < 80 {
		t.Errorf("only %d colours", tried)
	}
	white, _ := appear.Appear(example, tri("1/3 1/3 1/3"))
	got, e := Regain(example, white.J, white.C, white.Hue)
	for _, b := range got {
		if !has(b, fr("1/3")) || e != api.OK {
			t.Errorf("Regain: %v, %d", got, e)
		}
	}
}

// P30.1: the steps between the look and the compressed responses, in floating point.
func TestSteps(t *testing.T) {
	for i, v := range []api.View{example, dim, dark} {
		d, _ := view.Derive(v)
		j, c, x, y := 40.0, 30.0, -0.8, 0.6
		got, e := must0(scene{d}, point(40*one), point(30*one), [2]api.Band{point(-8 * one / 10), point(6 * one / 10)})
		middle := func(b api.Band) float64 { return (float64(b.Lo) + float64(b.Hi)) / 2 / one }
		nc := []float64{1, 0.95, 0.8}[i]
		h := (-0.4161468365*x - 0.9092974268*y + 3.8) / 4
		tt := math.Pow(c/math.Sqrt(j/100), 12.0/11)
		p := middle(d.Aw) * math.Pow(j/100, float64(d.Den)/float64(d.Num)) / middle(d.Nbb)
		r := tt * p / (50000.0/13*nc*middle(d.Nbb)*h + tt*(671*x+6588*y)/1403)
		for k, want := range []float64{460*p + 451*r*x + 288*r*y, 460*p - 891*r*x - 261*r*y, 460*p - 220*r*x - 6300*r*y} {
			if want /= 1403; e != api.OK || math.Abs(middle(got[k])-want) > 2e-11*math.Abs(want) {
				t.Errorf("%d: response %d is %v, not %v", i, k, got[k], want)
			}
		}
		// The differences of the responses, in which the lightness is left out, tell of the numbers of h.
		for k, want := range []float64{(451+891)*r*x + (288+261)*r*y, (451+220)*r*x + (288+6300)*r*y} {
			if want /= 1403; math.Abs(middle(got[0])-middle(got[k+1])-want) > 1e-11 {
				t.Errorf("%d: response %d is %v less than the first one, not %v", i, k+1, middle(got[0])-middle(got[k+1]), want)
			}
		}
	}
}

func must0(s scene, j, c api.Band, hue [2]api.Band) (api.Trib, api.Errno) {
	return must.Do(func() api.Trib { return s.compressed(j, c, hue) })
}

// P30.1: hues may reach the ends of their range.
func TestEnds(t *testing.T) {
	for _, hue := range [][2]api.Band{{point(-one), point(0)}, {point(one), point(0)}, {point(0), point(one)}, {point(0), point(-one)}} {
		if got, e := Regain(example, point(50*one), point(one), hue); e != api.OK || got[1].Lo <= 0 {
			t.Errorf("Regain with %v: %v, %d", hue, got, e)
		}
	}
}

// P30.4: of two greys the lighter one has no smaller Y.
func TestGreys(t *testing.T) {
	before := point(-one)
	for j := 0; j <= 100; j += 5 {
		got, e := Regain(dark, point(j*one), point(0), red)
		if e != api.OK || got[1].Lo < before.Lo || got[1].Hi < before.Hi {
			t.Fatalf("Regain of %d: %v, %d; before %v", j, got, e, before)
		}
		before = got[1]
	}
}

// P30.2
func TestExpand(t *testing.T) {
	y, _ := band.Around(fr("40000/2813"))
	got, e := Expand(point(one), y)
	if !has(got, fr("1")) || got.Hi-got.Lo > 10 || e != api.OK {
		t.Errorf("Expand: %v, %d", got, e)
	}
	if got, e := Expand(point(one), point(0)); got != point(0) || e != api.OK {
		t.Errorf("Expand: %v, %d", got, e)
	}
	if got, e := Expand(point(one), api.Band{Lo: -5 * one, Hi: 0}); got != point(0) || e != api.OK {
		t.Errorf("Expand: %v, %d", got, e)
	}
	// K(200) = 27.13, so that the band is 27.13^2.4, divided by Fl.
	if got, e := Expand(point(2*one), api.Band{Lo: 0, Hi: 200 * one}); e != api.OK || got.Lo != 0 || math.Abs(float64(got.Hi)/one-math.Pow(27.13, 2.4)/2) > 1e-6 {
		t.Errorf("Expand: %v, %d", got, e)
	}
}

// P30.2, P30.3
func TestRangeErrors(t *testing.T) {
	for i, x := range []struct {
		fl, y api.Band
		e     api.Errno
	}{
		{bad, bad, api.ErrBand}, {point(0), bad, api.ErrBand}, {point(0), point(400 * one), api.ErrArg}, {point(0), point(one), api.ErrArg}, {point(-one), point(one), api.ErrArg}, {api.Band{Lo: 0, Hi: one}, point(one), api.ErrArg},
		{point(one), point(400 * one), api.ErrFail}, {point(one), api.Band{Lo: 1, Hi: 400 * one}, api.ErrFail}, {point(one), point(-1), api.ErrFail}, {point(one), api.Band{Lo: -one, Hi: -1}, api.ErrFail},
	} {
		if got, e := Expand(x.fl, x.y); got != (api.Band{}) || e != x.e {
			t.Errorf("Expand %d: %v, %d", i, got, e)
		}
		if got, e := Narrow(x.fl, x.y); got != (api.Band{}) || e != x.e {
			t.Errorf("Narrow %d: %v, %d", i, got, e)
		}
	}
	if got, e := Expand(point(one), point(399*one)); got != (api.Band{}) || e != api.ErrBig {
		t.Errorf("Expand: %v, %d", got, e)
	}
	if got, e := Narrow(point(1000*one), point(one)); got != (api.Band{}) || e != api.ErrBig {
		t.Errorf("Narrow: %v, %d", got, e)
	}
}

// P30.3
func TestNarrow(t *testing.T) {
	if got, e := Narrow(point(one), point(0)); got != (api.Band{Lo: 0, Hi: 1}) || e != api.OK {
		t.Errorf("Narrow: %v, %d", got, e)
	}
	if got, e := Narrow(point(one), api.Band{Lo: 0, Hi: 399 * one}); got != (api.Band{Lo: 0, Hi: api.MaxRegain}) || e != api.OK {
		t.Errorf("Narrow: %v, %d", got, e)
	}
	if got, e := Narrow(point(1), point(399*one)); got != (api.Band{Lo: api.MaxRegain - 1, Hi: api.MaxRegain}) || e != api.OK {
		t.Errorf("Narrow: %v, %d", got, e)
	}
}

// P30.3, P30.4: just the numbers whose compressed bands meet y, and one more on each side.
func TestNarrowAndExpand(t *testing.T) {
	r := rand.New(rand.NewSource(2))
	for range 60 {
		fl := point(one/2 + r.Intn(one))
		x := r.Intn(2 * one)
		y, e := view.Compress(fl, api.Band{Lo: x, Hi: x + r.Intn(1000)})
		if e != api.OK {
			t.Fatal(e)
		}
		narrow, e := Narrow(fl, y)
		wide, e2 := Expand(fl, y)
		if e != api.OK || e2 != api.OK || narrow.Lo > x || narrow.Hi < x || wide.Lo > x || wide.Hi < x {
			t.Fatalf("of %v, %d: Narrow %v, %d; Expand %v, %d", fl, x, narrow, e, wide, e2)
		}
		meets := func(n int) bool {
			b, _ := view.Compress(fl, point(n))
			return b.Hi >= y.Lo && b.Lo <= y.Hi
		}
		// The ends of the compressed band of x alone are met by x.
		alone, _ := view.Compress(fl, point(x))
		for _, end := range []int{alone.Lo, alone.Hi} {
			if n, e := Narrow(fl, point(end)); e != api.OK || n.Lo >= x || n.Hi <= x {
				t.Fatalf("Narrow(%v, %d): %v, %d; not %d", fl, end, n, e, x)
			}
		}
		if narrow.Lo > 0 && (meets(narrow.Lo) || !meets(narrow.Lo+1)) || meets(narrow.Hi) || !meets(narrow.Hi-1) {
			t.Fatalf("Narrow(%v, %v): %v", fl, y, narrow)
		}
	}
}
