package differ

import (
	"math"
	"math/big"
	"math/rand"
	"strings"
	"testing"

	"verdigris/api"
	"verdigris/frac"
)

const unit1 = api.OneBand

func fr(text string) api.Frac {
	x, ok := new(big.Rat).SetString(text)
	if !ok {
		panic(text)
	}
	return api.Frac{N: api.Whole(x.Num().String()), D: api.Whole(x.Denom().String())}
}

func float(a api.Frac) float64 {
	x, _ := new(big.Rat).SetString(string(a.N) + "/" + string(a.D))
	f, _ := x.Float64()
	return f
}

func tri(text string) api.Tri {
	var t api.Tri
	for i, word := range strings.Fields(text) {
		t[i] = fr(word)
	}
	return t
}

func point(n int) api.Band { return api.Band{Lo: n, Hi: n} }

var (
	one  = fr("1")
	huge = api.Frac{N: api.Whole("1" + strings.Repeat("0", 599)), D: "1"}
	long = api.Frac{N: "1", D: api.Whole(strings.Repeat("9", 600))}
)

// P27.1
func TestExamples(t *testing.T) {
	for i, x := range []struct {
		kind int
		a, b string
		l, c string
		want api.Band
	}{
		{api.DiOld, "50 3 4", "50 0 0", "1", "1", point(5 * unit1)}, {api.DiOld, "50 3 4", "50 0 0", "7", "1/9", point(5 * unit1)}, {api.DiOld, "1 2 3", "1 2 3", "1", "1", point(0)}, {api.DiOld, "50 1 1", "48 2 -1", "1", "1", point(3 * unit1)},
		{api.DiNew, "50 0 0", "40 0 0", "1", "1", point(10 * unit1)}, {api.DiNew, "50 0 0", "40 0 0", "2", "1", point(5 * unit1)}, {api.DiNew, "50 0 0", "50 0 3", "1", "1/2", point(6 * unit1)}, {api.DiNew, "50 0 100", "50 0 89", "1", "1", point(2 * unit1)}, {api.DiNew, "50 100 0", "40 100 0", "1", "1", point(10 * unit1)},
		{api.DiHue, "50 0 0", "40 0 0", "1", "1", point(10 * unit1)}, {api.DiHue, "50 0 105", "50 0 95", "1", "2", point(10 * unit1 / 11)},
		{api.DiCmc, "10 0 0", "9.489 0 0", "1", "1", point(unit1)},
	} {
		got, e := Distance(x.kind, tri(x.a), tri(x.b), fr(x.l), fr(x.c))
		if x.want.Lo%unit1 != 0 { // no number of twelve places
			if got.Lo > x.want.Lo || got.Hi < x.want.Hi || got.Hi-got.Lo > 3 || e != api.OK {
				t.Errorf("%d: %v, %d", i, got, e)
			}
			continue
		}
		if got != x.want || e != api.OK {
			t.Errorf("%d: %v, %d", i, got, e)
		}
	}
}

func hueAngle(lab [3]float64) float64 { return math.Atan2(lab[2], lab[1]) }

func degrees(h float64) float64 { return h * math.Pi / 180 }

// distanceOf is the distance in floating point; the hues must not be opposite.
func distanceOf(kind int, a, b [3]float64, l, c float64) float64 {
	dL, da, db := a[0]-b[0], a[1]-b[1], a[2]-b[2]
	if kind == api.DiOld {
		return math.Sqrt(dL*dL + da*da + db*db)
	}
	c1, c2 := math.Hypot(a[1], a[2]), math.Hypot(b[1], b[2])
	sl, sc, sh := 1.0, 1+0.045*c1, 1+0.015*c1
	switch kind {
	case api.DiCmc:
		sl = 0.511
		if a[0] >= 16 {
			sl = 0.040975 * a[0] / (1 + 0.01765*a[0])
		}
		sc = 0.0638*c1/(1+0.0131*c1) + 0.638
		h := hueAngle(a)
		factor := 0.36 + 0.4*math.Abs(math.Cos(h+degrees(35)))
		if h < degrees(-15) || h > degrees(164) {
			factor = 0.56 + 0.2*math.Abs(math.Cos(h+degrees(168)))
		}
		f := math.Sqrt(math.Pow(c1/10, 4) / (math.Pow(c1/10, 4) + 0.19))
		sh = sc * (f*factor + 1 - f)
	case api.DiHue:
		mean := (c1 + c2) / 2
		h := math.Atan2(a[2]/c1+b[2]/c2, a[1]/c1+b[1]/c2)
		factor := 1 - 0.17*math.Cos(h-degrees(30)) + 0.24*math.Cos(2*h) + 0.32*math.Cos(3*h+degrees(6)) - 0.2*math.Cos(4*h-degrees(63))
		sc, sh = 1+0.045*mean, 1+0.015*mean*factor
	}
	hue := math.Max(0, da*da+db*db-(c1-c2)*(c1-c2))
	return math.Sqrt(dL/(sl*l)*dL/(sl*l) + math.Pow((c1-c2)/(sc*c), 2) + hue/(sh*sh))
}

func someLab(r *rand.Rand) api.Tri {
	var t api.Tri
	for i, n := range []int{1001, 1601, 1601} {
		t[i], _ = frac.Of(r.Intn(n)-(n-1001)*4/3, 10)
	}
	return t
}

func floats(t api.Tri) [3]float64 { return [3]float64{float(t[0]), float(t[1]), float(t[2])} }

// P27.1: all kinds against another implementation.
func TestDistances(t *testing.T) {
	r := rand.New(rand.NewSource(1))
	for range 1500 {
		a, b := someLab(r), someLab(r)
		l, _ := frac.Of(1+r.Intn(20), 5)
		c, _ := frac.Of(1+r.Intn(20), 5)
		fa, fb := floats(a), floats(b)
		if math.Cos(hueAngle(fa)-hueAngle(fb)) < -0.99 || math.Hypot(fa[1], fa[2]) < 1 || math.Hypot(fb[1], fb[2]) < 1 {
			continue
		}
		for kind := api.DiOld; kind <= api.DiHue; kind++ {
			got, e := Distance(kind, a, b, l, c)
			want := distanceOf(kind, fa, fb, float(l), float(c))
			if e != api.OK || math.Abs(float64(got.Lo)/unit1-want) > 1e-6 || got.Hi-got.Lo > 100000 {
				t.Fatalf("Distance(%d, %v, %v, %v, %v): %v, %d; want %v", kind, fa, fb, l, c, got, e, want)
			}
		}
	}
}

// P27.1: hues that are not known.
func TestOpenHues(t *testing.T) {
	// The chroma of the first Lab is too small for a hue: both forms of T are joined.
	tiny := tri("50 0 0")
	tiny[1] = fr("1/3000000000000")
	for kind := api.DiNew; kind <= api.DiHue; kind++ {
		got, e := Distance(kind, tiny, tri("50 0 10"), one, one)
		if e != api.OK || got.Lo <= 0 || got.Hi < got.Lo {
			t.Errorf("Distance(%d): %v, %d", kind, got, e)
		}
	}
	// A hue at the end of the range of one form of T: both forms are joined.
	rim, e := Distance(api.DiCmc, tri("50 96.59258263 -25.88190451"), tri("50 96.59258263 5"), one, one)
	beside, e2 := Distance(api.DiCmc, tri("50 96.5925827 -25.8819045"), tri("50 96.5925827 5"), one, one)
	if e != api.OK || e2 != api.OK || rim.Hi-rim.Lo < unit1/1000 || beside.Hi-beside.Lo > 1000 || rim.Lo > beside.Hi+100000 || rim.Hi < beside.Lo-100000 {
		t.Errorf("Distance: %v, beside it %v", rim, beside)
	}
	// Opposite hues have none between them.
	got, e := Distance(api.DiHue, tri("50 30 0"), tri("50 -30 0"), one, one)
	if dark, e := Distance(api.DiCmc, tri("16 0 0"), tri("15 0 0"), one, one); e != api.OK || math.Abs(float64(dark.Lo)/unit1-(1+0.01765*16)/(0.040975*16)) > 1e-9 {
		t.Errorf("Distance: %v, %d", dark, e)
	}
	low, high := 60/(1+0.45*1.93), 60/(1+0.45*0.07)
	if e != api.OK || float64(got.Lo)/unit1 > low+1e-6 || float64(got.Lo)/unit1 < low-1e-6 || float64(got.Hi)/unit1 > high+1e-6 || float64(got.Hi)/unit1 < high-1e-6 {
		t.Errorf("Distance: %v, %d; want %v to %v", got, e, low, high)
	}
}

// P27.1, P27.2
func TestErrors(t *testing.T) {
	a, b := tri("50 3 4"), tri("50 0 0")
	with := func(t api.Tri, i int, n api.Frac) api.Tri {
		t[i] = n
		return t
	}
	for i, x := range []struct {
		kind  int
		a, b  api.Tri
		l, c  api.Frac
		limit api.Frac
		e     api.Errno
	}{
		{0, api.Tri{}, b, one, one, one, api.ErrArg}, {5, api.Tri{}, b, one, one, one, api.ErrArg}, {-1, a, b, one, one, one, api.ErrArg},
		{1, api.Tri{}, b, fr("0"), one, one, api.ErrFrac}, {1, a, with(b, 2, api.Frac{N: "2", D: "2"}), fr("0"), one, one, api.ErrFrac}, {1, a, b, api.Frac{}, fr("0"), one, api.ErrFrac}, {1, a, b, fr("0"), api.Frac{}, one, api.ErrFrac},
		{1, a, b, fr("0"), one, one, api.ErrArg}, {1, a, b, one, fr("-1"), api.Frac{}, api.ErrArg}, {2, a, b, fr("-1/2"), one, one, api.ErrArg},
		{2, with(a, 0, huge), b, one, one, one, api.ErrBig}, {1, with(a, 1, huge), b, one, one, one, api.ErrBig}, {2, tri("50 400000 0"), b, one, one, one, api.ErrBig}, {3, tri("50 400 0"), b, one, one, one, api.ErrBig}, {2, a, b, one, huge, one, api.ErrBig},
		{2, a, b, long, one, one, api.ErrZero}, {2, a, b, one, long, one, api.ErrZero},
	} {
		if got, e := Distance(x.kind, x.a, x.b, x.l, x.c); got != (api.Band{}) || e != x.e {
			t.Errorf("Distance %d: %v, %d", i, got, e)
		}
		if got, e := Within(x.kind, x.a, x.b, x.l, x.c, x.limit); got != 0 || e != x.e {
			t.Errorf("Within %d: %v, %d", i, got, e)
		}
	}
	for i := range 3 {
		if got, e := Distance(1, with(a, i, api.Frac{}), b, one, one); got != (api.Band{}) || e != api.ErrFrac {
			t.Errorf("Distance without number %d: %v, %d", i, got, e)
		}
		if got, e := Distance(1, a, with(b, i, api.Frac{}), one, one); got != (api.Band{}) || e != api.ErrFrac {
			t.Errorf("Distance without number %d: %v, %d", i, got, e)
		}
	}
	// A hue takes the band of the whole Lab, a distance without hues does not.
	for kind, want := range map[int]api.Errno{api.DiOld: api.OK, api.DiNew: api.OK, api.DiCmc: api.ErrBig, api.DiHue: api.ErrBig} {
		if got, e := Distance(kind, tri("10000000 3 4"), tri("10000000 0 5"), one, one); e != want || (e == api.OK) != (got.Lo > 0) {
			t.Errorf("Distance(%d): %v, %d", kind, got, e)
		}
	}
	for i, x := range []struct {
		a     api.Tri
		limit api.Frac
		e     api.Errno
	}{{a, api.Frac{}, api.ErrFrac}, {a, fr("-1"), api.ErrArg}, {with(a, 1, huge), api.Frac{}, api.ErrFrac}, {with(a, 1, huge), fr("-1"), api.ErrArg}} {
		if got, e := Within(1, x.a, b, one, one, x.limit); got != 0 || e != x.e {
			t.Errorf("Within %d: %v, %d", i, got, e)
		}
	}
	// The first distance does not depend on its weights, not even on those that are too great for a band.
	if got, e := Distance(1, a, b, huge, long); got != point(5*unit1) || e != api.OK {
		t.Errorf("Distance: %v, %d", got, e)
	}
}

// P27.2
func TestWithin(t *testing.T) {
	a, b := tri("50 3 4"), tri("50 0 0")
	for limit, want := range map[string]int{"5": 1, "4": 0, "6": 1, "0": 0, "4999999999999/1000000000000": 0, "5000000000001/1000000000000": 1} {
		if got, e := Within(api.DiOld, a, b, one, one, fr(limit)); got != want || e != api.OK {
			t.Errorf("Within(%s): %d, %d", limit, got, e)
		}
	}
	// The distance of 1 and 1 is the root of 2.
	for limit, want := range map[string]int{"1.4142135623729": 0, "1.414213562373": 2, "1.4142135623731": 2, "1.414213562374": 1, "0": 0} {
		if got, e := Within(api.DiOld, tri("1 1 0"), tri("0 0 0"), one, one, fr(limit)); got != want || e != api.OK {
			t.Errorf("Within(%s): %d, %d", limit, got, e)
		}
	}
	if got, e := Within(api.DiOld, a, a, one, one, fr("0")); got != 1 || e != api.OK {
		t.Errorf("Within: %d, %d", got, e)
	}
}

// P27.3
func TestLaws(t *testing.T) {
	r := rand.New(rand.NewSource(2))
	for range 200 {
		a, b, c := someLab(r), someLab(r), someLab(r)
		for kind := api.DiOld; kind <= api.DiHue; kind++ {
			if same, e := Distance(kind, a, a, one, one); same.Lo != 0 || e != api.OK {
				t.Fatalf("Distance(%d) of %v: %v, %d", kind, a, same, e)
			}
			light, _ := Distance(kind, a, b, one, one)
			heavy, _ := Distance(kind, a, b, fr("2"), fr("3"))
			if heavy.Lo > light.Lo || heavy.Hi > light.Hi {
				t.Fatalf("Distance(%d, %v, %v): %v, with greater weights %v", kind, a, b, light, heavy)
			}
			if back, _ := Distance(kind, b, a, one, one); (kind == api.DiOld || kind == api.DiHue) && back != light {
				t.Fatalf("Distance(%d, %v, %v): %v, and back %v", kind, a, b, light, back)
			}
		}
		ab, _ := Distance(api.DiOld, a, b, one, one)
		bc, _ := Distance(api.DiOld, b, c, one, one)
		ac, _ := Distance(api.DiOld, a, c, one, one)
		newer, _ := Distance(api.DiNew, a, b, one, one)
		if ac.Lo > ab.Hi+bc.Hi || newer.Lo > ab.Hi {
			t.Fatalf("Distance of %v, %v, %v: %v, %v, %v; %v", a, b, c, ab, bc, ac, newer)
		}
	}
}
