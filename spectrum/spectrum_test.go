package spectrum

import (
	"math/big"
	"math/rand"
	"strings"
	"testing"

	"verdigris/api"
	"verdigris/frac"
	"verdigris/light"
)

func fr(text string) api.Frac {
	x, ok := new(big.Rat).SetString(text)
	if !ok {
		panic(text)
	}
	return of(x)
}

func of(x *big.Rat) api.Frac {
	return api.Frac{N: api.Whole(x.Num().String()), D: api.Whole(x.Denom().String())}
}

func value(a api.Frac) *big.Rat {
	x, _ := new(big.Rat).SetString(string(a.N) + "/" + string(a.D))
	return x
}

func flat(text string) api.Spectrum {
	var s api.Spectrum
	for i := range s {
		s[i] = fr(text)
	}
	return s
}

func with(s api.Spectrum, i int, a api.Frac) api.Spectrum {
	s[i] = a
	return s
}

var long = api.Frac{N: "1", D: api.Whole(strings.Repeat("9", 600))}

// The chapter's table, line by line.
const chapter = `400 14310 396 67850 147080 827549
420 134380 4000 645600 209950 934318
440 348280 23000 1747060 287027 1048650
460 290800 60000 1669200 378121 1178120
480 95640 139020 812950 482423 1159230
500 4900 323000 272000 598611 1093540
520 63270 710000 78250 724959 1047900
540 290400 954000 20300 859470 1044050
560 594500 995000 3900 1000000 1000000
580 916300 870000 1650 1144360 957880
600 1062200 631000 800 1290430 900062
620 854450 381000 190 1436180 876987
640 447900 175000 20 1579790 836992
660 164900 61000 0 1719630 802146
680 46770 17000 0 1854290 782842
700 11359 4102 0 1982610 716091`

// column returns a column of the chapter's table.
func column(n int) []*big.Rat {
	var out []*big.Rat
	for _, line := range strings.Split(chapter, "\n") {
		out = append(out, value(fr(strings.Fields(line)[n])))
	}
	return out
}

// colour computes the colour of a spectrum in another way.
func colour(s api.Spectrum, light int) api.Tri {
	p := map[int]int{api.IlA: 4, api.IlD65: 5, api.IlE: 0}[light]
	powers := column(p)
	if light == api.IlE {
		for i := range powers {
			powers[i] = big.NewRat(1000000, 1)
		}
	}
	y := column(2)
	k := new(big.Rat)
	for i := range powers {
		k.Add(k, new(big.Rat).Mul(powers[i], y[i]))
	}
	var out api.Tri
	for c := range out {
		sum := new(big.Rat)
		for i, x := range column(c + 1) {
			x.Mul(x, powers[i])
			sum.Add(sum, x.Mul(x, value(s[i])))
		}
		out[c] = of(sum.Quo(sum, k))
	}
	return out
}

// P26.1
func TestCheckAndFlat(t *testing.T) {
	for i, x := range []struct {
		s api.Spectrum
		e api.Errno
	}{
		{flat("0"), api.OK}, {flat("2"), api.OK}, {flat("1/3"), api.OK}, {api.Spectrum{}, api.ErrFrac}, {with(flat("1"), 15, fr("201/100")), api.ErrArg}, {with(flat("1"), 0, fr("-1/100")), api.ErrArg},
		{with(with(flat("1"), 0, fr("3")), 15, api.Frac{N: "2", D: "2"}), api.ErrFrac},
	} {
		if e := Check(x.s); e != x.e {
			t.Errorf("Check %d: %d", i, e)
		}
	}
	if s, e := Flat(fr("2/3")); s != flat("2/3") || e != api.OK {
		t.Errorf("Flat: %v, %d", s, e)
	}
	for f, want := range map[api.Frac]api.Errno{fr("5/2"): api.ErrArg, fr("-1"): api.ErrArg, {}: api.ErrFrac} {
		if s, e := Flat(f); s != (api.Spectrum{}) || e != want {
			t.Errorf("Flat(%v): %v, %d", f, s, e)
		}
	}
}

func some(r *rand.Rand) api.Spectrum {
	var s api.Spectrum
	for i := range s {
		s[i], _ = frac.Of(r.Intn(201), 100)
	}
	return s
}

// P26.2
func TestXYZ(t *testing.T) {
	r := rand.New(rand.NewSource(1))
	for _, l := range []int{api.IlA, api.IlD65, api.IlE} {
		white, e := White(l)
		if white != colour(flat("1"), l) || white[1] != fr("1") || e != api.OK {
			t.Errorf("White(%d): %v, %d", l, white, e)
		}
		for range 30 {
			s := some(r)
			if got, e := XYZ(s, l); got != colour(s, l) || e != api.OK {
				t.Fatalf("XYZ(%v, %d): %v, %d", s, l, got, e)
			}
		}
		half, _ := XYZ(flat("1/2"), l)
		for i := range half {
			if twice, _ := frac.Add(half[i], half[i]); twice != white[i] {
				t.Errorf("XYZ of a flat spectrum: %v", half)
			}
		}
	}
	for _, l := range []int{0, api.IlC, api.IlD50, api.IlD55, api.IlD75, 8, -1} {
		if got, e := White(l); got != (api.Tri{}) || e != api.ErrNone {
			t.Errorf("White(%d): %v, %d", l, got, e)
		}
		if got, e := XYZ(flat("1"), l); got != (api.Tri{}) || e != api.ErrNone {
			t.Errorf("XYZ(%d): %v, %d", l, got, e)
		}
		if got, e := XYZ(flat("3"), l); got != (api.Tri{}) || e != api.ErrArg {
			t.Errorf("XYZ(%d): %v, %d", l, got, e)
		}
	}
	if got, e := XYZ(with(flat("1"), 3, long), api.IlA); got != (api.Tri{}) || e != api.ErrBig {
		t.Errorf("XYZ: %v, %d", got, e)
	}
}

// P26.3
func TestCorrected(t *testing.T) {
	first, e := Corrected(with(flat("0"), 0, fr("1")))
	if first != with(with(flat("0"), 0, fr("1.083")), 1, fr("-0.083")) || e != api.OK {
		t.Errorf("Corrected: %v, %d", first, e)
	}
	second, e := Corrected(with(flat("0"), 1, fr("1")))
	if second != with(with(with(flat("0"), 0, fr("-0.083")), 1, fr("1.166")), 2, fr("-0.083")) || e != api.OK {
		t.Errorf("Corrected: %v, %d", second, e)
	}
	last, e := Corrected(with(flat("0"), 15, fr("1")))
	if last != with(with(flat("0"), 15, fr("1.083")), 14, fr("-0.083")) || e != api.OK {
		t.Errorf("Corrected: %v, %d", last, e)
	}
	if s, e := Corrected(flat("2/7")); s != flat("2/7") || e != api.OK {
		t.Errorf("Corrected: %v, %d", s, e)
	}
	for s, want := range map[api.Spectrum]api.Errno{flat("3"): api.ErrArg, {}: api.ErrFrac, with(flat("1/7"), 4, long): api.ErrBig} {
		if got, e := Corrected(s); got != (api.Spectrum{}) || e != want {
			t.Errorf("Corrected: %v, %d", got, e)
		}
	}
}

// P26.3
func TestMix(t *testing.T) {
	for i, x := range []struct {
		a, b api.Spectrum
		t    api.Frac
		want api.Spectrum
		e    api.Errno
	}{
		{flat("0"), flat("1"), fr("1/3"), flat("1/3"), api.OK}, {flat("1/2"), flat("2"), fr("0"), flat("1/2"), api.OK}, {flat("1/2"), flat("2"), fr("1"), flat("2"), api.OK}, {flat("1/2"), flat("2"), fr("1/4"), flat("7/8"), api.OK},
		{flat("3"), api.Spectrum{}, api.Frac{}, api.Spectrum{}, api.ErrArg}, {flat("1"), api.Spectrum{}, fr("2"), api.Spectrum{}, api.ErrFrac}, {flat("1"), flat("3"), api.Frac{}, api.Spectrum{}, api.ErrArg}, {flat("1"), flat("1"), api.Frac{}, api.Spectrum{}, api.ErrFrac},
		{flat("1"), flat("1"), fr("3/2"), api.Spectrum{}, api.ErrArg}, {flat("1"), flat("1"), fr("-1/2"), api.Spectrum{}, api.ErrArg}, {flat("1"), flat("1/13"), long, api.Spectrum{}, api.ErrBig},
		{flat("1"), flat("1"), long, flat("1"), api.OK},
	} {
		if got, e := Mix(x.a, x.b, x.t); got != x.want || e != x.e {
			t.Errorf("%d: %v, %d", i, got, e)
		}
	}
}

// P26.4
func TestLaws(t *testing.T) {
	r := rand.New(rand.NewSource(2))
	for range 40 {
		a, b := some(r), some(r)
		share, _ := frac.Of(r.Intn(8), 7)
		mixed, _ := Mix(a, b, share)
		colourA, _ := XYZ(a, api.IlA)
		colourB, _ := XYZ(b, api.IlA)
		want, e := light.Mix(colourA, colourB, share)
		if got, _ := XYZ(mixed, api.IlA); got != want || e != api.OK {
			t.Fatalf("XYZ of Mix(%v, %v, %v): %v, not %v", a, b, share, got, want)
		}
		sharp, _ := Corrected(a)
		sumA, _ := frac.Sum(a[:])
		if sum, _ := frac.Sum(sharp[:]); sum != sumA {
			t.Fatalf("Corrected(%v): sum %v, not %v", a, sum, sumA)
		}
		i := r.Intn(16)
		more := with(a, i, fr("2"))
		brighter, _ := XYZ(more, api.IlA)
		for c := range brighter {
			if order, _ := frac.Cmp(brighter[c], colourA[c]); order < 0 {
				t.Fatalf("XYZ(%v): %v, but %v for less", more, brighter, colourA)
			}
		}
	}
}
