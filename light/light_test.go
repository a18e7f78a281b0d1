package light

import (
	"math/big"
	"math/rand"
	"strings"
	"testing"

	"verdigris/api"
	"verdigris/frac"
)

func fr(text string) api.Frac {
	x, ok := new(big.Rat).SetString(text)
	if !ok {
		panic(text)
	}
	return of(x)
}

func of(x *big.Rat) api.Frac {
	return api.Frac{N: api.Whole(x.Num().String()), D: api.Whole(x.Denom().String())}
}

func value(a api.Frac) *big.Rat {
	x, _ := new(big.Rat).SetString(string(a.N) + "/" + string(a.D))
	return x
}

func tri(text string) api.Tri {
	var t api.Tri
	for i, word := range strings.Fields(text) {
		t[i] = fr(word)
	}
	return t
}

var (
	long = api.Frac{N: "1", D: api.Whole(strings.Repeat("9", 600))}
	none = api.Tri{}
)

func with(t api.Tri, i int, a api.Frac) api.Tri {
	t[i] = a
	return t
}

// P23.1
func TestCheckAndSound(t *testing.T) {
	for i, x := range []struct {
		t            api.Tri
		check, sound api.Errno
	}{
		{tri("1 1 1"), api.OK, api.OK}, {tri("1/3 5 1/7"), api.OK, api.OK}, {tri("0 1 1"), api.OK, api.ErrArg}, {tri("1 0 1"), api.OK, api.ErrArg}, {tri("1 1 0"), api.OK, api.ErrArg}, {tri("0 0 0"), api.OK, api.ErrArg},
		{tri("-1 1 1"), api.ErrArg, api.ErrArg}, {tri("1 -1 1"), api.ErrArg, api.ErrArg}, {tri("1 1 -1"), api.ErrArg, api.ErrArg},
		{none, api.ErrFrac, api.ErrFrac}, {with(tri("-1 1 1"), 2, api.Frac{}), api.ErrFrac, api.ErrFrac}, {with(tri("0 1 1"), 1, api.Frac{N: "2", D: "2"}), api.ErrFrac, api.ErrFrac},
	} {
		if e := Check(x.t); e != x.check {
			t.Errorf("Check %d: %d", i, e)
		}
		if e := Sound(x.t); e != x.sound {
			t.Errorf("Sound %d: %d", i, e)
		}
	}
}

// P23.1
func TestWhite(t *testing.T) {
	for light, c := range map[int][2]string{api.IlA: {"0.44757", "0.40745"}, api.IlC: {"0.31006", "0.31616"}, api.IlD50: {"0.34567", "0.3585"}, api.IlD55: {"0.33242", "0.34743"}, api.IlD65: {"0.31272", "0.32903"}, api.IlD75: {"0.29902", "0.31485"}, api.IlE: {"1/3", "1/3"}} {
		x, y := value(fr(c[0])), value(fr(c[1]))
		z := new(big.Rat).Sub(new(big.Rat).Sub(big.NewRat(1, 1), x), y)
		want := api.Tri{of(new(big.Rat).Quo(x, y)), fr("1"), of(new(big.Rat).Quo(z, y))}
		got, e := White(light)
		if got != want || e != api.OK {
			t.Errorf("White(%d): %v, %d", light, got, e)
		}
		if gotX, gotY, lum, e := ToXyy(got); gotX != fr(c[0]) || gotY != fr(c[1]) || lum != fr("1") || e != api.OK {
			t.Errorf("ToXyy(White(%d)): %v, %v, %v, %d", light, gotX, gotY, lum, e)
		}
	}
	for _, light := range []int{0, 8, -1, 1 << 60} {
		if got, e := White(light); got != none || e != api.ErrArg {
			t.Errorf("White(%d): %v, %d", light, got, e)
		}
	}
}

// P23.2
func TestFromXyy(t *testing.T) {
	for i, x := range []struct {
		from api.Tri
		want api.Tri
		e    api.Errno
	}{
		{tri("1/3 1/3 1"), tri("1 1 1"), api.OK}, {tri("1/2 1/4 1"), tri("2 1 1"), api.OK}, {tri("1/2 1/2 3"), tri("3 3 0"), api.OK}, {tri("0 1 5"), tri("0 5 0"), api.OK}, {tri("1/4 1/4 0"), tri("0 0 0"), api.OK},
		{tri("1/2 0 1"), none, api.ErrZero}, {tri("1/2 51/100 1"), none, api.ErrArg}, {tri("2 0 1"), none, api.ErrArg}, {tri("-1/2 1/2 1"), none, api.ErrArg}, {tri("1/2 -1/2 1"), none, api.ErrArg}, {tri("1/2 1/2 -1"), none, api.ErrArg},
		{with(tri("-1 1 1"), 2, api.Frac{}), none, api.ErrFrac}, {with(tri("1/2 0 1"), 0, long), none, api.ErrZero}, {with(tri("1/3 1/13 1"), 0, api.Frac{N: "1", D: long.D[1:]}), none, api.ErrBig}, {with(tri("1/3 1/7 1"), 2, long), none, api.ErrBig},
	} {
		if got, e := FromXyy(x.from[0], x.from[1], x.from[2]); got != x.want || e != x.e {
			t.Errorf("%d: %v, %d", i, got, e)
		}
	}
}

// P23.2
func TestToXyy(t *testing.T) {
	for i, x := range []struct {
		t, want api.Tri
		e       api.Errno
	}{
		{tri("1 2 1"), tri("1/4 1/2 2"), api.OK}, {tri("0 0 7"), tri("0 0 0"), api.OK}, {tri("1/3 1/3 1/3"), tri("1/3 1/3 1/3"), api.OK},
		{tri("0 0 0"), none, api.ErrZero}, {tri("1 -1 0"), none, api.ErrArg}, {with(tri("0 0 0"), 1, api.Frac{}), none, api.ErrFrac}, {with(tri("1/13 0 0"), 1, api.Frac{N: "1", D: long.D[1:]}), none, api.ErrBig},
	} {
		if a, b, lum, e := ToXyy(x.t); (api.Tri{a, b, lum}) != x.want || e != x.e {
			t.Errorf("%d: %v, %v, %v, %d", i, a, b, lum, e)
		}
	}
}

// P23.2, P23.5: FromXyy undoes ToXyy.
func TestXyyBack(t *testing.T) {
	r := rand.New(rand.NewSource(1))
	for range 200 {
		var c api.Tri
		for i := range c {
			c[i], _ = frac.Of(1+r.Intn(1000), 1+r.Intn(1000))
		}
		x, y, lum, e := ToXyy(c)
		if back, e2 := FromXyy(x, y, lum); back != c || e != api.OK || e2 != api.OK {
			t.Fatalf("FromXyy(ToXyy(%v)): %v, %d, %d", c, back, e, e2)
		}
	}
}

// P23.3
func TestDaylight(t *testing.T) {
	if x, y, e := Daylight(5000); x != fr("0.345741") || y != fr("0.358666152757") || e != api.OK {
		t.Errorf("Daylight(5000): %v, %v, %d", x, y, e)
	}
	for _, kelvin := range []int{4000, 5003, 7000, 7001, 25000} {
		c := []string{"0.244063", "99.11", "2967800", "-4607000000"}
		if kelvin > 7000 {
			c = []string{"0.23704", "247.48", "1901800", "-2006400000"}
		}
		x, power := new(big.Rat), big.NewRat(1, 1)
		for _, text := range c {
			x.Add(x, new(big.Rat).Mul(value(fr(text)), power))
			power.Mul(power, big.NewRat(1, int64(kelvin)))
		}
		y := new(big.Rat).Mul(x, value(fr("2.87")))
		y.Sub(y, new(big.Rat).Mul(big.NewRat(3, 1), new(big.Rat).Mul(x, x))).Sub(y, value(fr("0.275")))
		if gotX, gotY, e := Daylight(kelvin); gotX != of(x) || gotY != of(y) || e != api.OK {
			t.Errorf("Daylight(%d): %v, %v, %d", kelvin, gotX, gotY, e)
		}
	}
	for _, kelvin := range []int{3999, 25001, 0, -5000} {
		if x, y, e := Daylight(kelvin); x != (api.Frac{}) || y != (api.Frac{}) || e != api.ErrArg {
			t.Errorf("Daylight(%d): %v, %v, %d", kelvin, x, y, e)
		}
	}
}

// P23.3
func TestTemperature(t *testing.T) {
	for i, x := range []struct {
		x, y api.Frac
		want api.Frac
		e    api.Errno
	}{
		{fr("0.332"), fr("0.3"), fr("5520.33"), api.OK},
		{fr("1.332"), fr("0.6858"), fr("2381.73"), api.OK},
		{fr("-1.668"), fr("-0.8142"), fr("2381.73"), api.OK},
		{fr("3.332"), fr("-0.8142"), fr("69838.23"), api.OK},
		{fr("0.3"), fr("0.1858"), api.Frac{}, api.ErrZero}, {long, fr("0.1858"), api.Frac{}, api.ErrZero},
		{api.Frac{}, fr("0.1858"), api.Frac{}, api.ErrFrac}, {fr("0.3"), api.Frac{N: "2", D: "2"}, api.Frac{}, api.ErrFrac},
		{long, fr("0.3"), api.Frac{}, api.ErrBig},
	} {
		if got, e := Temperature(x.x, x.y); got != x.want || e != x.e {
			t.Errorf("%d: %v, %d", i, got, e)
		}
	}
}

// P23.4, P23.5
func TestMix(t *testing.T) {
	for i, x := range []struct {
		a, b api.Tri
		t    api.Frac
		want api.Tri
		e    api.Errno
	}{
		{tri("1 1 1"), tri("0 1 3"), fr("1/2"), tri("1/2 1 2"), api.OK}, {tri("1 1 1"), tri("0 1 3"), fr("0"), tri("1 1 1"), api.OK}, {tri("1 1 1"), tri("0 1 3"), fr("1"), tri("0 1 3"), api.OK}, {tri("1 1 1"), tri("0 1 3"), fr("1/3"), tri("2/3 1 5/3"), api.OK},
		{tri("1 1 1"), tri("0 1 3"), fr("3/2"), none, api.ErrArg}, {tri("1 1 1"), tri("0 1 3"), fr("-1/2"), none, api.ErrArg},
		{tri("-1 1 1"), none, api.Frac{}, none, api.ErrArg}, {none, tri("-1 1 1"), api.Frac{}, none, api.ErrFrac}, {tri("1 1 1"), none, fr("2"), none, api.ErrFrac}, {tri("1 1 1"), tri("1 1 -1"), api.Frac{}, none, api.ErrArg}, {tri("1 1 1"), tri("1 1 1"), api.Frac{}, none, api.ErrFrac},
		{tri("1/13 1 1"), tri("1 1 1"), long, none, api.ErrBig},
	} {
		if got, e := Mix(x.a, x.b, x.t); got != x.want || e != x.e {
			t.Errorf("%d: %v, %d", i, got, e)
		}
	}
	a, b, s, u := tri("1/2 1 2"), tri("3 1/5 1/7"), fr("2/3"), fr("3/4")
	once, _ := Mix(a, b, u)
	again, _ := Mix(a, once, s)
	if both, _ := Mix(a, b, fr("1/2")); again != both {
		t.Errorf("Mix of Mix: %v, not %v", again, both)
	}
}
