package adapt

import (
	"math/big"
	"math/rand"
	"slices"
	"strings"
	"testing"

	"verdigris/api"
	"verdigris/frac"
	"verdigris/light"
	"verdigris/matrix"
)

func fr(text string) api.Frac {
	x, ok := new(big.Rat).SetString(text)
	if !ok {
		panic(text)
	}
	return api.Frac{N: api.Whole(x.Num().String()), D: api.Whole(x.Denom().String())}
}

func tri(text string) api.Tri {
	var t api.Tri
	for i, word := range strings.Fields(text) {
		t[i] = fr(word)
	}
	return t
}

func mat(text string) api.Mat {
	var m api.Mat
	for _, row := range strings.Split(text, ";") {
		t := tri(row)
		m = append(m, t[:])
	}
	return m
}

var none = [3]api.Frac{}

// P25.1
func TestCone(t *testing.T) {
	for kind, text := range map[int]string{
		api.AdScale:    "1 0 0;0 1 0;0 0 1",
		api.AdKries:    "0.40024 0.7076 -0.08081;-0.2263 1.16532 0.0457;0 0 0.91822",
		api.AdBradford: "0.8951 0.2664 -0.1614;-0.7502 1.7135 0.0367;0.0389 -0.0685 1.0296",
		api.AdEven:     "0.895 0.2664 -0.1614;-0.7502 1.7135 0.0367;0.0389 -0.0685 1.0296",
	} {
		if m, e := Cone(kind); !matrix.Same(m, mat(text)) || e != api.OK {
			t.Errorf("Cone(%d): %v, %d", kind, m, e)
		}
	}
	for _, kind := range []int{0, 5, -1} {
		if m, e := Cone(kind); m != nil || e != api.ErrArg {
			t.Errorf("Cone(%d): %v, %d", kind, m, e)
		}
	}
	m, _ := Cone(api.AdScale)
	m[0][0] = fr("7")
	if again, _ := Cone(api.AdScale); again[0][0] != fr("1") {
		t.Error("Cone keeps its result")
	}
}

// P25.1, P25.2
func TestGains(t *testing.T) {
	dark := tri("1 3/4 1")
	// The second response of AdBradford is 0 if 0.7502 X = 1.7135 Y + 0.0367 Z.
	zero := api.Tri{fr("17502/7502"), fr("1"), fr("1")}
	for i, x := range []struct {
		kind     int
		from, to api.Tri
		degree   api.Frac
		want     string
		e        api.Errno
	}{
		{api.AdScale, tri("1 1 1"), tri("2 1 1/2"), fr("1"), "2 1 1/2", api.OK}, {api.AdScale, tri("1 1 1"), tri("2 1 1/2"), fr("1/2"), "3/2 1 3/4", api.OK}, {api.AdScale, tri("1 1 1"), tri("2 1 1/2"), fr("0"), "1 1 1", api.OK}, {api.AdScale, tri("1/3 2 5"), tri("1 1 1"), fr("1"), "3 1/2 1/5", api.OK},
		{api.AdEven, tri("1 1 1"), tri("1/2 1/2 1/2"), fr("1"), "1/2 1/2 1/2", api.OK},
		{api.AdScale, tri("1 1 1"), tri("2 1 1/2"), fr("2"), "", api.ErrArg}, {api.AdScale, tri("1 1 1"), tri("2 1 1/2"), fr("-1/2"), "", api.ErrArg}, {api.AdScale, tri("1 0 1"), api.Tri{}, api.Frac{}, "", api.ErrArg}, {api.AdScale, api.Tri{}, tri("1 0 1"), api.Frac{}, "", api.ErrFrac},
		{0, api.Tri{}, api.Tri{}, api.Frac{}, "", api.ErrArg}, {5, api.Tri{}, api.Tri{}, api.Frac{}, "", api.ErrArg}, {1, tri("1 1 1"), tri("1 0 1"), api.Frac{}, "", api.ErrArg}, {1, tri("1 1 1"), api.Tri{}, fr("2"), "", api.ErrFrac}, {1, tri("1 1 1"), tri("1 1 1"), api.Frac{}, "", api.ErrFrac},
		{api.AdBradford, zero, tri("1 1 1"), fr("1"), "", api.ErrZero}, {api.AdBradford, zero, tri("1 1 1"), fr("2"), "", api.ErrArg}, {api.AdBradford, dark, zero, fr("0"), "1 1 1", api.OK},
		{api.AdScale, api.Tri{{N: "1", D: api.Whole(strings.Repeat("9", 600))}, fr("1"), fr("1")}, tri("7 1 1"), fr("1/13"), "", api.ErrBig},
	} {
		want := none
		if x.e == api.OK {
			want = tri(x.want)
		}
		if got, e := Gains(x.kind, x.from, x.to, x.degree); got != want || e != x.e {
			t.Errorf("Gains %d: %v, %d", i, got, e)
		}
		if m, e := Matrix(x.kind, x.from, x.to, x.degree); e != x.e || (m == nil) != (e != api.OK) {
			t.Errorf("Matrix %d: %v, %d", i, m, e)
		}
	}
}

// P25.3
func TestAdapt(t *testing.T) {
	m, e := Matrix(api.AdScale, tri("1 1 1"), tri("2 1 1/2"), fr("1"))
	if !matrix.Same(m, mat("2 0 0;0 1 0;0 0 1/2")) || e != api.OK {
		t.Errorf("Matrix: %v, %d", m, e)
	}
	for i, x := range []struct {
		m    api.Mat
		t    api.Tri
		want api.Tri
		e    api.Errno
	}{
		{m, tri("1 1 1"), tri("2 1 1/2"), api.OK}, {mat("1 -2 0;0 1 0;1 1 1"), tri("1 1 0"), tri("-1 1 2"), api.OK},
		{nil, api.Tri{}, api.Tri{}, api.ErrMat}, {m, api.Tri{}, api.Tri{}, api.ErrFrac}, {m, tri("1 -1 1"), api.Tri{}, api.ErrArg}, {m[:2], tri("1 -1 1"), api.Tri{}, api.ErrArg}, {m[:2], api.Tri{}, api.Tri{}, api.ErrFrac}, {m[:2], tri("1 1 1"), api.Tri{}, api.ErrArg},
		{api.Mat{m[0][:2], m[1][:2], m[2][:2]}, tri("1 1 1"), api.Tri{}, api.ErrArg}, {api.Mat{m[0], m[1], m[2], m[0]}, tri("1 1 1"), api.Tri{}, api.ErrArg},
		{mat("13 0 0;0 13 0;0 0 13"), api.Tri{fr("1"), fr("1"), {N: api.Whole(strings.Repeat("9", 600)), D: "1"}}, api.Tri{}, api.ErrBig},
	} {
		if got, e := Adapt(x.m, x.t); got != x.want || e != x.e {
			t.Errorf("Adapt %d: %v, %d", i, got, e)
		}
	}
}

// P25.4
func TestLaws(t *testing.T) {
	r := rand.New(rand.NewSource(1))
	some := func() api.Tri {
		var w api.Tri
		for i := range w {
			w[i], _ = frac.Of(80+r.Intn(40), 100)
		}
		return w
	}
	identity, _ := matrix.Identity(3)
	for range 60 {
		a, b, c := some(), some(), some()
		for kind := api.AdScale; kind <= api.AdEven; kind++ {
			ab, e := Matrix(kind, a, b, fr("1"))
			bc, e2 := Matrix(kind, b, c, fr("1"))
			ac, e3 := Matrix(kind, a, c, fr("1"))
			ba, e4 := Matrix(kind, b, a, fr("1"))
			if e != api.OK || e2 != api.OK || e3 != api.OK || e4 != api.OK {
				t.Fatalf("Matrix(%d): %d, %d, %d, %d", kind, e, e2, e3, e4)
			}
			if got, _ := Adapt(ab, a); got != b {
				t.Fatalf("Adapt of %v: %v, not %v", a, got, b)
			}
			if both, _ := matrix.Mul(bc, ab); !matrix.Same(both, ac) {
				t.Fatalf("Matrix(%d) of %v, %v, %v", kind, a, b, c)
			}
			if both, _ := matrix.Mul(ba, ab); !matrix.Same(both, identity) {
				t.Fatalf("Matrix(%d) of %v, %v", kind, a, b)
			}
			for _, still := range []func() (api.Mat, api.Errno){
				func() (api.Mat, api.Errno) { return Matrix(kind, a, b, fr("0")) },
				func() (api.Mat, api.Errno) { return Matrix(kind, a, a, fr("2/3")) },
			} {
				if m, e := still(); !matrix.Same(m, identity) || e != api.OK {
					t.Fatalf("Matrix(%d): %v, %d", kind, m, e)
				}
			}
			// The definition: the gains between the cone matrix and its inverse.
			gains, _ := Gains(kind, a, b, fr("1/3"))
			cone, _ := Cone(kind)
			m, _ := Matrix(kind, a, b, fr("1/3"))
			left, _ := matrix.Mul(cone, m)
			diagonal, _ := matrix.Diagonal(gains[:])
			right, _ := matrix.Mul(diagonal, cone)
			if !matrix.Same(left, right) {
				t.Fatalf("Matrix(%d) and Gains of %v, %v", kind, a, b)
			}
		}
	}
	even, _ := Cone(api.AdEven)
	if l, _ := matrix.Apply(even, []api.Frac{fr("2/7"), fr("2/7"), fr("2/7")}); !slices.Equal(l, []api.Frac{fr("2/7"), fr("2/7"), fr("2/7")}) {
		t.Errorf("responses of a grey: %v", l)
	}
	if e := light.Sound(some()); e != api.OK {
		t.Errorf("Sound: %d", e)
	}
}
