package program

import (
	"math/big"
	"math/rand"
	"slices"
	"strings"
	"testing"

	"verdigris/api"
	"verdigris/band"
	"verdigris/frac"
)

const one = api.OneBand

func op(code int, arg ...int) api.Op {
	if len(arg) == 0 {
		return api.Op{Code: code}
	}
	return api.Op{Code: code, Arg: arg[0]}
}

func fr(text string) api.Frac {
	x, ok := new(big.Rat).SetString(text)
	if !ok {
		panic(text)
	}
	return of(x)
}

func of(x *big.Rat) api.Frac {
	return api.Frac{N: api.Whole(x.Num().String()), D: api.Whole(x.Denom().String())}
}

func value(a api.Frac) *big.Rat {
	x, _ := new(big.Rat).SetString(string(a.N) + "/" + string(a.D))
	return x
}

func fracs(text string) []api.Frac {
	var l []api.Frac
	for _, word := range strings.Fields(text) {
		l = append(l, fr(word))
	}
	return l
}

var (
	half = []api.Op{op(api.PuIn, 0), op(api.PuIn, 1), op(api.PuAdd), op(api.PuNum, 500000), op(api.PuMul)}
	sign = []api.Op{op(api.PuNum, 1000000), op(api.PuNum, 0), op(api.PuIn, 0), op(api.PuPick)}
)

// repeated returns steps, so many times.
func repeated(n int, l ...api.Op) []api.Op {
	var out []api.Op
	for range n {
		out = append(out, l...)
	}
	return out
}

// P12.1
func TestCheck(t *testing.T) {
	in := op(api.PuIn, 0)
	for i, x := range []struct {
		p       []api.Op
		in, out int
	}{
		{half, 1, 1}, {half, 2, 2}, {half, 5, 1}, {half, 0, 1}, {half, 2, 0}, {half, 2, 5}, {half, 2, -1}, {half, -1, 1},
		{half, 1 << 60, 1},
		{[]api.Op{op(api.PuAdd)}, 1, 1},
		{[]api.Op{in, op(api.PuAdd)}, 1, 1},
		{[]api.Op{in, in, op(api.PuPick)}, 1, 1},
		{[]api.Op{op(api.PuNeg)}, 1, 1},
		{nil, 1, 1},
		{[]api.Op{op(0)}, 1, 1}, {[]api.Op{op(13)}, 1, 1}, {[]api.Op{op(-1)}, 1, 1}, {[]api.Op{in, op(0)}, 1, 1}, {[]api.Op{in, op(13)}, 1, 1},
		{[]api.Op{op(api.PuIn, -1)}, 1, 1}, {[]api.Op{op(api.PuIn, 1)}, 1, 1},
		{[]api.Op{op(api.PuNum, api.MaxNum+1)}, 1, 1}, {[]api.Op{op(api.PuNum, -api.MaxNum-1)}, 1, 1},
		{[]api.Op{in, op(api.PuCopy, 1)}, 1, 2}, {[]api.Op{in, op(api.PuCopy, -1)}, 1, 2}, {[]api.Op{op(api.PuCopy, 0)}, 1, 1},
		{[]api.Op{in, op(api.PuNeg, 1)}, 1, 1}, {[]api.Op{in, in, op(api.PuMul, -1)}, 1, 1}, {[]api.Op{in, in, in, op(api.PuPick, 5)}, 1, 1},
		{append(repeated(17, in), repeated(16, op(api.PuAdd))...), 1, 1},
		{append([]api.Op{in}, repeated(40, op(api.PuNeg))...), 1, 1},
	} {
		if e := Check(x.p, x.in, x.out); e != api.ErrProgram {
			t.Errorf("Check of %d: %d", i, e)
		}
		if n, e := Depth(x.p, x.in, x.out); n != 0 || e != api.ErrProgram {
			t.Errorf("Depth of %d: %d, %d", i, n, e)
		}
	}
	for i, x := range []struct {
		p              []api.Op
		in, out, depth int
	}{
		{half, 2, 1, 2}, {half, 4, 1, 2}, {sign, 1, 1, 3},
		{append(repeated(16, in), repeated(15, op(api.PuAdd))...), 1, 1, 16},
		{append([]api.Op{in}, repeated(39, op(api.PuNeg))...), 1, 1, 1},
		{append([]api.Op{in}, repeated(3, op(api.PuCopy, 0))...), 1, 4, 4},
		{[]api.Op{op(api.PuNum, api.MaxNum), op(api.PuNum, -api.MaxNum), op(api.PuCopy, 1)}, 1, 3, 3},
		{[]api.Op{in, in, in, op(api.PuMin), op(api.PuMax), op(api.PuAbs), op(api.PuClamp)}, 1, 1, 3},
	} {
		if e := Check(x.p, x.in, x.out); e != api.OK {
			t.Errorf("Check of %d: %d", i, e)
		}
		if n, e := Depth(x.p, x.in, x.out); n != x.depth || e != api.OK {
			t.Errorf("Depth of %d: %d, %d", i, n, e)
		}
	}
}

// P12.2
func TestRun(t *testing.T) {
	a, b, c := "2/3", "-5/4", "1/7"
	in := []api.Op{op(api.PuIn, 0), op(api.PuIn, 1), op(api.PuIn, 2)}
	for i, x := range []struct {
		p    []api.Op
		x    string
		want string
	}{
		{half, "1/2 1/4", "3/8"},
		{sign, "0", "1"}, {sign, "-1/7", "0"}, {sign, "9", "1"},
		{[]api.Op{op(api.PuIn, 0), op(api.PuCopy, 0), op(api.PuNeg), op(api.PuMax)}, "-3", "3"},
		{append(in[:2:2], op(api.PuAdd)), a + " " + b, "-7/12"},
		{append(in[:2:2], op(api.PuSub)), a + " " + b, "23/12"},
		{append(in[:2:2], op(api.PuMul)), a + " " + b, "-5/6"},
		{append(in[:2:2], op(api.PuMin)), a + " " + b, b},
		{append(in[:2:2], op(api.PuMax)), a + " " + b, a},
		{append(in[:3:3], op(api.PuPick)), a + " " + b + " " + c, a},
		{append(in[:3:3], op(api.PuPick)), a + " " + b + " -1", b},
		{append(in[:3:3], op(api.PuCopy, 2)), a + " " + b + " " + c, a + " " + b + " " + c + " " + a},
		{append(in[:3:3], op(api.PuNeg)), a + " " + b + " " + c, a + " " + b + " -1/7"},
		{append(in[:2:2], op(api.PuAbs)), a + " " + b, a + " 5/4"},
		{append(in[:2:2], op(api.PuClamp)), a + " " + b, a + " 0"},
		{[]api.Op{op(api.PuIn, 0), op(api.PuClamp)}, "3/2", "1"},
		{[]api.Op{op(api.PuIn, 0), op(api.PuClamp)}, "1/2", "1/2"},
		{[]api.Op{op(api.PuNum, -2500000), op(api.PuNum, 1)}, "0", "-5/2 1/1000000"},
	} {
		want := fracs(x.want)
		if got, e := Run(x.p, fracs(x.x), len(want)); !slices.Equal(got, want) || e != api.OK {
			t.Errorf("%d: %v, %d; want %v", i, got, e, want)
		}
	}
}

// P12.2, P12.3
func TestErrors(t *testing.T) {
	long := api.Frac{N: "1", D: api.Whole("1" + strings.Repeat("0", 599))}
	square := []api.Op{op(api.PuIn, 0), op(api.PuCopy, 0), op(api.PuMul)}
	for i, x := range []struct {
		p   []api.Op
		x   []api.Frac
		out int
		e   api.Errno
	}{
		{half, []api.Frac{{}}, 1, api.ErrProgram},
		{half, nil, 1, api.ErrProgram},
		{half, make([]api.Frac, 5), 1, api.ErrProgram},
		{half, make([]api.Frac, 2), 2, api.ErrProgram},
		{half, []api.Frac{fr("1"), {}}, 1, api.ErrFrac},
		{sign, []api.Frac{{N: "2", D: "2"}}, 1, api.ErrFrac},
		{square, []api.Frac{long}, 1, api.ErrBig},
		{square, []api.Frac{long, {}}, 1, api.ErrFrac},
		{sign, []api.Frac{fr("1"), {N: "2", D: "2"}}, 1, api.ErrFrac},
	} {
		if got, e := Run(x.p, x.x, x.out); got != nil || e != x.e {
			t.Errorf("Run %d: %v, %d", i, got, e)
		}
	}
	wide := api.Band{Lo: 0, Hi: 1001 * one}
	for i, x := range []struct {
		p   []api.Op
		x   []api.Band
		out int
		e   api.Errno
	}{
		{half, []api.Band{{Lo: 1}}, 1, api.ErrProgram},
		{half, nil, 1, api.ErrProgram},
		{half, make([]api.Band, 5), 1, api.ErrProgram},
		{half, make([]api.Band, 2), 2, api.ErrProgram},
		{half, []api.Band{{}, {Lo: 1}}, 1, api.ErrBand},
		{square, []api.Band{wide}, 1, api.ErrBig},
		{square, []api.Band{wide, {Lo: 1}}, 1, api.ErrBand},
		{[]api.Op{op(api.PuIn, 0), op(api.PuIn, 0), op(api.PuAdd)}, []api.Band{{Lo: 0, Hi: api.MaxBand}}, 1, api.ErrBig},
	} {
		if got, e := Bands(x.p, x.x, x.out); got != nil || e != x.e {
			t.Errorf("Bands %d: %v, %d", i, got, e)
		}
	}
}

// P12.3
func TestBands(t *testing.T) {
	b := func(lo, hi int) api.Band { return api.Band{Lo: lo, Hi: hi} }
	for i, x := range []struct {
		p    []api.Op
		x    []api.Band
		want []api.Band
	}{
		{sign, []api.Band{b(-one, one)}, []api.Band{b(0, one)}},
		{sign, []api.Band{b(one, 2*one)}, []api.Band{b(one, one)}},
		{sign, []api.Band{b(0, 2*one)}, []api.Band{b(one, one)}},
		{sign, []api.Band{b(-one, 0)}, []api.Band{b(0, one)}},
		{sign, []api.Band{b(-one, -1)}, []api.Band{b(0, 0)}},
		{half, []api.Band{b(0, one), b(1, 2)}, []api.Band{b(0, one/2+1)}},
		{[]api.Op{op(api.PuIn, 0), op(api.PuClamp), op(api.PuIn, 0), op(api.PuAbs), op(api.PuIn, 0), op(api.PuNeg)}, []api.Band{b(-2*one, 3*one)}, []api.Band{b(0, one), b(0, 3*one), b(-3*one, 2*one)}},
		{[]api.Op{op(api.PuIn, 0), op(api.PuIn, 1), op(api.PuMin), op(api.PuIn, 0), op(api.PuIn, 1), op(api.PuMax), op(api.PuIn, 0), op(api.PuIn, 1), op(api.PuSub)}, []api.Band{b(1, 5), b(2, 3)}, []api.Band{b(1, 3), b(2, 5), b(-2, 3)}},
	} {
		if got, e := Bands(x.p, x.x, len(x.want)); !slices.Equal(got, x.want) || e != api.OK {
			t.Errorf("%d: %v, %d", i, got, e)
		}
	}
}

// some returns a valid program.
func some(r *rand.Rand, in int) (p []api.Op, out int) {
	size := 0
	for len(p) < 5+r.Intn(30) || size > 4 || size == 0 {
		code := 1 + r.Intn(12)
		if size > 12 || len(p) > 34 && size > 3 {
			code = api.PuAdd + r.Intn(5)
		}
		switch code {
		case api.PuIn:
			p, size = append(p, op(code, r.Intn(in))), size+1
		case api.PuNum:
			p, size = append(p, op(code, r.Intn(4000001)-2000000)), size+1
		case api.PuCopy:
			if size > 0 {
				p, size = append(p, op(code, r.Intn(size))), size+1
			}
		case api.PuNeg, api.PuAbs, api.PuClamp:
			if size > 0 {
				p = append(p, op(code))
			}
		case api.PuPick:
			if size > 2 {
				p, size = append(p, op(code)), size-2
			}
		default:
			if size > 1 {
				p, size = append(p, op(code)), size-1
			}
		}
		if len(p) > 40 {
			p, size = nil, 0
		}
	}
	return p, size
}

// results runs a program in another way.
func results(p []api.Op, x []*big.Rat) []*big.Rat {
	var s []*big.Rat
	pop := func() *big.Rat {
		a := s[len(s)-1]
		s = s[:len(s)-1]
		return a
	}
	for _, o := range p {
		a := new(big.Rat)
		switch o.Code {
		case api.PuIn:
			a = x[o.Arg]
		case api.PuNum:
			a.SetFrac64(int64(o.Arg), 1000000)
		case api.PuAdd:
			a.Add(pop(), pop())
		case api.PuSub:
			b := pop()
			a.Sub(pop(), b)
		case api.PuMul:
			a.Mul(pop(), pop())
		case api.PuMin, api.PuMax:
			b, c := pop(), pop()
			if a = b; (c.Cmp(b) < 0) == (o.Code == api.PuMin) {
				a = c
			}
		case api.PuNeg:
			a.Neg(pop())
		case api.PuAbs:
			a.Abs(pop())
		case api.PuPick:
			c, b, first := pop(), pop(), pop()
			if a = first; c.Sign() < 0 {
				a = b
			}
		case api.PuCopy:
			a = s[len(s)-1-o.Arg]
		case api.PuClamp:
			if a = pop(); a.Sign() < 0 {
				a = new(big.Rat)
			} else if a.Cmp(big.NewRat(1, 1)) > 0 {
				a = big.NewRat(1, 1)
			}
		}
		s = append(s, a)
	}
	return s
}

// P12.2 to P12.4
func TestSome(t *testing.T) {
	r := rand.New(rand.NewSource(1))
	ran := 0
	for range 1500 {
		in := 1 + r.Intn(4)
		p, out := some(r, in)
		if e := Check(p, in, out); e != api.OK {
			t.Fatalf("Check(%v): %d", p, e)
		}
		var x []*big.Rat
		var l []api.Frac
		var wide, narrow []api.Band
		for range in {
			lo := r.Intn(2*one) - one/2
			hi := lo + r.Intn(one/(1+r.Intn(100000)))
			low := lo + r.Intn(hi-lo+1)
			wide = append(wide, api.Band{Lo: lo, Hi: hi})
			narrow = append(narrow, api.Band{Lo: low, Hi: low + r.Intn(hi-low+1)})
			x = append(x, big.NewRat(int64(low), one))
			l = append(l, of(x[len(x)-1]))
		}
		want := results(p, x)
		got, e := Run(p, l, out)
		if e == api.ErrBig {
			continue
		}
		for i := range want {
			if e != api.OK || got[i] != of(want[i]) {
				t.Fatalf("Run(%v, %v): %v, %d; want %v", p, l, got, e, want)
			}
		}
		onWide, e := Bands(p, wide, out)
		if e != api.OK {
			continue
		}
		ran++
		onNarrow, e := Bands(p, narrow, out)
		for i := range want {
			if ok, _ := band.Has(onWide[i], got[i]); !ok || e != api.OK || onNarrow[i].Lo < onWide[i].Lo || onNarrow[i].Hi > onWide[i].Hi {
				t.Fatalf("Bands(%v, %v): %v; %v at %v", p, wide, onWide, got, l)
			}
		}
	}
	if ran < 500 {
		t.Errorf("only %d programs ran on bands", ran)
	}
}

// P12.4
func TestMinMax(t *testing.T) {
	p := []api.Op{op(api.PuIn, 0), op(api.PuIn, 1), op(api.PuMin), op(api.PuIn, 0), op(api.PuIn, 1), op(api.PuMax), op(api.PuAdd)}
	r := rand.New(rand.NewSource(2))
	for range 100 {
		a, _ := frac.Of(r.Intn(100)-50, 1+r.Intn(50))
		b, _ := frac.Of(r.Intn(100)-50, 1+r.Intn(50))
		sum, _ := frac.Add(a, b)
		if got, e := Run(p, []api.Frac{a, b}, 1); len(got) != 1 || got[0] != sum || e != api.OK {
			t.Fatalf("Run on %v, %v: %v, %d", a, b, got, e)
		}
	}
}
