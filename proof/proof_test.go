package proof

import (
	"math/big"
	"math/rand"
	"slices"
	"strconv"
	"strings"
	"testing"

	"verdigris/api"
	"verdigris/band"
	"verdigris/chain"
	"verdigris/differ"
	"verdigris/frac"
	"verdigris/inside"
)

const one = api.OneBand

func fr(text string) api.Frac {
	x, ok := new(big.Rat).SetString(text)
	if !ok {
		panic(text)
	}
	return of(x)
}

func of(x *big.Rat) api.Frac {
	return api.Frac{N: api.Whole(x.Num().String()), D: api.Whole(x.Denom().String())}
}

func tri(text string) api.Tri {
	var t api.Tri
	for i, word := range strings.Fields(text) {
		t[i] = fr(word)
	}
	return t
}

func p(name string, l, a, b int) api.Patch {
	return api.Patch{Name: name, Device: []int{0}, Lab: [3]int{l, a, b}}
}

var (
	first  = []api.Patch{p("a", 5000, 0, 0), p("b", 4000, 300, 400)}
	second = []api.Patch{p("b", 4100, 300, 400), p("a", 5200, 0, 0), p("c", 100, 100, 100)}
	alone  = []api.Patch{p("c", 100, 100, 100)}
	old    = api.Tolerances{Kind: api.DiOld, L: fr("1"), C: fr("1"), Mean: fr("3/2"), Each: fr("2")}
)

func with(t api.Tolerances, change func(t *api.Tolerances)) api.Tolerances {
	change(&t)
	return t
}

// P44.3
func TestPairs(t *testing.T) {
	for i, x := range []struct {
		first, second []api.Patch
		want          [][2]int
		e             api.Errno
	}{
		{first, second, [][2]int{{0, 1}, {1, 0}}, api.OK}, {second, first, [][2]int{{0, 1}, {1, 0}}, api.OK}, {first, alone, nil, api.OK}, {second, alone, [][2]int{{2, 0}}, api.OK}, {nil, first, nil, api.ErrPatch}, {first, nil, nil, api.ErrPatch}, {first, []api.Patch{p("a b", 0, 0, 0)}, nil, api.ErrPatch},
	} {
		if got, e := Pairs(x.first, x.second); !slices.Equal(got, x.want) || e != x.e {
			t.Errorf("%d: %v, %d", i, got, e)
		}
	}
	// The numbers of channels need not be the same.
	wide := []api.Patch{{Name: "a", Device: []int{1, 2, 3}, Lab: [3]int{1, 2, 3}}}
	if got, e := Pairs(first, wide); !slices.Equal(got, [][2]int{{0, 0}}) || e != api.OK {
		t.Errorf("Pairs: %v, %d", got, e)
	}
}

// P44.3
func TestDrift(t *testing.T) {
	none := api.Shift{}
	for i, x := range []struct {
		first, second []api.Patch
		want          api.Shift
		e             api.Errno
	}{
		{first, second, api.Shift{Pairs: 2, Mean: tri("3/2 0 0"), Square: fr("5/2"), Most: fr("4"), Worst: 0}, api.OK}, {second, first, api.Shift{Pairs: 2, Mean: tri("-3/2 0 0"), Square: fr("5/2"), Most: fr("4"), Worst: 1}, api.OK}, {first, first, api.Shift{Pairs: 2, Mean: tri("0 0 0"), Square: fr("0"), Most: fr("0")}, api.OK},
		{first, []api.Patch{p("b", 4001, 298, 403)}, api.Shift{Pairs: 1, Mean: tri("1/100 -1/50 3/100"), Square: fr("14/10000"), Most: fr("14/10000"), Worst: 1}, api.OK},
		{first, alone, none, api.ErrNone}, {nil, nil, none, api.ErrPatch}, {first, nil, none, api.ErrPatch},
	} {
		if got, e := Drift(x.first, x.second); got != x.want || e != x.e {
			t.Errorf("%d: %v, %d", i, got, e)
		}
	}
}

// P44.4
func TestConform(t *testing.T) {
	b := func(lo, hi int) api.Band { return api.Band{Lo: lo, Hi: hi} }
	near := []api.Patch{p("a", 5100, 100, 0)} // the distance is the root of 2
	for i, x := range []struct {
		aims, found []api.Patch
		t           api.Tolerances
		want        api.Verdict
	}{
		{first, second, old, api.Verdict{Pairs: 2, Mean: b(3*one/2, 3*one/2), Pass: api.VeYes}},
		{first, second, with(old, func(t *api.Tolerances) { t.Each = fr("1") }), api.Verdict{Pairs: 2, Failed: 1, Mean: b(3*one/2, 3*one/2), Pass: api.VeNo}},
		{first, second, with(old, func(t *api.Tolerances) { t.Mean = fr("1") }), api.Verdict{Pairs: 2, Mean: b(3*one/2, 3*one/2), Pass: api.VeNo}},
		{first, first, with(old, func(t *api.Tolerances) { t.Mean, t.Each = fr("0"), fr("0") }), api.Verdict{Pairs: 2, Pass: api.VeYes}},
		{first, near, old, api.Verdict{Pairs: 1, Mean: b(1414213562373, 1414213562374), Pass: api.VeYes}},
		{first, near, with(old, func(t *api.Tolerances) { t.Each = fr("1.4142135623731") }), api.Verdict{Pairs: 1, Unknown: 1, Mean: b(1414213562373, 1414213562374), Pass: api.VeUnknown}},
		{first, near, with(old, func(t *api.Tolerances) { t.Mean = fr("1.4142135623731") }), api.Verdict{Pairs: 1, Mean: b(1414213562373, 1414213562374), Pass: api.VeUnknown}},
		{first, near, with(old, func(t *api.Tolerances) { t.Each, t.Mean = fr("1.4142135623731"), fr("1") }), api.Verdict{Pairs: 1, Unknown: 1, Mean: b(1414213562373, 1414213562374), Pass: api.VeNo}},
		{first, near, with(old, func(t *api.Tolerances) { t.Each, t.Mean = fr("1"), fr("1.4142135623731") }), api.Verdict{Pairs: 1, Failed: 1, Mean: b(1414213562373, 1414213562374), Pass: api.VeNo}},
		{first, near, with(old, func(t *api.Tolerances) { t.Each, t.Mean = fr("1.414213562374"), fr("1.414213562374") }), api.Verdict{Pairs: 1, Mean: b(1414213562373, 1414213562374), Pass: api.VeYes}},
		{[]api.Patch{p("a", 5000, 0, 0), p("b", 5000, 0, 0), p("c", 5000, 0, 0)}, []api.Patch{p("a", 5100, 0, 0), p("b", 5000, 0, 0), p("c", 5000, 0, 0)}, old, api.Verdict{Pairs: 3, Mean: b(one/3, one/3+1), Pass: api.VeYes}},
		{first, second, with(old, func(t *api.Tolerances) { t.Kind, t.L = api.DiNew, fr("2") }), api.Verdict{Pairs: 2, Mean: b(3*one/4, 3*one/4), Pass: api.VeYes}},
	} {
		if got, e := Conform(x.aims, x.found, x.t); got != x.want || e != api.OK {
			t.Errorf("%d: %v, %d", i, got, e)
		}
	}
}

// P44.4
func TestConformErrors(t *testing.T) {
	bad := api.Frac{}
	huge := api.Frac{N: api.Whole("1" + strings.Repeat("0", 599)), D: "1"}
	long := api.Frac{N: "1", D: api.Whole(strings.Repeat("9", 600))}
	for i, x := range []struct {
		aims, found []api.Patch
		t           api.Tolerances
		e           api.Errno
	}{
		{nil, first, api.Tolerances{}, api.ErrPatch}, {first, nil, api.Tolerances{}, api.ErrPatch}, {first, first, api.Tolerances{Kind: 5}, api.ErrArg}, {first, alone, api.Tolerances{}, api.ErrArg},
		{first, alone, with(old, func(t *api.Tolerances) { t.L, t.C = bad, fr("0") }), api.ErrFrac}, {first, alone, with(old, func(t *api.Tolerances) { t.C = bad; t.L = fr("0") }), api.ErrFrac}, {first, alone, with(old, func(t *api.Tolerances) { t.Mean = bad; t.L = fr("0") }), api.ErrFrac}, {first, alone, with(old, func(t *api.Tolerances) { t.Each = bad; t.L = fr("0") }), api.ErrFrac},
		{first, alone, with(old, func(t *api.Tolerances) { t.L = fr("0") }), api.ErrArg}, {first, alone, with(old, func(t *api.Tolerances) { t.C = fr("-1") }), api.ErrArg}, {first, alone, with(old, func(t *api.Tolerances) { t.C = fr("0") }), api.ErrArg}, {first, alone, with(old, func(t *api.Tolerances) { t.L = fr("-1") }), api.ErrArg}, {first, alone, with(old, func(t *api.Tolerances) { t.Mean = fr("-1") }), api.ErrArg}, {first, alone, with(old, func(t *api.Tolerances) { t.Each = fr("-1") }), api.ErrArg}, {first, alone, old, api.ErrNone},
		{first, second, with(old, func(t *api.Tolerances) { t.Kind, t.L = 2, huge }), api.ErrBig}, {first, second, with(old, func(t *api.Tolerances) { t.Kind, t.L = 2, long }), api.ErrZero},
		{first, second, with(old, func(t *api.Tolerances) { t.Kind, t.L = 2, fr("1/700000") }), api.ErrBig},
	} {
		if got, e := Conform(x.aims, x.found, x.t); got != (api.Verdict{}) || e != x.e {
			t.Errorf("%d: %v, %d", i, got, e)
		}
	}
}

func tetrahedron() api.Mesh {
	return api.Mesh{Points: [][3]int{{0, 0, 0}, {1000, 0, 0}, {0, 1000, 0}, {0, 0, 1000}}, Faces: [][3]int{{0, 2, 1}, {0, 1, 3}, {0, 3, 2}, {1, 2, 3}}}
}

// P44.2
func TestWarn(t *testing.T) {
	for i, x := range []struct {
		m    api.Mesh
		l    [][3]int
		want []int
		e    api.Errno
	}{
		{tetrahedron(), [][3]int{{100, 100, 100}, {500, 500, 0}, {500, 500, 1}}, []int{2}, api.OK}, {tetrahedron(), nil, nil, api.OK}, {tetrahedron(), [][3]int{{-1, 0, 0}, {0, 0, 0}, {0, 0, -1}}, []int{0, 2}, api.OK}, {tetrahedron(), make([][3]int, 100), nil, api.OK},
		{api.Mesh{}, make([][3]int, 101), nil, api.ErrMesh}, {tetrahedron(), append(make([][3]int, 100), [3]int{200001, 0, 0}), nil, api.ErrLong}, {tetrahedron(), [][3]int{{-1, 0, 0}, {200001, 0, 0}}, nil, api.ErrArg},
	} {
		if got, e := Warn(x.m, x.l); !slices.Equal(got, x.want) || e != x.e {
			t.Errorf("%d: %v, %d", i, got, e)
		}
	}
	r := rand.New(rand.NewSource(1))
	var l [][3]int
	for range 100 {
		l = append(l, [3]int{r.Intn(700) - 100, r.Intn(700) - 100, r.Intn(700) - 100})
	}
	got, _ := Warn(tetrahedron(), l)
	for i, q := range l {
		side, _ := inside.Side(tetrahedron(), q)
		if (side == api.SdOut) != slices.Contains(got, i) {
			t.Fatalf("Warn: %v, but %v is on the side %d", got, q, side)
		}
	}
}

func matrix(in, out, n int) api.Chain {
	x := api.Element{Kind: api.ElMatrix, Offset: make([]int, out)}
	for range out {
		row := make([]int, in)
		row[0] = n
		x.Rows = append(x.Rows, row)
	}
	return api.Chain{In: in, Elements: []api.Element{x}}
}

func profileOf(space, pcs int, chains map[string]api.Chain) api.Profile {
	q := api.Profile{Version: 4, Class: api.ClOutput, Space: space, Pcs: pcs, Name: "p", White: [3]int{1, 1, 1}, Tags: []api.Tag{{Sign: "desc", Kind: api.TaText, Text: "x"}}}
	for sign, c := range chains {
		q.Tags = append(q.Tags, api.Tag{Sign: sign, Kind: api.TaChain, Chain: c})
	}
	slices.SortFunc(q.Tags, func(a, b api.Tag) int { return strings.Compare(a.Sign, b.Sign) })
	return q
}

func joined(l ...api.Chain) api.Chain {
	out := l[0]
	for _, c := range l[1:] {
		out, _ = chain.Join(out, c)
	}
	return out
}

// P44.1
func TestSoft(t *testing.T) {
	a := profileOf(api.SpGray, api.SpLab, map[string]api.Chain{"fwd0": matrix(1, 3, 10), "fwd1": matrix(1, 3, 11), "fwd2": matrix(1, 3, 12)})
	b := profileOf(api.SpRGB, api.SpLab, map[string]api.Chain{"fwd0": matrix(3, 3, 20), "fwd1": matrix(3, 3, 21), "bwd0": matrix(3, 3, 30), "bwd2": matrix(3, 3, 32)})
	c := profileOf(api.SpRGB, api.SpLab, map[string]api.Chain{"fwd0": matrix(3, 3, 20), "bwd0": matrix(3, 3, 30)})
	only := profileOf(api.SpRGB, api.SpLab, map[string]api.Chain{"fwd0": matrix(3, 3, 20), "bwd1": matrix(3, 3, 31)})
	xyz := profileOf(api.SpRGB, api.SpXYZ, map[string]api.Chain{"fwd0": matrix(3, 3, 20), "bwd0": matrix(3, 3, 30)})
	five := joined(matrix(3, 3, 1), matrix(3, 3, 2), matrix(3, 3, 3), matrix(3, 3, 4), matrix(3, 3, 5))
	long := profileOf(api.SpRGB, api.SpLab, map[string]api.Chain{"fwd0": five, "bwd0": five})
	three := profileOf(api.SpRGB, api.SpLab, map[string]api.Chain{"fwd0": joined(matrix(3, 3, 1), matrix(3, 3, 2), matrix(3, 3, 3)), "bwd0": joined(matrix(3, 3, 1), matrix(3, 3, 2), matrix(3, 3, 3))})
	link := api.Profile{Version: 4, Class: api.ClLink, Space: api.SpRGB, Pcs: api.SpLab, Name: "p", White: [3]int{1, 1, 1}, Tags: []api.Tag{{Sign: "desc", Kind: api.TaText, Text: "x"}, {Sign: "link", Kind: api.TaChain, Chain: matrix(3, 3, 1)}}}
	none := api.Chain{}
	for i, x := range []struct {
		a, b   api.Profile
		intent int
		want   api.Chain
		e      api.Errno
	}{
		{a, b, 0, joined(matrix(1, 3, 10), matrix(3, 3, 30), matrix(3, 3, 21)), api.OK}, {a, b, 1, joined(matrix(1, 3, 11), matrix(3, 3, 30), matrix(3, 3, 21)), api.OK}, {a, b, 2, joined(matrix(1, 3, 12), matrix(3, 3, 32), matrix(3, 3, 21)), api.OK}, {a, b, 3, joined(matrix(1, 3, 11), matrix(3, 3, 30), matrix(3, 3, 21)), api.OK}, {a, c, 2, joined(matrix(1, 3, 12), matrix(3, 3, 30), matrix(3, 3, 20)), api.OK}, {a, only, 1, joined(matrix(1, 3, 11), matrix(3, 3, 31), matrix(3, 3, 20)), api.OK},
		{api.Profile{}, b, 9, none, api.ErrProfile}, {a, api.Profile{}, 9, none, api.ErrProfile}, {link, xyz, 4, none, api.ErrArg}, {a, b, -1, none, api.ErrArg}, {link, a, 0, none, api.ErrForm}, {a, link, 0, none, api.ErrForm}, {a, xyz, 0, none, api.ErrForm}, {xyz, a, 0, none, api.ErrForm}, {b, a, 0, none, api.ErrNone}, {a, only, 0, none, api.ErrNone},
		{a, long, 0, none, api.ErrLong}, {long, b, 0, joined(five, matrix(3, 3, 30), matrix(3, 3, 21)), api.OK}, {three, three, 0, none, api.ErrLong},
	} {
		if got, e := Soft(x.a, x.b, x.intent); !chain.Same(got, x.want) || e != x.e {
			t.Errorf("%d: %v, %d", i, got, e)
		}
	}
}

func someList(r *rand.Rand, n int) []api.Patch {
	var l []api.Patch
	for _, i := range r.Perm(12)[:n] {
		l = append(l, p("n"+strconv.Itoa(i), r.Intn(10001), r.Intn(2001)-1000, r.Intn(2001)-1000))
	}
	return l
}

// P44.3 to P44.5
func TestLaws(t *testing.T) {
	r := rand.New(rand.NewSource(2))
	for range 150 {
		a, b := someList(r, 1+r.Intn(12)), someList(r, 1+r.Intn(12))
		pairs, _ := Pairs(a, b)
		var want [][2]int
		for i := range a {
			for k := range b {
				if a[i].Name == b[k].Name {
					want = append(want, [2]int{i, k})
				}
			}
		}
		if !slices.Equal(pairs, want) {
			t.Fatalf("Pairs(%v, %v): %v", a, b, pairs)
		}
		shift, e := Drift(a, b)
		back, e2 := Drift(b, a)
		if len(pairs) == 0 {
			if e != api.ErrNone || e2 != api.ErrNone {
				t.Fatalf("Drift: %d, %d", e, e2)
			}
			continue
		}
		n := int64(len(pairs))
		var mean [3]int64
		total, most, worst := int64(0), int64(-1), 0
		for _, q := range pairs {
			square := int64(0)
			for c := range 3 {
				d := int64(b[q[1]].Lab[c] - a[q[0]].Lab[c])
				mean[c] += d
				square += d * d
			}
			total += square
			if square > most {
				most, worst = square, q[0]
			}
		}
		for c := range 3 {
			minus, _ := frac.Neg(shift.Mean[c])
			if shift.Mean[c] != of(big.NewRat(mean[c], 100*n)) || back.Mean[c] != minus {
				t.Fatalf("Drift(%v, %v): %v, and back %v", a, b, shift, back)
			}
		}
		if shift.Pairs != len(pairs) || shift.Square != of(big.NewRat(total, 10000*n)) || shift.Most != of(big.NewRat(most, 10000)) || shift.Worst != worst || back.Square != shift.Square || back.Most != shift.Most {
			t.Fatalf("Drift(%v, %v): %v, and back %v", a, b, shift, back)
		}
		checkVerdict(t, r, a, b, pairs)
	}
}

func checkVerdict(t *testing.T, r *rand.Rand, a, b []api.Patch, pairs [][2]int) {
	tolerances := api.Tolerances{Kind: 1 + r.Intn(4), L: fr("1"), C: fr("1")}
	tolerances.Mean, _ = frac.Of(r.Intn(60), 1)
	tolerances.Each, _ = frac.Of(r.Intn(120), 1)
	got, e := Conform(a, b, tolerances)
	want := api.Verdict{Pairs: len(pairs)}
	for i, q := range pairs {
		lab := func(p api.Patch) api.Tri {
			var t api.Tri
			for c, n := range p.Lab {
				t[c], _ = frac.Of(n, 100)
			}
			return t
		}
		d, _ := differ.Distance(tolerances.Kind, lab(a[q[0]]), lab(b[q[1]]), tolerances.L, tolerances.C)
		switch within, _ := differ.Within(tolerances.Kind, lab(a[q[0]]), lab(b[q[1]]), tolerances.L, tolerances.C, tolerances.Each); within {
		case 0:
			want.Failed++
		case 2:
			want.Unknown++
		}
		if i == 0 {
			want.Mean = d
		} else {
			want.Mean, _ = band.Add(want.Mean, d)
		}
	}
	want.Mean, _ = band.Scale(want.Mean, 1, len(pairs))
	low, _ := band.Low(want.Mean)
	order, _ := frac.Cmp(low, tolerances.Mean)
	want.Pass = api.VeYes
	if want.Failed > 0 || order > 0 {
		want.Pass = api.VeNo
	}
	if got != want || e != api.OK {
		t.Fatalf("Conform(%v, %v, %v): %v, %d; want %v", a, b, tolerances, got, e, want)
	}
	tolerances.Mean, _ = frac.Add(tolerances.Mean, fr("5"))
	tolerances.Each, _ = frac.Add(tolerances.Each, fr("5"))
	if more, _ := Conform(a, b, tolerances); got.Pass == api.VeYes && more.Pass != api.VeYes || more.Pass == api.VeNo && got.Pass != api.VeNo {
		t.Fatalf("Conform(%v, %v): %v, with greater tolerances %v", a, b, got, more)
	}
}
