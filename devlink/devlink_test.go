package devlink

import (
	"math/big"
	"math/rand"
	"slices"
	"strings"
	"testing"

	"verdigris/api"
	"verdigris/chain"
	"verdigris/frac"
	"verdigris/grid"
	"verdigris/ink"
	"verdigris/simplex"
)

func fr(text string) api.Frac {
	x, ok := new(big.Rat).SetString(text)
	if !ok {
		panic(text)
	}
	return api.Frac{N: api.Whole(x.Num().String()), D: api.Whole(x.Denom().String())}
}

func fracs(text string) []api.Frac {
	var l []api.Frac
	for _, word := range strings.Fields(text) {
		l = append(l, fr(word))
	}
	return l
}

func chainOf(in int, l ...api.Element) api.Chain { return api.Chain{In: in, Elements: l} }

func matrix(offset []int, rows ...[]int) api.Element {
	return api.Element{Kind: api.ElMatrix, Rows: rows, Offset: offset}
}

var (
	same  = api.Curve{Kind: api.CuIdentity}
	root  = api.Curve{Kind: api.CuFormula, Segments: []api.Segment{{Till: 1000000, Mul: 1000000, Num: 1, Den: 2}}}
	rules = api.Rules{Black: same, Limit: 20000}
	turn  = matrix([]int{0, 0, 0}, []int{0, 0, 1000000}, []int{0, 1000000, 0}, []int{1000000, 0, 0})
	inked = matrix([]int{0, 0, 0, 0}, []int{1000000, 0, 0}, []int{0, 1000000, 0}, []int{0, 0, 1000000}, []int{333333, 333333, 333333})
)

func sameLink(a, b api.Link) bool {
	return grid.Same(a.Grid, b.Grid) && a.Changed == b.Changed && a.Bound == b.Bound
}

func link(g api.Grid, changed int, bound string) api.Link {
	return api.Link{Grid: g, Changed: changed, Bound: fr(bound)}
}

// P40.1
func TestCheck(t *testing.T) {
	three := api.Grid{Size: []int{2}, Out: 3, Data: make([]int, 6)}
	four := api.Grid{Size: []int{2}, Out: 4, Data: []int{0, 0, 0, 65535, 1, 2, 3, 4}}
	for i, x := range []struct {
		l    api.Link
		most int
		ink  api.Errno
		e    api.Errno
	}{
		{link(three, 0, "0"), 0, api.ErrForm, api.OK}, {link(four, 2, "1"), 65535, api.OK, api.OK}, {link(four, 0, "1/3"), 65535, api.OK, api.OK},
		{link(three, 1, "0"), 0, api.ErrLink, api.ErrLink}, {link(four, 3, "0"), 0, api.ErrLink, api.ErrLink}, {link(four, -1, "0"), 0, api.ErrLink, api.ErrLink}, {link(four, 0, "-1/2"), 0, api.ErrLink, api.ErrLink}, {link(four, 0, "3/2"), 0, api.ErrLink, api.ErrLink}, {api.Link{Grid: four}, 0, api.ErrLink, api.ErrLink}, {link(api.Grid{}, 0, "0"), 0, api.ErrLink, api.ErrLink}, {api.Link{}, 0, api.ErrLink, api.ErrLink},
	} {
		if e := Check(x.l); e != x.e {
			t.Errorf("Check %d: %d", i, e)
		}
		if got, e := Ink(x.l); got != x.most || e != x.ink {
			t.Errorf("Ink %d: %d, %d", i, got, e)
		}
		if x.e != api.OK {
			if got, e := Eval(x.l, nil); got != nil || e != api.ErrLink {
				t.Errorf("Eval %d: %v, %d", i, got, e)
			}
		}
	}
	if got, e := Ink(link(api.Grid{Size: []int{3}, Out: 4, Data: []int{1, 2, 3, 4, 5, 6, 7, 9, 5, 6, 7, 8}}, 0, "0")); got != 27 || e != api.OK {
		t.Errorf("Ink: %d, %d", got, e)
	}
}

// P40.1, P40.2
func TestMake(t *testing.T) {
	first, e := Make(chainOf(3), 2, rules)
	if first.Grid.Out != 3 || len(first.Grid.Data) != 24 || !slices.Equal(first.Grid.Data[21:], []int{65535, 65535, 65535}) || first.Changed != 0 || first.Bound != fr("0") || e != api.OK {
		t.Errorf("Make: %v, %d", first, e)
	}
	if got, e := Eval(first, fracs("1/2 1/3 1/4")); !slices.Equal(got, fracs("1/2 1/3 1/4")) || e != api.OK {
		t.Errorf("Eval: %v, %d", got, e)
	}
	for i, x := range [][]api.Frac{nil, fracs("1 1"), {{}, {}, {}}} {
		want := api.ErrArg
		if i == 2 {
			want = api.ErrFrac
		}
		if got, e := Eval(first, x); got != nil || e != want {
			t.Errorf("Eval %d: %v, %d", i, got, e)
		}
	}
	second, e := Make(chainOf(4), 2, rules)
	if second.Changed != 5 || !slices.Equal(second.Grid.Data[60:], []int{21845, 21845, 21845, 65535}) || second.Bound != fr("0") || e != api.OK {
		t.Errorf("Make: %v, %d", second, e)
	}
	if most, e := Ink(second); most != 131070 || e != api.OK {
		t.Errorf("Ink: %d, %d", most, e)
	}
	// Values are clamped, and rounded: the bound is that of 1/2, which is half of a unit away.
	wide := matrix([]int{-500000}, []int{2000000})
	third, e := Make(chainOf(1, wide), 3, rules)
	if !sameLink(third, link(api.Grid{Size: []int{3}, Out: 1, Data: []int{0, 32768, 65535}}, 0, "1/131070")) || e != api.OK {
		t.Errorf("Make: %v, %d", third, e)
	}
	// The bound is that of the nodes which were not cut.
	halves := matrix([]int{500000, 0, 0, 0}, []int{250000}, []int{250000}, []int{1000000}, []int{1000000})
	fourth, e := Make(chainOf(1, halves), 2, rules)
	if !sameLink(fourth, link(api.Grid{Size: []int{2}, Out: 4, Data: []int{32768, 0, 0, 0, 24575, 8192, 32767, 65535}}, 1, "1/131070")) || e != api.OK {
		t.Errorf("Make: %v, %d", fourth, e)
	}
}

// P40.2
func TestMakeErrors(t *testing.T) {
	p := []api.Op{{Code: api.PuIn}}
	for range 10 {
		p = append(p, api.Op{Code: api.PuCopy}, api.Op{Code: api.PuMul})
	}
	powers := api.Element{Kind: api.ElProgram, In: 1, Out: 1, Program: p}
	bad := api.Rules{}
	for i, x := range []struct {
		c    api.Chain
		size int
		r    api.Rules
		e    api.Errno
	}{
		{api.Chain{}, 1, bad, api.ErrChain}, {chainOf(1, api.Element{Kind: api.ElCurves, Curves: []api.Curve{root}}), 1, bad, api.ErrForm}, {chainOf(4), 1, bad, api.ErrArg}, {chainOf(4), 9, bad, api.ErrArg}, {chainOf(3), 10, bad, api.ErrArg}, {chainOf(3), -2, bad, api.ErrArg}, {chainOf(4), 6, bad, api.ErrArg},
		{chainOf(3), 2, bad, api.ErrCurve}, {chainOf(3), 2, api.Rules{Black: same, Limit: 9999}, api.ErrInk}, {chainOf(1, powers), 4, bad, api.ErrCurve}, {chainOf(1, powers), 8, rules, api.ErrBig},
	} {
		if got, e := Make(x.c, x.size, x.r); !sameLink(got, api.Link{}) || e != x.e {
			t.Errorf("%d: %v, %d", i, got, e)
		}
	}
	if got, e := Make(chainOf(1), 9, rules); len(got.Grid.Data) != 9 || e != api.OK {
		t.Errorf("Make: %d entries, %d", len(got.Grid.Data), e)
	}
	if got, e := Make(chainOf(4, matrix([]int{0}, []int{250000, 250000, 250000, 250000})), 8, rules); len(got.Grid.Data) != api.MaxData || e != api.OK {
		t.Errorf("Make: %d entries, %d", len(got.Grid.Data), e)
	}
	if got, e := Make(chainOf(4), 5, rules); len(got.Grid.Data) != 2500 || e != api.OK {
		t.Errorf("Make: %d entries, %d", len(got.Grid.Data), e)
	}
}

func profileOf(space, pcs int, tags ...api.Tag) api.Profile {
	return api.Profile{Version: 4, Class: api.ClOutput, Space: space, Pcs: pcs, Name: "p", White: [3]int{1, 1, 1}, Tags: tags}
}

func tagged(sign string, c api.Chain) api.Tag {
	return api.Tag{Sign: sign, Kind: api.TaChain, Chain: c}
}

// P40.3
func TestBuild(t *testing.T) {
	desc := api.Tag{Sign: "desc", Kind: api.TaText, Text: "x"}
	rgb := profileOf(api.SpRGB, api.SpLab, desc, tagged("fwd0", chainOf(3, turn)), tagged("fwd2", chainOf(3)))
	cmyk := profileOf(api.SpCMYK, api.SpLab, tagged("bwd0", chainOf(3, inked)), desc, tagged("fwd0", chainOf(4, matrix([]int{0, 0, 0}, make([]int, 4), make([]int, 4), make([]int, 4)))))
	xyz := cmyk
	xyz.Pcs = api.SpXYZ
	eight := make([]api.Element, 8)
	for i := range eight {
		eight[i] = turn
	}
	long := profileOf(api.SpRGB, api.SpLab, desc, tagged("fwd0", chainOf(3, eight...)))
	link := api.Profile{Version: 4, Class: api.ClLink, Space: api.SpRGB, Pcs: api.SpLab, Name: "p", White: [3]int{1, 1, 1}, Tags: []api.Tag{desc, tagged("link", chainOf(3))}}
	for i, x := range []struct {
		from, to     api.Profile
		intent, size int
		want         api.Chain
		e            api.Errno
	}{
		{rgb, cmyk, 0, 3, chainOf(3, turn, inked), api.OK}, {rgb, cmyk, 2, 2, chainOf(3, inked), api.OK},
		{api.Profile{}, link, 9, 0, api.Chain{}, api.ErrProfile}, {rgb, cmyk, 4, 2, api.Chain{}, api.ErrArg}, {link, api.Profile{}, 0, 2, api.Chain{}, api.ErrForm}, {rgb, api.Profile{}, 0, 2, api.Chain{}, api.ErrProfile}, {rgb, link, 0, 2, api.Chain{}, api.ErrForm}, {rgb, rgb, 0, 2, api.Chain{}, api.ErrNone}, {rgb, xyz, 0, 0, api.Chain{}, api.ErrForm}, {long, cmyk, 0, 0, api.Chain{}, api.ErrLong}, {rgb, cmyk, 0, 1, api.Chain{}, api.ErrArg},
	} {
		got, e := Build(x.from, x.to, x.intent, x.size, rules)
		want := api.Link{}
		if x.e == api.OK {
			want, _ = Make(x.want, x.size, rules)
		}
		if !sameLink(got, want) || e != x.e {
			t.Errorf("%d: %v, %d", i, got, e)
		}
	}
	if got, e := Build(rgb, cmyk, 0, 2, api.Rules{}); !sameLink(got, api.Link{}) || e != api.ErrCurve {
		t.Errorf("Build: %v, %d", got, e)
	}
}

// P40.2, P40.4: nodes by the definition, and the limit everywhere.
func TestLaws(t *testing.T) {
	r := rand.New(rand.NewSource(1))
	for range 25 {
		n := func() int { return r.Intn(2000001) - 400000 }
		x := matrix([]int{n(), n(), n(), n()}, []int{n(), n()}, []int{n(), n()}, []int{n(), n()}, []int{n(), n()})
		c := chainOf(2, x)
		limit := 10000 + r.Intn(30001)
		l, e := Make(c, 4, api.Rules{Black: same, Limit: limit})
		if e != api.OK || Check(l) != api.OK {
			t.Fatalf("Make(%v): %v, %d", c, l, e)
		}
		most := limit * 65535 / 10000
		changed, bound := 0, fr("0")
		for node := range 16 {
			a, _ := frac.Of(node/4, 3)
			b, _ := frac.Of(node%4, 3)
			y, _ := chain.Eval(c, []api.Frac{a, b})
			var entries [4]int
			for i := range y {
				y[i], _ = frac.Clamp(y[i], fr("0"), fr("1"))
				entries[i], _ = frac.Near(y[i], 65535)
			}
			cut, _ := ink.Cut(entries, most)
			if cut != entries {
				changed++
			} else {
				for i := range y {
					at, _ := frac.Of(entries[i], 65535)
					away, _ := frac.Sub(at, y[i])
					away, _ = frac.Abs(away)
					bound, _ = frac.Max(bound, away)
				}
			}
			if !slices.Equal(l.Grid.Data[4*node:4*node+4], cut[:]) {
				t.Fatalf("Make(%v) at %d: %v, not %v", c, node, l.Grid.Data[4*node:4*node+4], cut)
			}
		}
		top, _ := Ink(l)
		small, _ := frac.Cmp(bound, fr("1/131070"))
		if l.Changed != changed || l.Bound != bound || top > most || small > 0 {
			t.Fatalf("Make(%v): %d, %v, ink %d; want %d, %v", c, l.Changed, l.Bound, top, changed, bound)
		}
		a, _ := frac.Of(r.Intn(101), 100)
		b, _ := frac.Of(r.Intn(8), 7)
		value, _ := Eval(l, []api.Frac{a, b})
		plain, _ := simplex.Eval(l.Grid, []api.Frac{a, b})
		sum, _ := frac.Sum(value)
		limitHere, _ := frac.Of(top, 65535)
		if over, _ := frac.Cmp(sum, limitHere); over > 0 || !slices.Equal(value, plain) {
			t.Fatalf("Eval(%v): %v", l, value)
		}
	}
}
