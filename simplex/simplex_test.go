package simplex

import (
	"math/big"
	"math/rand"
	"slices"
	"strings"
	"testing"

	"verdigris/api"
	"verdigris/band"
	"verdigris/grid"
)

const one = api.OneBand

var example = api.Grid{Size: []int{2, 2}, Out: 1, Data: []int{0, 13107, 26214, 65535}}

func fr(text string) api.Frac {
	x, ok := new(big.Rat).SetString(text)
	if !ok {
		panic(text)
	}
	return of(x)
}

func of(x *big.Rat) api.Frac {
	return api.Frac{N: api.Whole(x.Num().String()), D: api.Whole(x.Denom().String())}
}

func value(a api.Frac) *big.Rat {
	x, _ := new(big.Rat).SetString(string(a.N) + "/" + string(a.D))
	return x
}

func fracs(text string) []api.Frac {
	var l []api.Frac
	for _, word := range strings.Fields(text) {
		l = append(l, fr(word))
	}
	return l
}

func some(r *rand.Rand) api.Grid {
	g := api.Grid{Out: 1 + r.Intn(4)}
	n := g.Out
	for range 1 + r.Intn(4) {
		size := 2 + r.Intn(3)
		g.Size = append(g.Size, size)
		n *= size
	}
	for range n {
		g.Data = append(g.Data, r.Intn(65536))
	}
	return g
}

func someColor(r *rand.Rand, n int) []*big.Rat {
	var x []*big.Rat
	for range n {
		switch r.Intn(4) {
		case 0:
			x = append(x, big.NewRat(int64(r.Intn(13)-2), 8))
		case 1:
			x = append(x, big.NewRat(1, 3))
		default:
			x = append(x, big.NewRat(r.Int63n(1000), 999))
		}
	}
	return x
}

func colorOf(x []*big.Rat) []api.Frac {
	var l []api.Frac
	for _, a := range x {
		l = append(l, of(a))
	}
	return l
}

func clamp(x *big.Rat) *big.Rat {
	if x.Sign() < 0 {
		return new(big.Rat)
	}
	if x.Cmp(big.NewRat(1, 1)) > 0 {
		return big.NewRat(1, 1)
	}
	return x
}

// exact is the value of a grid, found by walking from the first corner of the cell along the inputs, the one with the greatest rest first.
func exact(g api.Grid, x []*big.Rat) []*big.Rat {
	base := make([]int, len(x))
	rests := make([]*big.Rat, len(x))
	for i, a := range x {
		p := new(big.Rat).Mul(clamp(a), big.NewRat(int64(g.Size[i]-1), 1))
		base[i] = min(int(new(big.Int).Div(p.Num(), p.Denom()).Int64()), g.Size[i]-2)
		rests[i] = new(big.Rat).Sub(p, big.NewRat(int64(base[i]), 1))
	}
	at := func() []int {
		l, _ := grid.At(g, base)
		return l
	}
	var out []*big.Rat
	before := at()
	for _, v := range before {
		out = append(out, big.NewRat(int64(v), 1))
	}
	done := make([]bool, len(x))
	for range x {
		best := -1
		for i := range x {
			if !done[i] && (best < 0 || rests[i].Cmp(rests[best]) > 0) {
				best = i
			}
		}
		done[best] = true
		base[best]++
		next := at()
		for k := range out {
			out[k].Add(out[k], new(big.Rat).Mul(rests[best], big.NewRat(int64(next[k]-before[k]), 1)))
		}
		before = next
	}
	for k := range out {
		out[k].Mul(out[k], big.NewRat(1, 65535))
	}
	return out
}

// P11.2, P11.5
func TestEval(t *testing.T) {
	r := rand.New(rand.NewSource(1))
	for range 1000 {
		g := some(r)
		x := someColor(r, len(g.Size))
		want := exact(g, x)
		got, e := Eval(g, colorOf(x))
		if e != api.OK || !slices.Equal(got, colorOf(want)) {
			t.Fatalf("Eval(%v, %v): %v, %d; want %v", g, x, got, e, want)
		}
		a, b := r.Intn(len(x)), r.Intn(len(x))
		swapped, _ := grid.Swap(g, a, b)
		x[a], x[b] = x[b], x[a]
		if again, _ := Eval(swapped, colorOf(x)); !slices.Equal(again, got) {
			t.Fatalf("Eval of Swap(%v, %d, %d) at %v: %v, not %v", g, a, b, x, again, got)
		}
	}
}

// P11.1, P11.5
func TestCell(t *testing.T) {
	base, order, weights, e := Cell(example, fracs("1/2 1/4"))
	if !slices.Equal(base, []int{0, 0}) || !slices.Equal(order, []int{0, 1}) || !slices.Equal(weights, fracs("1/2 1/4 1/4")) || e != api.OK {
		t.Errorf("Cell: %v, %v, %v, %d", base, order, weights, e)
	}
	r := rand.New(rand.NewSource(2))
	for range 500 {
		g := some(r)
		x := someColor(r, len(g.Size))
		base, order, weights, e := Cell(g, colorOf(x))
		if e != api.OK || len(base) != len(x) || len(order) != len(x) || len(weights) != len(x)+1 {
			t.Fatalf("Cell(%v, %v): %v, %v, %v, %d", g, x, base, order, weights, e)
		}
		sum := new(big.Rat)
		for _, w := range weights {
			if value(w).Sign() < 0 {
				t.Fatalf("Cell(%v, %v): %v", g, x, weights)
			}
			sum.Add(sum, value(w))
		}
		// From the last weight on, sums of weights are the rests in order.
		rest := new(big.Rat)
		for i := len(x) - 1; i >= 0; i-- {
			rest.Add(rest, value(weights[i+1]))
			in := order[i]
			p := new(big.Rat).Mul(clamp(x[in]), big.NewRat(int64(g.Size[in]-1), 1))
			p.Sub(p, big.NewRat(int64(base[in]), 1))
			if p.Cmp(rest) != 0 || base[in] < 0 || base[in] > g.Size[in]-2 {
				t.Fatalf("Cell(%v, %v): %v, %v, %v", g, x, base, order, weights)
			}
			if i > 0 && value(weights[i]).Sign() == 0 && order[i-1] > in {
				t.Fatalf("Cell(%v, %v): equal rests in the order %v", g, x, order)
			}
		}
		if sum.Cmp(big.NewRat(1, 1)) != 0 {
			t.Fatalf("Cell(%v, %v): %v", g, x, weights)
		}
	}
}

// P11.2, P11.4
func TestExamples(t *testing.T) {
	for x, want := range map[string]string{"1/2 1/4": "7/20", "1/4 1/2": "3/10", "2 1": "1", "1/2 1/2": "1/2", "-1 -7": "0"} {
		if got, e := Eval(example, fracs(x)); !slices.Equal(got, fracs(want)) || e != api.OK {
			t.Errorf("Eval(%s): %v, %d", x, got, e)
		}
	}
	if l, e := Steep(example); len(l) != 1 || !slices.Equal(l[0], []int{52428, 39321}) || e != api.OK {
		t.Errorf("Steep: %v, %d", l, e)
	}
	if l, e := Steep(api.Grid{Size: []int{3}, Out: 1, Data: []int{7, 7, 7}}); len(l) != 1 || !slices.Equal(l[0], []int{0}) || e != api.OK {
		t.Errorf("Steep: %v, %d", l, e)
	}
	if g, e := Refine(example, []int{3, 2}); !grid.Same(g, api.Grid{Size: []int{3, 2}, Out: 1, Data: []int{0, 13107, 13107, 39321, 26214, 65535}}) || e != api.OK {
		t.Errorf("Refine: %v, %d", g, e)
	}
	quarter := api.Band{Lo: one / 4, Hi: one / 4}
	if l, e := Bands(example, []api.Band{{Lo: one / 2, Hi: one / 2}, quarter}); len(l) != 1 || l[0] != (api.Band{Lo: 7 * one / 20, Hi: 7 * one / 20}) || e != api.OK {
		t.Errorf("Bands: %v, %d", l, e)
	}
	if l, e := Bands(example, []api.Band{{Lo: one / 4, Hi: 3 * one / 4}, quarter}); len(l) != 1 || l[0] != (api.Band{Lo: 3 * one / 20, Hi: 11 * one / 20}) || e != api.OK {
		t.Errorf("Bands: %v, %d", l, e)
	}
}

// P11.2
func TestSteep(t *testing.T) {
	r := rand.New(rand.NewSource(3))
	for range 200 {
		g := some(r)
		got, e := Steep(g)
		if e != api.OK || len(got) != g.Out {
			t.Fatalf("Steep(%v): %v, %d", g, got, e)
		}
		want := make([][]int, g.Out)
		for out := range want {
			want[out] = make([]int, len(g.Size))
		}
		for n := range len(g.Data) / g.Out {
			index := make([]int, len(g.Size))
			rest := n
			for i := len(index) - 1; i >= 0; i-- {
				index[i], rest = rest%g.Size[i], rest/g.Size[i]
			}
			here, _ := grid.At(g, index)
			for in := range index {
				index[in]++
				there, e := grid.At(g, index)
				index[in]--
				if e != api.OK {
					continue
				}
				for out := range here {
					away := (there[out] - here[out]) * (g.Size[in] - 1)
					want[out][in] = max(want[out][in], away, -away)
				}
			}
		}
		for out := range want {
			if !slices.Equal(got[out], want[out]) {
				t.Fatalf("Steep(%v): %v, want %v", g, got, want)
			}
		}
	}
}

// P11.3, P11.5
func TestBands(t *testing.T) {
	r := rand.New(rand.NewSource(4))
	for range 600 {
		g := some(r)
		var wide, narrow []api.Band
		var inside []*big.Rat
		for range g.Size {
			lo := r.Intn(3*one/2) - one/4
			hi := lo + r.Intn(one/(1+r.Intn(1000)))
			wide = append(wide, api.Band{Lo: lo, Hi: hi})
			low := lo + r.Intn(hi-lo+1)
			high := low + r.Intn(hi-low+1)
			narrow = append(narrow, api.Band{Lo: low, Hi: high})
			inside = append(inside, big.NewRat(int64(low), one))
		}
		want := bandsOf(g, wide)
		got, e := Bands(g, wide)
		if e != api.OK || !slices.Equal(got, want) {
			t.Fatalf("Bands(%v, %v): %v, %d; want %v", g, wide, got, e, want)
		}
		smaller, _ := Bands(g, narrow)
		for out, y := range exact(g, inside) {
			if ok, _ := band.Has(got[out], of(y)); !ok || smaller[out].Lo < got[out].Lo || smaller[out].Hi > got[out].Hi {
				t.Fatalf("Bands(%v, %v): %v; %v at %v, %v on %v", g, wide, got, y, inside, smaller, narrow)
			}
		}
	}
}

// bandsOf is the values on bands, computed in another way.
func bandsOf(g api.Grid, x []api.Band) []api.Band {
	steep, _ := Steep(g)
	low, high, _ := grid.Range(g)
	var middle []*big.Rat
	for _, b := range x {
		middle = append(middle, big.NewRat(int64(min(max(b.Lo, 0), one)+min(max(b.Hi, 0), one)), 2*one))
	}
	var out []api.Band
	for k, y := range exact(g, middle) {
		away := new(big.Rat)
		for i, b := range x {
			half := big.NewRat(int64(min(max(b.Hi, 0), one)-min(max(b.Lo, 0), one)), 2*one)
			away.Add(away, half.Mul(half, big.NewRat(int64(steep[k][i]), 65535)))
		}
		lo, _ := band.Around(of(new(big.Rat).Sub(y, away)))
		hi, _ := band.Around(of(new(big.Rat).Add(y, away)))
		least, _ := band.Around(of(big.NewRat(int64(low[k]), 65535)))
		most, _ := band.Around(of(big.NewRat(int64(high[k]), 65535)))
		out = append(out, api.Band{Lo: max(lo.Lo, least.Lo), Hi: min(hi.Hi, most.Hi)})
	}
	return out
}

// P11.4, P11.5
func TestRefine(t *testing.T) {
	r := rand.New(rand.NewSource(5))
	for range 100 {
		g := some(r)
		if same, e := Refine(g, g.Size); !grid.Same(same, g) || e != api.OK {
			t.Fatalf("Refine(%v): %v, %d", g, same, e)
		}
		var size []int
		for range g.Size {
			size = append(size, 2+r.Intn(4))
		}
		fine, e := Refine(g, size)
		if e != api.OK || grid.Check(fine) != api.OK {
			t.Fatalf("Refine(%v, %v): %v, %d", g, size, fine, e)
		}
		index := make([]int, len(size))
		x := make([]*big.Rat, len(size))
		for i, n := range size {
			index[i] = r.Intn(n)
			x[i] = big.NewRat(int64(index[i]), int64(n-1))
		}
		values, _ := grid.At(fine, index)
		for out, y := range exact(g, x) {
			y.Mul(y, big.NewRat(65535, 1)).Add(y, big.NewRat(1, 2))
			if near := new(big.Int).Div(y.Num(), y.Denom()); near.Int64() != int64(values[out]) {
				t.Fatalf("Refine(%v, %v) at %v: %v, want %v", g, size, index, values, near)
			}
		}
	}
}

// P11.5: a linear function of the indices is met everywhere.
func TestLinear(t *testing.T) {
	g := api.Grid{Size: []int{3, 4, 2}, Out: 1}
	for i := range 3 {
		for j := range 4 {
			for k := range 2 {
				g.Data = append(g.Data, 60000-7000*i+300*j-5*k)
			}
		}
	}
	r := rand.New(rand.NewSource(6))
	for range 200 {
		x := someColor(r, 3)
		want := big.NewRat(60000, 1)
		for i, slope := range []int64{-14000, 900, -5} {
			want.Add(want, new(big.Rat).Mul(clamp(x[i]), big.NewRat(slope, 1)))
		}
		want.Mul(want, big.NewRat(1, 65535))
		if got, e := Eval(g, colorOf(x)); len(got) != 1 || got[0] != of(want) || e != api.OK {
			t.Fatalf("Eval at %v: %v, %d", x, got, e)
		}
	}
}

// P11.1 to P11.4
func TestErrors(t *testing.T) {
	bad := api.Grid{Size: []int{2}, Out: 1, Data: []int{0}}
	if _, _, _, e := Cell(bad, nil); e != api.ErrGrid {
		t.Errorf("Cell: %d", e)
	}
	if l, e := Eval(bad, nil); l != nil || e != api.ErrGrid {
		t.Errorf("Eval: %v, %d", l, e)
	}
	if l, e := Steep(bad); l != nil || e != api.ErrGrid {
		t.Errorf("Steep: %v, %d", l, e)
	}
	if l, e := Bands(bad, nil); l != nil || e != api.ErrGrid {
		t.Errorf("Bands: %v, %d", l, e)
	}
	if g, e := Refine(bad, nil); !grid.Same(g, api.Grid{}) || e != api.ErrGrid {
		t.Errorf("Refine: %v, %d", g, e)
	}
	long := api.Frac{N: "1", D: api.Whole(strings.Repeat("9", 600))}
	near := api.Frac{N: api.Whole(strings.Repeat("9", 599) + "7"), D: api.Whole(strings.Repeat("9", 600))}
	coarse := api.Grid{Size: []int{9}, Out: 1, Data: []int{0, 0, 0, 0, 0, 0, 0, 0, 0}}
	for i, x := range []struct {
		g    api.Grid
		x    []api.Frac
		e    api.Errno
		cell api.Errno
	}{
		{example, nil, api.ErrArg, api.ErrArg},
		{example, fracs("1/2"), api.ErrArg, api.ErrArg},
		{example, fracs("1/2 1/2 1/2"), api.ErrArg, api.ErrArg},
		{example, []api.Frac{fr("1"), {}}, api.ErrFrac, api.ErrFrac},
		{example, []api.Frac{fr("1"), long}, api.ErrBig, api.OK},
		{coarse, []api.Frac{near}, api.ErrBig, api.ErrBig},
		{api.Grid{Size: []int{9, 2}, Out: 1, Data: make([]int, 18)}, []api.Frac{near, {}}, api.ErrFrac, api.ErrFrac},
		{example, []api.Frac{fr("1/13"), {N: "1", D: long.D[1:]}}, api.ErrBig, api.ErrBig},
	} {
		base, order, weights, e := Cell(x.g, x.x)
		if e != x.cell || e != api.OK && (base != nil || order != nil || weights != nil) {
			t.Errorf("Cell %d: %v, %v, %v, %d", i, base, order, weights, e)
		}
		if l, e := Eval(x.g, x.x); l != nil || e != x.e {
			t.Errorf("Eval %d: %v, %d", i, l, e)
		}
	}
	for _, x := range [][]api.Band{nil, {{}}, {{}, {}, {}}} {
		if l, e := Bands(example, x); l != nil || e != api.ErrArg {
			t.Errorf("Bands(%v): %v, %d", x, l, e)
		}
	}
	if l, e := Bands(example, []api.Band{{}, {Lo: 1}}); l != nil || e != api.ErrBand {
		t.Errorf("Bands: %v, %d", l, e)
	}
	for _, size := range [][]int{nil, {3}, {3, 3, 3}, {1, 2}, {2, 10}, {-1 << 62, 4}} {
		if g, e := Refine(example, size); !grid.Same(g, api.Grid{}) || e != api.ErrArg {
			t.Errorf("Refine(%v): %v, %d", size, g, e)
		}
	}
	four := api.Grid{Size: []int{2, 2, 2, 2}, Out: 1, Data: make([]int, 16)}
	if g, e := Refine(four, []int{9, 9, 9, 9}); !grid.Same(g, api.Grid{}) || e != api.ErrLong {
		t.Errorf("Refine: %v, %d", g, e)
	}
	if g, e := Refine(four, []int{8, 8, 8, 8}); len(g.Data) != 4096 || e != api.OK {
		t.Errorf("Refine: %v, %d", g, e)
	}
}

func BenchmarkEval(b *testing.B) {
	g := some(rand.New(rand.NewSource(9)))
	x := colorOf(someColor(rand.New(rand.NewSource(9)), len(g.Size)))
	for b.Loop() {
		Eval(g, x)
	}
}
