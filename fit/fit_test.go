package fit

import (
	"math/big"
	"math/rand"
	"slices"
	"strconv"
	"strings"
	"testing"

	"verdigris/api"
	"verdigris/chain"
	"verdigris/element"
	"verdigris/frac"
	"verdigris/least"
)

func fr(text string) api.Frac {
	x, ok := new(big.Rat).SetString(text)
	if !ok {
		panic(text)
	}
	return of(x)
}

func of(x *big.Rat) api.Frac {
	return api.Frac{N: api.Whole(x.Num().String()), D: api.Whole(x.Denom().String())}
}

func value(a api.Frac) *big.Rat {
	x, _ := new(big.Rat).SetString(string(a.N) + "/" + string(a.D))
	return x
}

func fracs0(text string) []api.Frac {
	var l []api.Frac
	for _, word := range strings.Fields(text) {
		l = append(l, fr(word))
	}
	return l
}

func p(i int, lab [3]int, device ...int) api.Patch {
	return api.Patch{Name: "p" + strconv.Itoa(i), Device: device, Lab: lab}
}

var (
	example = []api.Patch{p(0, [3]int{}, 0), p(1, [3]int{6000}, 5000), p(2, [3]int{10000}, 10000)}
	zeros   = fracs0("0 0")
	matrix  = api.Model{Kind: api.MoMatrix, In: 1, Rows: [3][]api.Frac{fracs0("10/3 100"), zeros, zeros}}
	huge    = api.Frac{N: api.Whole(strings.Repeat("9", 600)), D: "1"}
)

func sameModel(a, b api.Model) bool {
	return a.Kind == b.Kind && a.In == b.In && slices.Equal(a.Rows[0], b.Rows[0]) && slices.Equal(a.Rows[1], b.Rows[1]) && slices.Equal(a.Rows[2], b.Rows[2])
}

func rows(n int) [3][]api.Frac {
	l := make([]api.Frac, n)
	for i := range l {
		l[i] = fr("1")
	}
	return [3][]api.Frac{l, l, l}
}

// P32.1
func TestCheck(t *testing.T) {
	for i, m := range []api.Model{matrix, {Kind: api.MoMatrix, In: 4, Rows: rows(5)}, {Kind: api.MoSquares, In: 4, Rows: rows(9)}, {Kind: api.MoProducts, In: 3, Rows: rows(8)}, {Kind: api.MoProducts, In: 1, Rows: rows(2)}} {
		if e := Check(m); e != api.OK {
			t.Errorf("Check of %d: %d", i, e)
		}
	}
	for i, m := range []api.Model{{}, {Kind: 4, In: 1, Rows: rows(2)}, {Kind: 0, In: 1, Rows: rows(2)}, {Kind: api.MoMatrix, In: 0, Rows: rows(1)}, {Kind: api.MoMatrix, In: 5, Rows: rows(6)}, {Kind: api.MoMatrix, In: -1, Rows: rows(0)}, {Kind: api.MoProducts, In: 4, Rows: rows(16)}, {Kind: api.MoMatrix, In: 1, Rows: rows(1)}, {Kind: api.MoSquares, In: 2, Rows: rows(3)},
		{Kind: api.MoMatrix, In: 1, Rows: [3][]api.Frac{zeros, zeros, zeros[:1]}}, {Kind: api.MoMatrix, In: 1, Rows: [3][]api.Frac{zeros, zeros, {fr("1"), {N: "2", D: "2"}}}}, {Kind: api.MoMatrix, In: 1, Rows: [3][]api.Frac{{{}, fr("1")}, zeros, zeros}}} {
		if e := Check(m); e != api.ErrModel {
			t.Errorf("Check of %d: %d", i, e)
		}
		if v, e := Apply(m, nil); v != [3]api.Frac{} || e != api.ErrModel {
			t.Errorf("Apply of %d: %v, %d", i, v, e)
		}
		if l, e := Residuals(m, nil); l != nil || e != api.ErrModel {
			t.Errorf("Residuals of %d: %v, %d", i, l, e)
		}
		if l, e := Squares(m, nil); l != nil || e != api.ErrModel {
			t.Errorf("Squares of %d: %v, %d", i, l, e)
		}
		if x, e := Element(m); !element.Same(x, api.Element{}) || e != api.ErrModel {
			t.Errorf("Element of %d: %v, %d", i, x, e)
		}
	}
}

// P32.1
func TestTerms(t *testing.T) {
	for i, x := range []struct {
		kind   int
		device []int
		want   string
		e      api.Errno
	}{
		{api.MoProducts, []int{5000, 10000}, "1 1/2 1 1/2", api.OK}, {api.MoSquares, []int{5000}, "1 1/2 1/4", api.OK}, {api.MoMatrix, []int{0, 1, 10000, 2500}, "1 0 1/10000 1 1/4", api.OK}, {api.MoSquares, []int{5000, 2000}, "1 1/2 1/5 1/4 1/25", api.OK},
		{api.MoProducts, []int{5000, 2000, 1000}, "1 1/2 1/5 1/10 1/10 1/20 1/50 1/100", api.OK}, {api.MoProducts, []int{5000}, "1 1/2", api.OK},
		{4, []int{0}, "", api.ErrArg}, {0, nil, "", api.ErrArg}, {1, nil, "", api.ErrArg}, {1, make([]int, 5), "", api.ErrArg}, {1, []int{-1}, "", api.ErrArg}, {1, []int{10001}, "", api.ErrArg}, {3, []int{0, 0, 0, 10001}, "", api.ErrArg}, {3, []int{0, 0, 0, 0}, "", api.ErrForm},
	} {
		if got, e := Terms(x.kind, x.device); !slices.Equal(got, fracs0(x.want)) || e != x.e {
			t.Errorf("%d: %v, %d", i, got, e)
		}
	}
}

// P32.2
func TestFit(t *testing.T) {
	four := []api.Patch{p(0, [3]int{}, 0, 0, 0, 0)}
	for i, x := range []struct {
		l       []api.Patch
		kind    int
		weights []int
		want    api.Model
		e       api.Errno
	}{
		{example, api.MoMatrix, []int{1, 1, 1}, matrix, api.OK}, {example, api.MoMatrix, []int{7, 7, 7}, matrix, api.OK},
		{example, api.MoSquares, []int{1, 1, 1}, api.Model{Kind: api.MoSquares, In: 1, Rows: [3][]api.Frac{fracs0("0 140 -40"), fracs0("0 0 0"), fracs0("0 0 0")}}, api.OK},
		{example, api.MoMatrix, []int{1, 0, 1000}, api.Model{Kind: api.MoMatrix, In: 1, Rows: [3][]api.Frac{fracs0("0 100"), zeros, zeros}}, api.OK},
		{example, api.MoSquares, []int{1, 1, 0}, api.Model{}, api.ErrZero}, {example, api.MoMatrix, []int{0, 0, 0}, api.Model{}, api.ErrZero},
		{nil, 4, nil, api.Model{}, api.ErrPatch}, {example, 4, []int{1, 1, 1}, api.Model{}, api.ErrArg}, {example, 0, []int{1, 1, 1}, api.Model{}, api.ErrArg}, {example, 1, []int{1, 1}, api.Model{}, api.ErrArg}, {example, 1, []int{1, 1, 1, 1}, api.Model{}, api.ErrArg}, {example, 1, []int{1, 1, -1}, api.Model{}, api.ErrArg}, {example, 1, []int{1, 1, 1001}, api.Model{}, api.ErrArg},
		{four, api.MoProducts, []int{1}, api.Model{}, api.ErrForm}, {four, api.MoProducts, nil, api.Model{}, api.ErrArg}, {four, api.MoMatrix, []int{1}, api.Model{}, api.ErrZero},
	} {
		if got, e := Fit(x.l, x.kind, x.weights); !sameModel(got, x.want) || e != x.e {
			t.Errorf("%d: %v, %d", i, got, e)
		}
	}
}

// P32.3
func TestApply(t *testing.T) {
	if v, e := Apply(matrix, []int{5000}); v != [3]api.Frac{fr("160/3"), fr("0"), fr("0")} || e != api.OK {
		t.Errorf("Apply: %v, %d", v, e)
	}
	if l, e := Squares(matrix, example); !slices.Equal(l, fracs0("100/9 400/9 100/9")) || e != api.OK {
		t.Errorf("Squares: %v, %d", l, e)
	}
	shifted := []api.Patch{p(0, [3]int{100, -250, 300}, 0)}
	if l, e := Residuals(matrix, shifted); !slices.Equal(l, [][3]api.Frac{{fr("7/3"), fr("5/2"), fr("-3")}}) || e != api.OK {
		t.Errorf("Residuals: %v, %d", l, e)
	}
	if l, e := Squares(matrix, shifted); !slices.Equal(l, fracs0("745/36")) || e != api.OK {
		t.Errorf("Squares: %v, %d", l, e)
	}
	for i, device := range [][]int{nil, {1, 2}, {-1}, {10001}} {
		if v, e := Apply(matrix, device); v != [3]api.Frac{} || e != api.ErrArg {
			t.Errorf("Apply %d: %v, %d", i, v, e)
		}
	}
	two := []api.Patch{p(0, [3]int{}, 0, 0)}
	if l, e := Residuals(matrix, two); l != nil || e != api.ErrForm {
		t.Errorf("Residuals: %v, %d", l, e)
	}
	if l, e := Squares(matrix, two); l != nil || e != api.ErrForm {
		t.Errorf("Squares: %v, %d", l, e)
	}
	if l, e := Residuals(matrix, nil); l != nil || e != api.ErrPatch {
		t.Errorf("Residuals: %v, %d", l, e)
	}
	if l, e := Squares(matrix, nil); l != nil || e != api.ErrPatch {
		t.Errorf("Squares: %v, %d", l, e)
	}
	// ErrBig is for results alone.
	minus := api.Frac{N: "-" + huge.N, D: "1"}
	m := api.Model{Kind: api.MoMatrix, In: 2, Rows: [3][]api.Frac{{huge, huge, minus}, {huge, huge, huge}, fracs0("0 0 0")}}
	if v, e := Apply(m, []int{10000, 10000}); v != [3]api.Frac{} || e != api.ErrBig {
		t.Errorf("Apply: %v, %d", v, e)
	}
	m.Rows[1] = fracs0("0 0 0")
	if v, e := Apply(m, []int{10000, 10000}); v != [3]api.Frac{huge, fr("0"), fr("0")} || e != api.OK {
		t.Errorf("Apply: %v, %d", v, e)
	}
	if l, e := Residuals(m, []api.Patch{p(0, [3]int{}, 10000, 10000)}); len(l) != 1 || e != api.OK {
		t.Errorf("Residuals: %v, %d", l, e)
	}
	if l, e := Squares(m, []api.Patch{p(0, [3]int{}, 10000, 10000)}); l != nil || e != api.ErrBig {
		t.Errorf("Squares: %v, %d", l, e)
	}
	if l, e := Residuals(m, []api.Patch{p(0, [3]int{}, 10000, 0)}); l != nil || e != api.ErrBig {
		t.Errorf("Residuals: %v, %d", l, e)
	}
}

// P32.4
func TestElement(t *testing.T) {
	x, e := Element(matrix)
	want := api.Element{Kind: api.ElMatrix, Rows: [][]int{{1000000}, {0}, {0}}, Offset: []int{33333, 500000, 500000}}
	if !element.Same(x, want) || e != api.OK {
		t.Errorf("Element: %v, %d", x, e)
	}
	m := api.Model{Kind: api.MoMatrix, In: 2, Rows: [3][]api.Frac{fracs0("-1 2 1/20000"), fracs0("-128 -64 1"), fracs0("127 1/7 -1/3")}}
	want = api.Element{Kind: api.ElMatrix, Rows: [][]int{{20000, 1}, {-250000, 3906}, {558, -1302}}, Offset: []int{-10000, 0, 996094}}
	if x, e := Element(m); !element.Same(x, want) || e != api.OK {
		t.Errorf("Element: %v, %d", x, e)
	}
	if e := chain.Check(api.Chain{In: 2, Elements: []api.Element{want}}); e != api.OK {
		t.Errorf("Check: %d", e)
	}
	for i, x := range []struct {
		m api.Model
		e api.Errno
	}{
		{api.Model{Kind: api.MoSquares, In: 1, Rows: rows(3)}, api.ErrForm}, {api.Model{Kind: api.MoProducts, In: 1, Rows: rows(2)}, api.ErrForm},
		{api.Model{Kind: api.MoMatrix, In: 1, Rows: [3][]api.Frac{fracs0("0 100001"), zeros, zeros}}, api.ErrBig}, {api.Model{Kind: api.MoMatrix, In: 1, Rows: [3][]api.Frac{zeros, zeros, {huge, fr("0")}}}, api.ErrBig}, {api.Model{Kind: api.MoMatrix, In: 1, Rows: [3][]api.Frac{zeros, fracs0("-256129 0"), zeros}}, api.ErrBig},
	} {
		if got, e := Element(x.m); !element.Same(got, api.Element{}) || e != x.e {
			t.Errorf("Element %d: %v, %d", i, got, e)
		}
	}
	if x, e := Element(api.Model{Kind: api.MoMatrix, In: 1, Rows: [3][]api.Frac{fracs0("0 100000"), zeros, zeros}}); e != api.OK || x.Rows[0][0] != 1000000000 {
		t.Errorf("Element: %v, %d", x, e)
	}
	if x, e := Element(api.Model{Kind: api.MoMatrix, In: 1, Rows: [3][]api.Frac{fracs0("0 -100000"), zeros, zeros}}); e != api.OK || x.Rows[0][0] != -1000000000 {
		t.Errorf("Element: %v, %d", x, e)
	}
}

func someList(r *rand.Rand, n, channels int) []api.Patch {
	var l []api.Patch
	for i := range n {
		q := p(i, [3]int{r.Intn(10001), r.Intn(20001) - 10000, r.Intn(20001) - 10000})
		for range channels {
			q.Device = append(q.Device, 500*r.Intn(21))
		}
		l = append(l, q)
	}
	return l
}

// P32.2, P32.5
func TestLaws(t *testing.T) {
	r := rand.New(rand.NewSource(1))
	fitted := 0
	for range 60 {
		channels := 1 + r.Intn(3)
		l := someList(r, 8+r.Intn(8), channels)
		var weights []int
		for range l {
			weights = append(weights, 1+r.Intn(3))
		}
		var costs []*big.Rat
		for kind := api.MoMatrix; kind <= api.MoProducts; kind++ {
			m, e := Fit(l, kind, weights)
			if e == api.ErrZero {
				continue
			}
			if e != api.OK || Check(m) != api.OK {
				t.Fatalf("Fit(%v, %d): %v, %d", l, kind, m, e)
			}
			fitted++
			residuals, e := Residuals(m, l)
			squares, e2 := Squares(m, l)
			if e != api.OK || e2 != api.OK {
				t.Fatalf("Residuals: %d, %d", e, e2)
			}
			cost := new(big.Rat)
			for row := range 3 {
				sum := new(big.Rat)
				for i := range l {
					sum.Add(sum, new(big.Rat).Mul(big.NewRat(int64(weights[i]), 1), value(residuals[i][row])))
				}
				if sum.Sign() != 0 {
					t.Fatalf("the residuals of %v add up to %s", m, sum)
				}
			}
			for i, s := range squares {
				cost.Add(cost, new(big.Rat).Mul(big.NewRat(int64(weights[i]), 1), value(s)))
			}
			costs = append(costs, cost)
			if len(costs) > 1 && kind != api.MoMatrix && cost.Cmp(costs[0]) > 0 {
				t.Fatalf("more terms, but a greater cost: %v", costs)
			}
			checkLeast(t, r, l, m, weights, cost)
		}
	}
	if fitted < 100 {
		t.Errorf("only %d models", fitted)
	}
}

// checkLeast checks the cost of a model against another computation, and against that of a model beside it.
func checkLeast(t *testing.T, r *rand.Rand, l []api.Patch, m api.Model, weights []int, cost *big.Rat) {
	measured := func(m api.Model) *big.Rat {
		out := new(big.Rat)
		for row := range 3 {
			var a [][]api.Frac
			var b, w []api.Frac
			for i, q := range l {
				terms, _ := Terms(m.Kind, q.Device)
				a = append(a, terms)
				target, _ := frac.Of(q.Lab[row], 100)
				weight, _ := frac.Of(weights[i], 1)
				b, w = append(b, target), append(w, weight)
			}
			s, e := least.Measure(a, b, w, m.Rows[row])
			if e != api.OK {
				t.Fatal(e)
			}
			out.Add(out, value(s))
		}
		return out
	}
	if got := measured(m); got.Cmp(cost) != 0 {
		t.Fatalf("the cost of %v is %s, not %s", m, got, cost)
	}
	row := r.Intn(3)
	m.Rows[row] = slices.Clone(m.Rows[row])
	m.Rows[row][0], _ = frac.Add(m.Rows[row][0], fr("1/100"))
	if measured(m).Cmp(cost) <= 0 {
		t.Fatalf("%v is not the least", m)
	}
}

// P32.5: patches that a model of the kind describes exactly are fitted by it.
func TestExact(t *testing.T) {
	m := api.Model{Kind: api.MoProducts, In: 2, Rows: [3][]api.Frac{fracs0("10 20 30 5"), fracs0("-10 4 8 0"), fracs0("0 0 0 16")}}
	var l []api.Patch
	for i := range 9 {
		q := p(i, [3]int{}, 5000*(i%3), 5000*(i/3))
		v, _ := Apply(m, q.Device)
		for k := range v {
			q.Lab[k], _ = frac.Near(v[k], 100)
		}
		l = append(l, q)
	}
	if got, e := Fit(l, api.MoProducts, []int{1, 1, 1, 1, 1, 1, 1, 1, 1}); !sameModel(got, m) || e != api.OK {
		t.Errorf("Fit: %v, %d", got, e)
	}
}
