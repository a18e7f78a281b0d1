package robust

import (
	"math/big"
	"math/rand"
	"slices"
	"sort"
	"strconv"
	"strings"
	"testing"

	"verdigris/api"
	"verdigris/fit"
	"verdigris/frac"
)

func fr(text string) api.Frac {
	x, ok := new(big.Rat).SetString(text)
	if !ok {
		panic(text)
	}
	return api.Frac{N: api.Whole(x.Num().String()), D: api.Whole(x.Denom().String())}
}

func fracs(text string) []api.Frac {
	var l []api.Frac
	for _, word := range strings.Fields(text) {
		l = append(l, fr(word))
	}
	return l
}

func p(i int, lab [3]int, device ...int) api.Patch {
	return api.Patch{Name: "p" + strconv.Itoa(i), Device: device, Lab: lab}
}

var (
	example = []api.Patch{p(0, [3]int{}, 0), p(1, [3]int{2500}, 2500), p(2, [3]int{9000}, 5000), p(3, [3]int{7500}, 7500), p(4, [3]int{10000}, 10000)}
	zeros   = fracs("0 0")
	line    = api.Model{Kind: api.MoMatrix, In: 1, Rows: [3][]api.Frac{fracs("0 100"), zeros, zeros}}
)

func sameModel(a, b api.Model) bool {
	return a.Kind == b.Kind && a.In == b.In && slices.Equal(a.Rows[0], b.Rows[0]) && slices.Equal(a.Rows[1], b.Rows[1]) && slices.Equal(a.Rows[2], b.Rows[2])
}

// P33.1
func TestOrderAndBest(t *testing.T) {
	if l, e := Order(fracs("3 1 2 1")); !slices.Equal(l, []int{1, 3, 2, 0}) || e != api.OK {
		t.Errorf("Order: %v, %d", l, e)
	}
	if l, e := Order(nil); len(l) != 0 || e != api.OK {
		t.Errorf("Order: %v, %d", l, e)
	}
	for i, x := range []struct {
		l    []api.Frac
		m    int
		want []int
		e    api.Errno
	}{
		{fracs("3 1 2 1"), 2, []int{1, 3}, api.OK}, {fracs("3 1 2 1"), 3, []int{1, 2, 3}, api.OK}, {fracs("1 3 1 2"), 1, []int{0}, api.OK}, {fracs("3 1"), 0, nil, api.OK}, {nil, 0, nil, api.OK}, {fracs("3 1"), 2, []int{0, 1}, api.OK},
		{fracs("1"), 2, nil, api.ErrArg}, {fracs("1"), -1, nil, api.ErrArg}, {make([]api.Frac, 41), -1, nil, api.ErrLong}, {make([]api.Frac, 40), -1, nil, api.ErrFrac},
	} {
		if got, e := Best(x.l, x.m); !slices.Equal(got, x.want) || e != x.e {
			t.Errorf("Best %d: %v, %d", i, got, e)
		}
	}
	if l, e := Order(make([]api.Frac, 1)); l != nil || e != api.ErrFrac {
		t.Errorf("Order: %v, %d", l, e)
	}
	if l, e := Order(make([]api.Frac, 41)); l != nil || e != api.ErrLong {
		t.Errorf("Order: %v, %d", l, e)
	}
	if l, e := Order([]api.Frac{fr("1"), {N: "2", D: "2"}}); l != nil || e != api.ErrFrac {
		t.Errorf("Order: %v, %d", l, e)
	}
	r := rand.New(rand.NewSource(1))
	for range 100 {
		var l []api.Frac
		for range r.Intn(41) {
			a, _ := frac.Of(r.Intn(21)-10, 1+r.Intn(4))
			l = append(l, a)
		}
		order, e := Order(l)
		for i := 1; i < len(order); i++ {
			c, _ := frac.Cmp(l[order[i-1]], l[order[i]])
			if e != api.OK || c > 0 || c == 0 && order[i-1] >= order[i] {
				t.Fatalf("Order(%v): %v, %d", l, order, e)
			}
		}
		m := r.Intn(len(l) + 1)
		best, _ := Best(l, m)
		first := slices.Clone(order[:m])
		sort.Ints(first)
		if !slices.Equal(best, first) {
			t.Fatalf("Best(%v, %d): %v", l, m, best)
		}
	}
}

// P33.2
func TestCost(t *testing.T) {
	for i, x := range []struct {
		m    api.Model
		l    []api.Patch
		kept []int
		want string
		e    api.Errno
	}{
		{line, example, []int{2}, "1600", api.OK}, {line, example, nil, "0", api.OK}, {line, example, []int{0, 1, 3, 4}, "0", api.OK}, {line, example, []int{0, 1, 2, 3, 4}, "1600", api.OK},
		{line, example, []int{2, 1}, "", api.ErrArg}, {line, example, []int{2, 2}, "", api.ErrArg}, {line, example, []int{5}, "", api.ErrArg}, {line, example, []int{-1}, "", api.ErrArg},
		{api.Model{}, nil, []int{9}, "", api.ErrModel}, {line, nil, []int{9}, "", api.ErrPatch}, {line, []api.Patch{p(0, [3]int{}, 0, 0)}, []int{9}, "", api.ErrForm},
		{api.Model{Kind: api.MoMatrix, In: 1, Rows: [3][]api.Frac{{{N: api.Whole(strings.Repeat("9", 500)), D: "1"}, fr("0")}, zeros, zeros}}, example, nil, "", api.ErrBig},
		{api.Model{Kind: api.MoMatrix, In: 1, Rows: [3][]api.Frac{{{N: api.Whole(strings.Repeat("9", 300)), D: "1"}, fr("0")}, zeros, zeros}}, []api.Patch{p(0, [3]int{}, 0), p(1, [3]int{}, 0)}, []int{0, 1}, "", api.ErrBig},
	} {
		want := api.Frac{}
		if x.e == api.OK {
			want = fr(x.want)
		}
		if got, e := Cost(x.m, x.l, x.kept); got != want || e != x.e {
			t.Errorf("%d: %v, %d", i, got, e)
		}
	}
}

// P33.3
func TestFit(t *testing.T) {
	biased := api.Model{Kind: api.MoMatrix, In: 1, Rows: [3][]api.Frac{fracs("8 100"), zeros, zeros}}
	all := []int{0, 1, 2, 3, 4}
	four := []api.Patch{p(0, [3]int{}, 0, 0, 0, 0)}
	for i, x := range []struct {
		l                  []api.Patch
		kind, drop, passes int
		want               api.Model
		kept               []int
		e                  api.Errno
	}{
		{example, api.MoMatrix, 20, 1, line, []int{0, 1, 3, 4}, api.OK}, {example, api.MoMatrix, 19, 1, biased, all, api.OK}, {example, api.MoMatrix, 20, 0, biased, all, api.OK}, {example, api.MoMatrix, 0, 8, biased, all, api.OK}, {example, api.MoMatrix, 20, 8, line, []int{0, 1, 3, 4}, api.OK}, {example, api.MoMatrix, 39, 2, line, []int{0, 1, 3, 4}, api.OK},
		{nil, 0, 51, 9, api.Model{}, nil, api.ErrPatch}, {example, 0, 20, 1, api.Model{}, nil, api.ErrArg}, {example, 4, 20, 1, api.Model{}, nil, api.ErrArg}, {example, 1, 51, 1, api.Model{}, nil, api.ErrArg}, {example, 1, -1, 1, api.Model{}, nil, api.ErrArg}, {example, 1, 20, -1, api.Model{}, nil, api.ErrArg}, {example, 1, 20, 9, api.Model{}, nil, api.ErrArg},
		{four, api.MoProducts, 0, 0, api.Model{}, nil, api.ErrForm}, {four, api.MoMatrix, 0, 0, api.Model{}, nil, api.ErrZero}, {example[:3], api.MoSquares, 50, 1, api.Model{}, nil, api.ErrZero},
	} {
		m, kept, e := Fit(x.l, x.kind, x.drop, x.passes)
		if !sameModel(m, x.want) || !slices.Equal(kept, x.kept) || e != x.e {
			t.Errorf("%d: %v, %v, %d", i, m, kept, e)
		}
	}
}

// P33.3, P33.4: the definition, pass by pass; the cost does not rise.
func TestPasses(t *testing.T) {
	r := rand.New(rand.NewSource(2))
	tried := 0
	for range 40 {
		var l []api.Patch
		n := 8 + r.Intn(8)
		for i := range n {
			d := r.Intn(10001)
			lab := [3]int{d/2 + r.Intn(500), r.Intn(200), r.Intn(200)}
			if r.Intn(5) == 0 {
				lab[0] = r.Intn(10001)
			}
			l = append(l, p(i, lab, d))
		}
		drop := r.Intn(51)
		weights := make([]int, n)
		for i := range weights {
			weights[i] = 1
		}
		m, e := fit.Fit(l, api.MoMatrix, weights)
		kept, _ := Best(make0(n), n)
		before := api.Frac{}
		for passes := range 5 {
			got, gotKept, e2 := Fit(l, api.MoMatrix, drop, passes)
			if e != e2 || e == api.OK && (!sameModel(got, m) || !slices.Equal(gotKept, kept)) {
				t.Fatalf("Fit(%v, %d, %d): %v, %v, %d; want %v, %v", l, drop, passes, got, gotKept, e2, m, kept)
			}
			if e != api.OK {
				break
			}
			cost, _ := Cost(got, l, gotKept)
			if passes > 1 {
				if rises, _ := frac.Cmp(cost, before); rises > 0 {
					t.Fatalf("the cost rises from %v to %v", before, cost)
				}
			}
			before = cost
			squares, _ := fit.Squares(m, l)
			kept, _ = Best(squares, n-n*drop/100)
			for i := range weights {
				weights[i] = 0
				if slices.Contains(kept, i) {
					weights[i] = 1
				}
			}
			m, e = fit.Fit(l, api.MoMatrix, weights)
			tried++
		}
	}
	if tried < 100 {
		t.Errorf("only %d passes", tried)
	}
}

func make0(n int) []api.Frac {
	l := make([]api.Frac, n)
	for i := range l {
		l[i] = fr("0")
	}
	return l
}
