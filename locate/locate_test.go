package locate

import (
	"math/big"
	"math/rand"
	"slices"
	"strings"
	"testing"

	"verdigris/api"
	"verdigris/frac"
	"verdigris/simplex"
)

func fr(text string) api.Frac {
	x, ok := new(big.Rat).SetString(text)
	if !ok {
		panic(text)
	}
	return api.Frac{N: api.Whole(x.Num().String()), D: api.Whole(x.Denom().String())}
}

func fracs(text string) []api.Frac {
	var l []api.Frac
	for _, word := range strings.Fields(text) {
		l = append(l, fr(word))
	}
	return l
}

// gridOf has the values of a function of the indices.
func gridOf(size []int, f func(i, j, k int) [3]int) api.Grid {
	g := api.Grid{Size: size, Out: 3}
	for i := range size[0] {
		for j := range size[1] {
			for k := range size[2] {
				v := f(i, j, k)
				g.Data = append(g.Data, v[:]...)
			}
		}
	}
	return g
}

var (
	example = gridOf([]int{2, 2, 2}, func(i, j, k int) [3]int { return [3]int{65535 * i, 65535 * j, 65535 * k} })
	flat    = gridOf([]int{2, 2, 2}, func(i, j, k int) [3]int { return [3]int{7, 7, 7} })
)

// P22.1, P22.2
func TestExamples(t *testing.T) {
	for i, x := range []struct {
		g      api.Grid
		target []int
		x      string
		at     int
		e      api.Errno
		holds  int
	}{
		{example, []int{13107, 26214, 39321}, "1/5 2/5 3/5", 5, api.OK, 1},
		{example, []int{39321, 26214, 13107}, "3/5 2/5 1/5", 0, api.OK, 1},
		{example, []int{26214, 39321, 13107}, "2/5 3/5 1/5", 2, api.OK, 1},
		{example, []int{39321, 13107, 26214}, "3/5 1/5 2/5", 1, api.OK, 1},
		{example, []int{13107, 39321, 26214}, "1/5 3/5 2/5", 3, api.OK, 1},
		{example, []int{26214, 13107, 39321}, "2/5 1/5 3/5", 4, api.OK, 1},
		{example, []int{0, 0, 0}, "0 0 0", 0, api.OK, 6},
		{example, []int{65535, 65535, 65535}, "1 1 1", 0, api.OK, 6},
		{example, []int{65535, 1, 0}, "1 1/65535 0", 0, api.OK, 1},
		{flat, []int{7, 7, 7}, "", 0, api.ErrNone, 0},
		{flat, []int{8, 7, 7}, "", 0, api.ErrNone, 0},
	} {
		got, at, e := Locate(x.g, x.target)
		if !slices.Equal(got, fracs(x.x)) || at != x.at || e != x.e {
			t.Errorf("Locate %d: %v, %d, %d", i, got, at, e)
		}
		if n, e := Holds(x.g, x.target); n != x.holds || e != api.OK {
			t.Errorf("Holds %d: %d, %d", i, n, e)
		}
	}
}

// P22.1, P22.2
func TestErrors(t *testing.T) {
	two := api.Grid{Size: []int{2, 2}, Out: 3, Data: make([]int, 12)}
	four := api.Grid{Size: []int{2, 2, 2}, Out: 4, Data: make([]int, 32)}
	for i, x := range []struct {
		g      api.Grid
		target []int
		e      api.Errno
	}{
		{api.Grid{}, nil, api.ErrGrid}, {two, []int{0, 0, 0}, api.ErrArg}, {four, []int{0, 0, 0}, api.ErrArg}, {example, nil, api.ErrArg}, {example, []int{0, 0}, api.ErrArg}, {example, []int{0, 0, 0, 0}, api.ErrArg},
		{example, []int{0, 0, 65536}, api.ErrArg}, {example, []int{-1, 0, 0}, api.ErrArg},
	} {
		if got, at, e := Locate(x.g, x.target); got != nil || at != 0 || e != x.e {
			t.Errorf("Locate %d: %v, %d, %d", i, got, at, e)
		}
		if n, e := Holds(x.g, x.target); n != 0 || e != x.e {
			t.Errorf("Holds %d: %d, %d", i, n, e)
		}
	}
}

// P22.3: the value at the inputs is the target.
func TestSome(t *testing.T) {
	r := rand.New(rand.NewSource(1))
	found := 0
	for range 300 {
		g := gridOf([]int{2 + r.Intn(3), 2 + r.Intn(3), 2 + r.Intn(3)}, func(i, j, k int) [3]int {
			return [3]int{16000*i + r.Intn(9000), 16000*j + r.Intn(9000), 16000*k + r.Intn(9000)}
		})
		target := []int{r.Intn(40000), r.Intn(40000), r.Intn(40000)}
		x, at, e := Locate(g, target)
		n, e2 := Holds(g, target)
		if e == api.ErrNone && n == 0 && e2 == api.OK {
			continue
		}
		found++
		value, e3 := simplex.Eval(g, x)
		for i, v := range value {
			if want, _ := frac.Of(target[i], api.Full); v != want || e != api.OK || e2 != api.OK || e3 != api.OK || n < 1 {
				t.Fatalf("Locate(%v, %v): %v, %d, %d; %d; %v", g, target, x, at, e, n, value)
			}
		}
		base, order, _, _ := simplex.Cell(g, x)
		cell := (base[0]*(g.Size[1]-1)+base[1])*(g.Size[2]-1) + base[2]
		if at/6 > cell || at/6 == cell && at%6 > orderNumber(order) {
			t.Fatalf("Locate(%v, %v): %v, %d, but cell %d, order %v", g, target, x, at, cell, order)
		}
	}
	if found < 100 {
		t.Errorf("only %d found", found)
	}
}

// orderNumber returns the place of an order in the order of orders.
func orderNumber(order []int) int {
	l := [][]int{{0, 1, 2}, {0, 2, 1}, {1, 0, 2}, {1, 2, 0}, {2, 0, 1}, {2, 1, 0}}
	return slices.IndexFunc(l, func(o []int) bool { return slices.Equal(o, order) })
}

// P22.3: every target of a linear function that can be inverted is found.
func TestLinear(t *testing.T) {
	g := gridOf([]int{5, 4, 3}, func(i, j, k int) [3]int {
		return [3]int{1000*i + 300*j + 60*k, 20000 - 700*j + 30*i, 500 + 900*k - 10*i}
	})
	for n := range 60 {
		i, j, k := n/12, n/3%4, n%3
		target := []int{1000*i + 300*j + 60*k, 20000 - 700*j + 30*i, 500 + 900*k - 10*i}
		x, _, e := Locate(g, target)
		for d, want := range [][2]int{{i, 4}, {j, 3}, {k, 2}} {
			if w, _ := frac.Of(want[0], want[1]); e != api.OK || x[d] != w {
				t.Fatalf("Locate(%v): %v, %d", target, x, e)
			}
		}
	}
	middle := []int{1500 + 150 + 30, 20000 - 350 + 45, 500 + 450 - 15}
	if x, _, e := Locate(g, middle); !slices.Equal(x, fracs("3/8 1/6 1/4")) || e != api.OK {
		t.Errorf("Locate(%v): %v, %d", middle, x, e)
	}
	if x, at, e := Locate(g, []int{65535, 0, 0}); x != nil || at != 0 || e != api.ErrNone {
		t.Errorf("Locate: %v, %d, %d", x, at, e)
	}
}
