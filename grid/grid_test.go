package grid

import (
	"math/rand"
	"slices"
	"testing"

	"verdigris/api"
)

var example = api.Grid{Size: []int{2, 3}, Out: 2, Data: []int{0, 1, 2, 3, 4, 5, 6, 7, 8, 9, 10, 11}}

func with(change func(g *api.Grid)) api.Grid {
	g := api.Grid{Size: slices.Clone(example.Size), Out: example.Out, Data: slices.Clone(example.Data)}
	change(&g)
	return g
}

var invalid = []api.Grid{
	{},
	with(func(g *api.Grid) { g.Data = g.Data[:11] }),
	with(func(g *api.Grid) { g.Data = append(g.Data, 0) }),
	with(func(g *api.Grid) { g.Data[3] = 65536 }),
	with(func(g *api.Grid) { g.Data[3] = -1 }),
	with(func(g *api.Grid) { g.Out = 0 }),
	with(func(g *api.Grid) { g.Out = -2 }),
	with(func(g *api.Grid) { g.Out = 5 }),
	with(func(g *api.Grid) { g.Out = 1 }),
	with(func(g *api.Grid) { g.Size = nil }),
	{Size: []int{1}, Out: 1, Data: []int{0}},
	{Size: []int{10}, Out: 1, Data: make([]int, 10)},
	{Size: []int{2, 2, 2, 2, 2}, Out: 1, Data: make([]int, 32)},
	{Size: []int{9, 9, 9, 9}, Out: 1, Data: make([]int, 6561)},
	{Size: []int{-1 << 62, 4}, Out: 1},
	{Size: []int{2}, Out: 5, Data: make([]int, 10)},
}

// P10.1
func TestCheckAndSame(t *testing.T) {
	for i, g := range invalid {
		if e := Check(g); e != api.ErrGrid {
			t.Errorf("Check of %d: %d", i, e)
		}
	}
	for i, g := range []api.Grid{example, {Size: []int{9, 9, 9}, Out: 4, Data: make([]int, 2916)}, {Size: []int{8, 8, 8, 8}, Out: 1, Data: make([]int, 4096)}, {Size: []int{2}, Out: 1, Data: []int{0, 65535}}} {
		if e := Check(g); e != api.OK {
			t.Errorf("Check of %d: %d", i, e)
		}
	}
	if !Same(example, with(func(*api.Grid) {})) || !Same(api.Grid{Size: []int{}}, api.Grid{Data: []int{}}) || !Same(invalid[3], invalid[3]) {
		t.Error("Same is false")
	}
	for i, g := range invalid {
		if Same(g, example) || Same(example, g) {
			t.Errorf("Same with %d", i)
		}
	}
	if Same(example, with(func(g *api.Grid) { g.Size = []int{3, 2} })) {
		t.Error("Same with other sizes")
	}
}

// P10.2 to P10.4
func TestErrors(t *testing.T) {
	for i, g := range invalid {
		if n, e := Place(g, nil); n != 0 || e != api.ErrGrid {
			t.Errorf("Place of %d: %d, %d", i, n, e)
		}
		if l, e := At(g, nil); l != nil || e != api.ErrGrid {
			t.Errorf("At of %d: %v, %d", i, l, e)
		}
		if low, high, e := Range(g); low != nil || high != nil || e != api.ErrGrid {
			t.Errorf("Range of %d: %v, %v, %d", i, low, high, e)
		}
		if h, e := Swap(g, -1, 0); !Same(h, api.Grid{}) || e != api.ErrGrid {
			t.Errorf("Swap of %d: %v, %d", i, h, e)
		}
		if h, e := Pick(g, nil); !Same(h, api.Grid{}) || e != api.ErrGrid {
			t.Errorf("Pick of %d: %v, %d", i, h, e)
		}
	}
	for _, index := range [][]int{nil, {0}, {0, 0, 0}, {2, 0}, {0, 3}, {-1, 0}, {0, -1}, {1 << 62, 0}} {
		if n, e := Place(example, index); n != 0 || e != api.ErrArg {
			t.Errorf("Place(%v): %d, %d", index, n, e)
		}
		if l, e := At(example, index); l != nil || e != api.ErrArg {
			t.Errorf("At(%v): %v, %d", index, l, e)
		}
	}
	for _, x := range [][2]int{{0, 2}, {2, 0}, {-1, 0}, {0, -1}} {
		if h, e := Swap(example, x[0], x[1]); !Same(h, api.Grid{}) || e != api.ErrArg {
			t.Errorf("Swap(%v): %v, %d", x, h, e)
		}
	}
	for _, outs := range [][]int{nil, {2}, {-1}, {0, 2}, {0, 0, 0, 0, 0}} {
		if h, e := Pick(example, outs); !Same(h, api.Grid{}) || e != api.ErrArg {
			t.Errorf("Pick(%v): %v, %d", outs, h, e)
		}
	}
	full := api.Grid{Size: []int{8, 8, 8, 8}, Out: 1, Data: make([]int, 4096)}
	if h, e := Pick(full, []int{0, 0}); !Same(h, api.Grid{}) || e != api.ErrLong {
		t.Errorf("Pick: %v, %d", h, e)
	}
	if h, e := Pick(example, []int{0, 1, 1, 0}); h.Out != 4 || len(h.Data) != 24 || e != api.OK {
		t.Errorf("Pick: %v, %d", h, e)
	}
	if h, e := Pick(full, []int{0}); !Same(h, full) || e != api.OK {
		t.Errorf("Pick: %v, %d", h, e)
	}
}

func TestExamples(t *testing.T) {
	if n, e := Place(example, []int{1, 2}); n != 10 || e != api.OK {
		t.Errorf("Place: %d, %d", n, e)
	}
	if l, e := At(example, []int{1, 2}); !slices.Equal(l, []int{10, 11}) || e != api.OK {
		t.Errorf("At: %v, %d", l, e)
	}
	if l, e := At(example, []int{0, 1}); !slices.Equal(l, []int{2, 3}) || e != api.OK {
		t.Errorf("At: %v, %d", l, e)
	}
	if low, high, e := Range(example); !slices.Equal(low, []int{0, 1}) || !slices.Equal(high, []int{10, 11}) || e != api.OK {
		t.Errorf("Range: %v, %v, %d", low, high, e)
	}
	if g, e := Swap(example, 0, 1); !Same(g, api.Grid{Size: []int{3, 2}, Out: 2, Data: []int{0, 1, 6, 7, 2, 3, 8, 9, 4, 5, 10, 11}}) || e != api.OK {
		t.Errorf("Swap: %v, %d", g, e)
	}
	if g, e := Pick(example, []int{1}); !Same(g, api.Grid{Size: []int{2, 3}, Out: 1, Data: []int{1, 3, 5, 7, 9, 11}}) || e != api.OK {
		t.Errorf("Pick: %v, %d", g, e)
	}
	if g, e := Pick(example, []int{1, 0, 1}); !Same(g, api.Grid{Size: []int{2, 3}, Out: 3, Data: []int{1, 0, 1, 3, 2, 3, 5, 4, 5, 7, 6, 7, 9, 8, 9, 11, 10, 11}}) || e != api.OK {
		t.Errorf("Pick: %v, %d", g, e)
	}
}

func some(r *rand.Rand) api.Grid {
	g := api.Grid{Out: 1 + r.Intn(4)}
	n := g.Out
	for range 1 + r.Intn(4) {
		size := 2 + r.Intn(4)
		g.Size = append(g.Size, size)
		n *= size
	}
	for range n {
		g.Data = append(g.Data, r.Intn(65536))
	}
	return g
}

// P10.2 to P10.5
func TestLaws(t *testing.T) {
	r := rand.New(rand.NewSource(1))
	for range 300 {
		g := some(r)
		a, b := r.Intn(len(g.Size)), r.Intn(len(g.Size))
		swapped, e := Swap(g, a, b)
		if e != api.OK || Check(swapped) != api.OK {
			t.Fatalf("Swap(%v, %d, %d): %v, %d", g, a, b, swapped, e)
		}
		if again, _ := Swap(swapped, b, a); !Same(again, g) {
			t.Fatalf("Swap twice of %v: %v", g, again)
		}
		low, high, _ := Range(g)
		low2, high2, _ := Range(swapped)
		if !slices.Equal(low, low2) || !slices.Equal(high, high2) {
			t.Fatalf("Range of %v changed", g)
		}
		for out := range g.Out {
			var l []int
			for i, v := range g.Data {
				if i%g.Out == out {
					l = append(l, v)
				}
			}
			if low[out] != slices.Min(l) || high[out] != slices.Max(l) {
				t.Fatalf("Range(%v): %v, %v", g, low, high)
			}
		}
		checkPoints(t, r, g, swapped, a, b)
	}
}

func checkPoints(t *testing.T, r *rand.Rand, g, swapped api.Grid, a, b int) {
	places := map[int]bool{}
	outs := []int{r.Intn(g.Out), r.Intn(g.Out)}
	picked, e := Pick(g, outs)
	if e == api.ErrLong {
		outs = outs[:1]
		picked, e = Pick(g, outs)
	}
	if e != api.OK || Check(picked) != api.OK {
		t.Fatalf("Pick(%v, %v): %v, %d", g, outs, picked, e)
	}
	for n := range len(g.Data) / g.Out {
		index := make([]int, len(g.Size))
		rest := n
		for i := len(index) - 1; i >= 0; i-- {
			index[i], rest = rest%g.Size[i], rest/g.Size[i]
		}
		place, e := Place(g, index)
		if place != n*g.Out || e != api.OK || places[place] {
			t.Fatalf("Place(%v, %v): %d, %d", g, index, place, e)
		}
		places[place] = true
		values, e := At(g, index)
		if !slices.Equal(values, g.Data[place:place+g.Out]) || e != api.OK {
			t.Fatalf("At(%v, %v): %v, %d", g, index, values, e)
		}
		some, _ := At(picked, index)
		for i, out := range outs {
			if some[i] != values[out] {
				t.Fatalf("At(Pick(%v, %v)): %v", g, outs, some)
			}
		}
		index[a], index[b] = index[b], index[a]
		if moved, _ := At(swapped, index); !slices.Equal(moved, values) {
			t.Fatalf("At(Swap(%v, %d, %d)): %v", g, a, b, moved)
		}
		values[0] = -1
	}
	if Check(g) != api.OK {
		t.Fatal("At shares memory with the grid")
	}
}
