package simplex

import (
	"iter"
	"slices"

	"verdigris/api"
	"verdigris/band"
	"verdigris/frac"
	"verdigris/must"
)

// number returns n / d.
func number(n, d int) api.Frac {
	return must.Get(frac.Of(n, d))
}

func around(a api.Frac) api.Band {
	return must.Get(band.Around(a))
}

// total returns the sum of some fractions, from the left.
func total(first api.Frac, others ...api.Frac) api.Frac {
	for _, a := range others {
		first = must.Get(frac.Add(first, a))
	}
	return first
}

// list returns the elements 0 to n - 1.
func list[T any](n int, element func(i int) T) []T {
	var out []T
	for i := range n {
		out = append(out, element(i))
	}
	return out
}

// position is an index of a point, with zeros for the inputs that the grid does not have.
type position [api.MaxChannels]int

// cell is the cell of a color in a grid.
type cell struct {
	api.Grid
	base    position
	order   []int
	weights []api.Frac
}

// newCell finds the cell of a color, which has a valid fraction for each input.
func newCell(g api.Grid, x []api.Frac) cell {
	c := cell{Grid: g}
	zero, one := number(0, 1), number(1, 1)
	rests := list(len(x), func(i int) api.Frac {
		last := g.Size[i] - 1
		p := must.Get(frac.Mul(must.Get(frac.Clamp(x[i], zero, one)), number(last, 1)))
		c.base[i] = min(floor(p), last-1)
		return must.Get(frac.Sub(p, number(c.base[i], 1)))
	})
	c.order = list(len(x), func(i int) int { return i })
	slices.SortStableFunc(c.order, func(a, b int) int {
		return must.Get(frac.Cmp(rests[b], rests[a]))
	})
	before := one
	for _, in := range c.order {
		c.weights = append(c.weights, must.Get(frac.Sub(before, rests[in])))
		before = rests[in]
	}
	c.weights = append(c.weights, before)
	return c
}

// floor returns the greatest integer that is at most a.
func floor(a api.Frac) int {
	return must.Get(frac.Near(api.Frac{N: must.Get(frac.Floor(a)), D: "1"}, 1))
}

// corners yields the corners with their weights.
func (c cell) corners() iter.Seq2[position, api.Frac] {
	return func(yield func(position, api.Frac) bool) {
		at := c.base
	yielding:
		for i, weight := range c.weights {
			if i > 0 {
				at[c.order[i-1]]++
			}
			if !yield(at, weight) {
				break yielding
			}
		}
	}
}

// entry returns the value of an output at a position.
func (c cell) entry(at position, out int) int {
	p := 0
	for i, n := range c.Size {
		p = p*n + at[i]
	}
	return c.Data[p*c.Out+out]
}

// value returns the value of the grid at the color of the cell.
func (c cell) value() []api.Frac {
	look := c.entry
	return list(c.Out, func(out int) api.Frac {
		var products []api.Frac
		for at, weight := range c.corners() {
			products = append(products, must.Get(frac.Mul(weight, number(look(at, out), 1))))
		}
		return must.Get(frac.Div(total(products[0], products[1:]...), number(api.Full, 1)))
	})
}
