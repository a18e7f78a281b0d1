package trip

import (
	"iter"

	"verdigris/api"
	"verdigris/chain"
	"verdigris/cross"
	"verdigris/frac"
	"verdigris/must"
)

// lattice yields the colours of the lattice of n inputs, the last element running fastest.
func lattice(n, steps int) iter.Seq[[]api.Frac] {
	points := 1
	for range n {
		points *= steps
	}
	return func(yield func([]api.Frac) bool) {
		for p := range points {
			x := make([]api.Frac, n)
			rest := p
			for i := n - 1; i >= 0; i-- {
				x[i] = fraction(rest%steps, steps-1)
				rest /= steps
			}
			if !yield(x) {
				return
			}
		}
	}
}

// sown yields so many colours of a valid seed, which becomes the next one each time.
func sown(n, count int, seed *int) iter.Seq[[]api.Frac] {
	return func(yield func([]api.Frac) bool) {
		for range count {
			x := make([]api.Frac, n)
			for i := range x {
				value, next, e := cross.Draw(*seed, thousandths+1)
				must.Pass(e)
				x[i], *seed = fraction(value, thousandths), next
			}
			if !yield(x) {
				return
			}
		}
	}
}

// growing is a trip to which round trips are added.
type growing struct {
	api.Trip
	forward, backward api.Chain
	sum               api.Frac // of the distances
}

// around makes the round trip of a colour, and reports whether it does not fail.
func (g *growing) around(x []api.Frac) (distance api.Frac, ok bool) {
	y, e := chain.Eval(g.forward, x)
	if e != api.OK {
		return api.Frac{}, false
	}
	for i, a := range y {
		y[i] = must.Get(frac.Clamp(a, fraction(0, 1), fraction(1, 1)))
	}
	z, e := chain.Eval(g.backward, y)
	if e != api.OK {
		return api.Frac{}, false
	}
	distance = fraction(0, 1)
	for i, a := range z {
		away := must.Get(frac.Abs(must.Get(frac.Sub(a, x[i]))))
		distance = must.Get(frac.Max(distance, away))
	}
	return distance, true
}

// add adds the distance of a colour.
func (g *growing) add(x []api.Frac, distance api.Frac) {
	if len(g.At) == 0 || compare(distance, g.Greatest) > 0 {
		g.Greatest, g.At = distance, x
	}
	g.sum = must.Get(frac.Add(g.sum, distance))
}

// taken returns the trip of some colours.
func taken(forward, backward api.Chain, colours iter.Seq[[]api.Frac]) api.Trip {
	g := &growing{forward: forward, backward: backward, sum: fraction(0, 1)}
	g.Greatest, g.Mean = fraction(0, 1), fraction(0, 1)
	travel := g.around
travelling:
	for x := range colours {
		g.Points++
		distance, ok := travel(x)
		if !ok {
			g.Failed++
			continue travelling
		}
		g.add(x, distance)
	}
	if whole := g.Points - g.Failed; whole > 0 {
		g.Mean = must.Get(frac.Div(g.sum, fraction(whole, 1)))
	}
	return g.Trip
}
