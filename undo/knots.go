package undo

import (
	"iter"
	"slices"

	"verdigris/api"
	"verdigris/curve"
	"verdigris/frac"
	"verdigris/must"
	"verdigris/slope"
)

// knot is a point at which a polyline may bend.
type knot struct{ x, y api.Frac }

func fraction(n, d int) api.Frac {
	return must.Get(frac.Of(n, d))
}

func order(a, b api.Frac) int {
	return must.Get(frac.Cmp(a, b))
}

// isPolyline reports whether a valid curve is a polyline. An exact curve has a slope, unless it jumps.
func isPolyline(c api.Curve) bool {
	for _, s := range c.Segments {
		if s.Num != 1 || s.Den != 1 {
			return false
		}
	}
	alone := api.Element{Kind: api.ElCurves, Curves: []api.Curve{c}}
	_, e := slope.Slope(api.Chain{In: 1, Elements: []api.Element{alone}})
	return e == api.OK
}

// sorted returns the elements of a list in order, each one once.
func sorted[T comparable](l []T, compare func(a, b T) int) []T {
	out := slices.Clone(l)
	slices.SortFunc(out, compare)
	return slices.Compact(out)
}

// knots returns the knots of a polyline.
func knots(c api.Curve) []knot {
	x := []api.Frac{fraction(0, 1), fraction(1, 1)}
	for i := range c.Table {
		x = append(x, fraction(i, len(c.Table)-1))
	}
	from := 0
	for _, s := range c.Segments {
		x = append(x, fraction(s.Till, api.Micro))
		x = append(x, bends(s, from)...)
		from = s.Till
	}
	var out []knot
	for _, a := range sorted(x, func(a, b api.Frac) int { return order(a, b) }) {
		out = append(out, knot{a, must.Get(curve.Eval(c, a))})
	}
	return out
}

// bends returns the numbers strictly between the ends of a segment at which its formula may bend.
func bends(s api.Segment, from int) []api.Frac {
	if s.Mul == 0 {
		return nil
	}
	var out []api.Frac
	for _, inner := range [...]int{0, -s.Off, api.Micro - s.Off} {
		x := fraction(inner-s.Add, s.Mul)
		if order(x, fraction(from, api.Micro)) > 0 && order(x, fraction(s.Till, api.Micro)) < 0 {
			out = append(out, x)
		}
	}
	return out
}

// pieces yields all pairs of neighbouring knots, from the left.
func pieces(c api.Curve) iter.Seq2[knot, knot] {
	return func(yield func(knot, knot) bool) {
		l := knots(c)
		for i := range l[1:] {
			if !yield(l[i], l[i+1]) {
				return
			}
		}
	}
}

// preimage returns the least and the greatest x at which a polyline has the value y.
func preimage(c api.Curve, y api.Frac) [2]api.Frac {
	var found []api.Frac
	for a, b := range pieces(c) {
		switch {
		case a.y == b.y && a.y == y:
			found = append(found, a.x, b.x)
		case a.y != b.y && order(a.y, y)*order(b.y, y) <= 0:
			found = append(found, between(a, b, y))
		}
	}
	must.Hold(len(found) > 0, api.ErrNone)
	found = sorted(found, func(a, b api.Frac) int { return order(a, b) })
	return [2]api.Frac{found[0], found[len(found)-1]}
}

// between returns the x between two knots of different values at which the value is y.
func between(a, b knot, y api.Frac) api.Frac {
	share := must.Get(frac.Div(must.Get(frac.Sub(y, a.y)), must.Get(frac.Sub(b.y, a.y))))
	return must.Get(frac.Add(a.x, must.Get(frac.Mul(share, must.Get(frac.Sub(b.x, a.x))))))
}
