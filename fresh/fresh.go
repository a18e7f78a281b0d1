// Package fresh copies values of package api with all that they refer to, so that results share no memory with arguments.
package fresh

import (
	"slices"

	"verdigris/api"
)

// List returns a list of copies.
func List[T any](l []T, one func(T) T) []T {
	out := slices.Clone(l)
	for i, a := range out {
		out[i] = one(a)
	}
	return out
}

// Curve returns a copy of a curve.
func Curve(c api.Curve) api.Curve {
	c.Table = slices.Clone(c.Table)
	c.Segments = slices.Clone(c.Segments)
	return c
}

// Grid returns a copy of a grid.
func Grid(g api.Grid) api.Grid {
	g.Size = slices.Clone(g.Size)
	g.Data = slices.Clone(g.Data)
	return g
}

// Element returns a copy of an element.
func Element(x api.Element) api.Element {
	x.Curves = List(x.Curves, Curve)
	x.Rows = List(x.Rows, slices.Clone[[]int])
	x.Offset = slices.Clone(x.Offset)
	x.Grid = Grid(x.Grid)
	x.Program = slices.Clone(x.Program)
	return x
}

// Chain returns a copy of a chain.
func Chain(c api.Chain) api.Chain {
	c.Elements = List(c.Elements, Element)
	return c
}
