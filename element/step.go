package element

import (
	"verdigris/api"
	"verdigris/band"
	"verdigris/curve"
	"verdigris/frac"
	"verdigris/must"
	"verdigris/program"
	"verdigris/simplex"
)

// step is a valid element.
type step struct {
	api.Element
}

func (s step) ins() int {
	switch s.Kind {
	case api.ElCurves:
		return len(s.Curves)
	case api.ElMatrix:
		return len(s.Rows[0])
	case api.ElGrid:
		return len(s.Grid.Size)
	}
	return s.In
}

func (s step) outs() int {
	switch s.Kind {
	case api.ElCurves:
		return len(s.Curves)
	case api.ElMatrix:
		return len(s.Rows)
	case api.ElGrid:
		return s.Grid.Out
	}
	return s.Out
}

// mapped returns the results of a closure for the elements of a list, up to the first error.
func mapped[A, B any](l []A, f func(i int, a A) (B, api.Errno)) []B {
	out := make([]B, 0, len(l))
	var failed api.Errno
mapping:
	for i, a := range l {
		b, e := f(i, a)
		if e != api.OK {
			failed = e
			break mapping
		}
		out = append(out, b)
	}
	must.Pass(failed)
	return out
}

// sum returns the sum of terms, from the left; each term is computed just before it is added.
func sum[T any](add func(a, b T) (T, api.Errno), first T, terms ...func() T) T {
	for _, term := range terms {
		first = must.Get(add(first, term()))
	}
	return first
}

func micro(n int) api.Frac {
	return must.Get(frac.Of(n, api.Micro))
}

func microBand(n int) api.Band {
	return must.Get(band.Around(micro(n)))
}

func (s step) curves(in []api.Frac) []api.Frac {
	return mapped(s.Curves, func(i int, c api.Curve) (api.Frac, api.Errno) { return curve.Eval(c, in[i]) })
}

func (s step) curvesOn(in []api.Band) []api.Band {
	return mapped(s.Curves, func(i int, c api.Curve) (api.Band, api.Errno) { return curve.Bands(c, in[i]) })
}

func (s step) matrix(in []api.Frac) []api.Frac {
	return multiplied(s, in, micro, frac.Mul, frac.Add)
}

func (s step) matrixOn(in []api.Band) []api.Band {
	return multiplied(s, in, microBand, band.Mul, band.Add)
}

// multiplied returns what a matrix makes of numbers of one kind.
func multiplied[T any](s step, in []T, number func(n int) T, mul, add func(a, b T) (T, api.Errno)) []T {
	return mapped(s.Rows, func(i int, row []int) (T, api.Errno) {
		terms := mapped(row, func(j int, n int) (func() T, api.Errno) {
			return func() T { return must.Get(mul(number(n), in[j])) }, api.OK
		})
		return sum(add, number(s.Offset[i]), terms...), api.OK
	})
}

func (s step) grid(in []api.Frac) []api.Frac {
	return must.Get(simplex.Eval(s.Grid, in))
}

func (s step) gridOn(in []api.Band) []api.Band {
	return must.Get(simplex.Bands(s.Grid, in))
}

func (s step) program(in []api.Frac) []api.Frac {
	return must.Get(program.Run(s.Program, in, s.Out))
}

func (s step) programOn(in []api.Band) []api.Band {
	return must.Get(program.Bands(s.Program, in, s.Out))
}
