package fit

import (
	"verdigris/api"
	"verdigris/digits"
	"verdigris/must"
	"verdigris/ratio"
)

// kinds are the terms of the kinds of models, for the values of a device.
func kinds() map[int]func(d []ratio.Ratio) []ratio.Ratio {
	one := ratio.Int(1)
	matrix := func(d []ratio.Ratio) []ratio.Ratio {
		return append([]ratio.Ratio{one}, d...)
	}
	return map[int]func(d []ratio.Ratio) []ratio.Ratio{
		api.MoMatrix: matrix,
		api.MoSquares: func(d []ratio.Ratio) []ratio.Ratio {
			out := matrix(d)
			for _, a := range d {
				out = append(out, a.Times(a))
			}
			return out
		},
		api.MoProducts: func(d []ratio.Ratio) []ratio.Ratio {
			out := []ratio.Ratio{one}
			for _, a := range d { // each value doubles the products: those without it, and those with it
				for _, product := range out[:len(out):len(out)] {
					out = append(out, product.Times(a))
				}
			}
			return out
		},
	}
}

func isKind(kind int) bool {
	_, ok := kinds()[kind]
	return ok
}

// terms returns the terms of a valid kind.
func terms(kind int, device []int) []ratio.Ratio {
	d := make([]ratio.Ratio, len(device))
	for i, n := range device {
		d[i] = fraction(n, deviceUnit)
	}
	return kinds()[kind](d)
}

func fraction(n, d int) ratio.Ratio {
	return ratio.Of(digits.OfInt(n), digits.Of(uint64(d)))
}

// fracs returns numbers as fractions, or ends the computation.
func fracs(l []ratio.Ratio) []api.Frac {
	out := make([]api.Frac, len(l))
	for i, a := range l {
		out[i] = must.Get(a.Frac())
	}
	return out
}

// sum returns the sum of n terms.
func sum[T any](n int, start T, plus func(a, b T) T, term func(i int) T) T {
	for i := range n {
		start = plus(start, term(i))
	}
	return start
}

// list is a valid list of patches.
type list []api.Patch

// column returns one of the numbers of the Labs of all patches.
func (l list) column(i int) []api.Frac {
	out := make([]ratio.Ratio, len(l))
	for k, p := range l {
		out[k] = fraction(p.Lab[i], labUnit)
	}
	return fracs(out)
}

// model is a valid model, whose numbers have any length, so that only results can be too long.
type model struct {
	kind int
	rows [3][]ratio.Ratio
}

func newModel(m api.Model) model {
	out := model{kind: m.Kind}
	for i, row := range m.Rows {
		for _, a := range row {
			number, _ := ratio.Read(a)
			out.rows[i] = append(out.rows[i], number)
		}
	}
	return out
}

// value returns the model's value for a device.
func (m model) value(device []int) []ratio.Ratio {
	l := terms(m.kind, device)
	out := make([]ratio.Ratio, len(m.rows))
	for i, row := range m.rows {
		out[i] = sum(len(l), ratio.Int(0), ratio.Ratio.Plus, func(k int) ratio.Ratio { return row[k].Times(l[k]) })
	}
	return out
}

// residuals returns the differences of the values for all patches and their Labs.
func (m model) residuals(l []api.Patch) [][3]ratio.Ratio {
	out := make([][3]ratio.Ratio, len(l))
	for k, p := range l {
		for i, a := range m.value(p.Device) {
			out[k][i] = a.Less(fraction(p.Lab[i], labUnit))
		}
	}
	return out
}

// squares returns the sums of the squares of the residuals of each patch.
func (m model) squares(l []api.Patch) []ratio.Ratio {
	var out []ratio.Ratio
	for _, r := range m.residuals(l) {
		out = append(out, sum(len(r), ratio.Int(0), ratio.Ratio.Plus, func(i int) ratio.Ratio { return r[i].Times(r[i]) }))
	}
	return out
}

// element returns the matrix of a model whose terms are 1 and the values of the device.
func (m model) element() api.Element {
	out := api.Element{Kind: api.ElMatrix}
	for i, row := range m.rows {
		shift, wide := 128, 256
		if i == 0 {
			shift, wide = 0, 100
		}
		unit := fraction(1, wide)
		out.Offset = append(out.Offset, entry(row[0].Plus(ratio.Int(shift)).Times(unit)))
		var numbers []int
		for _, a := range row[1:] {
			numbers = append(numbers, entry(a.Times(unit)))
		}
		out.Rows = append(out.Rows, numbers)
	}
	return out
}

// entry returns the nearest number of a matrix, or ends the computation.
func entry(a ratio.Ratio) int {
	n, ok := a.Near(digits.Of(api.Micro)).Int()
	must.Hold(ok && n >= -api.MaxEntry && n <= api.MaxEntry, api.ErrBig)
	return n
}
