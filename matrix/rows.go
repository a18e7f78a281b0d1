package matrix

import (
	"iter"

	"verdigris/api"
	"verdigris/ratio"
)

// rows are the rows of a matrix, with numbers of any length, so that only results can be too long.
type rows [][]ratio.Ratio

func read(m api.Mat) rows {
	var out rows
	for _, row := range m {
		out = append(out, readList(row))
	}
	return out
}

// readList returns the numbers of valid fractions.
func readList(l []api.Frac) []ratio.Ratio {
	out := make([]ratio.Ratio, len(l))
	for i, a := range l {
		out[i], _ = ratio.Read(a)
	}
	return out
}

func writeList(l []ratio.Ratio) ([]api.Frac, api.Errno) {
	out := make([]api.Frac, len(l))
	for i, a := range l {
		f, e := a.Frac()
		if e != api.OK {
			return nil, e
		}
		out[i] = f
	}
	return out, api.OK
}

// each yields the rows with their indices.
func (r rows) each() iter.Seq2[int, []ratio.Ratio] {
	return func(yield func(int, []ratio.Ratio) bool) {
		for i, row := range r {
			if !yield(i, row) {
				return
			}
		}
	}
}

// mat returns the rows as texts, or ErrBig.
func (r rows) mat() (api.Mat, api.Errno) {
	var out api.Mat
	for _, row := range r.each() {
		l, e := writeList(row)
		if e != api.OK {
			return nil, e
		}
		out = append(out, l)
	}
	return out, api.OK
}

// diagonal returns n rows with the numbers of a function in the diagonal.
func diagonal(n int, number func(i int) ratio.Ratio) rows {
	out := make(rows, n)
	for i := range out {
		out[i] = make([]ratio.Ratio, n)
		for j := range out[i] {
			out[i][j] = ratio.Int(0)
		}
		out[i][i] = number(i)
	}
	return out
}

func (r rows) transposed() rows {
	out := make(rows, len(r[0]))
	for _, row := range r.each() {
		for j, a := range row {
			out[j] = append(out[j], a)
		}
	}
	return out
}

// apply returns the sums of the products of each row and l.
func (r rows) apply(l []ratio.Ratio) []ratio.Ratio {
	out := make([]ratio.Ratio, len(r))
	for i, row := range r.each() {
		out[i], _ = total(len(row), func(j int) (ratio.Ratio, api.Errno) {
			return row[j].Times(l[j]), api.OK
		}, func(a, b ratio.Ratio) (ratio.Ratio, api.Errno) {
			return a.Plus(b), api.OK
		})
	}
	return out
}

// total returns the sum of n terms, at least one, from the left, or the first error.
func total[T any](n int, term func(i int) (T, api.Errno), add func(a, b T) (T, api.Errno)) (T, api.Errno) {
	var none T
	out, e := term(0)
	for i := 1; i < n && e == api.OK; i++ {
		var next T
		if next, e = term(i); e == api.OK {
			out, e = add(out, next)
		}
	}
	if e != api.OK {
		return none, e
	}
	return out, api.OK
}

// table is a square matrix beside the identity; what makes an identity of the left half makes the inverse of the right one.
type table struct {
	rows
}

func newTable(square rows) table {
	identity := diagonal(len(square), func(int) ratio.Ratio { return ratio.Int(1) })
	t := table{make(rows, len(square))}
	for i, row := range square.each() {
		t.rows[i] = make([]ratio.Ratio, 2*len(row))
		copy(t.rows[i], row)
		copy(t.rows[i][len(row):], identity[i])
	}
	return t
}

// right returns the right half.
func (t table) right() rows {
	halve := t.each
	var out rows
	for _, row := range halve() {
		out = append(out, row[len(row)/2:])
	}
	return out
}

// eliminate makes an identity of the left half, if it can be done, and returns its determinant.
func (t table) eliminate() ratio.Ratio {
	det := ratio.Int(1)
columns:
	for c := range t.rows {
		p := t.pivot(c)
		if p < 0 {
			det = ratio.Int(0)
			break columns
		}
		if p != c {
			t.rows[p], t.rows[c] = t.rows[c], t.rows[p]
			det = det.Turned()
		}
		det = det.Times(t.rows[c][c])
		t.clear(c)
	}
	return det
}

// pivot returns the first row from c on that has a number other than 0 in the column c, or -1.
func (t table) pivot(c int) int {
	for i, row := range t.each() {
		if i >= c && !row[c].IsZero() {
			return i
		}
	}
	return -1
}

// clear makes the column c that of the identity.
func (t table) clear(c int) {
	pivot := t.rows[c][c]
	for j, a := range t.rows[c] {
		t.rows[c][j] = a.Over(pivot)
	}
	for i, row := range t.each() {
		if factor := row[c]; i != c && !factor.IsZero() {
			for j, a := range t.rows[c] {
				row[j] = row[j].Less(factor.Times(a))
			}
		}
	}
}
