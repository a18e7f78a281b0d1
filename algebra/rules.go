package algebra

import (
	"verdigris/api"
	"verdigris/frac"
	"verdigris/slope"
)

// drop removes curves that are identities, if what comes to them need not be clamped.
func (d draft) drop(at int) (change, bool) {
	if d.Elements[at].Kind != api.ElCurves {
		return change{}, false
	}
	for _, c := range d.Elements[at].Curves {
		if c.Kind != api.CuIdentity {
			return change{}, false
		}
	}
	ranges, e := slope.Reach(d.Chain)
	if e != api.OK {
		return change{}, false
	}
	for _, r := range ranges[at] {
		if !within(r) {
			return change{}, false
		}
	}
	return change{takes: 1}, true
}

// within reports whether a range lies between 0 and 1.
func within(r api.Range) bool {
	low, _ := frac.Sign(r.Low)
	high, _ := frac.Cmp(r.High, api.Frac{N: "1", D: "1"})
	return low >= 0 && high <= 0
}

// unit removes a matrix that changes nothing.
func (d draft) unit(at int) (change, bool) {
	x := d.Elements[at]
	if x.Kind != api.ElMatrix || len(x.Rows) != len(x.Rows[0]) {
		return change{}, false
	}
	for i, row := range x.Rows {
		for j, n := range row {
			if n != unitEntry(i, j) {
				return change{}, false
			}
		}
		if x.Offset[i] != 0 {
			return change{}, false
		}
	}
	return change{takes: 1}, true
}

// unitEntry returns the number of the unit matrix in a row, at a place in it.
func unitEntry(i, j int) int {
	if i == j {
		return api.Micro
	}
	return 0
}

// fold computes what a program does with numbers alone, at the first place where it does.
func (d draft) fold(at int) (change, bool) {
	x := d.Elements[at]
	for i := range x.Program {
		takes, result, ok := folded(x.Program[i:])
		if !ok {
			continue
		}
		var p []api.Op
		p = append(p, x.Program[:i]...)
		p = append(p, api.Op{Code: api.PuNum, Arg: result})
		x.Program = append(p, x.Program[i+takes:]...)
		return change{1, []api.Element{x}}, true
	}
	return change{}, false
}

// folded returns how many of the first steps work on numbers alone, and their result, if it is a number of a program.
func folded(p []api.Op) (takes, result int, ok bool) {
	switch {
	case len(p) >= 2 && p[0].Code == api.PuNum && p[1].Code != api.PuNum:
		takes = 2
		result, ok = foldOne(p[1].Code, p[0].Arg)
	case len(p) >= 3 && p[0].Code == api.PuNum && p[1].Code == api.PuNum:
		takes = 3
		result, ok = foldTwo(p[2].Code, p[0].Arg, p[1].Arg)
	}
	return takes, result, ok && result >= -api.MaxNum && result <= api.MaxNum
}

func foldOne(code, a int) (result int, ok bool) {
	switch code {
	case api.PuNeg:
		return -a, true
	case api.PuAbs:
		return max(a, -a), true
	case api.PuClamp:
		return min(max(a, 0), api.Micro), true
	}
	return 0, false
}

func foldTwo(code, a, b int) (result int, ok bool) {
	switch code {
	case api.PuAdd:
		return a + b, true
	case api.PuSub:
		return a - b, true
	case api.PuMul:
		return a * b / api.Micro, a*b%api.Micro == 0
	case api.PuMin:
		return min(a, b), true
	case api.PuMax:
		return max(a, b), true
	}
	return 0, false
}

// pick makes a matrix of a program that picks inputs.
func (d draft) pick(at int) (change, bool) {
	x := d.Elements[at]
	if x.Kind != api.ElProgram {
		return change{}, false
	}
	matrix := api.Element{Kind: api.ElMatrix, Offset: make([]int, len(x.Program))}
	for _, op := range x.Program {
		if op.Code != api.PuIn {
			return change{}, false
		}
		row := make([]int, x.In)
		row[op.Arg] = api.Micro
		matrix.Rows = append(matrix.Rows, row)
	}
	return change{1, []api.Element{matrix}}, true
}

// pair returns the element at a place and the next one, if both are of a kind.
func (d draft) pair(at, kind int) (a, b api.Element, ok bool) {
	if at+1 >= len(d.Elements) || d.Elements[at].Kind != kind || d.Elements[at+1].Kind != kind {
		return api.Element{}, api.Element{}, false
	}
	return d.Elements[at], d.Elements[at+1], true
}

// join joins curves and curves behind them, if in each channel one of both is an identity.
func (d draft) join(at int) (change, bool) {
	a, b, ok := d.pair(at, api.ElCurves)
	if !ok {
		return change{}, false
	}
	joined := api.Element{Kind: api.ElCurves}
	for i, c := range a.Curves {
		if c.Kind == api.CuIdentity {
			c = b.Curves[i]
		} else if b.Curves[i].Kind != api.CuIdentity {
			return change{}, false
		}
		joined.Curves = append(joined.Curves, c)
	}
	return change{2, []api.Element{joined}}, true
}

// merge makes one matrix of two, if its numbers are those of a matrix.
func (d draft) merge(at int) (change, bool) {
	a, b, ok := d.pair(at, api.ElMatrix)
	if !ok {
		return change{}, false
	}
	merged := api.Element{Kind: api.ElMatrix}
	for i, behind := range b.Rows {
		row := make([]int, len(a.Rows[0]))
		for j := range row {
			if row[j], ok = entry(behind, func(k int) int { return a.Rows[k][j] }, 0); !ok {
				return change{}, false
			}
		}
		offset, ok := entry(behind, func(k int) int { return a.Offset[k] }, b.Offset[i])
		if !ok {
			return change{}, false
		}
		merged.Rows = append(merged.Rows, row)
		merged.Offset = append(merged.Offset, offset)
	}
	return change{2, []api.Element{merged}}, true
}

// entry returns the product of a row and a column, divided by 10^6, plus more, and whether that is a number of a matrix. At most four products of 10^18 are added, which fit.
func entry(row []int, column func(k int) int, more int) (int, bool) {
	sum := 0
	for k, n := range row {
		sum += n * column(k)
	}
	out := sum/api.Micro + more
	return out, sum%api.Micro == 0 && out >= -api.MaxEntry && out <= api.MaxEntry
}
