package proof

import (
	"iter"

	"verdigris/api"
	"verdigris/band"
	"verdigris/differ"
	"verdigris/frac"
	"verdigris/must"
)

// unit is the number of parts of 1 in the Labs of patches.
const unit = 100

func fraction(n, d int) api.Frac { return must.Get(frac.Of(n, d)) }

// pairs yields the pairs of two valid lists, in the order of the first one.
func pairs(first, second []api.Patch) iter.Seq2[int, int] {
	places := map[string]int{}
	for k, p := range second {
		places[p.Name] = k
	}
	return func(yield func(int, int) bool) {
	yielding:
		for i, p := range first {
			if k, ok := places[p.Name]; ok && !yield(i, k) {
				break yielding
			}
		}
	}
}

// sum returns the sum of what f makes of the elements of a list.
func sum[T any](l []T, f func(T) int) int {
	total := 0
	for _, a := range l {
		total += f(a)
	}
	return total
}

// greatest returns the greatest of some numbers, at least one.
func greatest(first int, others ...int) int {
	for _, n := range others {
		first = max(first, n)
	}
	return first
}

// difference is that of the Labs of a pair: the second one less the first one.
type difference struct {
	place int // in the first list
	lab   [3]int
}

// square returns the sum of the squares of the three differences.
func (d difference) square() int {
	return d.lab[0]*d.lab[0] + d.lab[1]*d.lab[1] + d.lab[2]*d.lab[2]
}

func differences(first, second []api.Patch) []difference {
	var out []difference
	for i, k := range pairs(first, second) {
		d := difference{place: i}
		for c := range d.lab {
			d.lab[c] = second[k].Lab[c] - first[i].Lab[c]
		}
		out = append(out, d)
	}
	return out
}

// Drift returns the shift of two lists.
func Drift(first, second []api.Patch) (api.Shift, api.Errno) {
	if e := checkLists(first, second); e != api.OK {
		return api.Shift{}, e
	}
	l := differences(first, second)
	if len(l) == 0 {
		return api.Shift{}, api.ErrNone
	}
	return must.Do(func() api.Shift {
		out := api.Shift{Pairs: len(l)}
		for c := range out.Mean {
			out.Mean[c] = fraction(sum(l, func(d difference) int { return d.lab[c] }), unit*len(l))
		}
		out.Square = fraction(sum(l, difference.square), unit*unit*len(l))
		squares := make([]int, len(l))
		for i, d := range l {
			squares[i] = d.square()
		}
		most := greatest(squares[0], squares[1:]...)
		out.Most = fraction(most, unit*unit)
		for i := len(l) - 1; i >= 0; i-- {
			if squares[i] == most {
				out.Worst = l[i].place
			}
		}
		return out
	})
}

// tally is a verdict that is being found.
type tally struct {
	api.Verdict
	allowed api.Tolerances
}

// above reports whether an end of a band is above a fraction.
func above(end func(api.Band) (api.Frac, api.Errno), b api.Band, limit api.Frac) bool {
	return must.Get(frac.Cmp(must.Get(end(b)), limit)) > 0
}

// add adds the distance of a pair; Mean is the sum as long as distances are added.
func (t *tally) add(distance api.Band) {
	switch {
	case above(band.Low, distance, t.allowed.Each):
		t.Failed++
	case above(band.High, distance, t.allowed.Each):
		t.Unknown++
	}
	if t.Pairs == 0 {
		t.Mean = distance
	} else {
		t.Mean = must.Get(band.Add(t.Mean, distance))
	}
	t.Pairs++
}

// judge divides the sum, and tells what follows.
func (t *tally) judge() api.Verdict {
	t.Mean = must.Get(band.Scale(t.Mean, 1, t.Pairs))
	switch {
	case t.Failed > 0 || above(band.Low, t.Mean, t.allowed.Mean):
		t.Pass = api.VeNo
	case t.Unknown > 0 || above(band.High, t.Mean, t.allowed.Mean):
		t.Pass = api.VeUnknown
	default:
		t.Pass = api.VeYes
	}
	return t.Verdict
}

// checkTolerances returns the first error of tolerances.
func checkTolerances(t api.Tolerances) api.Errno {
	if t.Kind < api.DiOld || t.Kind > api.DiHue {
		return api.ErrArg
	}
	var signs [4]int
	for i, a := range [...]api.Frac{t.L, t.C, t.Mean, t.Each} {
		sign, e := frac.Sign(a)
		if e != api.OK {
			return e
		}
		signs[i] = sign
	}
	if signs[0] <= 0 || signs[1] <= 0 || signs[2] < 0 || signs[3] < 0 {
		return api.ErrArg
	}
	return api.OK
}

// lab returns the Lab of a patch.
func lab(p api.Patch) api.Tri {
	return api.Tri{fraction(p.Lab[0], unit), fraction(p.Lab[1], unit), fraction(p.Lab[2], unit)}
}

// Conform returns the verdict on what was found, and was aimed at.
func Conform(aims, found []api.Patch, t api.Tolerances) (api.Verdict, api.Errno) {
	if e := checkLists(aims, found); e != api.OK {
		return api.Verdict{}, e
	}
	if e := checkTolerances(t); e != api.OK {
		return api.Verdict{}, e
	}
	return must.Do(func() api.Verdict {
		all := &tally{allowed: t}
		for i, k := range pairs(aims, found) {
			all.add(must.Get(differ.Distance(t.Kind, lab(aims[i]), lab(found[k]), t.L, t.C)))
		}
		must.Hold(all.Pairs > 0, api.ErrNone)
		return all.judge()
	})
}
