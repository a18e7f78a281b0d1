package cross

import (
	"slices"

	"verdigris/api"
	"verdigris/frac"
	"verdigris/ratio"
)

// read returns the numbers of a list, or its first error.
func read(l []api.Frac) ([]ratio.Ratio, api.Errno) {
	if len(l) > api.MaxTerms {
		return nil, api.ErrLong
	}
	out := make([]ratio.Ratio, len(l))
	for i, a := range l {
		if e := frac.Check(a); e != api.OK {
			return nil, e
		}
		out[i], _ = ratio.Read(a)
	}
	if len(l) == 0 {
		return nil, api.ErrNone
	}
	return out, api.OK
}

// sorted returns the elements of a list in order.
func sorted[T any](l []T, compare func(a, b T) int) []T {
	out := make([]T, len(l))
	copy(out, l)
	slices.SortFunc(out, compare)
	return out
}

// increasing returns numbers in increasing order.
func increasing(l []ratio.Ratio) []ratio.Ratio {
	return sorted(l, func(a, b ratio.Ratio) int { return a.Order(b) })
}

// Mean returns the mean of some numbers.
func Mean(l []api.Frac) (api.Frac, api.Errno) {
	numbers, e := read(l)
	if e != api.OK {
		return api.Frac{}, e
	}
	sum := ratio.Int(0)
	for _, a := range numbers {
		sum = sum.Plus(a)
	}
	return sum.Over(ratio.Int(len(l))).Frac()
}

// Median returns the median of some numbers.
func Median(l []api.Frac) (api.Frac, api.Errno) {
	numbers, e := read(l)
	if e != api.OK {
		return api.Frac{}, e
	}
	numbers = increasing(numbers)
	middle := len(l) / 2
	if len(l)%2 == 1 {
		return numbers[middle].Frac()
	}
	return numbers[middle-1].Plus(numbers[middle]).Over(ratio.Int(2)).Frac()
}

// Percentile returns the percentile p of some numbers.
func Percentile(l []api.Frac, p int) (api.Frac, api.Errno) {
	numbers, e := read(l)
	if e != api.OK {
		return api.Frac{}, e
	}
	if p < 1 || p > 100 {
		return api.Frac{}, api.ErrArg
	}
	return increasing(numbers)[(p*len(l)+99)/100-1].Frac()
}
