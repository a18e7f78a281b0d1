package slope

import (
	"verdigris/api"
	"verdigris/frac"
	"verdigris/must"
)

func fraction(n, d int) api.Frac { return must.Get(frac.Of(n, d)) }

func micro(n int) api.Frac { return fraction(n, api.Micro) }

func zero() api.Frac { return fraction(0, 1) }

func one() api.Frac { return fraction(1, 1) }

func add(a, b api.Frac) api.Frac { return must.Get(frac.Add(a, b)) }

func sub(a, b api.Frac) api.Frac { return must.Get(frac.Sub(a, b)) }

func mul(a, b api.Frac) api.Frac { return must.Get(frac.Mul(a, b)) }

func size(a api.Frac) api.Frac { return must.Get(frac.Abs(a)) }

func clamp(a api.Frac) api.Frac { return must.Get(frac.Clamp(a, zero(), one())) }

func compare(a, b api.Frac) int { return must.Get(frac.Cmp(a, b)) }

func sign(a api.Frac) int { return must.Get(frac.Sign(a)) }

func least(l ...api.Frac) api.Frac {
	out := l[0]
	for _, a := range l[1:] {
		out = must.Get(frac.Min(out, a))
	}
	return out
}

func greatest(l ...api.Frac) api.Frac {
	out := l[0]
	for _, a := range l[1:] {
		out = must.Get(frac.Max(out, a))
	}
	return out
}

// list returns the elements 0 to n - 1.
func list[T any](n int, element func(i int) T) []T {
	out := make([]T, n)
	for i := range out {
		out[i] = element(i)
	}
	return out
}

// number is a number on the stack of a program: its range, and its slope for each input, if slopes are asked for.
type number struct {
	api.Range
	slopes []api.Frac
}

// most returns the greatest absolute value of the number.
func (n number) most() api.Frac {
	return greatest(size(n.Low), size(n.High))
}

// rule says how many numbers a step takes, and what becomes of their ranges and slopes.
type rule struct {
	takes  int
	ranges func(l ...number) api.Range
	slopes func(l ...number) []api.Frac
}

// run runs a valid program on numbers.
func run(p []api.Op, inputs []number, withSlopes bool) []number {
	rules := rules()
	var stack []number
	for _, op := range p {
		var made number
		switch op.Code {
		case api.PuIn:
			made = inputs[op.Arg]
		case api.PuNum:
			made.Low, made.High = micro(op.Arg), micro(op.Arg)
			made.slopes = list(len(inputs), func(int) api.Frac { return zero() })
		case api.PuCopy:
			made = stack[len(stack)-1-op.Arg]
		default:
			r := rules[op.Code]
			from := len(stack) - r.takes
			made.Range = r.ranges(stack[from:]...)
			if withSlopes {
				made.slopes = r.slopes(stack[from:]...)
			}
			stack = stack[:from]
		}
		stack = append(stack, made)
	}
	return stack
}

// kept are the slopes of a step that keeps them.
func kept(l ...number) []api.Frac {
	return l[0].slopes
}

// each returns the slopes that f makes of those of two numbers.
func each(f func(a, b api.Frac) api.Frac) func(l ...number) []api.Frac {
	return func(l ...number) []api.Frac {
		return list(len(l[0].slopes), func(i int) api.Frac { return f(l[0].slopes[i], l[1].slopes[i]) })
	}
}

func rules() map[int]rule {
	larger := func(a, b api.Frac) api.Frac { return greatest(a, b) }
	return map[int]rule{
		api.PuAdd: {2, func(l ...number) api.Range {
			return api.Range{Low: add(l[0].Low, l[1].Low), High: add(l[0].High, l[1].High)}
		}, each(add)},
		api.PuSub: {2, func(l ...number) api.Range {
			return api.Range{Low: sub(l[0].Low, l[1].High), High: sub(l[0].High, l[1].Low)}
		}, each(add)},
		api.PuMul: {2, productRange, productSlopes},
		api.PuMin: {2, func(l ...number) api.Range {
			return api.Range{Low: least(l[0].Low, l[1].Low), High: least(l[0].High, l[1].High)}
		}, each(larger)},
		api.PuMax: {2, func(l ...number) api.Range {
			return api.Range{Low: greatest(l[0].Low, l[1].Low), High: greatest(l[0].High, l[1].High)}
		}, each(larger)},
		api.PuNeg:  {1, turnedRange, kept},
		api.PuAbs:  {1, sizeRange, kept},
		api.PuPick: {3, pickedRange, pickedSlopes},
		api.PuClamp: {1, func(l ...number) api.Range {
			return api.Range{Low: clamp(l[0].Low), High: clamp(l[0].High)}
		}, kept},
	}
}

func productRange(l ...number) api.Range {
	products := []api.Frac{mul(l[0].Low, l[1].Low), mul(l[0].Low, l[1].High), mul(l[0].High, l[1].Low), mul(l[0].High, l[1].High)}
	return api.Range{Low: least(products...), High: greatest(products...)}
}

func productSlopes(l ...number) []api.Frac {
	mostA, mostB := l[0].most(), l[1].most()
	return each(func(a, b api.Frac) api.Frac { return add(mul(b, mostA), mul(a, mostB)) })(l...)
}

func turnedRange(l ...number) api.Range {
	return api.Range{Low: must.Get(frac.Neg(l[0].High)), High: must.Get(frac.Neg(l[0].Low))}
}

func sizeRange(l ...number) api.Range {
	switch {
	case sign(l[0].Low) >= 0:
		return l[0].Range
	case sign(l[0].High) <= 0:
		return turnedRange(l...)
	}
	return api.Range{Low: zero(), High: l[0].most()}
}

func pickedRange(l ...number) api.Range {
	switch {
	case sign(l[2].Low) >= 0:
		return l[0].Range
	case sign(l[2].High) < 0:
		return l[1].Range
	}
	return api.Range{Low: least(l[0].Low, l[1].Low), High: greatest(l[0].High, l[1].High)}
}

// pickedSlopes ends the computation if it is not known which number is picked: the program may jump.
func pickedSlopes(l ...number) []api.Frac {
	if sign(l[2].Low) >= 0 {
		return l[0].slopes
	}
	must.Hold(sign(l[2].High) < 0, api.ErrForm)
	return l[1].slopes
}
