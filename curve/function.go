package curve

import (
	"cmp"
	"iter"

	"verdigris/api"
	"verdigris/band"
	"verdigris/frac"
	"verdigris/must"
	"verdigris/power"
)

// function is a valid curve.
type function struct {
	api.Curve
}

// number returns n / d.
func number(n, d int) api.Frac {
	return must.Get(frac.Of(n, d))
}

// floor returns the greatest integer that is at most a.
func floor(a api.Frac) int {
	return must.Get(frac.Near(api.Frac{N: must.Get(frac.Floor(a)), D: "1"}, 1))
}

// atMost reports whether a <= b.
func atMost(a, b api.Frac) bool {
	return must.Get(frac.Cmp(a, b)) <= 0
}

func (f function) identity(x api.Frac) api.Frac {
	return x
}

func (f function) table(x api.Frac) api.Frac {
	last := len(f.Table) - 1
	p := must.Get(frac.Mul(x, number(last, 1)))
	i := min(floor(p), last-1)
	rest := must.Get(frac.Sub(p, number(i, 1)))
	rise := must.Get(frac.Mul(number(f.Table[i+1]-f.Table[i], 1), rest))
	sum := must.Get(frac.Add(number(f.Table[i], 1), rise))
	return must.Get(frac.Div(sum, number(api.Full, 1)))
}

// stretch is a segment with the end of the one before it.
type stretch struct {
	api.Segment
	from  int
	first bool
}

// stretches yields the segments in order.
func (f function) stretches() iter.Seq[stretch] {
	return func(yield func(stretch) bool) {
		from := 0
		for i, s := range f.Segments {
			if !yield(stretch{s, from, i == 0}) {
				return
			}
			from = s.Till
		}
	}
}

// inner returns (Mul x + Add) / 10^6.
func (s stretch) inner(x api.Frac) api.Frac {
	product := must.Get(frac.Mul(number(s.Mul, 1), x))
	sum := must.Get(frac.Add(product, number(s.Add, 1)))
	return must.Get(frac.Div(sum, number(api.Micro, 1)))
}

func (f function) formula(x api.Frac) api.Frac {
	var at stretch
walking:
	for s := range f.stretches() {
		if at = s; atMost(x, number(s.Till, api.Micro)) {
			break walking
		}
	}
	must.Hold(at.Den == 1, api.ErrForm)
	zero, one := number(0, 1), number(1, 1)
	raise := func(u api.Frac) api.Frac { return must.Get(frac.Pow(u, at.Num)) }
	u := must.Get(frac.Max(at.inner(x), zero))
	sum := must.Get(frac.Add(raise(u), number(at.Off, api.Micro)))
	return must.Get(frac.Clamp(sum, zero, one))
}

// hull returns the least band that contains some bands.
func hull(first api.Band, others ...api.Band) api.Band {
	for _, b := range others {
		first = must.Get(band.Hull(first, b))
	}
	return first
}

func around(a api.Frac) api.Band {
	return must.Get(band.Around(a))
}

// clamped returns n, brought to the range from low to high.
func clamped[T cmp.Ordered](n, low, high T) T {
	return min(max(n, low), high)
}

func (f function) identityOn(x api.Band) api.Band {
	return x
}

// tableOn joins the values at both ends, and the elements between them.
func (f function) tableOn(x api.Band) api.Band {
	out := hull(around(f.table(must.Get(band.Low(x)))), around(f.table(must.Get(band.High(x)))))
	last := len(f.Table) - 1
	for i, n := range f.Table {
		if x.Lo*last <= i*api.OneBand && i*api.OneBand <= x.Hi*last {
			out = hull(out, around(number(n, api.Full)))
		}
	}
	return out
}

// formulaOn joins the parts of all segments to which an x of the band belongs.
func (f function) formulaOn(x api.Band) api.Band {
	const perMicro = api.OneBand / api.Micro
	var parts []api.Band
	for s := range f.stretches() {
		from, till := s.from*perMicro, s.Till*perMicro
		if x.Lo <= till && (s.first || x.Hi > from) {
			parts = append(parts, s.part(clamped(x.Lo, from, till), clamped(x.Hi, from, till)))
		}
	}
	return hull(parts[0], parts[1:]...)
}

// part returns the values of the segment's formula from one end to another.
func (s stretch) part(lo, hi int) api.Band {
	inner := func(end int) api.Band { return around(s.inner(number(end, api.OneBand))) }
	u := hull(inner(lo), inner(hi))
	raised := must.Get(power.Power(must.Get(band.Clamp(u, 0, api.MaxBand)), s.Num, s.Den))
	sum := must.Get(band.Add(raised, around(number(s.Off, api.Micro))))
	return must.Get(band.Clamp(sum, 0, api.OneBand))
}
