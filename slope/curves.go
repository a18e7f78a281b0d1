package slope

import (
	"verdigris/api"
	"verdigris/curve"
	"verdigris/frac"
	"verdigris/must"
)

// formula returns the value of the formula of a segment, wherever x lies.
func formula(s api.Segment, x api.Frac) api.Frac {
	s.Till = api.Micro
	return must.Get(curve.Eval(api.Curve{Kind: api.CuFormula, Segments: []api.Segment{s}}, x))
}

// jumps reports whether a curve has two neighbouring segments with different values between them.
func jumps(c api.Curve) bool {
	for i := 1; i < len(c.Segments); i++ {
		at := micro(c.Segments[i-1].Till)
		if formula(c.Segments[i-1], at) != formula(c.Segments[i], at) {
			return true
		}
	}
	return false
}

// curveRange returns the range of a curve for a range of x.
func curveRange(c api.Curve, x api.Range) api.Range {
	x.Low, x.High = clamp(x.Low), clamp(x.High)
	switch c.Kind {
	case api.CuTable:
		return tableRange(c, x)
	case api.CuFormula:
		return formulaRange(c, x)
	}
	return x
}

func tableRange(c api.Curve, x api.Range) api.Range {
	values := []api.Frac{must.Get(curve.Eval(c, x.Low)), must.Get(curve.Eval(c, x.High))}
	for i, n := range c.Table {
		at := fraction(i, len(c.Table)-1)
		if compare(x.Low, at) <= 0 && compare(at, x.High) <= 0 {
			values = append(values, fraction(n, api.Full))
		}
	}
	return api.Range{Low: least(values...), High: greatest(values...)}
}

func formulaRange(c api.Curve, x api.Range) api.Range {
	var values []api.Frac
	from := zero()
	for i, s := range c.Segments {
		till := micro(s.Till)
		if compare(x.Low, till) <= 0 && (i == 0 || compare(x.High, from) > 0) {
			values = append(values, formula(s, greatest(x.Low, from)), formula(s, least(x.High, till)))
		}
		from = till
	}
	return api.Range{Low: least(values...), High: greatest(values...)}
}

// curveSlope returns the slope of a curve.
func curveSlope(c api.Curve) api.Frac {
	switch c.Kind {
	case api.CuTable:
		most := 0
		for i, n := range c.Table[1:] {
			most = max(most, n-c.Table[i], c.Table[i]-n)
		}
		return fraction(most*(len(c.Table)-1), api.Full)
	case api.CuFormula:
		var values []api.Frac
		from := 0
		for _, s := range c.Segments {
			values = append(values, formulaSlope(s, micro(from)), formulaSlope(s, micro(s.Till)))
			from = s.Till
		}
		return greatest(values...)
	}
	return one()
}

// formulaSlope returns the slope of the formula of a segment at x.
func formulaSlope(s api.Segment, x api.Frac) api.Frac {
	inner := must.Get(frac.Div(add(mul(fraction(s.Mul, 1), x), fraction(s.Add, 1)), fraction(api.Micro, 1)))
	u := greatest(inner, zero())
	return mul(fraction(s.Num*max(s.Mul, -s.Mul), api.Micro), must.Get(frac.Pow(u, s.Num-1)))
}
