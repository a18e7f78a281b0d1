package differ

import (
	"verdigris/api"
	"verdigris/band"
	"verdigris/frac"
	"verdigris/lab"
	"verdigris/must"
	"verdigris/power"
)

func around(a api.Frac) api.Band { return must.Get(band.Around(a)) }

func sub(a, b api.Band) api.Band { return must.Get(band.Sub(a, b)) }

func mul(a, b api.Band) api.Band { return must.Get(band.Mul(a, b)) }

func div(a, b api.Band) api.Band { return must.Get(band.Div(a, b)) }

func sqr(a api.Band) api.Band { return must.Get(band.Sqr(a)) }

func scale(a api.Band, n, d int) api.Band { return must.Get(band.Scale(a, n, d)) }

// sum returns the sum of some bands, from the left.
func sum(first api.Band, others ...api.Band) api.Band {
	for _, b := range others {
		first = must.Get(band.Add(first, b))
	}
	return first
}

// unit returns a component of a hue: the numbers of the band from -1 to 1.
func unit(b api.Band) api.Band {
	return must.Get(band.Clamp(b, -api.OneBand, api.OneBand))
}

// open is a component of a hue that is not known.
func open() api.Band {
	return api.Band{Lo: -api.OneBand, Hi: api.OneBand}
}

// hueOf returns the hue of a Lab.
func hueOf(t api.Tri) (x, y api.Band) {
	_, hue, e := lab.Polar(api.Trib{around(t[0]), around(t[1]), around(t[2])})
	if e == api.ErrZero {
		return open(), open()
	}
	must.Pass(e)
	return hue[0], hue[1]
}

// cmc is the distance of 1984.
func (c comparison) cmc() api.Band {
	n := c.number
	d := divisors{chromas: c.chromas, lightness: c.cmcLightness()}
	d.chroma = sum(div(mul(n("0.0638"), c.first), sum(n("1"), mul(n("0.0131"), c.first))), n("0.638"))
	q := sqr(sqr(scale(c.first, 1, 10)))
	f := must.Get(power.Root(div(q, sum(q, n("0.19"))), 2))
	f = must.Get(band.Clamp(f, 0, api.OneBand))
	d.hue = mul(d.chroma, sub(sum(mul(f, c.cmcHue()), n("1")), f))
	return c.apart(d)
}

// cmcLightness is the divisor of the difference of lightness.
func (c comparison) cmcLightness() api.Band {
	fraction := func(text string) api.Frac { return must.Get(frac.Parse(text)) }
	if must.Get(frac.Cmp(c.a[0], fraction("16"))) < 0 {
		return c.number("0.511")
	}
	above := must.Get(frac.Mul(fraction("0.040975"), c.a[0]))
	below := must.Get(frac.Add(fraction("1"), must.Get(frac.Mul(fraction("0.01765"), c.a[0]))))
	return around(must.Get(frac.Div(above, below)))
}

// cmcHue is the factor T: there is one for hues from 164 to 345 degrees, and another one for those far from them.
func (c comparison) cmcHue() api.Band {
	n := c.number
	x, y := hueOf(c.a)
	near := sum(n("0.36"), size(scale(sub(mul(n("0.8191520443"), x), mul(n("0.5735764364"), y)), 4, 10)))
	far := sum(n("0.56"), size(scale(sub(mul(n("-0.9781476007"), x), mul(n("0.2079116908"), y)), 2, 10)))
	p := sum(mul(n("0.9659258263"), y), mul(n("0.2588190451"), x))
	q := sum(mul(n("0.2756373558"), x), mul(n("0.9612616959"), y))
	switch {
	case p.Lo > 0 && q.Lo > 0:
		return near
	case p.Hi <= 0 || q.Hi <= 0:
		return far
	}
	return must.Get(band.Hull(near, far))
}

func size(a api.Band) api.Band { return must.Get(band.Abs(a)) }

// hue is the distance with a weight of the mean hue.
func (c comparison) hue() api.Band {
	n := c.number
	mean := scale(sum(c.first, c.second), 1, 2)
	return c.apart(divisors{
		c.chromas,
		n("1"),
		sum(n("1"), mul(n("0.045"), mean)),
		sum(n("1"), mul(mul(n("0.015"), mean), c.meanHue())),
	})
}

// meanHue is the factor T of the hue between both hues, of which it has sines and cosines of multiples.
func (c comparison) meanHue() api.Band {
	n := c.number
	x, y := c.between()
	c2, s2 := sub(sqr(x), sqr(y)), scale(mul(x, y), 2, 1)
	c3, s3 := sub(mul(x, c2), mul(y, s2)), sum(mul(y, c2), mul(x, s2))
	c4, s4 := sub(sqr(c2), sqr(s2)), scale(mul(c2, s2), 2, 1)
	t := sub(sub(n("1"), mul(n("0.1472243186"), x)), mul(n("0.085"), y))
	t = sum(t, mul(n("0.24"), c2), mul(n("0.3182470065"), c3))
	t = sub(sub(sub(t, mul(n("0.0334491082"), s3)), mul(n("0.09079809995"), c4)), mul(n("0.1782013048"), s4))
	const hundredth = api.OneBand / 100
	return must.Get(band.Clamp(t, 7*hundredth, 193*hundredth))
}

// between returns the hue between the hues of both Labs.
func (c comparison) between() (x, y api.Band) {
	x1, y1 := hueOf(c.a)
	x2, y2 := hueOf(c.b)
	s, t := sum(x1, x2), sum(y1, y2)
	norm := must.Get(power.Norm([]api.Band{s, t}))
	if norm.Lo == 0 {
		return open(), open()
	}
	return unit(div(s, norm)), unit(div(t, norm))
}
