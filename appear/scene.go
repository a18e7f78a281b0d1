package appear

import (
	"verdigris/api"
	"verdigris/band"
	"verdigris/frac"
	"verdigris/lab"
	"verdigris/must"
	"verdigris/power"
	"verdigris/view"
)

// calculator makes steps on bands, which end the computation if they fail.
type calculator struct{}

func (calculator) add(a, b api.Band) api.Band { return must.Get(band.Add(a, b)) }

func (calculator) sub(a, b api.Band) api.Band { return must.Get(band.Sub(a, b)) }

func (calculator) mul(a, b api.Band) api.Band { return must.Get(band.Mul(a, b)) }

func (calculator) div(a, b api.Band) api.Band { return must.Get(band.Div(a, b)) }

func (calculator) scale(a api.Band, n, d int) api.Band { return must.Get(band.Scale(a, n, d)) }

func (calculator) root(a api.Band, q int) api.Band { return must.Get(power.Root(a, q)) }

func (calculator) power(a api.Band, p, q int) api.Band { return must.Get(power.Power(a, p, q)) }

// number returns the band around a decimal number.
func (calculator) number(text string) api.Band { return around(must.Get(frac.Parse(text))) }

// scene computes looks under a viewing condition, whose constants it has.
type scene struct {
	api.Derived
	calculator
}

func newScene(d api.Derived) scene { return scene{Derived: d} }

// look returns the look of a colour with some adapted responses.
func (s scene) look(responses api.Trib, neutral bool) api.Look {
	mul, scale, root := s.mul, s.scale, s.root
	var out api.Look
	for i := range len(out.Rgb) {
		out.Rgb[i] = must.Get(view.Compress(s.Fl, responses[i]))
	}
	achromatic := must.Get(view.Achromatic(s.Derived, out.Rgb))
	out.J = scale(s.power(s.div(achromatic, s.Aw), s.Num, s.Den), 100, 1)
	w := root(scale(out.J, 1, 100), 2)
	bright := must.Get(frac.Div(must.Get(frac.Of(4, 1)), s.Derived.C))
	out.Q = mul(mul(mul(around(bright), w), s.add(s.Aw, s.number("4"))), root(s.Fl, 4))
	if neutral {
		out.Hue[0] = s.number("1")
		return out
	}
	t, hue := s.chromatic(out.Rgb)
	out.Hue = hue
	out.C = mul(s.power(t, 11, 12), w)
	out.M = mul(out.C, root(s.Fl, 4))
	return out
}

// chromatic returns how far compressed responses are from a neutral colour, and in which hue.
func (s scene) chromatic(rgb api.Trib) (t api.Band, hue [2]api.Band) {
	add, sub, mul, scale := s.add, s.sub, s.mul, s.scale
	a := add(sub(rgb[0], scale(rgb[1], 12, 11)), scale(rgb[2], 1, 11))
	b := scale(sub(add(rgb[0], rgb[1]), scale(rgb[2], 2, 1)), 1, 9)
	r, hue, e := lab.Polar(api.Trib{{}, a, b})
	must.Pass(e)
	turned := sub(mul(s.number("-0.4161468365"), hue[0]), mul(s.number("0.9092974268"), hue[1]))
	eccentric := scale(add(turned, s.number("3.8")), 1, 4)
	whole := add(add(rgb[0], rgb[1]), scale(rgb[2], 21, 20))
	factor := must.Get(frac.Mul(must.Get(frac.Of(50000, 13)), s.Nc))
	return s.div(mul(mul(mul(around(factor), s.Nbb), eccentric), r), whole), hue
}
