// Package ratio computes with fractions of any length.
package ratio

import (
	"verdigris/api"
	"verdigris/digits"
)

// Ratio is a fraction in lowest terms: the signed number above the line, and the one below it, which is at least 1.
type Ratio struct {
	digits.Signed
	Below digits.Natural
}

// Of returns the fraction n / d, for a d that is not 0.
func Of(n digits.Signed, d digits.Natural) Ratio {
	if common := n.Gcd(d); !common.IsOne() {
		n.Natural, _ = n.QuoRem(common)
		d, _ = d.QuoRem(common)
	}
	return Ratio{n, d}
}

// Whole returns the whole number n as a fraction.
func Whole(n digits.Signed) Ratio {
	return Ratio{n, digits.Of(1)}
}

// Int returns the integer n as a fraction.
func Int(n int) Ratio {
	return Whole(digits.OfInt(n))
}

// Read returns the number of a valid fraction, and whether it is one.
func Read(a api.Frac) (Ratio, bool) {
	if len(a.N) > api.MaxWhole+1 || len(a.D) > api.MaxWhole {
		return Ratio{}, false
	}
	n, ok := digits.Read(string(a.N))
	if !ok || n.Length() > api.MaxWhole {
		return Ratio{}, false
	}
	d, ok := digits.Read(string(a.D))
	if !ok || d.Sign() <= 0 || !n.Gcd(d.Natural).IsOne() {
		return Ratio{}, false
	}
	return Ratio{n, d.Natural}, true
}

// Frac returns the fraction as texts, or ErrBig if one of them is too long.
func (a Ratio) Frac() (api.Frac, api.Errno) {
	if a.Length() > api.MaxWhole || a.Below.Length() > api.MaxWhole {
		return api.Frac{}, api.ErrBig
	}
	return api.Frac{N: api.Whole(a.Text()), D: api.Whole(digits.Plain(a.Below).Text())}, api.OK
}

// Order returns -1, 0 or 1 if a is less than, equal to or greater than b.
func (a Ratio) Order(b Ratio) int {
	if a.Sign() != b.Sign() {
		if a.Sign() < b.Sign() {
			return -1
		}
		return 1
	}
	return a.Signed.Times(digits.Plain(b.Below)).Order(b.Signed.Times(digits.Plain(a.Below)))
}

// Turned returns -a.
func (a Ratio) Turned() Ratio {
	return Ratio{a.Signed.Turned(), a.Below}
}

// Plus returns a + b. The common divisor of the numbers below is taken out first, so that what is left to be shortened is short.
func (a Ratio) Plus(b Ratio) Ratio {
	common := a.Below.Gcd(b.Below)
	restA, restB := a.Below, b.Below
	if !common.IsOne() {
		restA, _ = a.Below.QuoRem(common)
		restB, _ = b.Below.QuoRem(common)
	}
	above := a.Signed.Times(digits.Plain(restB)).Plus(b.Signed.Times(digits.Plain(restA)))
	if above.IsZero() {
		return Int(0)
	}
	if !common.IsOne() {
		shared := above.Gcd(common)
		above.Natural, _ = above.QuoRem(shared)
		restB, _ = b.Below.QuoRem(shared)
	}
	return Ratio{above, restA.Mul(restB)}
}

// Less returns a - b.
func (a Ratio) Less(b Ratio) Ratio {
	return a.Plus(b.Turned())
}

// Times returns a b.
func (a Ratio) Times(b Ratio) Ratio {
	aAbove, bBelow := shorten(a.Natural, b.Below)
	bAbove, aBelow := shorten(b.Natural, a.Below)
	size := aAbove.Mul(bAbove)
	return Ratio{digits.Signed{Natural: size, Minus: a.Minus != b.Minus && !size.IsZero()}, aBelow.Mul(bBelow)}
}

func shorten(a, b digits.Natural) (shortA, shortB digits.Natural) {
	common := a.Gcd(b)
	if common.IsOne() {
		return a, b
	}
	shortA, _ = a.QuoRem(common)
	shortB, _ = b.QuoRem(common)
	return shortA, shortB
}

// Over returns a / b, for a b that is not 0.
func (a Ratio) Over(b Ratio) Ratio {
	return a.Times(Ratio{digits.Signed{Natural: b.Below, Minus: b.Minus}, b.Natural})
}

// Raised returns the n-th power of a, for an n that is not negative.
func (a Ratio) Raised(n int) Ratio {
	return Ratio{a.Signed.Raised(n), a.Below.Power(n)}
}

// Floor returns the greatest whole number that is at most a.
func (a Ratio) Floor() digits.Signed {
	out, _ := a.Signed.Over(digits.Plain(a.Below))
	return out
}

// Near returns the nearest whole number of a times scale; of two, it is the greater one.
func (a Ratio) Near(scale digits.Natural) digits.Signed {
	two := digits.Of(2)
	doubled := a.Signed.Times(digits.Plain(scale.Mul(two))).Plus(digits.Plain(a.Below))
	out, _ := doubled.Over(digits.Plain(a.Below.Mul(two)))
	return out
}
