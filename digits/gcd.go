package digits

import "math/bits"

// Gcd returns the greatest common divisor; that of 0 and 0 is 0. As long as the numbers are long, several steps of Euclid's method are made at once from their leading digits (Lehmer).
func (a Natural) Gcd(b Natural) Natural {
	if a.Cmp(b) < 0 {
		a, b = b, a
	}
	for len(b) > 1 {
		p, q, r, s := int64(1), int64(0), int64(0), int64(1)
		if len(a)-len(b) < 2 {
			p, q, r, s = leadingSteps(leading(a, b))
		}
		if q == 0 {
			_, rest := a.QuoRem(b)
			a, b = b, rest
		} else {
			a, b = combine(a, b, p, q), combine(a, b, r, s)
		}
	}
	if len(b) == 0 {
		return a
	}
	_, rest := a.overGroup(b[0])
	return Of(groupGcd(b[0], rest))
}

func groupGcd(x, y uint64) uint64 {
	for y != 0 {
		x, y = y, x%y
	}
	return x
}

// leading returns the first eighteen digits of a, of at least two groups, and the digits of b at the same places.
func leading(a, b Natural) (x, y int64) {
	n := len(a)
	drop := groupLength(a[n-1])
	below := groupPower(drop)
	raise := groupPower(width - drop)
	x = int64(a[n-1]*raise + a[n-2]/below)
	if len(b) == n {
		y = int64(b[n-1] * raise)
	}
	if len(b) >= n-1 {
		y += int64(b[n-2] / below)
	}
	return x, y
}

// leadingSteps makes the steps of Euclid's method that the leading digits x and y decide, whatever follows them, and returns what becomes of the two numbers: p a + q b and r a + s b. If q is 0, no step was decided.
func leadingSteps(x, y int64) (p, q, r, s int64) {
	p, s = 1, 1
	for y+r != 0 && y+s != 0 {
		quotient := (x + p) / (y + r)
		if quotient != (x+q)/(y+s) {
			break
		}
		p, r = r, p-quotient*r
		q, s = s, q-quotient*s
		x, y = y, x-quotient*y
	}
	return p, q, r, s
}

// combine returns p a + q b, which must not be negative; p and q have different signs, or one of them is 0.
func combine(a, b Natural, p, q int64) Natural {
	if p < q && p <= 0 {
		a, b, p, q = b, a, q, p
	}
	out := make([]uint64, max(len(a), len(b))+1)
	var plus, minus, borrow uint64
	for i := range out {
		var x, y uint64
		x, plus = productGroup(a, i, uint64(p), plus)
		y, minus = productGroup(b, i, uint64(-q), minus)
		out[i], borrow = minusGroup(x, y, borrow)
	}
	return trim(out)
}

func productGroup(a Natural, i int, m, carry uint64) (group, next uint64) {
	var x uint64
	if i < len(a) {
		x = a[i]
	}
	h, l := bits.Mul64(x, m)
	l, c := bits.Add64(l, carry, 0)
	next, group = bits.Div64(h+c, l, base)
	return group, next
}
