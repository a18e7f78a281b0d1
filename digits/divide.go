package digits

import "math/bits"

// QuoRem returns quotient and remainder of a and a b that is not 0.
func (a Natural) QuoRem(b Natural) (quotient, rest Natural) {
	if a.Cmp(b) < 0 {
		return nil, a
	}
	if len(b) == 1 {
		q, r := a.overGroup(b[0])
		return q, Of(r)
	}
	return longDivision(a, b)
}

// longDivision divides by a number of at least two groups, which is not greater than a. Both are scaled first so that the uppermost group of the divisor is at least half of the base: then guesses from two groups are at most two too great.
func longDivision(a, b Natural) (quotient, rest Natural) {
	n := len(b)
	scale := base / (b[n-1] + 1)
	u := a.timesGroup(scale)
	v := b.timesGroup(scale)[:n]
	out := make([]uint64, len(a)-n+1)
	for j := len(a) - n; j >= 0; j-- {
		guess := guessGroup(u[j:j+n+1], v)
		if subtractMultiple(u[j:j+n+1], v, guess) {
			guess--
			addBack(u[j:j+n+1], v)
		}
		out[j] = guess
	}
	rest, _ = trim(u[:n]).overGroup(scale)
	return trim(out), rest
}

// guessGroup guesses a group of the quotient from the three uppermost groups of u and the two uppermost ones of v.
func guessGroup(u, v []uint64) uint64 {
	n := len(v)
	var guess, rest uint64
	if u[n] >= v[n-1] {
		guess, rest = base-1, u[n-1]+v[n-1]
	} else {
		h, l := bits.Mul64(u[n], base)
		l, c := bits.Add64(l, u[n-1], 0)
		guess, rest = bits.Div64(h+c, l, v[n-1])
	}
	for rest < base {
		h, l := bits.Mul64(guess, v[n-2])
		restHigh, restLow := bits.Mul64(rest, base)
		restLow, c := bits.Add64(restLow, u[n-2], 0)
		restHigh += c
		if h < restHigh || h == restHigh && l <= restLow {
			break
		}
		guess--
		rest += v[n-1]
	}
	return guess
}

// subtractMultiple takes m v from u, and reports whether that was too much.
func subtractMultiple(u, v []uint64, m uint64) bool {
	carry, borrow := uint64(0), uint64(0)
	for i, x := range v {
		h, l := bits.Mul64(x, m)
		l, c := bits.Add64(l, carry, 0)
		var group uint64
		carry, group = bits.Div64(h+c, l, base)
		u[i], borrow = minusGroup(u[i], group, borrow)
	}
	last := len(v)
	u[last], borrow = minusGroup(u[last], carry, borrow)
	return borrow == 1
}

func minusGroup(x, y, borrow uint64) (group, next uint64) {
	y += borrow
	if x < y {
		return x + base - y, 1
	}
	return x - y, 0
}

// addBack adds v to u, of which a multiple too much was taken.
func addBack(u, v []uint64) {
	carry := uint64(0)
	for i, y := range v {
		x := u[i] + y + carry
		carry = 0
		if x >= base {
			x, carry = x-base, 1
		}
		u[i] = x
	}
	u[len(v)] = (u[len(v)] + carry) % base
}

// Root returns the greatest number whose k-th power is at most a, for a k from 1 on. The root of the upper half of the digits, and one more, is a first guess that is not too small; from there Newton's steps only go down.
func (a Natural) Root(k int) Natural {
	if k == 1 || len(a) == 0 {
		return a
	}
	places := (a.Length() + k - 1) / k
	if places == 1 {
		return a.digitRoot(k)
	}
	half := places / 2
	guess := a.Unshift(half * k).Root(k).Add(Of(1)).Shift(half)
	for {
		share, _ := a.QuoRem(guess.Power(k - 1))
		next, _ := trim(guess.timesGroup(uint64(k - 1))).Add(share).overGroup(uint64(k))
		if next.Cmp(guess) >= 0 {
			return guess
		}
		guess = next
	}
}

// digitRoot is a root that has one digit.
func (a Natural) digitRoot(k int) Natural {
	root := Of(1)
	for n := uint64(2); n < 10 && Of(n).Power(k).Cmp(a) <= 0; n++ {
		root = Of(n)
	}
	return root
}
