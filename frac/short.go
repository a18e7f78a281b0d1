package frac

import (
	"math/bits"
	"strconv"

	"verdigris/api"
)

// short is a fraction of machine numbers. Most fractions are short, and computing with texts of any length would take many times as long; what does not fit is left to package ratio.
type short struct{ n, d int }

// places is the greatest number of digits of the parts of a fraction that is read as a short one.
const places = 18

// readShort returns the fraction, and whether it is short and valid.
func readShort(a api.Frac) (short, bool) {
	n, okN := readInt(a.N)
	d, okD := readInt(a.D)
	if !okN || !okD || d < 1 || gcd(size(n), uint64(d)) != 1 {
		return short{}, false
	}
	return short{n, d}, true
}

func readInt(a api.Whole) (int, bool) {
	minus := len(a) > 1 && a[0] == '-'
	if minus {
		a = a[1:]
	}
	if len(a) == 0 || len(a) > places || a[0] == '0' && (minus || len(a) > 1) {
		return 0, false
	}
	n := 0
	for i := range len(a) {
		digit := a[i] - '0'
		if digit > 9 {
			return 0, false
		}
		n = n*10 + int(digit)
	}
	if minus {
		n = -n
	}
	return n, true
}

// size returns n without its sign.
func size(n int) uint64 {
	if n < 0 {
		return -uint64(n)
	}
	return uint64(n)
}

func gcd(a, b uint64) uint64 {
	if a == 0 || b == 0 {
		return a | b
	}
	shift := bits.TrailingZeros64(a | b)
	a >>= bits.TrailingZeros64(a)
	for b != 0 {
		b >>= bits.TrailingZeros64(b)
		if a > b {
			a, b = b, a
		}
		b -= a
	}
	return a << shift
}

// product returns a b, and whether it fits.
func product(a, b int) (int, bool) {
	high, low := bits.Mul64(size(a), size(b))
	if high != 0 || low > 1<<63-1 {
		return 0, false
	}
	if (a < 0) != (b < 0) {
		return -int(low), true
	}
	return int(low), true
}

// sum returns a + b, and whether it fits.
func sum(a, b int) (int, bool) {
	c := a + b
	return c, (c > a) == (b > 0)
}

func (a short) text() api.Frac {
	return api.Frac{N: api.Whole(strconv.Itoa(a.n)), D: api.Whole(strconv.Itoa(a.d))}
}

// shortened returns n / d, for a d that is not 0, and whether it fits.
func shortened(n, d int) (api.Frac, bool) {
	common := gcd(size(n), size(d))
	above, below := size(n)/common, size(d)/common
	if above > 1<<63-1 || below > 1<<63-1 {
		return api.Frac{}, false
	}
	out := short{int(above), int(below)}
	if (n < 0) != (d < 0) {
		out.n = -out.n
	}
	return out.text(), true
}

func (a short) turned() short {
	return short{-a.n, a.d}
}

func (a short) plus(b short) (api.Frac, bool) {
	common := int(gcd(uint64(a.d), uint64(b.d)))
	left, okLeft := product(a.n, b.d/common)
	right, okRight := product(b.n, a.d/common)
	above, okSum := sum(left, right)
	if !okLeft || !okRight || !okSum {
		return api.Frac{}, false
	}
	shared := int(gcd(size(above), uint64(common)))
	below, ok := product(a.d/common, b.d/shared)
	return short{above / shared, below}.text(), ok
}

func (a short) less(b short) (api.Frac, bool) {
	return a.plus(b.turned())
}

func (a short) times(b short) (api.Frac, bool) {
	left := int(gcd(size(a.n), uint64(b.d)))
	right := int(gcd(size(b.n), uint64(a.d)))
	above, okAbove := product(a.n/left, b.n/right)
	below, okBelow := product(a.d/right, b.d/left)
	return short{above, below}.text(), okAbove && okBelow
}

func (a short) over(b short) (api.Frac, bool) {
	if b.n < 0 {
		return a.times(short{-b.d, -b.n})
	}
	return a.times(short{b.d, b.n})
}

func (a short) order(b short) (int, bool) {
	if (a.n < 0) != (b.n < 0) {
		if a.n < 0 {
			return -1, true
		}
		return 1, true
	}
	high, low := bits.Mul64(size(a.n), uint64(b.d))
	otherHigh, otherLow := bits.Mul64(size(b.n), uint64(a.d))
	out := 1
	if high == otherHigh && low == otherLow {
		return 0, true
	} else if high < otherHigh || high == otherHigh && low < otherLow {
		out = -1
	}
	if a.n < 0 {
		out = -out
	}
	return out, true
}

// floor returns the greatest whole number that is at most a.
func (a short) floor() int {
	out := a.n / a.d
	if a.n < 0 && a.n%a.d != 0 {
		out--
	}
	return out
}

// near returns the nearest whole number of a times scale, and whether everything fits on the way.
func (a short) near(scale int) (int, bool) {
	above, ok := product(a.n, 2*scale)
	above, okSum := sum(above, a.d)
	if !ok || !okSum {
		return 0, false
	}
	return short{above, 2 * a.d}.floor(), true
}
