// Package digits computes with whole numbers of any length, in groups of eighteen decimal digits, so that their texts are read and written without any division.
//
// Nothing changes a number once it is made, so numbers may share their groups.
package digits

import "math/bits"

const (
	width = 18                  // digits of a group
	base  = 1000000000000000000 // 10^width
)

// Natural is a whole number that is not negative: its groups, the lowest one first, without zeros at the upper end.
type Natural []uint64

// Of returns the number n.
func Of(n uint64) Natural {
	return trim([]uint64{n % base, n / base})
}

func trim(groups []uint64) Natural {
	n := len(groups)
	for n > 0 && groups[n-1] == 0 {
		n--
	}
	return Natural(groups[:n:n])
}

// IsZero reports whether the number is 0.
func (a Natural) IsZero() bool {
	return len(a) == 0
}

// IsOne reports whether the number is 1.
func (a Natural) IsOne() bool {
	return len(a) == 1 && a[0] == 1
}

// Length returns the number of decimal digits; 0 has one.
func (a Natural) Length() int {
	if len(a) == 0 {
		return 1
	}
	return (len(a)-1)*width + groupLength(a[len(a)-1])
}

func groupLength(group uint64) int {
	n := 1
	for ; group >= 10; group /= 10 {
		n++
	}
	return n
}

// Uint64 returns the number, and whether it is below 2^64.
func (a Natural) Uint64() (uint64, bool) {
	switch len(a) {
	case 0:
		return 0, true
	case 1:
		return a[0], true
	case 2:
		high, low := bits.Mul64(a[1], base)
		sum, carry := bits.Add64(low, a[0], 0)
		return sum, high == 0 && carry == 0
	}
	return 0, false
}

// Cmp returns -1, 0 or 1 if a is less than, equal to or greater than b.
func (a Natural) Cmp(b Natural) int {
	if len(a) != len(b) {
		if len(a) < len(b) {
			return -1
		}
		return 1
	}
	for i := len(a) - 1; i >= 0; i-- {
		if a[i] != b[i] {
			if a[i] < b[i] {
				return -1
			}
			return 1
		}
	}
	return 0
}

// Add returns a + b.
func (a Natural) Add(b Natural) Natural {
	if len(a) < len(b) {
		a, b = b, a
	}
	out := make([]uint64, len(a)+1)
	carry := uint64(0)
	for i, x := range a {
		x += carry
		if i < len(b) {
			x += b[i]
		}
		carry = 0
		if x >= base {
			x, carry = x-base, 1
		}
		out[i] = x
	}
	out[len(a)] = carry
	return trim(out)
}

// Sub returns a - b; b must not be greater than a.
func (a Natural) Sub(b Natural) Natural {
	out := make([]uint64, len(a))
	borrow := uint64(0)
	for i, x := range a {
		y := borrow
		if i < len(b) {
			y += b[i]
		}
		borrow = 0
		if x < y {
			x, borrow = x+base, 1
		}
		out[i] = x - y
	}
	return trim(out)
}

// Mul returns a b. Products are gathered column by column in three words, so that only one group for each column is divided by the base.
func (a Natural) Mul(b Natural) Natural {
	if len(a) == 0 || len(b) == 0 {
		return nil
	}
	out := make([]uint64, len(a)+len(b))
	var low, mid, high uint64
	for k := range out {
		for i := max(0, k-len(b)+1); i < len(a) && i <= k; i++ {
			h, l := bits.Mul64(a[i], b[k-i])
			var c uint64
			low, c = bits.Add64(low, l, 0)
			mid, c = bits.Add64(mid, h, c)
			high += c
		}
		upper, rest := bits.Div64(high, mid, base)
		lower, group := bits.Div64(rest, low, base)
		out[k] = group
		low, mid, high = lower, upper, 0
	}
	return trim(out)
}

// timesGroup returns a m, for an m below the base, with one group more than a.
func (a Natural) timesGroup(m uint64) []uint64 {
	out := make([]uint64, len(a)+1)
	carry := uint64(0)
	for i, x := range a {
		h, l := bits.Mul64(x, m)
		l, c := bits.Add64(l, carry, 0)
		carry, out[i] = bits.Div64(h+c, l, base)
	}
	out[len(a)] = carry
	return out
}

// overGroup returns quotient and remainder of a and an m that is not 0.
func (a Natural) overGroup(m uint64) (Natural, uint64) {
	out := make([]uint64, len(a))
	rest := uint64(0)
	for i := len(a) - 1; i >= 0; i-- {
		h, l := bits.Mul64(rest, base)
		l, c := bits.Add64(l, a[i], 0)
		out[i], rest = bits.Div64(h+c, l, m)
	}
	return trim(out), rest
}

// Power returns the n-th power of a, for an n that is not negative.
func (a Natural) Power(n int) Natural {
	out := Of(1)
	for ; n > 0; n >>= 1 {
		if n&1 == 1 {
			out = out.Mul(a)
		}
		if n > 1 {
			a = a.Mul(a)
		}
	}
	return out
}

func groupPower(places int) uint64 {
	out := uint64(1)
	for range places {
		out *= 10
	}
	return out
}

// Shift returns a 10^places.
func (a Natural) Shift(places int) Natural {
	if len(a) == 0 {
		return nil
	}
	whole := places / width
	moved := make([]uint64, whole, whole+len(a)+1)
	return trim(append(moved, a.timesGroup(groupPower(places%width))...))
}

// Unshift returns a / 10^places, rounded down.
func (a Natural) Unshift(places int) Natural {
	whole := places / width
	if whole >= len(a) {
		return nil
	}
	out, _ := a[whole:].overGroup(groupPower(places % width))
	return out
}
