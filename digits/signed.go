package digits

import "strings"

// Signed is a whole number with its sign; 0 has none.
type Signed struct {
	Natural
	Minus bool
}

func signed(size Natural, minus bool) Signed {
	return Signed{size, minus && len(size) > 0}
}

// OfInt returns the number n.
func OfInt(n int) Signed {
	if n < 0 {
		return Signed{Of(-uint64(n)), true}
	}
	return Signed{Of(uint64(n)), false}
}

// Plain returns a number that is not negative.
func Plain(a Natural) Signed {
	return Signed{a, false}
}

// Read returns the number of a text of decimal digits, and whether it is one, without leading zeros or a minus sign in front of 0.
func Read(text string) (Signed, bool) {
	body, minus := strings.CutPrefix(text, "-")
	if body == "" || body[0] == '0' && (minus || len(body) > 1) {
		return Signed{}, false
	}
	groups := make([]uint64, 0, (len(body)+width-1)/width)
	ok := true
reading:
	for end := len(body); end > 0; end -= width {
		group := uint64(0)
		for i := max(0, end-width); i < end; i++ {
			digit := body[i] - '0'
			if digit > 9 {
				ok = false
				break reading
			}
			group = group*10 + uint64(digit)
		}
		groups = append(groups, group)
	}
	if !ok {
		return Signed{}, false
	}
	return signed(trim(groups), minus), true
}

// Text returns the digits of the number, behind a minus sign if it is negative.
func (a Signed) Text() string {
	if a.IsZero() {
		return "0"
	}
	out := make([]byte, a.Length()+1)
	at := len(out)
	put := func(group uint64, places int) {
		for range places {
			at--
			out[at] = byte('0' + group%10)
			group /= 10
		}
	}
	top := len(a.Natural) - 1
	for _, group := range a.Natural[:top] {
		put(group, width)
	}
	put(a.Natural[top], at-1)
	if a.Minus {
		at--
		out[at] = '-'
	}
	return string(out[at:])
}

// Sign returns -1, 0 or 1.
func (a Signed) Sign() int {
	switch {
	case a.Minus:
		return -1
	case a.IsZero():
		return 0
	}
	return 1
}

// Order returns -1, 0 or 1 if a is less than, equal to or greater than b.
func (a Signed) Order(b Signed) int {
	if a.Minus != b.Minus {
		if a.Minus {
			return -1
		}
		return 1
	}
	if a.Minus {
		return b.Cmp(a.Natural)
	}
	return a.Cmp(b.Natural)
}

// Turned returns -a.
func (a Signed) Turned() Signed {
	return signed(a.Natural, !a.Minus)
}

// Plus returns a + b.
func (a Signed) Plus(b Signed) Signed {
	if a.Minus == b.Minus {
		return signed(a.Add(b.Natural), a.Minus)
	}
	if a.Cmp(b.Natural) >= 0 {
		return signed(a.Sub(b.Natural), a.Minus)
	}
	return signed(b.Sub(a.Natural), b.Minus)
}

// Less returns a - b.
func (a Signed) Less(b Signed) Signed {
	return a.Plus(b.Turned())
}

// Times returns a b.
func (a Signed) Times(b Signed) Signed {
	return signed(a.Mul(b.Natural), a.Minus != b.Minus)
}

// Over returns quotient and remainder of a and a b that is not 0; the remainder is not negative.
func (a Signed) Over(b Signed) (quotient, rest Signed) {
	q, r := a.QuoRem(b.Natural)
	if a.Minus && !r.IsZero() {
		q, r = q.Add(Of(1)), b.Sub(r)
	}
	return signed(q, a.Minus != b.Minus), signed(r, false)
}

// Raised returns the n-th power of a, for an n that is not negative.
func (a Signed) Raised(n int) Signed {
	return signed(a.Power(n), a.Minus && n%2 == 1)
}

// Int returns the number, and whether it is one of 64 bits.
func (a Signed) Int() (int, bool) {
	size, ok := a.Uint64()
	switch {
	case ok && a.Minus && size <= 1<<63:
		return int(-size), true
	case ok && !a.Minus && size < 1<<63:
		return int(size), true
	}
	return 0, false
}
