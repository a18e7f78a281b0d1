package frac

import (
	"strings"

	"verdigris/api"
	"verdigris/digits"
	"verdigris/ratio"
)

// Text returns a as a decimal text, rounded to so many places.
func Text(a api.Frac, places int) (string, api.Errno) {
	return one(a, func(x ratio.Ratio) (string, api.Errno) {
		if places < 0 || places > api.MaxDecimals {
			return "", api.ErrArg
		}
		return withPeriod(x.Near(digits.Of(1).Shift(places)), places), api.OK
	})
}

// withPeriod returns the text of n / 10^places.
func withPeriod(n digits.Signed, places int) string {
	sign := ""
	if n.Minus {
		sign = "-"
	}
	size := digits.Plain(n.Natural).Text()
	if places == 0 {
		return sign + size
	}
	if missing := places + 1 - len(size); missing > 0 {
		size = strings.Repeat("0", missing) + size
	}
	period := len(size) - places
	return sign + size[:period] + "." + size[period:]
}

// decimal is what the characters of a decimal text say.
type decimal struct {
	digits          []byte
	behind          int // digits behind the period
	minus, period   bool
	leading, nought bool // the first digit is a 0; all are
}

// take takes one more character, and reports whether it may stand there.
func (d *decimal) take(c rune, at int) bool {
	switch {
	case c == '-' && at == 0:
		d.minus = true
	case c == '.' && !d.period && len(d.digits) > 0:
		d.period = true
	case c >= '0' && c <= '9' && d.period:
		d.digits = append(d.digits, byte(c))
		d.behind++
		d.nought = d.nought && c == '0'
	case c >= '0' && c <= '9' && !d.leading:
		d.leading = len(d.digits) == 0 && c == '0'
		d.nought = d.leading
		d.digits = append(d.digits, byte(c))
	default:
		return false
	}
	return true
}

// complete reports whether what was taken is a decimal text.
func (d *decimal) complete() bool {
	return len(d.digits) > 0 && d.period == (d.behind > 0) && d.behind <= api.MaxDecimals && !(d.minus && d.nought)
}

// Parse returns the number of a decimal text.
func Parse(s string) (api.Frac, api.Errno) {
	var d decimal
	ok := true
reading:
	for at, c := range s {
		if ok = d.take(c, at); !ok {
			break reading
		}
	}
	if !ok || !d.complete() {
		return api.Frac{}, api.ErrForm
	}
	text := strings.TrimLeft(string(d.digits), "0")
	if text == "" {
		text = "0"
	}
	n, _ := digits.Read(text)
	if d.minus {
		n = n.Turned()
	}
	return ratio.Of(n, digits.Of(1).Shift(d.behind)).Frac()
}
