// Package whole is layer 1: whole numbers of up to 600 digits, which are texts. See 01-whole.md.
package whole

import (
	"verdigris/api"
	"verdigris/digits"
)

// operand is a number that was read; the methods of its sign and size are promoted.
type operand struct {
	digits.Signed
}

// operation makes a number of two others.
type operation struct {
	apply func(a, b digits.Signed) digits.Signed
}

// The places of the operations in their array.
const (
	adding = iota
	subtracting
	multiplying
	dividing
	kinds
)

func operations() [kinds]operation {
	return [kinds]operation{
		adding:      {digits.Signed.Plus},
		subtracting: {digits.Signed.Less},
		multiplying: {digits.Signed.Times},
		dividing: {func(a, b digits.Signed) digits.Signed {
			return digits.Plain(a.Gcd(b.Natural))
		}},
	}
}

// read returns the number of a valid text. The length is looked at first, so that endless texts are not gone through.
func read(a api.Whole) (operand, api.Errno) {
	if len(a) > api.MaxWhole+1 {
		return operand{}, api.ErrWhole
	}
	number, ok := digits.Read(string(a))
	if !ok || number.Length() > api.MaxWhole {
		return operand{}, api.ErrWhole
	}
	return operand{number}, api.OK
}

func readTwo(a, b api.Whole) (x, y operand, e api.Errno) {
	if x, e = read(a); e != api.OK {
		return operand{}, operand{}, e
	}
	if y, e = read(b); e != api.OK {
		return operand{}, operand{}, e
	}
	return x, y, api.OK
}

// fit returns the text of a result, if it is not too long.
func fit(a digits.Signed) (api.Whole, api.Errno) {
	if a.Length() > api.MaxWhole {
		return "", api.ErrBig
	}
	return api.Whole(a.Text()), api.OK
}

// one applies a function to a number.
func one(a api.Whole, apply func(operand) digits.Signed) (api.Whole, api.Errno) {
	x, e := read(a)
	if e != api.OK {
		return "", e
	}
	return fit(apply(x))
}

// two applies the operation at a place of the array to two numbers.
func two(a, b api.Whole, place int) (api.Whole, api.Errno) {
	x, y, e := readTwo(a, b)
	if e != api.OK {
		return "", e
	}
	return fit(operations()[place].apply(x.Signed, y.Signed))
}

// Check returns ErrWhole for a text that is no whole number.
func Check(a api.Whole) api.Errno {
	_, e := read(a)
	return e
}

// Of returns the whole number n.
func Of(n int) api.Whole {
	return api.Whole(digits.OfInt(n).Text())
}

// Int returns the number as an integer of 64 bits.
func Int(a api.Whole) (int, api.Errno) {
	x, e := read(a)
	if e != api.OK {
		return 0, e
	}
	n, ok := x.Int()
	if !ok {
		return 0, api.ErrBig
	}
	return n, api.OK
}

// Sign returns -1, 0 or 1.
func Sign(a api.Whole) (int, api.Errno) {
	x, e := read(a)
	if e != api.OK {
		return 0, e
	}
	return x.Sign(), api.OK
}

// Cmp returns -1, 0 or 1 if a is less than, equal to or greater than b.
func Cmp(a, b api.Whole) (int, api.Errno) {
	x, y, e := readTwo(a, b)
	if e != api.OK {
		return 0, e
	}
	return x.Order(y.Signed), api.OK
}

// Neg returns -a.
func Neg(a api.Whole) (api.Whole, api.Errno) {
	return one(a, func(x operand) digits.Signed { return x.Turned() })
}

// Abs returns a without its sign.
func Abs(a api.Whole) (api.Whole, api.Errno) {
	return one(a, func(x operand) digits.Signed { return digits.Plain(x.Natural) })
}

// Add returns a + b.
func Add(a, b api.Whole) (api.Whole, api.Errno) {
	return two(a, b, adding)
}

// Sub returns a - b.
func Sub(a, b api.Whole) (api.Whole, api.Errno) {
	return two(a, b, subtracting)
}

// Mul returns a b.
func Mul(a, b api.Whole) (api.Whole, api.Errno) {
	return two(a, b, multiplying)
}

// Div returns quotient and remainder; the remainder is not negative.
func Div(a, b api.Whole) (q, r api.Whole, e api.Errno) {
	x, y, e := readTwo(a, b)
	if e != api.OK {
		return "", "", e
	}
	if y.IsZero() {
		return "", "", api.ErrZero
	}
	quotient, rest := x.Over(y.Signed)
	if q, e = fit(quotient); e != api.OK {
		return "", "", e
	}
	return q, api.Whole(rest.Text()), api.OK
}

// Gcd returns the greatest common divisor.
func Gcd(a, b api.Whole) (api.Whole, api.Errno) {
	return two(a, b, dividing)
}

// Pow returns the n-th power of a.
func Pow(a api.Whole, n int) (api.Whole, api.Errno) {
	x, e := read(a)
	if e != api.OK {
		return "", e
	}
	if n < 0 || n > api.MaxPower {
		return "", api.ErrArg
	}
	raise := x.Raised
	return fit(raise(n))
}

// Root returns the greatest number whose k-th power is at most a.
func Root(a api.Whole, k int) (api.Whole, api.Errno) {
	x, e := read(a)
	if e != api.OK {
		return "", e
	}
	if k < 1 || k > api.MaxRoot || x.Minus {
		return "", api.ErrArg
	}
	root := x.Root
	return fit(digits.Plain(root(k)))
}
