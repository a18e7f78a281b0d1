package band

import (
	"math/bits"

	"verdigris/api"
)

// least returns the least of some numbers.
func least(first int, others ...int) int {
	for _, n := range others {
		first = min(first, n)
	}
	return first
}

// greatest returns the greatest of some numbers.
func greatest(first int, others ...int) int {
	for _, n := range others {
		first = max(first, n)
	}
	return first
}

// joint says which of two numbers becomes an end of a band that is made of two others.
type joint struct {
	low, high func(first int, others ...int) int
}

// The places of joints in their table.
const (
	lesser = iota
	larger
	hull
	meeting
	joints
)

func joined(a, b api.Band, place int) (api.Band, api.Errno) {
	table := [joints]joint{
		lesser:  {least, least},
		larger:  {greatest, greatest},
		hull:    {least, greatest},
		meeting: {greatest, least},
	}
	return checked(func() (api.Band, api.Errno) {
		out := api.Band{Lo: table[place].low(a.Lo, b.Lo), Hi: table[place].high(a.Hi, b.Hi)}
		if out.Lo > out.Hi {
			return api.Band{}, api.ErrNone
		}
		return out, api.OK
	}, a, b)
}

// Min returns the band of the lesser number of each pair.
func Min(a, b api.Band) (api.Band, api.Errno) {
	return joined(a, b, lesser)
}

// Max returns the band of the greater number of each pair.
func Max(a, b api.Band) (api.Band, api.Errno) {
	return joined(a, b, larger)
}

// Hull returns the least band that contains both.
func Hull(a, b api.Band) (api.Band, api.Errno) {
	return joined(a, b, hull)
}

// Meet returns the band of the numbers that both contain.
func Meet(a, b api.Band) (api.Band, api.Errno) {
	return joined(a, b, meeting)
}

// pairs returns the four pairs of an end of a and an end of b.
func pairs(a, b api.Band) [4][2]int {
	return [4][2]int{{a.Lo, b.Lo}, {a.Lo, b.Hi}, {a.Hi, b.Lo}, {a.Hi, b.Hi}}
}

// share is the number x y / z: its size, rounded down, its sign, and whether something was left.
type share struct {
	size        uint64
	minus, rest bool
	fits        bool
}

// shareOf returns x y / z for a z that is not 0. It does not fit if its size has more than 64 bits.
func shareOf(x, y, z int) share {
	high, low := bits.Mul64(size(x), size(y))
	if high >= size(z) {
		return share{}
	}
	quotient, rest := bits.Div64(high, low, size(z))
	minus := (x < 0) != (y < 0) != (z < 0)
	return share{size: quotient, minus: minus, rest: rest != 0, fits: true}
}

func size(n int) uint64 {
	if n < 0 {
		return -uint64(n)
	}
	return uint64(n)
}

// spanned returns the tightest band of the shares that f makes of pairs of ends.
func spanned(l [4][2]int, f func(x, y int) share) (api.Band, api.Errno) {
	var downs, ups [4]int
	round := func(s share, up bool) int {
		out := s.size
		if s.rest && s.minus != up {
			out++
		}
		if s.minus {
			return -int(out)
		}
		return int(out)
	}
	fits := true
spanning:
	for i, pair := range l {
		s := f(pair[0], pair[1])
		if fits = s.fits && s.size <= api.MaxBand; !fits {
			break spanning
		}
		downs[i], ups[i] = round(s, false), round(s, true)
	}
	if !fits {
		return api.Band{}, api.ErrBig
	}
	return result(least(downs[0], downs[1:]...), greatest(ups[0], ups[1:]...))
}
