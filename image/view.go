package image

import "verdigris/api"

// view is an image whose numbers, at least, are looked at.
type view struct {
	api.Image
}

// areFrom reports whether some numbers are from 1 to most.
func areFrom(most int, l ...int) bool {
	for _, n := range l {
		if n < 1 || n > most {
			return false
		}
	}
	return true
}

// hasNumbers reports whether there is a valid image with the numbers of this one.
func (v view) hasNumbers() bool {
	if !areFrom(api.MaxSide, v.Wide, v.High) || !areFrom(api.MaxChannels, v.Channels) || v.Wide*v.High*v.Channels > api.MaxSamples {
		return false
	}
	return (v.Bits == 8 || v.Bits == 16) && (v.Pad == 1 || v.Pad == 2 || v.Pad == 4 || v.Pad == 8)
}

// rowSamples returns the number of samples of a row.
func (v view) rowSamples() int {
	if v.Planar {
		return v.Wide
	}
	return v.Wide * v.Channels
}

// rows returns the number of rows of all planes.
func (v view) rows() int {
	if v.Planar {
		return v.High * v.Channels
	}
	return v.High
}

// stride returns the number of octets of a row.
func (v view) stride() int {
	octets := v.rowSamples() * v.Bits / 8
	return (octets + v.Pad - 1) / v.Pad * v.Pad
}

// size returns the number of all octets.
func (v view) size() int {
	return v.rows() * v.stride()
}

// isPadded reports whether what stands behind the samples of each row is 0.
func (v view) isPadded() bool {
	used, stride := v.rowSamples()*v.Bits/8, v.stride()
	for row := range v.rows() {
		for at := used; at < stride; at++ {
			if v.Octets[row*stride+at] != 0 {
				return false
			}
		}
	}
	return true
}

// place returns the offset of a sample.
func (v view) place(x, y, channel int) int {
	octets := v.Bits / 8
	if v.Planar {
		return (channel*v.High+y)*v.stride() + x*octets
	}
	return y*v.stride() + (x*v.Channels+channel)*octets
}

// with returns the image with these octets.
func (v view) with(octets []byte) api.Image {
	v.Octets = string(octets)
	return v.Image
}

// reshaped returns the view of an image in another layout, which has no octets yet.
func (v view) reshaped(l layout) view {
	v.Bits, v.Planar, v.Pad, v.Octets = l.bits, l.planar, l.pad, ""
	return v
}

// access reads and writes samples.
type access struct {
	read  func(octets string, at int) int
	write func(octets []byte, at, sample int)
}

// accesses are the ways to samples of so many bits.
func accesses() map[int]access {
	return map[int]access{
		8: {
			func(octets string, at int) int { return int(octets[at]) },
			func(octets []byte, at, sample int) { octets[at] = byte(sample) },
		},
		16: {
			func(octets string, at int) int { return int(octets[at])<<8 | int(octets[at+1]) },
			func(octets []byte, at, sample int) { octets[at], octets[at+1] = byte(sample>>8), byte(sample) },
		},
	}
}

// list returns what f makes of the elements of a list.
func list[A, B any](l []A, f func(A) B) []B {
	out := make([]B, len(l))
	for i, a := range l {
		out[i] = f(a)
	}
	return out
}

// channelNumbers returns the numbers of the channels.
func (v view) channelNumbers() []int {
	out := make([]int, v.Channels)
	for c := range out {
		out[c] = c
	}
	return out
}

// pixel returns the values of a pixel.
func (v view) pixel(x, y int) []int {
	read := accesses()[v.Bits].read
	return list(v.channelNumbers(), func(c int) int { return read(v.Octets, v.place(x, y, c)) })
}

// put writes the values of a pixel to octets of the image's layout.
func (v view) put(octets []byte, x, y int, values []int) {
	write := accesses()[v.Bits].write
	for c, n := range values {
		write(octets, v.place(x, y, c), n)
	}
}
