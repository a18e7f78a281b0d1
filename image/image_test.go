package image

import (
	"math/rand"
	"slices"
	"strings"
	"testing"

	"verdigris/api"
)

var example = api.Image{Wide: 2, High: 1, Channels: 3, Bits: 8, Pad: 4, Octets: "\x01\x02\x03\x04\x05\x06\x00\x00"}

func with(change func(m *api.Image)) api.Image {
	m := example
	change(&m)
	return m
}

var invalid = []api.Image{
	{}, with(func(m *api.Image) { m.Wide = 0 }), with(func(m *api.Image) { m.Wide = 65 }), with(func(m *api.Image) { m.High = 0 }), with(func(m *api.Image) { m.High = 65 }), with(func(m *api.Image) { m.High = -1 }), with(func(m *api.Image) { m.Channels = 0 }), with(func(m *api.Image) { m.Channels = 5 }),
	with(func(m *api.Image) { m.Bits = 0 }), with(func(m *api.Image) { m.Bits = 4 }), with(func(m *api.Image) { m.Bits = 32 }), with(func(m *api.Image) { m.Pad = 0 }), with(func(m *api.Image) { m.Pad = 3 }), with(func(m *api.Image) { m.Pad = 16 }),
	with(func(m *api.Image) { m.Octets = m.Octets[:7] }), with(func(m *api.Image) { m.Octets += "\x00" }), with(func(m *api.Image) { m.Octets = "" }), with(func(m *api.Image) { m.Octets = m.Octets[:7] + "\x01" }), with(func(m *api.Image) { m.Octets = m.Octets[:6] + "\x01\x00" }), with(func(m *api.Image) { m.Planar = true }), with(func(m *api.Image) { m.Bits = 16 }),
	{Wide: 64, High: 64, Channels: 2, Bits: 8, Pad: 1, Octets: strings.Repeat("x", 8192)}, {Wide: 1 << 62, High: 4, Channels: 1, Bits: 8, Pad: 1},
	{Wide: 1, High: 1, Channels: 2, Bits: 8, Planar: true, Pad: 2, Octets: "\x01\x00\x02\x01"},
}

// P42.1 to P42.4
func TestInvalid(t *testing.T) {
	for i, m := range invalid {
		if e := Check(m); e != api.ErrImage {
			t.Errorf("Check of %d: %d", i, e)
		}
		if n, e := Stride(m); n != 0 || e != api.ErrImage {
			t.Errorf("Stride of %d: %d, %d", i, n, e)
		}
		if l, e := Get(m, -1, 0); l != nil || e != api.ErrImage {
			t.Errorf("Get of %d: %v, %d", i, l, e)
		}
		for _, f := range []func() (api.Image, api.Errno){
			func() (api.Image, api.Errno) { return Set(m, -1, 0, nil) },
			func() (api.Image, api.Errno) { return Shape(m, 7, false, 0) },
			func() (api.Image, api.Errno) { return Cut(m, 0, 0, 0, 0) },
			func() (api.Image, api.Errno) { return Paste(m, example, -1, 0) },
			func() (api.Image, api.Errno) { return Paste(example, m, -1, 0) },
		} {
			if got, e := f(); got != (api.Image{}) || e != api.ErrImage {
				t.Errorf("%d: %v, %d", i, got, e)
			}
		}
	}
}

// P42.1
func TestMake(t *testing.T) {
	for i, x := range []struct {
		wide, high, channels, bits int
		planar                     bool
		pad, octets, stride        int
		e                          api.Errno
	}{
		{2, 1, 3, 8, false, 4, 8, 8, api.OK}, {64, 64, 1, 16, false, 8, 8192, 128, api.OK}, {1, 64, 4, 16, true, 8, 2048, 8, api.OK}, {3, 2, 2, 8, true, 2, 16, 4, api.OK}, {3, 2, 2, 16, false, 8, 32, 16, api.OK}, {1, 1, 1, 8, false, 1, 1, 1, api.OK}, {16, 64, 4, 8, true, 1, 4096, 16, api.OK},
		{65, 1, 1, 8, false, 1, 0, 0, api.ErrArg}, {0, 1, 1, 8, false, 1, 0, 0, api.ErrArg}, {64, 64, 2, 8, false, 1, 0, 0, api.ErrArg}, {1, 1, 5, 8, false, 1, 0, 0, api.ErrArg}, {1, 1, 1, 12, false, 1, 0, 0, api.ErrArg}, {1, 1, 1, 8, false, 5, 0, 0, api.ErrArg}, {1 << 62, 1 << 62, 1, 8, false, 1, 0, 0, api.ErrArg}, {1, -1, 1, 8, false, 1, 0, 0, api.ErrArg},
	} {
		got, e := Make(x.wide, x.high, x.channels, x.bits, x.planar, x.pad)
		want := api.Image{}
		if x.e == api.OK {
			want = api.Image{Wide: x.wide, High: x.high, Channels: x.channels, Bits: x.bits, Planar: x.planar, Pad: x.pad, Octets: strings.Repeat("\x00", x.octets)}
			if n, e := Stride(got); n != x.stride || e != api.OK {
				t.Errorf("Stride %d: %d, %d", i, n, e)
			}
		}
		if got != want || e != x.e {
			t.Errorf("%d: %v, %d", i, got, e)
		}
	}
}

// P42.2
func TestGetAndSet(t *testing.T) {
	if l, e := Get(example, 1, 0); !slices.Equal(l, []int{4, 5, 6}) || e != api.OK {
		t.Errorf("Get: %v, %d", l, e)
	}
	if m, e := Set(example, 0, 0, []int{7, 8, 9}); m != with(func(m *api.Image) { m.Octets = "\x07\x08\x09\x04\x05\x06\x00\x00" }) || e != api.OK {
		t.Errorf("Set: %v, %d", m, e)
	}
	if m, e := Set(example, 1, 0, []int{0, 255, 1}); m.Octets != "\x01\x02\x03\x00\xff\x01\x00\x00" || e != api.OK {
		t.Errorf("Set: %v, %d", m, e)
	}
	wide := api.Image{Wide: 1, High: 2, Channels: 2, Bits: 16, Planar: true, Pad: 4, Octets: "\x00\x01\x00\x00\x02\x03\x00\x00\xff\xff\x00\x00\x04\x05\x00\x00"}
	if l, e := Get(wide, 0, 1); !slices.Equal(l, []int{515, 1029}) || e != api.OK {
		t.Errorf("Get: %v, %d", l, e)
	}
	if l, e := Get(wide, 0, 0); !slices.Equal(l, []int{1, 65535}) || e != api.OK {
		t.Errorf("Get: %v, %d", l, e)
	}
	if m, e := Set(wide, 0, 1, []int{65535, 256}); m.Octets != "\x00\x01\x00\x00\xff\xff\x00\x00\xff\xff\x00\x00\x01\x00\x00\x00" || e != api.OK {
		t.Errorf("Set: %v, %d", m, e)
	}
	for _, p := range [][2]int{{2, 0}, {0, 1}, {-1, 0}, {0, -1}, {1 << 62, 0}} {
		if l, e := Get(example, p[0], p[1]); l != nil || e != api.ErrArg {
			t.Errorf("Get(%v): %v, %d", p, l, e)
		}
		if m, e := Set(example, p[0], p[1], []int{1, 2, 3}); m != (api.Image{}) || e != api.ErrArg {
			t.Errorf("Set(%v): %v, %d", p, m, e)
		}
	}
	for _, v := range [][]int{nil, {1, 2}, {1, 2, 3, 4}, {1, 2, 256}, {-1, 2, 3}} {
		if m, e := Set(example, 0, 0, v); m != (api.Image{}) || e != api.ErrArg {
			t.Errorf("Set(%v): %v, %d", v, m, e)
		}
	}
	if m, e := Set(wide, 0, 0, []int{65536, 0}); m != (api.Image{}) || e != api.ErrArg {
		t.Errorf("Set: %v, %d", m, e)
	}
}

// P42.3
func TestShape(t *testing.T) {
	for i, x := range []struct {
		bits   int
		planar bool
		pad    int
		want   string
		e      api.Errno
	}{
		{8, true, 1, "\x01\x04\x02\x05\x03\x06", api.OK}, {16, false, 1, "\x01\x01\x02\x02\x03\x03\x04\x04\x05\x05\x06\x06", api.OK}, {8, false, 4, example.Octets, api.OK}, {8, false, 8, example.Octets, api.OK}, {8, true, 4, "\x01\x04\x00\x00\x02\x05\x00\x00\x03\x06\x00\x00", api.OK},
		{4, false, 1, "", api.ErrArg}, {8, false, 3, "", api.ErrArg}, {0, false, 0, "", api.ErrArg},
	} {
		want := api.Image{}
		if x.e == api.OK {
			want = with(func(m *api.Image) { m.Bits, m.Planar, m.Pad, m.Octets = x.bits, x.planar, x.pad, x.want })
		}
		if got, e := Shape(example, x.bits, x.planar, x.pad); got != want || e != x.e {
			t.Errorf("%d: %v, %d", i, got, e)
		}
	}
	// The nearest number of v / 257, for all samples.
	for v := range 65536 {
		m := api.Image{Wide: 1, High: 1, Channels: 1, Bits: 16, Pad: 1, Octets: string([]byte{byte(v >> 8), byte(v)})}
		got, e := Shape(m, 8, false, 1)
		n := int(got.Octets[0])
		if e != api.OK || 2*(n*257-v) > 257 || 2*(v-n*257) > 257 {
			t.Fatalf("Shape of %d: %d, %d", v, n, e)
		}
	}
}

// P42.4
func TestCutAndPaste(t *testing.T) {
	if m, e := Cut(example, 1, 0, 1, 1); m != with(func(m *api.Image) { m.Wide, m.Octets = 1, "\x04\x05\x06\x00" }) || e != api.OK {
		t.Errorf("Cut: %v, %d", m, e)
	}
	for _, p := range [][4]int{{1, 0, 2, 1}, {0, 0, 0, 1}, {0, 0, 1, 0}, {-1, 0, 1, 1}, {0, -1, 1, 1}, {0, 0, 1, 2}, {2, 0, 1, 1}, {1, 0, 1<<63 - 1, 1}, {1<<63 - 1, 0, 1, 1}, {0, 1, 1, 1}} {
		if m, e := Cut(example, p[0], p[1], p[2], p[3]); m != (api.Image{}) || e != api.ErrArg {
			t.Errorf("Cut(%v): %v, %d", p, m, e)
		}
	}
	tall := api.Image{Wide: 1, High: 3, Channels: 1, Bits: 8, Pad: 1, Octets: "abc"}
	for _, p := range [][4]int{{0, 1, 1, 3}, {0, 2, 1, 2}, {0, 3, 1, 1}} {
		if m, e := Cut(tall, p[0], p[1], p[2], p[3]); m != (api.Image{}) || e != api.ErrArg {
			t.Errorf("Cut(%v): %v, %d", p, m, e)
		}
	}
	if m, e := Cut(tall, 0, 1, 1, 2); m.Octets != "bc" || e != api.OK {
		t.Errorf("Cut: %v, %d", m, e)
	}
	part := api.Image{Wide: 1, High: 1, Channels: 3, Bits: 8, Planar: true, Pad: 2, Octets: "\x07\x00\x08\x00\x09\x00"}
	if m, e := Paste(example, part, 1, 0); m != with(func(m *api.Image) { m.Octets = "\x01\x02\x03\x07\x08\x09\x00\x00" }) || e != api.OK {
		t.Errorf("Paste: %v, %d", m, e)
	}
	two := api.Image{Wide: 1, High: 1, Channels: 2, Bits: 8, Pad: 1, Octets: "\x07\x00"}
	deep := api.Image{Wide: 1, High: 1, Channels: 3, Bits: 16, Pad: 1, Octets: "\x07\x00\x08\x00\x09\x00"}
	for i, x := range []struct {
		part api.Image
		x, y int
	}{{part, 2, 0}, {part, -1, 0}, {part, 0, 1}, {part, 0, -1}, {two, 0, 0}, {deep, 0, 0}, {example, 1, 0}, {part, 1<<63 - 1, 0}} {
		if m, e := Paste(example, x.part, x.x, x.y); m != (api.Image{}) || e != api.ErrArg {
			t.Errorf("Paste %d: %v, %d", i, m, e)
		}
	}
}

func some(r *rand.Rand) api.Image {
	m, e := Make(1+r.Intn(7), 1+r.Intn(7), 1+r.Intn(4), 8<<r.Intn(2), r.Intn(2) == 0, 1<<r.Intn(4))
	if e != api.OK {
		panic(e)
	}
	for y := range m.High {
		for x := range m.Wide {
			v := make([]int, m.Channels)
			for i := range v {
				v[i] = r.Intn(1 << m.Bits)
			}
			if m, e = Set(m, x, y, v); e != api.OK {
				panic(e)
			}
		}
	}
	return m
}

// P42.5
func TestLaws(t *testing.T) {
	r := rand.New(rand.NewSource(1))
	for range 300 {
		m := some(r)
		if e := Check(m); e != api.OK {
			t.Fatalf("Check(%v): %d", m, e)
		}
		x, y := r.Intn(m.Wide), r.Intn(m.High)
		v := make([]int, m.Channels)
		for i := range v {
			v[i] = r.Intn(1 << m.Bits)
		}
		set, _ := Set(m, x, y, v)
		for j := range m.High {
			for i := range m.Wide {
				got, _ := Get(set, i, j)
				want, _ := Get(m, i, j)
				if i == x && j == y {
					want = v
				}
				if !slices.Equal(got, want) {
					t.Fatalf("Set(%v, %d, %d, %v): %v at %d, %d", m, x, y, v, got, i, j)
				}
			}
		}
		bits, planar, pad := 8<<r.Intn(2), r.Intn(2) == 0, 1<<r.Intn(4)
		shaped, e := Shape(m, bits, planar, pad)
		back, e2 := Shape(shaped, m.Bits, m.Planar, m.Pad)
		if e != api.OK || e2 != api.OK || Check(shaped) != api.OK || bits >= m.Bits && back != m {
			t.Fatalf("Shape(%v): %v, and back %v", m, shaped, back)
		}
		for j := range m.High {
			for i := range m.Wide {
				before, _ := Get(m, i, j)
				after, _ := Get(back, i, j)
				for c := range before {
					if away := before[c] - after[c]; away > 128 || away < -128 {
						t.Fatalf("Shape(%v) and back: %v, not %v", m, after, before)
					}
				}
			}
		}
		wide, high := 1+r.Intn(m.Wide-x), 1+r.Intn(m.High-y)
		part, e := Cut(m, x, y, wide, high)
		pasted, e2 := Paste(m, part, x, y)
		if pasted != m || e != api.OK || e2 != api.OK || Check(part) != api.OK {
			t.Fatalf("Paste(Cut(%v)): %v, %d, %d", m, pasted, e, e2)
		}
		other := some(r)
		if other.Bits == m.Bits && other.Channels == m.Channels && other.Wide <= m.Wide-x && other.High <= m.High-y {
			pasted, e := Paste(m, other, x, y)
			again, e2 := Cut(pasted, x, y, other.Wide, other.High)
			same, _ := Shape(other, m.Bits, m.Planar, m.Pad)
			if again != same || e != api.OK || e2 != api.OK {
				t.Fatalf("Cut(Paste(%v, %v)): %v", m, other, again)
			}
		}
	}
}
