package convert

import (
	"math/rand"
	"slices"
	"strings"
	"testing"

	"verdigris/api"
	"verdigris/chain"
	"verdigris/cross"
	"verdigris/image"
	"verdigris/sixteen"
)

func chainOf(in int, l ...api.Element) api.Chain { return api.Chain{In: in, Elements: l} }

func matrix(offset []int, rows ...[]int) api.Element {
	return api.Element{Kind: api.ElMatrix, Rows: rows, Offset: offset}
}

var (
	example = api.Image{Wide: 2, High: 1, Channels: 3, Bits: 8, Pad: 4, Octets: "\x01\x02\x03\x04\x05\x06\x00\x00"}
	turn    = chainOf(3, matrix([]int{0, 0, 0}, []int{0, 0, 1000000}, []int{0, 1000000, 0}, []int{1000000, 0, 0}))
	double  = chainOf(3, matrix([]int{0}, []int{2000000, 0, 0}))
	root    = chainOf(3, api.Element{Kind: api.ElCurves, Curves: []api.Curve{{Kind: api.CuIdentity}, {Kind: api.CuIdentity}, {Kind: api.CuFormula, Segments: []api.Segment{{Till: 1000000, Mul: 1000000, Num: 1, Den: 2}}}}})
)

// tiles reads tiles, four numbers each.
func tiles(n ...int) []api.Tile {
	var l []api.Tile
	for i := 0; i < len(n); i += 4 {
		l = append(l, api.Tile{X: n[i], Y: n[i+1], Wide: n[i+2], High: n[i+3]})
	}
	return l
}

// P43.1
func TestTiles(t *testing.T) {
	for i, x := range []struct {
		wide, high, first, second, seed int
		want                            []api.Tile
		e                               api.Errno
	}{
		{5, 3, 2, 2, 0, tiles(0, 0, 2, 2, 2, 0, 2, 2, 4, 0, 1, 2, 0, 2, 2, 1, 2, 2, 2, 1, 4, 2, 1, 1), api.OK}, {4, 4, 64, 64, 0, tiles(0, 0, 4, 4), api.OK}, {4, 2, 2, 1, 0, tiles(0, 0, 2, 1, 2, 0, 2, 1, 0, 1, 2, 1, 2, 1, 2, 1), api.OK}, {3, 1, 1, 1, 1, tiles(2, 0, 1, 1, 0, 0, 1, 1, 1, 0, 1, 1), api.OK},
		{5, 65, 1, 1, 0, nil, api.ErrArg}, {65, 5, 1, 1, 0, nil, api.ErrArg}, {0, 5, 1, 1, 0, nil, api.ErrArg}, {5, 0, 1, 1, 0, nil, api.ErrArg}, {5, 5, 0, 1, 0, nil, api.ErrArg}, {5, 5, 1, 65, 0, nil, api.ErrArg}, {5, 5, 65, 1, 0, nil, api.ErrArg}, {5, 5, 1, -1, 0, nil, api.ErrArg}, {5, 5, 1, 1, -1, nil, api.ErrArg}, {5, 5, 1, 1, api.MaxSeed + 1, nil, api.ErrArg}, {64, 64, 1, 1, -1, nil, api.ErrArg},
		{64, 64, 1, 1, 0, nil, api.ErrLong}, {64, 33, 4, 2, 0, nil, api.ErrLong},
	} {
		if got, e := Tiles(x.wide, x.high, x.first, x.second, x.seed); !slices.Equal(got, x.want) || e != x.e {
			t.Errorf("%d: %v, %d", i, got, e)
		}
	}
	if got, e := Tiles(64, 64, 4, 4, 0); len(got) != 256 || e != api.OK {
		t.Errorf("Tiles: %d, %d", len(got), e)
	}
	r := rand.New(rand.NewSource(1))
	for range 100 {
		wide, high, first, second, seed := 1+r.Intn(20), 1+r.Intn(12), 1+r.Intn(9), 1+r.Intn(9), 1+r.Intn(api.MaxSeed)
		got, e := Tiles(wide, high, first, second, seed)
		want, _ := Tiles(wide, high, first, second, 0)
		for i := len(want) - 1; i >= 1; i-- {
			var k int
			k, seed, _ = cross.Draw(seed, i+1)
			want[i], want[k] = want[k], want[i]
		}
		if !slices.Equal(got, want) || e != api.OK || Covers(got, wide, high) != api.OK {
			t.Fatalf("Tiles(%d, %d, %d, %d): %v, %d", wide, high, first, second, got, e)
		}
	}
}

// P43.2
func TestCovers(t *testing.T) {
	l, _ := Tiles(5, 3, 2, 2, 0)
	twice := slices.Clone(l)
	twice[5] = twice[0]
	for i, x := range []struct {
		l          []api.Tile
		wide, high int
		e          api.Errno
	}{
		{l, 5, 3, api.OK}, {tiles(0, 0, 5, 3), 5, 3, api.OK}, {tiles(1, 0, 4, 3, 0, 0, 1, 3), 5, 3, api.OK},
		{l[:5], 5, 3, api.ErrTiles}, {twice, 5, 3, api.ErrTiles}, {append(slices.Clone(l), l[0]), 5, 3, api.ErrTiles}, {l, 5, 4, api.ErrTiles}, {l, 4, 3, api.ErrTiles}, {nil, 1, 1, api.ErrTiles}, {tiles(0, 0, 6, 3), 5, 3, api.ErrTiles}, {tiles(0, 0, 1, 3, 1, 0, 5, 3), 5, 3, api.ErrTiles}, {tiles(0, 0, 5, 1, 0, 1, 5, 3), 5, 3, api.ErrTiles}, {tiles(0, 0, 5, 1, 0, 1, 5, 2), 5, 3, api.OK}, {tiles(-1, 0, 6, 3), 5, 3, api.ErrTiles}, {tiles(0, 0, 5, 0, 0, 0, 5, 3), 5, 3, api.ErrTiles}, {tiles(0, 0, 0, 3, 0, 0, 5, 3), 5, 3, api.ErrTiles}, {tiles(5, 0, 1, 1, 0, 0, 5, 3), 5, 3, api.ErrTiles}, {tiles(0, 1<<63-1, 1, 1<<63-1), 5, 3, api.ErrTiles}, {tiles(0, 0, 1<<63-1, 1<<63-1), 5, 3, api.ErrTiles},
		{nil, 0, 1, api.ErrArg}, {nil, 1, 65, api.ErrArg}, {make([]api.Tile, 257), 65, 1, api.ErrArg}, {make([]api.Tile, 257), 64, 1, api.ErrLong}, {make([]api.Tile, 256), 64, 1, api.ErrTiles},
	} {
		if e := Covers(x.l, x.wide, x.high); e != x.e {
			t.Errorf("%d: %d", i, e)
		}
	}
}

// P43.3, P43.4
func TestExamples(t *testing.T) {
	for i, x := range []struct {
		c      api.Chain
		bits   int
		planar bool
		pad    int
		want   string
	}{
		{turn, 8, false, 1, "\x03\x02\x01\x06\x05\x04"}, {chainOf(3), 16, true, 1, "\x01\x01\x04\x04\x02\x02\x05\x05\x03\x03\x06\x06"}, {chainOf(3), 8, false, 4, example.Octets}, {chainOf(3, matrix([]int{0}, []int{0, 500000, 0})), 16, false, 8, "\x01\x01\x02\x83\x00\x00\x00\x00"},
	} {
		outs, _ := chain.Outs(x.c)
		want := api.Image{Wide: 2, High: 1, Channels: outs, Bits: x.bits, Planar: x.planar, Pad: x.pad, Octets: x.want}
		if got, e := Apply(example, x.c, x.bits, x.planar, x.pad); got != want || e != api.OK {
			t.Errorf("Apply %d: %v, %d", i, got, e)
		}
		for _, l := range [][]api.Tile{tiles(1, 0, 1, 1, 0, 0, 1, 1), tiles(0, 0, 2, 1)} {
			if got, e := Tiled(example, x.c, x.bits, x.planar, x.pad, l); got != want || e != api.OK {
				t.Errorf("Tiled %d: %v, %d", i, got, e)
			}
		}
	}
}

// P43.3, P43.4
func TestErrors(t *testing.T) {
	broken := example
	broken.Octets = "x"
	whole := tiles(0, 0, 2, 1)
	p := []api.Op{{Code: api.PuIn}}
	for range 10 {
		p = append(p, api.Op{Code: api.PuCopy}, api.Op{Code: api.PuMul})
	}
	powers := chainOf(3, api.Element{Kind: api.ElProgram, In: 3, Out: 1, Program: p})
	wide, _ := image.Make(64, 64, 1, 8, false, 1)
	spread := chainOf(1, matrix([]int{0, 0}, []int{1}, []int{1}))
	for i, x := range []struct {
		m           api.Image
		c           api.Chain
		bits, pad   int
		l           []api.Tile
		apply, tile api.Errno
	}{
		{broken, api.Chain{}, 7, 1, nil, api.ErrImage, api.ErrImage}, {example, api.Chain{}, 7, 1, nil, api.ErrChain, api.ErrChain}, {example, chainOf(1), 8, 1, nil, api.ErrArg, api.ErrTiles}, {example, chainOf(1), 8, 1, make([]api.Tile, 257), api.ErrArg, api.ErrLong}, {example, chainOf(1), 8, 1, whole, api.ErrArg, api.ErrArg},
		{example, chainOf(3), 7, 1, whole, api.ErrArg, api.ErrArg}, {example, chainOf(3), 8, 3, whole, api.ErrArg, api.ErrArg}, {wide, spread, 8, 1, tiles(0, 0, 64, 64), api.ErrArg, api.ErrArg}, {example, double, 7, 1, whole, api.ErrArg, api.ErrArg},
		{example, double, 8, 1, whole, api.ErrForm, api.ErrForm}, {example, chainOf(1, matrix([]int{0}, []int{2000000})), 8, 1, whole, api.ErrArg, api.ErrArg}, {example, root, 8, 1, whole, api.ErrForm, api.ErrForm}, {example, powers, 8, 1, whole, api.ErrBig, api.ErrBig},
	} {
		if got, e := Apply(x.m, x.c, x.bits, false, x.pad); got != (api.Image{}) || e != x.apply {
			t.Errorf("Apply %d: %v, %d", i, got, e)
		}
		if got, e := Tiled(x.m, x.c, x.bits, false, x.pad, x.l); got != (api.Image{}) || e != x.tile {
			t.Errorf("Tiled %d: %v, %d", i, got, e)
		}
	}
	// A pixel of 0 has a value, whatever the others have.
	zero := example
	zero.Octets = strings.Repeat("\x00", 8)
	if got, e := Apply(zero, powers, 8, false, 1); got.Octets != "\x00\x00" || e != api.OK {
		t.Errorf("Apply: %v, %d", got, e)
	}
}

func some(r *rand.Rand, channels int) api.Image {
	m, _ := image.Make(1+r.Intn(12), 1+r.Intn(12), channels, 8<<r.Intn(2), r.Intn(2) == 0, 1<<r.Intn(4))
	for y := range m.High {
		for x := range m.Wide {
			v := make([]int, channels)
			for i := range v {
				v[i] = r.Intn(4) * ((1<<m.Bits - 1) / 3)
			}
			m, _ = image.Set(m, x, y, v)
		}
	}
	return m
}

// P43.3, P43.5
func TestLaws(t *testing.T) {
	r := rand.New(rand.NewSource(2))
	for range 30 {
		m := some(r, 2)
		a, b := r.Intn(1000001), r.Intn(1000001)
		first := chainOf(2, matrix([]int{0, 0, 0}, []int{a, 1000000 - a}, []int{b, 0}, []int{0, b}))
		second := chainOf(3, api.Element{Kind: api.ElCurves, Curves: []api.Curve{{Kind: api.CuTable, Table: []int{r.Intn(65536), r.Intn(65536)}}, {Kind: api.CuIdentity}, {Kind: api.CuTable, Table: []int{65535, 0}}}})
		c, _ := chain.Join(first, second)
		bits, planar, pad := 8<<r.Intn(2), r.Intn(2) == 0, 1<<r.Intn(4)
		got, e := Apply(m, c, bits, planar, pad)
		if e != api.OK || image.Check(got) != api.OK {
			t.Fatalf("Apply(%v): %v, %d", m, got, e)
		}
		for y := range m.High {
			for x := range m.Wide {
				in, _ := image.Get(m, x, y)
				for i, v := range in {
					if m.Bits == 8 {
						in[i] = 257 * v
					}
				}
				want, _ := sixteen.Run(c, in)
				for i, v := range want {
					if bits == 8 {
						want[i] = (v + 128) / 257
					}
				}
				if values, _ := image.Get(got, x, y); !slices.Equal(values, want) {
					t.Fatalf("Apply(%v) at %d, %d: %v, not %v", m, x, y, values, want)
				}
			}
		}
		for range 3 {
			l, _ := Tiles(m.Wide, m.High, 1+r.Intn(6), 1+r.Intn(6), r.Intn(5))
			if tiled, e := Tiled(m, c, bits, planar, pad, l); tiled != got || e != api.OK {
				t.Fatalf("Tiled(%v, %v): %v, %d; want %v", m, l, tiled, e, got)
			}
		}
		between, _ := Apply(m, first, 16, false, 2)
		if after, e := Apply(between, second, bits, planar, pad); after != got || e != api.OK {
			t.Fatalf("Apply by two chains: %v, %d; want %v", after, e, got)
		}
		shaped, _ := image.Shape(m, bits, planar, pad)
		if plain, e := Apply(m, chainOf(2), bits, planar, pad); plain != shaped || e != api.OK {
			t.Fatalf("Apply by an empty chain: %v, %d; want %v", plain, e, shaped)
		}
	}
}
