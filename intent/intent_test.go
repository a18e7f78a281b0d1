package intent

import (
	"math/big"
	"math/rand"
	"testing"

	"verdigris/api"
	"verdigris/frac"
	"verdigris/inside"
	"verdigris/mesh"
)

func fr(text string) api.Frac {
	x, ok := new(big.Rat).SetString(text)
	if !ok {
		panic(text)
	}
	return api.Frac{N: api.Whole(x.Num().String()), D: api.Whole(x.Denom().String())}
}

func value(a api.Frac) *big.Rat {
	x, _ := new(big.Rat).SetString(string(a.N) + "/" + string(a.D))
	return x
}

func tri(l, a, b string) api.Tri { return api.Tri{fr(l), fr(a), fr(b)} }

func whole(p [3]int) api.Tri {
	var t api.Tri
	for i, n := range p {
		t[i], _ = frac.Of(n, 1)
	}
	return t
}

// octahedron has corners above, below and around a center on the neutral axis.
func octahedron(center, high, wide int) api.Mesh {
	return api.Mesh{
		Points: [][3]int{{center - high, 0, 0}, {center + high, 0, 0}, {center, wide, 0}, {center, -wide, 0}, {center, 0, wide}, {center, 0, -wide}},
		Faces:  [][3]int{{1, 2, 4}, {1, 4, 3}, {1, 3, 5}, {1, 5, 2}, {0, 4, 2}, {0, 3, 4}, {0, 5, 3}, {0, 2, 5}},
	}
}

var (
	example = octahedron(50000, 30000, 30000)
	none    = api.Tri{}
)

func moved(m api.Mesh, by ...int) api.Mesh {
	out, e := mesh.Moved(m, [3]int(by))
	if e != api.OK {
		panic(e)
	}
	return out
}

// P38.1
func TestAxis(t *testing.T) {
	for i, x := range []struct {
		m         api.Mesh
		low, high int
		e         api.Errno
	}{
		{example, 20000, 80000, api.OK}, {octahedron(50000, 50000, 100), 0, 100000, api.OK}, {octahedron(50000, 60000, 100), 0, 100000, api.OK}, {octahedron(40000, 60000, 100), 0, 100000, api.OK}, {octahedron(30000, 40000, 100), 0, 70000, api.OK}, {octahedron(90000, 40000, 100), 50000, 100000, api.OK},
		{moved(example, 0, 7, 0), 20007, 79993, api.OK}, {moved(octahedron(50000, 30000, 9000), 0, 7, 0), 20024, 79976, api.OK}, {moved(example, 0, 30000, 0), 50000, 50000, api.OK}, {moved(example, 0, 30001, 0), 0, 0, api.ErrNone}, {moved(octahedron(50000, 3, 30000), 0, 29999, 0), 50000, 50000, api.OK}, {moved(example, 100000, 0, 0), 0, 0, api.ErrNone}, {moved(example, -100000, 0, 0), 0, 0, api.ErrNone},
		{api.Mesh{}, 0, 0, api.ErrMesh},
	} {
		low, high, e := Axis(x.m)
		if low != x.low || high != x.high || e != x.e {
			t.Errorf("%d: %d, %d, %d", i, low, high, e)
		}
	}
}

// P38.1: a gamut that meets the neutral axis between two integers has no range.
func TestThin(t *testing.T) {
	r := rand.New(rand.NewSource(3))
	found := 0
	for range 3000 {
		m := api.Mesh{Faces: [][3]int{{0, 2, 1}, {0, 1, 3}, {0, 3, 2}, {1, 2, 3}}}
		for range 4 {
			m.Points = append(m.Points, [3]int{50000 + r.Intn(3), r.Intn(9) - 4, r.Intn(9) - 4})
		}
		first, _, e := inside.Ray(m, [3]int{}, [3]int{100000, 0, 0}, false)
		last, _, e2 := inside.Ray(m, [3]int{100000, 0, 0}, [3]int{}, false)
		if e != api.OK || e2 != api.OK {
			continue
		}
		scale := big.NewRat(100000, 1)
		low := new(big.Rat).Mul(value(first), scale)
		high := new(big.Rat).Mul(new(big.Rat).Sub(big.NewRat(1, 1), value(last)), scale)
		floor := func(x *big.Rat) int64 { return new(big.Int).Div(x.Num(), x.Denom()).Int64() }
		ceil := -floor(new(big.Rat).Neg(low))
		gotLow, gotHigh, e := Axis(m)
		if ceil <= floor(high) {
			if int64(gotLow) != ceil || int64(gotHigh) != floor(high) || e != api.OK {
				t.Fatalf("Axis(%v): %d, %d, %d", m, gotLow, gotHigh, e)
			}
			continue
		}
		found++
		if gotLow != 0 || gotHigh != 0 || e != api.ErrNone {
			t.Fatalf("Axis(%v): %d, %d, %d", m, gotLow, gotHigh, e)
		}
		if got, e := Anchor(m, [3]int{50000, 0, 0}); got != [3]int{} || e != api.ErrNone {
			t.Fatalf("Anchor(%v): %v, %d", m, got, e)
		}
	}
	if found == 0 {
		t.Error("no gamut is thin")
	}
}

// P38.1
func TestAnchor(t *testing.T) {
	far := [3]int{0, 0, 200001}
	for i, x := range []struct {
		m       api.Mesh
		p, want [3]int
		e       api.Errno
	}{
		{example, [3]int{90000, 5, 5}, [3]int{65000, 0, 0}, api.OK}, {example, [3]int{51000, 0, 0}, [3]int{51000, 0, 0}, api.OK}, {example, [3]int{-5, 90000, 0}, [3]int{35000, 0, 0}, api.OK}, {example, [3]int{65000, 1, 0}, [3]int{65000, 0, 0}, api.OK}, {example, [3]int{34999, 1, 0}, [3]int{35000, 0, 0}, api.OK}, {example, [3]int{65001, 1, 0}, [3]int{65000, 0, 0}, api.OK},
		{example, [3]int{200000, -200000, 200000}, [3]int{65000, 0, 0}, api.OK}, {example, [3]int{-200000, 200000, -200000}, [3]int{35000, 0, 0}, api.OK}, {octahedron(50000, 5, 30000), [3]int{0, 0, 0}, [3]int{49997, 0, 0}, api.OK}, {octahedron(50000, 5, 30000), [3]int{60000, 0, 0}, [3]int{50003, 0, 0}, api.OK},
		{moved(example, 0, 30001, 0), [3]int{50000, 0, 0}, [3]int{}, api.ErrNone}, {moved(example, 0, 30000, 0), [3]int{50000, 0, 0}, [3]int{}, api.ErrNone}, {api.Mesh{}, far, [3]int{}, api.ErrMesh}, {moved(example, 0, 30001, 0), far, [3]int{}, api.ErrArg},
	} {
		if got, e := Anchor(x.m, x.p); got != x.want || e != x.e {
			t.Errorf("%d: %v, %d", i, got, e)
		}
	}
}

// P38.2
func TestClip(t *testing.T) {
	for i, x := range []struct {
		m    api.Mesh
		p    [3]int
		want api.Tri
		e    api.Errno
	}{
		{example, [3]int{50000, 40000, 0}, tri("50000", "30000", "0"), api.OK}, {example, [3]int{50000, 40000, 40000}, tri("50000", "15000", "15000"), api.OK}, {example, [3]int{50000, 7, 7}, tri("50000", "7", "7"), api.OK}, {example, [3]int{100000, 0, 0}, tri("80000", "0", "0"), api.OK}, {example, [3]int{50000, 30000, 0}, tri("50000", "30000", "0"), api.OK},
		{example, [3]int{80000, 30000, 0}, tri("70000", "10000", "0"), api.OK}, {example, [3]int{0, -70000, 0}, tri("30000", "-10000", "0"), api.OK},
		{api.Mesh{}, [3]int{0, 200001, 0}, none, api.ErrMesh}, {example, [3]int{0, 200001, 0}, none, api.ErrArg}, {moved(example, 0, 30001, 0), [3]int{50000, 0, 0}, none, api.ErrNone}, {moved(example, 0, 30001, 0), [3]int{50000, 30001, 0}, none, api.ErrNone},
	} {
		if got, e := Clip(x.m, x.p); got != x.want || e != x.e {
			t.Errorf("%d: %v, %d", i, got, e)
		}
	}
}

// P38.3
func TestCompress(t *testing.T) {
	for i, x := range []struct {
		m          api.Mesh
		p          [3]int
		knee, most int
		want       api.Tri
		e          api.Errno
	}{
		{example, [3]int{50000, 15000, 0}, 500, 2000, tri("50000", "15000", "0"), api.OK}, {example, [3]int{50000, 60000, 0}, 500, 2000, tri("50000", "30000", "0"), api.OK}, {example, [3]int{50000, 30000, 0}, 500, 2000, tri("50000", "20000", "0"), api.OK}, {example, [3]int{50000, 45000, 0}, 500, 2000, tri("50000", "25000", "0"), api.OK}, {example, [3]int{50000, 90000, 0}, 500, 2000, tri("50000", "30000", "0"), api.OK}, {example, [3]int{50000, 15001, 0}, 500, 2000, tri("50000", "45001/3", "0"), api.OK},
		{example, [3]int{50000, 0, 0}, 0, 1001, tri("50000", "0", "0"), api.OK}, {example, [3]int{50000, 0, 30000}, 0, 2000, tri("50000", "0", "15000"), api.OK}, {example, [3]int{80000, 0, 0}, 0, 10000, tri("66500", "0", "0"), api.OK}, {example, [3]int{50000, -30000, 0}, 999, 1001, tri("50000", "-29985", "0"), api.OK},
		{example, [3]int{50000, 0, 0}, 1000, 2000, none, api.ErrMapping}, {example, [3]int{50000, 0, 0}, -1, 2000, none, api.ErrMapping}, {example, [3]int{50000, 0, 0}, 0, 1000, none, api.ErrMapping}, {example, [3]int{50000, 0, 0}, 0, 10001, none, api.ErrMapping},
		{api.Mesh{}, [3]int{0, 200001, 0}, 1000, 0, none, api.ErrMesh}, {example, [3]int{0, 200001, 0}, 1000, 0, none, api.ErrArg}, {moved(example, 0, 30001, 0), [3]int{}, 1000, 0, none, api.ErrMapping}, {moved(example, 0, 30001, 0), [3]int{}, 500, 2000, none, api.ErrNone},
	} {
		if got, e := Compress(x.m, x.p, x.knee, x.most); got != x.want || e != x.e {
			t.Errorf("%d: %v, %d", i, got, e)
		}
	}
}

// share returns the s of a color between an anchor and another color.
func share(t *testing.T, anchor, p [3]int, q api.Tri) *big.Rat {
	var s *big.Rat
	for i := range p {
		if p[i] == anchor[i] {
			if value(q[i]).Cmp(big.NewRat(int64(p[i]), 1)) != 0 {
				t.Fatalf("%v is not between %v and %v", q, anchor, p)
			}
			continue
		}
		part := new(big.Rat).Sub(value(q[i]), big.NewRat(int64(anchor[i]), 1))
		part.Quo(part, big.NewRat(int64(p[i]-anchor[i]), 1))
		if s != nil && s.Cmp(part) != 0 || part.Sign() < 0 || part.Cmp(big.NewRat(1, 1)) > 0 {
			t.Fatalf("%v is not between %v and %v", q, anchor, p)
		}
		s = part
	}
	if s == nil {
		return big.NewRat(1, 1)
	}
	return s
}

// P38.2 to P38.4
func TestLaws(t *testing.T) {
	r := rand.New(rand.NewSource(1))
	meshes := []api.Mesh{example, moved(octahedron(45000, 40000, 20000), 0, 3000, -2000), octahedron(60000, 50000, 70000)}
	for i := range 150 {
		m := meshes[i%3]
		p := [3]int{r.Intn(120001) - 10000, r.Intn(160001) - 80000, r.Intn(160001) - 80000}
		if i%10 == 0 {
			p[1], p[2] = 0, 0
		}
		anchor, e := Anchor(m, p)
		if e != api.OK {
			t.Fatalf("Anchor(%v): %d", p, e)
		}
		clipped, e := Clip(m, p)
		side, _ := inside.Side(m, p)
		s := share(t, anchor, p, clipped)
		if e != api.OK || (side != api.SdOut) != (clipped == whole(p)) {
			t.Fatalf("Clip(%v): %v, %d; side %d", p, clipped, e, side)
		}
		knee, most := r.Intn(1000), 1001+r.Intn(3000)
		pressed, e := Compress(m, p, knee, most)
		if e != api.OK {
			t.Fatalf("Compress(%v): %d", p, e)
		}
		u := share(t, anchor, p, pressed)
		if p == anchor {
			continue
		}
		// The mesh is at the share at which a far color is clipped.
		reach, _, _ := inside.Ray(m, anchor, p, true)
		edge := value(reach)
		if u.Cmp(edge) > 0 && edge.Cmp(big.NewRat(1, 1)) < 0 || s.Cmp(big.NewRat(1, 1)) < 0 && s.Cmp(edge) < 0 {
			t.Fatalf("Compress(%v): %s beyond %s; Clip %s", p, u, edge, s)
		}
		// Twice as far from the anchor: farther, or the same point of the mesh.
		q := [3]int{2*p[0] - anchor[0], 2 * p[1], 2 * p[2]}
		if other, _ := Anchor(m, q); other != anchor {
			continue
		}
		if far, e := Compress(m, q, knee, most); e == api.OK {
			v := new(big.Rat).Mul(share(t, anchor, q, far), big.NewRat(2, 1))
			if v.Cmp(u) < 0 || v.Cmp(u) == 0 && u.Cmp(edge) != 0 {
				t.Fatalf("Compress(%v): %s; of %v: %s", p, u, q, v)
			}
		}
	}
}

// P38.4: clipping a color of integers that Clip returns changes nothing.
func TestClippedStays(t *testing.T) {
	for _, p := range [][3]int{{50000, 40000, 0}, {50000, 40000, 40000}, {100000, 0, 0}, {50000, 30000, 0}} {
		once, _ := Clip(example, p)
		var q [3]int
		for i, a := range once {
			q[i], _ = frac.Near(a, 1)
		}
		if again, e := Clip(example, q); again != once || e != api.OK {
			t.Errorf("Clip(%v): %v, and again %v, %d", p, once, again, e)
		}
		if side, _ := inside.Side(example, q); side == api.SdOut {
			t.Errorf("Clip(%v) is outside", p)
		}
	}
}
