package inside

import (
	"math/big"
	"math/rand"
	"testing"

	"verdigris/api"
	"verdigris/frac"
	"verdigris/mesh"
)

func tetrahedron() api.Mesh {
	return api.Mesh{Points: [][3]int{{0, 0, 0}, {1000, 0, 0}, {0, 1000, 0}, {0, 0, 1000}}, Faces: [][3]int{{0, 2, 1}, {0, 1, 3}, {0, 3, 2}, {1, 2, 3}}}
}

// prism stands on an outline, which is counterclockwise; floor are the triangles of its inside, counterclockwise.
func prism(outline [][2]int, floor [][3]int, high int) api.Mesh {
	var m api.Mesh
	n := len(outline)
	for _, p := range outline {
		m.Points = append(m.Points, [3]int{p[0], p[1], 0}, [3]int{p[0], p[1], high})
	}
	for i := range n {
		a, b := 2*i, 2*((i+1)%n)
		m.Faces = append(m.Faces, [3]int{a, b, b + 1}, [3]int{a, b + 1, a + 1})
	}
	for _, f := range floor {
		m.Faces = append(m.Faces, [3]int{2 * f[0], 2 * f[2], 2 * f[1]}, [3]int{2*f[0] + 1, 2*f[1] + 1, 2*f[2] + 1})
	}
	return m
}

// corner is an L: the squares from (0, 0) to (20, 10), and from (0, 10) to (10, 20).
func corner() api.Mesh {
	return prism([][2]int{{0, 0}, {10, 0}, {20, 0}, {20, 10}, {10, 10}, {10, 20}, {0, 20}, {0, 10}}, [][3]int{{0, 1, 4}, {1, 2, 3}, {1, 3, 4}, {0, 4, 7}, {7, 4, 5}, {7, 5, 6}}, 10)
}

// side is the side of the corner, by its definition.
func side(p [3]int) int {
	in := func(l, h [3]int) (closed, open bool) {
		closed, open = true, true
		for i, n := range p {
			closed = closed && n >= l[i] && n <= h[i]
			open = open && n > l[i] && n < h[i]
		}
		return closed, open
	}
	closedA, openA := in([3]int{0, 0, 0}, [3]int{20, 10, 10})
	closedB, openB := in([3]int{0, 10, 0}, [3]int{10, 20, 10})
	seam := p[1] == 10 && p[0] > 0 && p[0] < 10 && p[2] > 0 && p[2] < 10
	switch {
	case openA || openB || seam:
		return api.SdIn
	case closedA || closedB:
		return api.SdOn
	}
	return api.SdOut
}

func TestCorner(t *testing.T) {
	if kind, at := mesh.Flaw(corner()); kind != 0 {
		t.Fatalf("Flaw: %d, %d", kind, at)
	}
}

// P36.1
func TestSide(t *testing.T) {
	m := tetrahedron()
	for i, x := range []struct {
		p             [3]int
		side, winding int
		e             api.Errno
	}{
		{[3]int{100, 100, 100}, api.SdIn, 1, api.OK}, {[3]int{500, 500, 0}, api.SdOn, 0, api.ErrState}, {[3]int{500, 500, 1}, api.SdOut, 0, api.OK}, {[3]int{-1, 0, 0}, api.SdOut, 0, api.OK}, {[3]int{0, 0, 0}, api.SdOn, 0, api.ErrState}, {[3]int{1000, 0, 0}, api.SdOn, 0, api.ErrState}, {[3]int{333, 333, 334}, api.SdOn, 0, api.ErrState}, {[3]int{333, 333, 333}, api.SdIn, 1, api.OK}, {[3]int{334, 333, 334}, api.SdOut, 0, api.OK}, {[3]int{200000, -200000, 200000}, api.SdOut, 0, api.OK}, {[3]int{2000, -1000, 0}, api.SdOut, 0, api.OK},
	} {
		if got, e := Side(m, x.p); got != x.side || e != api.OK {
			t.Errorf("Side %d: %d, %d", i, got, e)
		}
		if got, e := Winding(m, x.p); got != x.winding || e != x.e {
			t.Errorf("Winding %d: %d, %d", i, got, e)
		}
	}
	turned, _ := mesh.Turned(m)
	if got, e := Winding(turned, [3]int{100, 100, 100}); got != -1 || e != api.OK {
		t.Errorf("Winding: %d, %d", got, e)
	}
	if got, e := Side(turned, [3]int{100, 100, 100}); got != api.SdIn || e != api.OK {
		t.Errorf("Side: %d, %d", got, e)
	}
	c := corner()
	for x := -1; x <= 21; x++ {
		for y := -1; y <= 21; y++ {
			for _, z := range []int{-1, 0, 1, 5, 10, 11} {
				p := [3]int{x, y, z}
				if got, e := Side(c, p); got != side(p) || e != api.OK {
					t.Fatalf("Side(%v): %d, %d; want %d", p, got, e, side(p))
				}
			}
		}
	}
}

// P36.1, P36.2
func TestErrors(t *testing.T) {
	far := [3]int{0, 200001, 0}
	broken := tetrahedron()
	broken.Faces = broken.Faces[:3]
	if got, e := Winding(broken, far); got != 0 || e != api.ErrMesh {
		t.Errorf("Winding: %d, %d", got, e)
	}
	if got, e := Side(broken, far); got != 0 || e != api.ErrMesh {
		t.Errorf("Side: %d, %d", got, e)
	}
	if got, face, e := Ray(broken, far, far, true); got != (api.Frac{}) || face != 0 || e != api.ErrMesh {
		t.Errorf("Ray: %v, %d, %d", got, face, e)
	}
	for _, p := range [][3]int{far, {-200001, 0, 0}, {0, 0, 1<<63 - 1}, {-1 << 63, 0, 0}} {
		if got, e := Winding(tetrahedron(), p); got != 0 || e != api.ErrArg {
			t.Errorf("Winding: %d, %d", got, e)
		}
		if got, e := Side(tetrahedron(), p); got != 0 || e != api.ErrArg {
			t.Errorf("Side: %d, %d", got, e)
		}
		for _, pair := range [][2][3]int{{p, {}}, {{}, p}} {
			if got, face, e := Ray(tetrahedron(), pair[0], pair[1], true); got != (api.Frac{}) || face != 0 || e != api.ErrArg {
				t.Errorf("Ray: %v, %d, %d", got, face, e)
			}
		}
	}
}

// P36.2
func TestRay(t *testing.T) {
	m := tetrahedron()
	for i, x := range []struct {
		from, towards [3]int
		beyond        bool
		n, d, face    int
		e             api.Errno
	}{
		{[3]int{100, 100, 100}, [3]int{100, 100, 101}, false, 0, 0, 0, api.ErrNone}, {[3]int{100, 100, 100}, [3]int{100, 100, 101}, true, 700, 1, 3, api.OK}, {[3]int{100, 100, 100}, [3]int{100, 100, 800}, false, 1, 1, 3, api.OK}, {[3]int{100, 100, 100}, [3]int{100, 100, 799}, false, 0, 0, 0, api.ErrNone},
		{[3]int{-100, 50, 50}, [3]int{100, 50, 50}, false, 1, 2, 2, api.OK}, {[3]int{-100, 0, 0}, [3]int{100, 0, 0}, false, 1, 2, 0, api.OK}, {[3]int{100, 0, 0}, [3]int{-100, 0, 0}, false, 0, 1, 0, api.OK}, {[3]int{2000, 0, 0}, [3]int{1900, 0, 0}, true, 10, 1, 0, api.OK}, {[3]int{2000, 0, 0}, [3]int{2100, 0, 0}, true, 0, 0, 0, api.ErrNone},
		{[3]int{5, 5, 5}, [3]int{5, 5, 5}, true, 0, 0, 0, api.ErrArg}, {[3]int{-100, -100, 500}, [3]int{0, 0, 500}, false, 1, 1, 1, api.OK}, {[3]int{-100, 300, 0}, [3]int{200, 300, 0}, false, 1, 3, 0, api.OK}, {[3]int{-100, 300, 0}, [3]int{-50, 300, 0}, false, 0, 0, 0, api.ErrNone}, {[3]int{-100, 1100, 0}, [3]int{100, 1100, 0}, true, 0, 0, 0, api.ErrNone}, {[3]int{-100, 300, -1}, [3]int{200, 300, -1}, true, 0, 0, 0, api.ErrNone},
		{[3]int{1000, 1000, 1000}, [3]int{0, 0, 0}, false, 2, 3, 3, api.OK}, {[3]int{1000, 1000, 1000}, [3]int{2000, 2000, 2000}, true, 0, 0, 0, api.ErrNone}, {[3]int{-500, 1500, 0}, [3]int{500, 500, 0}, false, 1, 2, 0, api.OK}, {[3]int{1, 1, 1}, [3]int{2, 2, 2}, false, 0, 0, 0, api.ErrNone}, {[3]int{333, 333, 334}, [3]int{0, 0, 0}, false, 0, 1, 3, api.OK},
	} {
		got, face, e := Ray(m, x.from, x.towards, x.beyond)
		want := api.Frac{}
		if x.e == api.OK {
			want, _ = frac.Of(x.n, x.d)
		}
		if got != want || face != x.face || e != x.e {
			t.Errorf("%d: %v, %d, %d", i, got, face, e)
		}
	}
}

// P36.2: rays just beside the faces of a mesh of the least size.
func TestSmallest(t *testing.T) {
	m := api.Mesh{Points: [][3]int{{0, 0, 0}, {1, 0, 0}, {0, 1, 0}, {0, 0, 1}}, Faces: tetrahedron().Faces}
	for i, x := range []struct {
		from, towards [3]int
		e             api.Errno
	}{
		{[3]int{-5, -1, 0}, [3]int{5, -1, 0}, api.ErrNone}, {[3]int{-1, -5, 0}, [3]int{-1, 5, 0}, api.ErrNone}, {[3]int{-5, 7, 0}, [3]int{5, -3, 0}, api.ErrNone}, {[3]int{-5, 0, 0}, [3]int{5, 0, 0}, api.OK}, {[3]int{0, -5, 0}, [3]int{0, 5, 0}, api.OK}, {[3]int{-4, 5, 0}, [3]int{5, -4, 0}, api.OK}, {[3]int{-5, 0, -1}, [3]int{5, 0, -1}, api.ErrNone}, {[3]int{-5, 1, 0}, [3]int{5, 1, 0}, api.OK}, {[3]int{-5, 2, 0}, [3]int{5, 2, 0}, api.ErrNone},
	} {
		if got, face, e := Ray(m, x.from, x.towards, true); e != x.e {
			t.Errorf("%d: %v, %d, %d", i, got, face, e)
		}
	}
}

func rat(n int) *big.Rat { return big.NewRat(int64(n), 1) }

// liesIn reports whether the point from + t (towards - from) lies in a triangle.
func liesIn(t *big.Rat, from, towards [3]int, f [3][3]int) bool {
	var x [3]*big.Rat
	for i := range x {
		x[i] = new(big.Rat).Add(rat(from[i]), new(big.Rat).Mul(t, rat(towards[i]-from[i])))
	}
	n := cross(less(f[1], f[0]), less(f[2], f[0]))
	off := new(big.Rat)
	for i := range x {
		off.Add(off, new(big.Rat).Mul(rat(n[i]), new(big.Rat).Sub(x[i], rat(f[0][i]))))
	}
	if off.Sign() != 0 {
		return false
	}
	for k := range 3 {
		u, v := f[k], f[(k+1)%3]
		e := less(v, u)
		var w [3]*big.Rat
		for i := range w {
			w[i] = new(big.Rat).Sub(x[i], rat(u[i]))
		}
		c := func(i, j int) *big.Rat {
			return new(big.Rat).Sub(new(big.Rat).Mul(rat(e[i]), w[j]), new(big.Rat).Mul(rat(e[j]), w[i]))
		}
		turn := new(big.Rat).Mul(c(1, 2), rat(n[0]))
		turn.Add(turn, new(big.Rat).Mul(c(2, 0), rat(n[1]))).Add(turn, new(big.Rat).Mul(c(0, 1), rat(n[2])))
		if turn.Sign() < 0 {
			return false
		}
	}
	return true
}

// P36.2, P36.3
func TestRays(t *testing.T) {
	r := rand.New(rand.NewSource(1))
	c := corner()
	met := 0
	for range 1500 {
		point := func() [3]int { return [3]int{r.Intn(31) - 5, r.Intn(31) - 5, r.Intn(5)*5 - 5} }
		from, towards := point(), point()
		if from == towards {
			continue
		}
		at, face, e := Ray(c, from, towards, true)
		start, _ := Side(c, from)
		if e == api.ErrNone {
			if start != api.SdOut {
				t.Fatalf("Ray(%v, %v): none, but it begins on the side %d", from, towards, start)
			}
			continue
		}
		met++
		number, _ := new(big.Rat).SetString(string(at.N) + "/" + string(at.D))
		for i, f := range c.Faces {
			in := liesIn(number, from, towards, [3][3]int{c.Points[f[0]], c.Points[f[1]], c.Points[f[2]]})
			if in != (i == face) && i <= face || e != api.OK {
				t.Fatalf("Ray(%v, %v): %v, %d, %d; face %d: %v", from, towards, at, face, e, i, in)
			}
		}
		if (number.Sign() == 0) != (start == api.SdOn) {
			t.Fatalf("Ray(%v, %v): %v, but it begins on the side %d", from, towards, at, start)
		}
		segment, face2, e2 := Ray(c, from, towards, false)
		if within := number.Cmp(rat(1)) <= 0; within && (segment != at || face2 != face || e2 != api.OK) || !within && e2 != api.ErrNone {
			t.Fatalf("Ray(%v, %v): %v, but of the segment %v, %d, %d", from, towards, at, segment, face2, e2)
		}
		// Points before the first one on the mesh have the side of the beginning.
		for n := 1; n <= 20; n++ {
			p := [3]int{from[0] + n*(towards[0]-from[0]), from[1] + n*(towards[1]-from[1]), from[2] + n*(towards[2]-from[2])}
			if number.Cmp(rat(n)) <= 0 {
				break
			}
			if s, _ := Side(c, p); s != start {
				t.Fatalf("Ray(%v, %v): %v, but %v lies on the side %d, not %d", from, towards, at, p, s, start)
			}
		}
	}
	if met < 500 {
		t.Errorf("only %d met", met)
	}
}

// P36.3
func TestMoved(t *testing.T) {
	r := rand.New(rand.NewSource(2))
	c := corner()
	by := [3]int{199000, -150000, 7}
	moved, _ := mesh.Moved(c, by)
	turned, _ := mesh.Turned(c)
	for range 300 {
		p := [3]int{r.Intn(27) - 3, r.Intn(27) - 3, r.Intn(13) - 1}
		q := [3]int{p[0] + by[0], p[1] + by[1], p[2] + by[2]}
		a, e := Winding(c, p)
		b, e2 := Winding(moved, q)
		d, e3 := Winding(turned, p)
		if a != b || a != -d || e != e2 || e != e3 {
			t.Fatalf("Winding about %v: %d, %d, %d; %d, %d, %d", p, a, b, d, e, e2, e3)
		}
	}
}

func BenchmarkSide(b *testing.B) {
	var outline [][2]int
	var floor [][3]int
	for i := range 150 {
		outline = append(outline, [2]int{100 * i, i * i})
		if i > 1 {
			floor = append(floor, [3]int{0, i - 1, i})
		}
	}
	m := prism(outline, floor, 5000)
	if e := mesh.Check(m); e != api.OK {
		b.Fatal(e)
	}
	for b.Loop() {
		Side(m, [3]int{7000, 7000, 2000})
	}
}
