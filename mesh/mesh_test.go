package mesh

import (
	"math"
	"math/big"
	"math/rand"
	"slices"
	"testing"

	"verdigris/api"
)

func tetrahedron() api.Mesh {
	return api.Mesh{Points: [][3]int{{0, 0, 0}, {1000, 0, 0}, {0, 1000, 0}, {0, 0, 1000}}, Faces: [][3]int{{0, 2, 1}, {0, 1, 3}, {0, 3, 2}, {1, 2, 3}}}
}

// prism has n corners below and above, each side of two faces, and fans as its floor and its roof.
func prism(n, size int) api.Mesh {
	var m api.Mesh
	for i := range n {
		x, y := size*i, i*i
		m.Points = append(m.Points, [3]int{x, y, 0}, [3]int{x, y, size})
	}
	for i := range n {
		a, b := 2*i, 2*((i+1)%n)
		m.Faces = append(m.Faces, [3]int{a, b, b + 1}, [3]int{a, b + 1, a + 1})
		if i > 0 && i+1 < n {
			m.Faces = append(m.Faces, [3]int{0, b, a}, [3]int{1, a + 1, b + 1})
		}
	}
	return m
}

// joined is two meshes side by side.
func joined(a, b api.Mesh) api.Mesh {
	out := api.Mesh{Points: append(slices.Clone(a.Points), b.Points...), Faces: slices.Clone(a.Faces)}
	for _, f := range b.Faces {
		out.Faces = append(out.Faces, [3]int{f[0] + len(a.Points), f[1] + len(a.Points), f[2] + len(a.Points)})
	}
	return out
}

func with(m api.Mesh, change func(m *api.Mesh)) api.Mesh {
	m.Points, m.Faces = slices.Clone(m.Points), slices.Clone(m.Faces)
	change(&m)
	return m
}

// flawed are meshes with their first flaws.
func flawed() []struct {
	m        api.Mesh
	kind, at int
} {
	t := tetrahedron()
	return []struct {
		m        api.Mesh
		kind, at int
	}{
		{api.Mesh{}, api.MeshCount, 0}, {with(t, func(m *api.Mesh) { m.Points = m.Points[:3] }), api.MeshCount, 0}, {with(t, func(m *api.Mesh) { m.Points = make([][3]int, 301) }), api.MeshCount, 0},
		{with(t, func(m *api.Mesh) { m.Faces = m.Faces[:3] }), api.MeshCount, 1}, {with(t, func(m *api.Mesh) { m.Faces = make([][3]int, 601) }), api.MeshCount, 1}, {with(t, func(m *api.Mesh) { m.Faces, m.Points[1][0] = nil, 200001 }), api.MeshCount, 1},
		{with(t, func(m *api.Mesh) { m.Points[2][1] = 200001 }), api.MeshFar, 2}, {with(t, func(m *api.Mesh) { m.Points[3][0], m.Points[1][2] = -200001, -1<<63 }), api.MeshFar, 1}, {with(t, func(m *api.Mesh) { m.Points[3][0], m.Faces[0][0] = 200001, 9 }), api.MeshFar, 3},
		{with(t, func(m *api.Mesh) { m.Faces[2] = [3]int{3, 3, 2} }), api.MeshIndex, 2}, {with(t, func(m *api.Mesh) { m.Faces[1] = [3]int{0, 4, 3} }), api.MeshIndex, 1}, {with(t, func(m *api.Mesh) { m.Faces[1] = [3]int{0, -1, 3} }), api.MeshIndex, 1}, {with(t, func(m *api.Mesh) { m.Faces[3] = [3]int{1, 2, 1} }), api.MeshIndex, 3}, {with(t, func(m *api.Mesh) { m.Faces[3] = [3]int{1, 2, 2} }), api.MeshIndex, 3},
		{with(t, func(m *api.Mesh) { m.Points[3] = [3]int{0, 500, 0} }), api.MeshFlat, 2}, {with(t, func(m *api.Mesh) { m.Points[1] = m.Points[0] }), api.MeshFlat, 0},
		{with(t, func(m *api.Mesh) { m.Faces[3] = [3]int{1, 3, 2} }), api.MeshTwice, 3}, {with(t, func(m *api.Mesh) { m.Faces = append(m.Faces, m.Faces[0]) }), api.MeshTwice, 4},
		{joined(t, with(t, func(m *api.Mesh) { m.Faces = m.Faces[1:] })), api.MeshOpen, 4}, {with(prism(4, 100), func(m *api.Mesh) { m.Faces = m.Faces[:len(m.Faces)-1] }), api.MeshOpen, 6},
		{with(t, func(m *api.Mesh) { m.Points = append(m.Points, [3]int{7, 7, 7}) }), api.MeshSpare, 4}, {with(joined(t, t), func(m *api.Mesh) { m.Points = append(m.Points, [3]int{7, 7, 7}) }), api.MeshSpare, 8},
		{joined(t, t), api.MeshApart, 4}, {joined(prism(5, 9), t), api.MeshApart, 16},
	}
}

// P35.1
func TestFlaw(t *testing.T) {
	for i, x := range flawed() {
		if kind, at := Flaw(x.m); kind != x.kind || at != x.at {
			t.Errorf("Flaw of %d: %d, %d; want %d, %d", i, kind, at, x.kind, x.at)
		}
		if e := Check(x.m); e != api.ErrMesh {
			t.Errorf("Check of %d: %d", i, e)
		}
	}
	for i, m := range []api.Mesh{tetrahedron(), prism(3, 1000), prism(150, 1000), with(tetrahedron(), func(m *api.Mesh) { m.Points[1][0], m.Points[2][1] = 200000, -200000 })} {
		if kind, at := Flaw(m); kind != 0 || at != 0 {
			t.Errorf("Flaw of %d: %d, %d", i, kind, at)
		}
		if e := Check(m); e != api.OK {
			t.Errorf("Check of %d: %d", i, e)
		}
	}
}

// P35.1
func TestSame(t *testing.T) {
	m := tetrahedron()
	if !Same(m, tetrahedron()) || !Same(api.Mesh{}, api.Mesh{Points: [][3]int{}, Faces: [][3]int{}}) {
		t.Error("Same is false")
	}
	for i, x := range flawed() {
		if !Same(x.m, x.m) || Same(x.m, m) || Same(m, x.m) {
			t.Errorf("Same of %d", i)
		}
	}
}

// ring is a torus of n times k points, as large as a mesh can be for 15 and 20.
func ring(n, k int) api.Mesh {
	var m api.Mesh
	for i := range n {
		for j := range k {
			x, y := math.Sincos(2 * math.Pi * float64(i) / float64(n))
			u, z := math.Sincos(2 * math.Pi * float64(j) / float64(k))
			m.Points = append(m.Points, [3]int{int((90000 + 30000*u) * x), int((90000 + 30000*u) * y), int(30000 * z)})
			a, b, c, d := i*k+j, (i+1)%n*k+j, (i+1)%n*k+(j+1)%k, i*k+(j+1)%k
			m.Faces = append(m.Faces, [3]int{a, b, c}, [3]int{a, c, d})
		}
	}
	return m
}

// P35.1, P35.2: a mesh of 300 points and 600 faces, with a hole.
func TestRing(t *testing.T) {
	m := ring(15, 20)
	if kind, at := Flaw(m); kind != 0 || at != 0 || len(m.Points) != 300 || len(m.Faces) != 600 {
		t.Errorf("Flaw: %d, %d", kind, at)
	}
	if edges, number, e := Euler(m); edges != 900 || number != 0 || e != api.OK {
		t.Errorf("Euler: %d, %d, %d", edges, number, e)
	}
}

// P35.2, P35.3
func TestInvalid(t *testing.T) {
	for i, x := range flawed() {
		if v, e := Volume6(x.m); v != "" || e != api.ErrMesh {
			t.Errorf("Volume6 of %d: %s, %d", i, v, e)
		}
		if a, b, e := Euler(x.m); a != 0 || b != 0 || e != api.ErrMesh {
			t.Errorf("Euler of %d: %d, %d, %d", i, a, b, e)
		}
		if a, b, e := Box(x.m); a != [3]int{} || b != [3]int{} || e != api.ErrMesh {
			t.Errorf("Box of %d: %v, %v, %d", i, a, b, e)
		}
		if m, e := Turned(x.m); !Same(m, api.Mesh{}) || e != api.ErrMesh {
			t.Errorf("Turned of %d: %v, %d", i, m, e)
		}
		if m, e := Moved(x.m, [3]int{1 << 62, 0, 0}); !Same(m, api.Mesh{}) || e != api.ErrMesh {
			t.Errorf("Moved of %d: %v, %d", i, m, e)
		}
	}
}

// P35.2
func TestMeasures(t *testing.T) {
	m := tetrahedron()
	if v, e := Volume6(m); v != "1000000000" || e != api.OK {
		t.Errorf("Volume6: %s, %d", v, e)
	}
	if a, b, e := Euler(m); a != 6 || b != 2 || e != api.OK {
		t.Errorf("Euler: %d, %d, %d", a, b, e)
	}
	if a, b, e := Box(m); a != [3]int{} || b != [3]int{1000, 1000, 1000} || e != api.OK {
		t.Errorf("Box: %v, %v, %d", a, b, e)
	}
	large := prism(100, 2000)
	if a, b, e := Euler(large); a != 594 || b != 200-594+396 || e != api.OK {
		t.Errorf("Euler: %d, %d, %d", a, b, e)
	}
	if a, b, e := Box(large); a != [3]int{} || b != [3]int{198000, 9801, 2000} || e != api.OK {
		t.Errorf("Box: %v, %v, %d", a, b, e)
	}
	for _, m := range []api.Mesh{large, prism(7, 30000)} {
		want := new(big.Int)
		for _, f := range m.Faces {
			a, b, c := m.Points[f[0]], m.Points[f[1]], m.Points[f[2]]
			for _, p := range [][4]int{{0, 1, 2, 1}, {1, 2, 0, 1}, {2, 0, 1, 1}, {0, 2, 1, -1}, {1, 0, 2, -1}, {2, 1, 0, -1}} {
				x := big.NewInt(int64(a[p[0]]))
				x.Mul(x, big.NewInt(int64(b[p[1]]))).Mul(x, big.NewInt(int64(c[p[2]]))).Mul(x, big.NewInt(int64(p[3])))
				want.Add(want, x)
			}
		}
		if v, e := Volume6(m); string(v) != want.String() || e != api.OK {
			t.Errorf("Volume6: %s, %d; want %s", v, e, want)
		}
	}
}

// P35.3
func TestTurnedAndMoved(t *testing.T) {
	m := tetrahedron()
	turned, e := Turned(m)
	if !Same(turned, with(m, func(m *api.Mesh) { m.Faces = [][3]int{{0, 1, 2}, {0, 3, 1}, {0, 2, 3}, {1, 3, 2}} })) || e != api.OK {
		t.Errorf("Turned: %v, %d", turned, e)
	}
	if v, _ := Volume6(turned); v != "-1000000000" {
		t.Errorf("Volume6: %s", v)
	}
	moved, e := Moved(m, [3]int{199000, -200000, 5})
	if !Same(moved, with(m, func(m *api.Mesh) {
		m.Points = [][3]int{{199000, -200000, 5}, {200000, -200000, 5}, {199000, -199000, 5}, {199000, -200000, 1005}}
	})) || e != api.OK {
		t.Errorf("Moved: %v, %d", moved, e)
	}
	for _, by := range [][3]int{{199001, 0, 0}, {0, -200001, 0}, {0, 0, 1<<63 - 1}, {-1 << 63, 0, 0}} {
		if got, e := Moved(m, by); !Same(got, api.Mesh{}) || e != api.ErrBig {
			t.Errorf("Moved(%v): %v, %d", by, got, e)
		}
	}
	for _, by := range [][3]int{{-399001, 0, 0}, {0, 399001, 0}, {0, 0, -200006}, {0, 0, 198996}} {
		if got, e := Moved(moved, by); !Same(got, api.Mesh{}) || e != api.ErrBig {
			t.Errorf("Moved(%v): %v, %d", by, got, e)
		}
	}
	if got, e := Moved(moved, [3]int{-399000, 399000, 198995}); e != api.OK || got.Points[3] != [3]int{-200000, 199000, 200000} {
		t.Errorf("Moved: %v, %d", got, e)
	}
	turned.Points[0][0] = 9
	moved.Faces[0][0] = 9
	if !Same(m, tetrahedron()) {
		t.Error("a result shares memory with its argument")
	}
}

// P35.4
func TestLaws(t *testing.T) {
	r := rand.New(rand.NewSource(1))
	for range 60 {
		m := prism(3+r.Intn(40), 50+r.Intn(1000))
		volume, _ := Volume6(m)
		by := [3]int{r.Intn(10000), -r.Intn(10000), r.Intn(3)}
		moved, e := Moved(m, by)
		again, e2 := Volume6(moved)
		turned, _ := Turned(moved)
		minus, _ := Volume6(turned)
		if again != volume || "-"+volume != minus || e != api.OK || e2 != api.OK {
			t.Fatalf("Volume6: %s; moved %s, turned %s", volume, again, minus)
		}
		edges, _, _ := Euler(m)
		if len(m.Faces)%2 != 0 || 2*edges != 3*len(m.Faces) {
			t.Fatalf("Euler: %d edges, %d faces", edges, len(m.Faces))
		}
		var sum [3]int
		for _, f := range m.Faces {
			n := cross(less(m.Points[f[1]], m.Points[f[0]]), less(m.Points[f[2]], m.Points[f[0]]))
			sum = [3]int{sum[0] + n[0], sum[1] + n[1], sum[2] + n[2]}
		}
		if sum != [3]int{} {
			t.Fatalf("the vectors of the faces add up to %v", sum)
		}
	}
}
