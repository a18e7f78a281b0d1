package shell

import (
	"math/big"
	"math/rand"
	"strings"
	"testing"

	"verdigris/api"
	"verdigris/grid"
	"verdigris/mesh"
)

// gridOf has the values of a function of the indices.
func gridOf(size []int, f func(i, j, k int) [3]int) api.Grid {
	g := api.Grid{Size: size, Out: 3}
	for i := range size[0] {
		for j := range size[1] {
			for k := range size[2] {
				v := f(i, j, k)
				g.Data = append(g.Data, v[:]...)
			}
		}
	}
	return g
}

func cube() api.Grid {
	return gridOf([]int{2, 2, 2}, func(i, j, k int) [3]int { return [3]int{65535 * i, 65535 * j, 65535 * k} })
}

// P37.1
func TestColor(t *testing.T) {
	for i, x := range []struct {
		v    []int
		want [3]int
		e    api.Errno
	}{
		{[]int{0, 0, 65535}, [3]int{0, -128000, 128000}, api.OK}, {[]int{65535, 1, 32768}, [3]int{100000, -127996, 2}, api.OK}, {[]int{1, 65534, 2}, [3]int{2, 127996, -127992}, api.OK},
		{nil, [3]int{}, api.ErrArg}, {[]int{0, 0}, [3]int{}, api.ErrArg}, {[]int{0, 0, 0, 0}, [3]int{}, api.ErrArg}, {[]int{-1, 0, 0}, [3]int{}, api.ErrArg}, {[]int{0, 65536, 0}, [3]int{}, api.ErrArg}, {[]int{0, 0, 1 << 62}, [3]int{}, api.ErrArg},
	} {
		if got, e := Color(x.v); got != x.want || e != x.e {
			t.Errorf("%d: %v, %d", i, got, e)
		}
	}
	near := func(n, wide int64) int {
		x := big.NewRat(n*wide, 65535)
		x.Add(x, big.NewRat(1, 2))
		return int(new(big.Int).Div(x.Num(), x.Denom()).Int64())
	}
	for n := range 65536 {
		want := [3]int{near(int64(n), 100000), near(int64(n), 256000) - 128000, near(int64(65535-n), 256000) - 128000}
		if got, e := Color([]int{n, n, 65535 - n}); got != want || e != api.OK {
			t.Fatalf("Color of %d: %v, %d; want %v", n, got, e, want)
		}
	}
}

// P37.1
func TestNodes(t *testing.T) {
	got, e := Nodes([]int{2, 2, 2})
	if len(got) != 8 || got[0] != [3]int{} || got[1] != [3]int{0, 0, 1} || got[2] != [3]int{0, 1, 0} || got[7] != [3]int{1, 1, 1} || e != api.OK {
		t.Errorf("Nodes: %v, %d", got, e)
	}
	for i, x := range []struct {
		size  []int
		count int
		e     api.Errno
	}{
		{[]int{3, 3, 3}, 26, api.OK}, {[]int{2, 3, 4}, 24, api.OK}, {[]int{4, 4, 5}, 68, api.OK}, {[]int{8, 8, 8}, 296, api.OK}, {[]int{9, 8, 7}, 294, api.OK}, {[]int{9, 9, 9}, 0, api.ErrLong}, {[]int{9, 8, 8}, 0, api.ErrLong}, {[]int{2, 9, 9}, 162, api.OK},
		{nil, 0, api.ErrArg}, {[]int{2, 2}, 0, api.ErrArg}, {[]int{2, 2, 2, 2}, 0, api.ErrArg}, {[]int{1, 2, 2}, 0, api.ErrArg}, {[]int{2, 2, 10}, 0, api.ErrArg}, {[]int{2, -5, 2}, 0, api.ErrArg},
	} {
		got, e := Nodes(x.size)
		if len(got) != x.count || e != x.e {
			t.Errorf("%d: %d nodes, %d", i, len(got), e)
		}
		for k, n := range got {
			edge := false
			for axis := range n {
				edge = edge || n[axis] == 0 || n[axis] == x.size[axis]-1
			}
			before := k > 0 && (n[0] < got[k-1][0] || n[0] == got[k-1][0] && (n[1] < got[k-1][1] || n[1] == got[k-1][1] && n[2] <= got[k-1][2]))
			if !edge || before {
				t.Fatalf("Nodes(%v) at %d: %v", x.size, k, n)
			}
		}
	}
}

// P37.2
func TestShell(t *testing.T) {
	m, e := Shell(cube())
	if len(m.Points) != 8 || len(m.Faces) != 12 || m.Points[0] != [3]int{0, -128000, -128000} || m.Points[7] != [3]int{100000, 128000, 128000} || m.Faces[0] != [3]int{0, 3, 2} || m.Faces[2] != [3]int{4, 6, 7} || e != api.OK {
		t.Errorf("Shell: %v, %d", m, e)
	}
	want := [][3]int{{0, 3, 2}, {0, 1, 3}, {4, 6, 7}, {4, 7, 5}, {0, 4, 5}, {0, 5, 1}, {2, 7, 6}, {2, 3, 7}, {0, 6, 4}, {0, 2, 6}, {1, 5, 7}, {1, 7, 3}}
	for i, f := range want {
		if m.Faces[i] != f {
			t.Errorf("face %d: %v, not %v", i, m.Faces[i], f)
		}
	}
	if v, e := mesh.Volume6(m); string(v) != new(big.Int).Mul(big.NewInt(600000*256000), big.NewInt(256000)).String() || e != api.OK {
		t.Errorf("Volume6: %s, %d", v, e)
	}
	for i, x := range []struct {
		g api.Grid
		e api.Errno
	}{
		{api.Grid{}, api.ErrGrid}, {gridOf([]int{2, 2, 2}, func(i, j, k int) [3]int { return [3]int{} }), api.ErrForm}, {api.Grid{Size: []int{2, 2}, Out: 3, Data: make([]int, 12)}, api.ErrArg}, {api.Grid{Size: []int{2, 2, 2}, Out: 4, Data: make([]int, 32)}, api.ErrArg}, {api.Grid{Size: []int{9, 9, 9}, Out: 4, Data: make([]int, 2916)}, api.ErrArg}, {api.Grid{Size: []int{2, 2, 2}, Out: 2, Data: make([]int, 16)}, api.ErrArg}, {gridOf([]int{9, 9, 9}, func(i, j, k int) [3]int { return [3]int{} }), api.ErrLong},
	} {
		if got, e := Shell(x.g); !mesh.Same(got, api.Mesh{}) || e != x.e {
			t.Errorf("%d: %v, %d", i, got, e)
		}
	}
}

// P37.2, P37.3
func TestLaws(t *testing.T) {
	r := rand.New(rand.NewSource(1))
	turned := 0
	for range 60 {
		size := []int{2 + r.Intn(4), 2 + r.Intn(4), 2 + r.Intn(4)}
		g := gridOf(size, func(i, j, k int) [3]int {
			return [3]int{12000*i + r.Intn(3000), 12000*j + r.Intn(3000), 12000*k + r.Intn(3000)}
		})
		if r.Intn(2) == 0 {
			g, _ = grid.Swap(g, 0, 1)
			size = g.Size
		}
		m, e := Shell(g)
		if e != api.OK || mesh.Check(m) != api.OK {
			t.Fatalf("Shell(%v): %d", g, e)
		}
		a, b, c := size[0]-1, size[1]-1, size[2]-1
		volume, _ := mesh.Volume6(m)
		if len(m.Faces) != 4*(a*b+a*c+b*c) || len(m.Faces) != 2*len(m.Points)-4 || strings.HasPrefix(string(volume), "-") {
			t.Fatalf("Shell(%v): %d points, %d faces, volume %s", g, len(m.Points), len(m.Faces), volume)
		}
		nodes, _ := Nodes(size)
		for i, n := range nodes {
			values, _ := grid.At(g, n[:])
			if color, _ := Color(values); m.Points[i] != color {
				t.Fatalf("Shell(%v) at %v: %v", g, n, m.Points[i])
			}
		}
		plain := api.Mesh{Points: m.Points, Faces: faces(size, nodes)}
		if !mesh.Same(plain, m) {
			turned++
			if back, _ := mesh.Turned(plain); !mesh.Same(back, m) {
				t.Fatalf("Shell(%v) is neither the mesh nor turned", g)
			}
		}
		exchanged, _ := grid.Pick(g, []int{0, 2, 1})
		other, e := Shell(exchanged)
		if v, _ := mesh.Volume6(other); v != volume || e != api.OK {
			t.Fatalf("Shell of %v with a and b exchanged: %s, not %s", g, v, volume)
		}
	}
	if turned == 0 {
		t.Error("no shell was turned")
	}
}
