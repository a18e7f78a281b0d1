package mesh

import (
	"iter"

	"verdigris/api"
)

// surface is a mesh whose flaws are looked for. Each search expects that those before it have found none.
type surface struct {
	api.Mesh
	owners map[edge]int // the first face of each edge
}

// none is where a search finds nothing.
const none = -1

// firstOf returns the first of n indices for which a condition holds.
func firstOf(n int, holds func(i int) bool) int {
	for i := range n {
		if holds(i) {
			return i
		}
	}
	return none
}

func (s *surface) counts() (kind, at int) {
	switch {
	case len(s.Points) < 4 || len(s.Points) > api.MaxMeshPoints:
		return api.MeshCount, 0
	case len(s.Faces) < 4 || len(s.Faces) > api.MaxMeshFaces:
		return api.MeshCount, 1
	}
	return api.MeshCount, none
}

// isFar reports whether a point is out of range.
func (s *surface) isFar(point int) bool {
	for _, n := range s.Points[point] {
		if n < -api.MaxMeshAt || n > api.MaxMeshAt {
			return true
		}
	}
	return false
}

// isWrong reports whether a face has no three different points.
func (s *surface) isWrong(face int) bool {
	f := s.Faces[face]
	for _, n := range f {
		if n < 0 || n >= len(s.Points) {
			return true
		}
	}
	return f[0] == f[1] || f[1] == f[2] || f[2] == f[0]
}

// isFlat reports whether the corners of a face lie on one line.
func (s *surface) isFlat(face int) bool {
	f := s.Faces[face]
	a := s.Points[f[0]]
	return cross(less(s.Points[f[1]], a), less(s.Points[f[2]], a)) == [3]int{}
}

func less(a, b [3]int) [3]int {
	return [3]int{a[0] - b[0], a[1] - b[1], a[2] - b[2]}
}

func cross(a, b [3]int) [3]int {
	return [3]int{a[1]*b[2] - a[2]*b[1], a[2]*b[0] - a[0]*b[2], a[0]*b[1] - a[1]*b[0]}
}

// edge is a directed edge: the indices of two points.
type edge [2]int

func (e edge) opposite() edge {
	return edge{e[1], e[0]}
}

// edges yields the edges of all faces, with the indices of these.
func (s *surface) edges() iter.Seq2[int, edge] {
	return func(yield func(int, edge) bool) {
		for i, f := range s.Faces {
			for k := range f {
				if !yield(i, edge{f[k], f[(k+1)%3]}) {
					return
				}
			}
		}
	}
}

// own finds the owners of the edges.
func (s *surface) own() {
	s.owners = make(map[edge]int, 3*len(s.Faces))
	for face, e := range s.edges() {
		if _, ok := s.owners[e]; !ok {
			s.owners[e] = face
		}
	}
}

// twice returns the first face with an edge of a face before it. It finds the owners, which later searches need, too.
func (s *surface) twice() int {
	s.own()
	for face, e := range s.edges() {
		if s.owners[e] != face {
			return face
		}
	}
	return none
}

// open returns the first face with an edge that has no opposite.
func (s *surface) open() int {
	for face, e := range s.edges() {
		if _, ok := s.owners[e.opposite()]; !ok {
			return face
		}
	}
	return none
}

// spare returns the first point that is no corner.
func (s *surface) spare() int {
	used := make([]bool, len(s.Points))
	for _, f := range s.Faces {
		for _, point := range f {
			used[point] = true
		}
	}
	return firstOf(len(used), func(point int) bool { return !used[point] })
}

// apart returns the first face that cannot be reached from the first one of all.
func (s *surface) apart() int {
	neighbours := make([][]int, len(s.Faces))
	for face, e := range s.edges() {
		neighbours[face] = append(neighbours[face], s.owners[e.opposite()])
	}
	reached := make([]bool, len(s.Faces))
	reached[0] = true
	for work := []int{0}; len(work) > 0; {
		face := work[len(work)-1]
		work = work[:len(work)-1]
		for _, next := range neighbours[face] {
			if !reached[next] {
				reached[next] = true
				work = append(work, next)
			}
		}
	}
	return firstOf(len(reached), func(face int) bool { return !reached[face] })
}
