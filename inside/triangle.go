package inside

import (
	"iter"

	"verdigris/api"
	"verdigris/frac"
	"verdigris/must"
)

// vector has three coordinates. Differences of points of meshes are so small that determinants of three of them fit in 64 bits.
type vector = [3]int

func less(a, b vector) vector {
	return vector{a[0] - b[0], a[1] - b[1], a[2] - b[2]}
}

func cross(a, b vector) vector {
	return vector{a[1]*b[2] - a[2]*b[1], a[2]*b[0] - a[0]*b[2], a[0]*b[1] - a[1]*b[0]}
}

func dot(a, b vector) int {
	return a[0]*b[0] + a[1]*b[1] + a[2]*b[2]
}

func det(a, b, c vector) int {
	return dot(a, cross(b, c))
}

func sign(n int) int {
	switch {
	case n > 0:
		return 1
	case n < 0:
		return -1
	}
	return 0
}

// triangle is a face that is seen from a point: its corners, less the point.
type triangle struct {
	a, b, c vector
}

// normal returns a vector that is perpendicular to the face.
func (f triangle) normal() vector {
	return cross(less(f.b, f.a), less(f.c, f.a))
}

// sight is how a mesh is seen from a point.
type sight struct {
	mesh  api.Mesh
	point vector
}

// all yields all faces, as they are seen, with their indices.
func (s sight) all() iter.Seq2[int, triangle] {
	return func(yield func(int, triangle) bool) {
		for i, f := range s.mesh.Faces {
			corner := func(k int) vector { return less(s.mesh.Points[f[k]], s.point) }
			if !yield(i, triangle{corner(0), corner(1), corner(2)}) {
				return
			}
		}
	}
}

// slanted yields the faces in whose plane the point does not lie, with their determinants.
func (s sight) slanted() iter.Seq2[int, triangle] {
	return func(yield func(int, triangle) bool) {
		for _, f := range s.all() {
			if d := det(f.a, f.b, f.c); d != 0 && !yield(d, f) {
				return
			}
		}
	}
}

// touches reports whether the point lies in a face.
func (s sight) touches() bool {
	for _, f := range s.all() {
		if det(f.a, f.b, f.c) == 0 && f.hasOrigin() {
			return true
		}
	}
	return false
}

// steepest returns an axis along which a vector goes.
func steepest(n vector) int {
	for axis, length := range n {
		if length != 0 {
			return axis
		}
	}
	return 0
}

// hasOrigin reports whether the face, whose plane has the origin, has it itself. One coordinate of the cross products tells, as they all are parallel.
func (f triangle) hasOrigin() bool {
	n := f.normal()
	axis := steepest(n)
	up := sign(n[axis])
	for _, edge := range [...][2]vector{{f.a, f.b}, {f.b, f.c}, {f.c, f.a}} {
		if up*cross(edge[0], edge[1])[axis] < 0 {
			return false
		}
	}
	return true
}

// winding returns the winding number about the point, which lies in no face.
func (s sight) winding() int {
	for t := 1; ; t++ {
		if number, good := s.along(vector{1, t, t * t}); good {
			return number
		}
	}
}

// along returns the winding number that the faces which are hit in a direction say, or false if one is hit at its rim.
func (s sight) along(d vector) (number int, good bool) {
	for whole, f := range s.slanted() {
		parts := [...]int{det(d, f.b, f.c), det(f.a, d, f.c), det(f.a, f.b, d)}
		hits := 0
		for _, part := range parts {
			if part == 0 {
				return 0, false
			}
			if sign(part) == sign(whole) {
				hits++
			}
		}
		if hits == len(parts) {
			number += sign(whole)
		}
	}
	return number, true
}

// span is the part of a ray, from low on, that some half-planes have in common.
type span struct {
	low, high api.Frac
	bounded   bool // whether there is a high end
}

// cut returns the least t at which the point t d lies in the face, in whose plane the origin and d lie; n is the normal of the face.
func (f triangle) cut(n, d vector, beyond bool) (api.Frac, bool) {
	axis := steepest(n)
	up := sign(n[axis])
	s := span{low: must.Get(frac.Of(0, 1)), high: must.Get(frac.Of(1, 1)), bounded: !beyond}
	for _, edge := range [...][2]vector{{f.a, f.b}, {f.b, f.c}, {f.c, f.a}} {
		way := less(edge[1], edge[0])
		rise, start := up*cross(way, d)[axis], up*cross(way, edge[0])[axis]
		within := func() bool { return s.halve(rise, start) }
		if !within() {
			return api.Frac{}, false
		}
	}
	if s.bounded && must.Get(frac.Cmp(s.low, s.high)) > 0 {
		return api.Frac{}, false
	}
	return s.low, true
}

// halve keeps the numbers t with t rise >= start, and reports false if there are none whatever the ends are.
func (s *span) halve(rise, start int) bool {
	if rise == 0 {
		return start <= 0
	}
	at := must.Get(frac.Of(start, rise))
	if rise > 0 {
		s.low = must.Get(frac.Max(s.low, at))
		return true
	}
	if s.bounded {
		at = must.Get(frac.Min(s.high, at))
	}
	s.high, s.bounded = at, true
	return true
}
