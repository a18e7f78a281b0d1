package tag

import (
	"verdigris/api"
	"verdigris/chain"
	"verdigris/curve"
	"verdigris/element"
	"verdigris/octet"
)

// fault is what a reader leaves with: an error, and where it was met.
type fault struct {
	errno api.Errno
	where int
}

// reader reads the fields of a string, one after the other.
type reader struct {
	s  string
	at int
}

// hold leaves with an error, and where it was met, unless a condition holds.
func (r *reader) hold(condition bool, e api.Errno, where int) {
	if !condition {
		panic(fault{e, where})
	}
}

// field reads a field of some octets.
func field[T any](r *reader, width int, take func(s string, at int) (T, api.Errno)) T {
	out, e := take(r.s, r.at)
	r.hold(e == api.OK, e, r.at)
	r.at += width
	return out
}

func (r *reader) u8() int  { return field(r, 1, octet.U8) }
func (r *reader) u16() int { return field(r, 2, octet.U16) }
func (r *reader) s32() int { return field(r, 4, octet.S32) }

func (r *reader) part(width int) string {
	return field(r, width, func(s string, at int) (string, api.Errno) { return octet.Part(s, at, width) })
}

// kind reads a kind, which must be one of a map.
func kind[T any](r *reader, kinds map[int]T) (int, T) {
	where := r.at
	n := r.u8()
	one, ok := kinds[n]
	r.hold(ok, api.ErrForm, where)
	return n, one
}

// between reads a number, which must be from low to high.
func (r *reader) between(low, high int) int {
	where := r.at
	n := r.u8()
	r.hold(n >= low && n <= high, api.ErrForm, where)
	return n
}

// list reads n things, up to the first one that cannot be read.
func list[T any](r *reader, n int, read func(*reader) T) []T {
	var out []T
reading:
	for {
		if len(out) == n {
			break reading
		}
		out = append(out, read(r))
	}
	return out
}

func (r *reader) tag() api.Tag {
	where := r.at
	t := api.Tag{Sign: r.part(api.MaxSign)}
	n, read := kind(r, map[int]func(){
		api.TaText:    func() { t.Text = r.part(r.u16()) },
		api.TaNumbers: func() { t.Numbers = list(r, r.u8(), (*reader).s32) },
		api.TaChain:   func() { t.Chain = r.chain() },
	})
	t.Kind = n
	read()
	r.hold(Check(t) == api.OK, api.ErrTag, where)
	return t
}

func (r *reader) chain() api.Chain {
	where := r.at
	c := api.Chain{In: r.u8()}
	c.Elements = list(r, r.u8(), (*reader).element)
	e := chain.Check(c)
	r.hold(e == api.OK, e, where)
	return c
}

func (r *reader) element() api.Element {
	where := r.at
	var x api.Element
	n, read := kind(r, map[int]func(){
		api.ElCurves:  func() { x.Curves = list(r, r.u8(), (*reader).curve) },
		api.ElMatrix:  func() { x.Rows, x.Offset = r.matrix() },
		api.ElGrid:    func() { x.Grid = r.grid() },
		api.ElProgram: func() { x.In, x.Out, x.Program = r.program() },
	})
	x.Kind = n
	read()
	e := element.Check(x)
	r.hold(e == api.OK, e, where)
	return x
}

func (r *reader) matrix() (rows [][]int, offset []int) {
	high, wide := r.u8(), r.u8()
	rows = list(r, high, func(r *reader) []int { return list(r, wide, (*reader).s32) })
	return rows, list(r, high, (*reader).s32)
}

func (r *reader) grid() api.Grid {
	size := list(r, r.between(1, api.MaxChannels), func(r *reader) int { return r.between(2, api.MaxPoints) })
	g := api.Grid{Size: size, Out: r.between(1, api.MaxChannels)}
	length := g.Out
	for _, n := range size {
		length *= n
	}
	g.Data = list(r, length, (*reader).u16)
	return g
}

func (r *reader) program() (in, out int, steps []api.Op) {
	in, out = r.u8(), r.u8()
	return in, out, list(r, r.u8(), func(r *reader) api.Op {
		code := r.u8()
		return api.Op{Code: code, Arg: r.s32()}
	})
}

func (r *reader) curve() api.Curve {
	where := r.at
	var c api.Curve
	n, read := kind(r, map[int]func(){
		api.CuIdentity: func() {},
		api.CuTable:    func() { c.Table = list(r, r.u8(), (*reader).u16) },
		api.CuFormula:  func() { c.Segments = list(r, r.u8(), (*reader).segment) },
	})
	c.Kind = n
	read()
	e := curve.Check(c)
	r.hold(e == api.OK, e, where)
	return c
}

func (r *reader) segment() api.Segment {
	var s api.Segment
	s.Till, s.Mul, s.Add = r.s32(), r.s32(), r.s32()
	s.Num, s.Den = r.u8(), r.u8()
	s.Off = r.s32()
	return s
}
