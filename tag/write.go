package tag

import (
	"strings"

	"verdigris/api"
	"verdigris/octet"
)

// writer gathers the octets of the parts of a valid tag, whose numbers all fit.
type writer struct {
	strings.Builder
}

func (w *writer) u8(l ...int) {
	for _, n := range l {
		s, _ := octet.PutU8(n)
		w.WriteString(s)
	}
}

func (w *writer) u16(l ...int) {
	for _, n := range l {
		s, _ := octet.PutU16(n)
		w.WriteString(s)
	}
}

func (w *writer) s32(l ...int) {
	for _, n := range l {
		s, _ := octet.PutS32(n)
		w.WriteString(s)
	}
}

func (w *writer) tag(t api.Tag) {
	kinds := map[int]func(){
		api.TaText: func() {
			w.u16(len(t.Text))
			w.WriteString(t.Text)
		},
		api.TaNumbers: func() {
			w.u8(len(t.Numbers))
			w.s32(t.Numbers...)
		},
		api.TaChain: func() {
			w.u8(t.Chain.In, len(t.Chain.Elements))
			for _, x := range t.Chain.Elements {
				w.element(x)
			}
		},
	}
	w.WriteString(t.Sign)
	w.u8(t.Kind)
	kinds[t.Kind]()
}

func (w *writer) element(x api.Element) {
	kinds := map[int]func(){
		api.ElCurves: func() {
			w.u8(len(x.Curves))
			for _, c := range x.Curves {
				w.curve(c)
			}
		},
		api.ElMatrix: func() {
			w.u8(len(x.Rows), len(x.Rows[0]))
			for _, row := range x.Rows {
				w.s32(row...)
			}
			w.s32(x.Offset...)
		},
		api.ElGrid: func() {
			w.u8(len(x.Grid.Size))
			w.u8(x.Grid.Size...)
			w.u8(x.Grid.Out)
			w.u16(x.Grid.Data...)
		},
		api.ElProgram: func() {
			w.u8(x.In, x.Out, len(x.Program))
			for _, op := range x.Program {
				w.u8(op.Code)
				w.s32(op.Arg)
			}
		},
	}
	w.u8(x.Kind)
	kinds[x.Kind]()
}

func (w *writer) curve(c api.Curve) {
	kinds := map[int]func(){
		api.CuIdentity: func() {},
		api.CuTable: func() {
			w.u8(len(c.Table))
			w.u16(c.Table...)
		},
		api.CuFormula: func() {
			w.u8(len(c.Segments))
			for _, s := range c.Segments {
				w.s32(s.Till, s.Mul, s.Add)
				w.u8(s.Num, s.Den)
				w.s32(s.Off)
			}
		},
	}
	w.u8(c.Kind)
	kinds[c.Kind]()
}
