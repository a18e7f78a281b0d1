package profile

import (
	"crypto/md5"
	"encoding/binary"
	"math/rand"
	"slices"
	"strings"
	"testing"

	"verdigris/api"
	"verdigris/chain"
	"verdigris/tag"
)

func text(sign string) api.Tag { return api.Tag{Sign: sign, Kind: api.TaText, Text: "Hi"} }

// matrix is a chain from some inputs to some outputs.
func matrix(in, out int) api.Chain {
	x := api.Element{Kind: api.ElMatrix, Offset: make([]int, out)}
	for range out {
		x.Rows = append(x.Rows, make([]int, in))
	}
	return api.Chain{In: in, Elements: []api.Element{x}}
}

func way(sign string, in, out int) api.Tag {
	return api.Tag{Sign: sign, Kind: api.TaChain, Chain: matrix(in, out)}
}

// gray is the example of the chapter.
func gray() api.Profile {
	p := api.Profile{Version: 4, Class: api.ClDisplay, Space: api.SpGray, Pcs: api.SpLab, Name: "A", White: [3]int{964200, 1000000, 824900}}
	fwd := way("fwd0", 1, 3)
	fwd.Chain.Elements[0].Rows[0][0] = 1000000
	fwd.Chain.Elements[0].Offset = []int{0, 500000, 500000}
	p.Tags = []api.Tag{text("desc"), fwd}
	return p
}

// printer has all the tags that there are.
func printer() api.Profile {
	return api.Profile{Version: 4, Class: api.ClOutput, Space: api.SpCMYK, Pcs: api.SpXYZ, Intent: 3, Name: strings.Repeat("~", 32), White: [3]int{1, 2000000, 5}, Tags: []api.Tag{
		{Sign: "0000", Kind: api.TaNumbers, Numbers: []int{-1, 7}},
		way("bwd0", 3, 4), way("bwd1", 3, 4), way("bwd2", 3, 4), text("desc"), way("fwd0", 4, 3), way("fwd1", 4, 3), way("fwd2", 4, 3), way("gamt", 3, 1), way("more", 1, 2),
	}}
}

func link() api.Profile {
	return api.Profile{Version: 2, Class: api.ClLink, Space: api.SpRGB, Pcs: api.SpCMYK, Name: " ", White: [3]int{1, 1, 1}, Tags: []api.Tag{text("desc"), way("link", 3, 4), text("more")}}
}

type change func(p *api.Profile)

func with(p api.Profile, f change) api.Profile {
	f(&p)
	return p
}

func tags(l ...api.Tag) change { return func(p *api.Profile) { p.Tags = l } }

func invalid() []api.Profile {
	program := api.Element{Kind: api.ElProgram, In: 1, Out: 3, Program: []api.Op{{Code: api.PuIn}, {Code: api.PuIn}, {Code: api.PuIn}}}
	two := api.Curve{Kind: api.CuFormula, Segments: []api.Segment{{Till: 1, Num: 1, Den: 1}, {Till: 1000000, Num: 1, Den: 1}}}
	old := func(x ...api.Element) api.Profile {
		return with(gray(), func(p *api.Profile) {
			p.Version = 2
			p.Tags = append(p.Tags, api.Tag{Sign: "more", Kind: api.TaChain, Chain: api.Chain{In: 1, Elements: x}})
		})
	}
	var many []api.Tag
	for i := range 13 {
		many = append(many, text("aaa"+string(rune('a'+i))))
	}
	return []api.Profile{
		{}, with(gray(), func(p *api.Profile) { p.Version = 3 }), with(gray(), func(p *api.Profile) { p.Version = 0 }),
		with(gray(), func(p *api.Profile) { p.Class = 0 }), with(gray(), func(p *api.Profile) { p.Class = 5 }), with(gray(), func(p *api.Profile) { p.Class = api.ClLink }),
		with(gray(), func(p *api.Profile) { p.Space = 0 }), with(gray(), func(p *api.Profile) { p.Space = 6 }), with(gray(), func(p *api.Profile) { p.Space = api.SpRGB }),
		with(gray(), func(p *api.Profile) { p.Pcs = api.SpRGB }), with(gray(), func(p *api.Profile) { p.Pcs = 0 }), with(link(), func(p *api.Profile) { p.Pcs = 6 }), with(link(), func(p *api.Profile) { p.Pcs = 0 }), with(link(), func(p *api.Profile) { p.Class = api.ClInput }),
		with(gray(), func(p *api.Profile) { p.Intent = -1 }), with(gray(), func(p *api.Profile) { p.Intent = 4 }),
		with(gray(), func(p *api.Profile) { p.Name = "" }), with(gray(), func(p *api.Profile) { p.Name = strings.Repeat("x", 33) }), with(gray(), func(p *api.Profile) { p.Name = "a\n" }), with(gray(), func(p *api.Profile) { p.Name = "\x7f" }),
		with(gray(), func(p *api.Profile) { p.White[0] = 0 }), with(gray(), func(p *api.Profile) { p.White[1] = 2000001 }), with(gray(), func(p *api.Profile) { p.White[2] = -1 }),
		with(gray(), tags()), with(gray(), tags(text("desc"))), with(gray(), tags(way("fwd0", 1, 3))), with(gray(), tags(text("desc"), way("fwd1", 1, 3))),
		with(gray(), tags(way("fwd0", 1, 3), text("desc"))), with(gray(), tags(text("desc"), text("desc"), way("fwd0", 1, 3))), with(gray(), tags(text("desc"), way("fwd0", 1, 3), api.Tag{Sign: "more"})),
		with(gray(), tags(text("desc"), way("fwd0", 3, 3))), with(gray(), tags(text("desc"), way("fwd0", 1, 1))), with(gray(), tags(text("desc"), text("fwd0"))), with(gray(), tags(way("desc", 1, 3), way("fwd0", 1, 3))),
		with(gray(), tags(way("bwd0", 1, 3), text("desc"), way("fwd0", 1, 3))), with(gray(), tags(text("bwd2"), text("desc"), way("fwd0", 1, 3))),
		with(gray(), tags(text("desc"), way("fwd0", 1, 3), way("gamt", 3, 3))), with(gray(), tags(text("desc"), way("fwd0", 1, 3), way("gamt", 1, 1))), with(gray(), tags(text("desc"), way("fwd0", 1, 3), text("gamt"))),
		with(gray(), tags(text("desc"), way("fwd0", 1, 3), way("fwd2", 3, 3))), with(gray(), tags(text("desc"), way("fwd0", 1, 3), way("link", 1, 3))), with(gray(), tags(text("desc"), way("link", 1, 3))),
		with(link(), tags(text("desc"))), with(link(), tags(way("link", 3, 4))), with(link(), tags(text("desc"), way("link", 4, 3))), with(link(), tags(text("desc"), text("link"))),
		with(link(), tags(text("desc"), way("fwd0", 3, 4), way("link", 3, 4))), with(link(), tags(way("bwd1", 4, 3), text("desc"), way("link", 3, 4))), with(link(), tags(text("desc"), way("gamt", 4, 1), way("link", 3, 4))),
		with(gray(), func(p *api.Profile) { p.Tags = append(many[:11:11], p.Tags...) }), with(gray(), tags(many...)),
		old(program), old(api.Element{Kind: api.ElCurves, Curves: []api.Curve{two}}),
	}
}

func same(a, b api.Profile) bool { return Same(a, b) && Same(b, a) }

// P16.1, P16.2, P16.4
func TestInvalid(t *testing.T) {
	for i, p := range invalid() {
		if e := Check(p); e != api.ErrProfile {
			t.Errorf("Check of %d: %d", i, e)
		}
		if s, e := Bytes(p); s != "" || e != api.ErrProfile {
			t.Errorf("Bytes of %d: %q, %d", i, s, e)
		}
		if id, e := Id(p); id != [16]byte{} || e != api.ErrProfile {
			t.Errorf("Id of %d: %x, %d", i, id, e)
		}
		for _, f := range []func() (api.Chain, api.Errno){
			func() (api.Chain, api.Errno) { return Forward(p, -1) },
			func() (api.Chain, api.Errno) { return Backward(p, 4) },
			func() (api.Chain, api.Errno) { return Link(p) },
		} {
			if c, e := f(); !chain.Same(c, api.Chain{}) || e != api.ErrProfile {
				t.Errorf("%d: %v, %d", i, c, e)
			}
		}
		if !same(p, p) {
			t.Errorf("Same of %d", i)
		}
	}
}

func valid() []api.Profile {
	old := with(gray(), func(p *api.Profile) {
		p.Version = 2
		p.Tags = append(p.Tags, api.Tag{Sign: "more", Kind: api.TaChain, Chain: api.Chain{In: 1, Elements: []api.Element{{Kind: api.ElCurves, Curves: []api.Curve{{Kind: api.CuFormula, Segments: []api.Segment{{Till: 1000000, Num: 1, Den: 2}}}}}}}})
	})
	many := gray()
	for i := range 10 {
		many.Tags = append(many.Tags, text("zzz"+string(rune('a'+i))))
	}
	lab := with(link(), func(p *api.Profile) { p.Space, p.Pcs, p.Tags[1] = api.SpLab, api.SpGray, way("link", 3, 1) })
	return []api.Profile{gray(), printer(), link(), old, lab, many}
}

// P16.1
func TestValid(t *testing.T) {
	l := valid()
	for i, p := range l {
		if e := Check(p); e != api.OK {
			t.Errorf("Check of %d: %d", i, e)
		}
		for j, q := range l {
			if Same(p, q) != (i == j) {
				t.Errorf("Same of %d, %d", i, j)
			}
		}
	}
	for i, f := range []change{
		func(p *api.Profile) { p.Version = 2 }, func(p *api.Profile) { p.Class = 1 }, func(p *api.Profile) { p.Space = 2 }, func(p *api.Profile) { p.Pcs = 4 }, func(p *api.Profile) { p.Intent = 1 },
		func(p *api.Profile) { p.Name = "B" }, func(p *api.Profile) { p.White[2]++ }, func(p *api.Profile) { p.Tags = p.Tags[:1] }, func(p *api.Profile) { p.Tags[0].Text = "Ho" },
	} {
		if Same(gray(), with(gray(), f)) {
			t.Errorf("Same with %d", i)
		}
	}
}

// P16.1
func TestNeedAndChannels(t *testing.T) {
	for class, want := range map[int][]string{0: nil, api.ClInput: {"desc", "fwd0"}, api.ClDisplay: {"desc", "fwd0"}, api.ClOutput: {"desc", "fwd0"}, api.ClLink: {"desc", "link"}, 5: nil, -1: nil} {
		l, e := Need(class)
		if !slices.Equal(l, want) || (e == api.OK) != (want != nil) || e != api.OK && e != api.ErrArg {
			t.Errorf("Need(%d): %v, %d", class, l, e)
		}
	}
	for space, want := range map[int]int{0: 0, api.SpGray: 1, api.SpRGB: 3, api.SpCMYK: 4, api.SpXYZ: 3, api.SpLab: 3, 6: 0, -1: 0} {
		n, e := Channels(space)
		if n != want || (e == api.OK) != (want != 0) || e != api.OK && e != api.ErrArg {
			t.Errorf("Channels(%d): %d, %d", space, n, e)
		}
	}
}

func u32(n int) string { return string(binary.BigEndian.AppendUint32(nil, uint32(n))) }

// P16.2: the octets of the example, put together by hand.
func TestBytes(t *testing.T) {
	desc, _ := tag.Bytes(gray().Tags[0])
	fwd, _ := tag.Bytes(gray().Tags[1])
	head := "vgp1" + u32(118) + "\x04\x02\x01\x05\x00\x00"
	behind := u32(964200) + u32(1000000) + u32(824900) + "\x01A\x02" + "desc" + u32(72) + u32(9) + "fwd0" + u32(84) + u32(34) + "\x00\x00\x00" + desc + "\x00\x00\x00" + fwd
	id := md5.Sum([]byte(head + strings.Repeat("\x00", 16) + behind))
	s, e := Bytes(gray())
	if s != head+string(id[:])+behind || e != api.OK {
		t.Errorf("Bytes: %q, %d", s, e)
	}
	if got, e := Id(gray()); got != id || e != api.OK {
		t.Errorf("Id: %x, %d", got, e)
	}
}

// P16.2
func TestLong(t *testing.T) {
	big := api.Element{Kind: api.ElGrid, Grid: api.Grid{Size: []int{8, 8, 8, 8}, Out: 1, Data: make([]int, 4096)}}
	spread := matrix(1, 4).Elements[0]
	c := api.Chain{In: 4, Elements: []api.Element{big, spread, big}}
	p := with(gray(), func(p *api.Profile) {
		p.Tags = append(p.Tags, api.Tag{Sign: "mor0", Kind: api.TaChain, Chain: c})
	})
	if s, e := Bytes(p); len(s) < 16000 || e != api.OK {
		t.Errorf("Bytes: %d octets, %d", len(s), e)
	}
	p.Tags = append(p.Tags, api.Tag{Sign: "mor1", Kind: api.TaChain, Chain: c})
	if s, e := Bytes(p); s != "" || e != api.ErrLong {
		t.Errorf("Bytes: %d octets, %d", len(s), e)
	}
	if id, e := Id(p); id != [16]byte{} || e != api.ErrLong {
		t.Errorf("Id: %x, %d", id, e)
	}
	p.Tags[3].Chain.Elements = []api.Element{big, spread, big, spread, big, spread, big}
	if s, e := Bytes(p); s != "" || e != api.ErrLong {
		t.Errorf("Bytes: %d octets, %d", len(s), e)
	}
	checkLongest(t, c)
	if got, where, e := Parse(strings.Repeat("x", api.MaxProfile+1)); !Same(got, api.Profile{}) || where != 0 || e != api.ErrLong {
		t.Errorf("Parse: %v, %d, %d", got, where, e)
	}
}

// checkLongest checks a profile of just the greatest number of octets, and one with more.
func checkLongest(t *testing.T, c api.Chain) {
	less := api.Element{Kind: api.ElGrid, Grid: api.Grid{Size: []int{8, 8, 8, 7}, Out: 1, Data: make([]int, 3584)}}
	long := func(n int) api.Profile {
		return with(gray(), func(p *api.Profile) {
			other := api.Chain{In: 4, Elements: []api.Element{c.Elements[0], c.Elements[1], less}}
			p.Tags = append(p.Tags, api.Tag{Sign: "more", Kind: api.TaChain, Chain: c}, api.Tag{Sign: "morf", Kind: api.TaChain, Chain: other})
			for _, sign := range []string{"txt0", "txt1", "txt2", "txt3"} {
				p.Tags = append(p.Tags, api.Tag{Sign: sign, Kind: api.TaText, Text: strings.Repeat("x", min(n, 199)+1)})
				n = max(n-199, 0)
			}
		})
	}
	for n := 400; ; n++ {
		s, e := Bytes(long(n))
		if e != api.OK {
			t.Fatalf("Bytes: %d; none has just %d octets", e, api.MaxProfile)
		}
		if len(s) == api.MaxProfile {
			if got, where, e := Parse(s); !same(got, long(n)) || where != 0 || e != api.OK {
				t.Errorf("Parse of %d octets: %d, %d", len(s), where, e)
			}
			if s, e := Bytes(long(n + 4)); s != "" || e != api.ErrLong {
				t.Errorf("Bytes: %d octets, %d", len(s), e)
			}
			return
		}
	}
}

// P16.3, P16.5
func TestReadBack(t *testing.T) {
	ids := map[[16]byte]bool{}
	for i, p := range valid() {
		s, e := Bytes(p)
		if e != api.OK {
			t.Fatalf("Bytes of %d: %d", i, e)
		}
		got, where, e := Parse(s)
		if !same(got, p) || where != 0 || e != api.OK {
			t.Errorf("Parse of %d: %v, %d, %d", i, got, where, e)
		}
		id, e := Id(p)
		if e != api.OK || ids[id] || s[14:30] != string(id[:]) {
			t.Errorf("Id of %d: %x, %d", i, id, e)
		}
		ids[id] = true
		zero := s[:14] + strings.Repeat("\x00", 16) + s[30:]
		if md5.Sum([]byte(zero)) != id {
			t.Errorf("Id of %d is not the digest", i)
		}
	}
}

// replaced returns s with other octets from a place on.
func replaced(s string, at int, octets string) string {
	return s[:at] + octets + s[at+len(octets):]
}

// P16.3: the first error, and its offset.
func TestParseErrors(t *testing.T) {
	s, _ := Bytes(gray())
	for i, x := range []struct {
		s     string
		where int
		e     api.Errno
	}{
		{"", 0, api.ErrShort}, {s[:3], 0, api.ErrShort}, {s[:4], 4, api.ErrShort}, {s[:7], 4, api.ErrShort}, {s[:10], 4, api.ErrForm}, {"x" + s[1:], 0, api.ErrForm},
		{s + "x", 4, api.ErrForm}, {s[:117], 4, api.ErrForm},
		{u32s(s[:8]), 8, api.ErrShort}, {u32s(s[:12]), 12, api.ErrShort}, {u32s(s[:13]), 13, api.ErrShort}, {u32s(s[:20]), 14, api.ErrShort}, {u32s(s[:30]), 30, api.ErrShort}, {u32s(s[:37]), 34, api.ErrShort}, {u32s(s[:42]), 42, api.ErrShort}, {u32s(s[:43]), 43, api.ErrShort}, {u32s(replaced(s[:50], 42, "\x20")), 43, api.ErrShort}, {u32s(s[:44]), 44, api.ErrShort},
		{u32s(s[:45]), 45, api.ErrShort}, {u32s(s[:48]), 45, api.ErrShort}, {u32s(s[:50]), 49, api.ErrShort}, {u32s(s[:56]), 53, api.ErrShort}, {u32s(s[:68]), 65, api.ErrShort},
		{replaced(s, 13, "\x01"), 13, api.ErrForm},
		{replaced(s, 44, "\x0d"), 44, api.ErrForm}, {replaced(s, 44, "\xff"), 44, api.ErrForm},
		{replaced(s, 57, "desc"), 57, api.ErrForm}, {replaced(s, 57, "abcd"), 57, api.ErrForm},
		{replaced(s, 49, u32(73)), 49, api.ErrForm}, {replaced(s, 49, u32(68)), 49, api.ErrForm}, {replaced(s, 49, u32(0)), 49, api.ErrForm},
		{replaced(s, 61, u32(80)), 61, api.ErrForm}, {replaced(s, 61, u32(72)), 61, api.ErrForm}, {replaced(s, 61, u32(68)), 61, api.ErrForm}, {replaced(s, 53, u32(1<<31)), 61, api.ErrForm},
		{replaced(s, 49, u32(84)), 61, api.ErrForm}, // the first tag's octets would reach beyond the second one's
		{replaced(s, 61, u32(116)), 116, api.ErrShort}, {replaced(s, 61, u32(120)), 0, api.ErrArg}, {replaced(s, 61, u32(1<<32-4)), 0, api.ErrArg},
		{replaced(s, 53, u32(8)), 72, api.ErrForm}, {replaced(s, 53, u32(10)), 72, api.ErrForm}, {replaced(s, 65, u32(35)), 84, api.ErrForm},
		{replaced(s, 72, "dess"), 72, api.ErrForm}, {replaced(s, 76, "\x04"), 76, api.ErrForm}, {replaced(s, 79, "\n"), 72, api.ErrTag}, {replaced(s, 78, "\xff"), 79, api.ErrShort}, {replaced(s, 91, "\x05"), 91, api.ErrForm},
		{replaced(s, 8, "\x03"), 0, api.ErrProfile}, {replaced(s, 43, "\n"), 0, api.ErrProfile}, {replaced(s, 30, "\xff"), 0, api.ErrProfile}, {u32s(replaced(s[:45], 44, "\x00")), 0, api.ErrProfile},
		{replaced(replaced(s, 45, "dess"), 72, "dess"), 0, api.ErrProfile},
		{replaced(s, 14, "\x00"), 14, api.ErrFail}, {replaced(s, 29, string([]byte{s[29] ^ 1})), 14, api.ErrFail},
		{replaced(s, 81, "\x01"), 81, api.ErrForm}, {replaced(s, 70, "\x01"), 70, api.ErrForm}, {replaced(replaced(s, 81, "\x01"), 29, string([]byte{s[29] ^ 1})), 29, api.ErrForm},
		{replaced(s, 8, "\x02"), 14, api.ErrFail}, // another profile, whose id is another one
		{s[:4] + u32(122) + s[8:] + "\x00\x00\x00\x00", 7, api.ErrForm},
	} {
		got, where, e := Parse(x.s)
		if !Same(got, api.Profile{}) || where != x.where || e != x.e {
			t.Errorf("%d: %d, %d; want %d, %d", i, where, e, x.where, x.e)
		}
	}
}

// u32s returns octets with their number in its place.
func u32s(s string) string {
	return s[:4] + u32(len(s)) + s[8:]
}

// P16.5: changing an octet leads to an error.
func TestChanged(t *testing.T) {
	r := rand.New(rand.NewSource(1))
	for _, p := range valid() {
		s, _ := Bytes(p)
		for at := range len(s) {
			b := []byte(s)
			b[at] ^= byte(1 + r.Intn(255))
			got, where, e := Parse(string(b))
			if e == api.OK || !Same(got, api.Profile{}) || where < 0 || where > len(s) {
				t.Fatalf("Parse with another octet at %d: %d, %d", at, where, e)
			}
		}
		for n := range len(s) {
			if _, where, e := Parse(s[:n]); e == api.OK || where > n {
				t.Fatalf("Parse of %d octets: %d, %d", n, where, e)
			}
		}
	}
}

// P16.4
func TestChoice(t *testing.T) {
	numbered := func(n int) api.Chain {
		c := matrix(1, 3)
		c.Elements[0].Offset[0] = n
		return c
	}
	back := func(n int) api.Chain {
		c := matrix(3, 1)
		c.Elements[0].Offset[0] = n
		return c
	}
	tagged := func(sign string, c api.Chain) api.Tag {
		return api.Tag{Sign: sign, Kind: api.TaChain, Chain: c}
	}
	all := with(gray(), tags(tagged("bwd0", back(10)), tagged("bwd1", back(11)), tagged("bwd2", back(12)), text("desc"), tagged("fwd0", numbered(20)), tagged("fwd1", numbered(21)), tagged("fwd2", numbered(22))))
	some := with(gray(), tags(tagged("bwd0", back(10)), tagged("bwd2", back(12)), text("desc"), tagged("fwd0", numbered(20)), tagged("fwd2", numbered(22))))
	few := with(gray(), tags(tagged("bwd1", back(11)), text("desc"), tagged("fwd0", numbered(20))))
	for i, x := range []struct {
		p         api.Profile
		intent    int
		fwd, back int
		e         api.Errno
	}{
		{all, 0, 20, 10, api.OK}, {all, 1, 21, 11, api.OK}, {all, 2, 22, 12, api.OK}, {all, 3, 21, 11, api.OK},
		{some, 0, 20, 10, api.OK}, {some, 1, 20, 10, api.OK}, {some, 2, 22, 12, api.OK}, {some, 3, 20, 10, api.OK},
		{few, 0, 20, 0, api.ErrNone}, {few, 1, 20, 11, api.OK}, {few, 2, 20, 0, api.ErrNone}, {few, 3, 20, 11, api.OK},
	} {
		c, e := Forward(x.p, x.intent)
		if !chain.Same(c, numbered(x.fwd)) || e != api.OK {
			t.Errorf("Forward %d: %v, %d", i, c, e)
		}
		want := back(x.back)
		if x.e != api.OK {
			want = api.Chain{}
		}
		if c, e := Backward(x.p, x.intent); !chain.Same(c, want) || e != x.e {
			t.Errorf("Backward %d: %v, %d", i, c, e)
		}
	}
	for _, intent := range []int{-1, 4} {
		if c, e := Forward(link(), intent); !chain.Same(c, api.Chain{}) || e != api.ErrArg {
			t.Errorf("Forward: %v, %d", c, e)
		}
		if c, e := Backward(gray(), intent); !chain.Same(c, api.Chain{}) || e != api.ErrArg {
			t.Errorf("Backward: %v, %d", c, e)
		}
	}
	if c, e := Forward(link(), 0); !chain.Same(c, api.Chain{}) || e != api.ErrForm {
		t.Errorf("Forward: %v, %d", c, e)
	}
	if c, e := Backward(link(), 0); !chain.Same(c, api.Chain{}) || e != api.ErrForm {
		t.Errorf("Backward: %v, %d", c, e)
	}
	if c, e := Link(link()); !chain.Same(c, matrix(3, 4)) || e != api.OK {
		t.Errorf("Link: %v, %d", c, e)
	}
	if c, e := Link(gray()); !chain.Same(c, api.Chain{}) || e != api.ErrForm {
		t.Errorf("Link: %v, %d", c, e)
	}
	p := gray()
	c, _ := Forward(p, 0)
	c.Elements[0].Offset[0] = 9
	if !Same(p, gray()) {
		t.Error("Forward shares memory with the profile")
	}
}
