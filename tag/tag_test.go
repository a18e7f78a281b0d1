package tag

import (
	"math/rand"
	"strings"
	"testing"

	"verdigris/api"
)

func chainOf(in int, l ...api.Element) api.Chain { return api.Chain{In: in, Elements: l} }

var (
	text     = api.Tag{Sign: "desc", Kind: api.TaText, Text: "Hi"}
	numbers  = api.Tag{Sign: "abc1", Kind: api.TaNumbers, Numbers: []int{1, -1}}
	identity = api.Curve{Kind: api.CuIdentity}
	table    = api.Curve{Kind: api.CuTable, Table: []int{0, 258, 65535}}
	formula  = api.Curve{Kind: api.CuFormula, Segments: []api.Segment{{Till: 500000, Mul: -1, Add: 2, Num: 3, Den: 4, Off: -5}, {Till: 1000000, Mul: 1, Add: 0, Num: 1, Den: 1, Off: 100000000}}}
	curves   = api.Element{Kind: api.ElCurves, Curves: []api.Curve{identity, table, formula}}
	matrix   = api.Element{Kind: api.ElMatrix, Rows: [][]int{{1, -2, 3}, {1000000000, 5, 6}}, Offset: []int{7, -1000000000}}
	grid     = api.Element{Kind: api.ElGrid, Grid: api.Grid{Size: []int{2, 3}, Out: 1, Data: []int{0, 1, 2, 3, 4, 65535}}}
	program  = api.Element{Kind: api.ElProgram, In: 1, Out: 2, Program: []api.Op{{Code: api.PuIn}, {Code: api.PuNum, Arg: -7}}}
	long     = api.Tag{Sign: "fwd0", Kind: api.TaChain, Chain: chainOf(3, curves, matrix, grid, program)}
)

func with(t api.Tag, change func(t *api.Tag)) api.Tag {
	change(&t)
	return t
}

var invalid = []api.Tag{
	{}, {Sign: "desc"}, {Sign: "desc", Kind: 4, Text: "Hi"}, {Sign: "desc", Kind: -1, Text: "Hi"},
	with(text, func(t *api.Tag) { t.Sign = "Desc" }), with(text, func(t *api.Tag) { t.Sign = "des" }), with(text, func(t *api.Tag) { t.Sign = "descr" }),
	with(text, func(t *api.Tag) { t.Sign = "de c" }), with(text, func(t *api.Tag) { t.Sign = "de{c" }), with(text, func(t *api.Tag) { t.Sign = "de:c" }), with(text, func(t *api.Tag) { t.Sign = "dé" + "c" }),
	with(text, func(t *api.Tag) { t.Text = "" }), with(text, func(t *api.Tag) { t.Text = strings.Repeat("x", 201) }), with(text, func(t *api.Tag) { t.Text = "a\n" }), with(text, func(t *api.Tag) { t.Text = "a\x7f" }), with(text, func(t *api.Tag) { t.Text = "\x1f" }),
	with(text, func(t *api.Tag) { t.Numbers = []int{1} }), with(text, func(t *api.Tag) { t.Chain.In = 1 }), with(text, func(t *api.Tag) { t.Chain.Elements = []api.Element{{}} }),
	with(numbers, func(t *api.Tag) { t.Numbers = nil }), with(numbers, func(t *api.Tag) { t.Numbers = make([]int, 13) }), with(numbers, func(t *api.Tag) { t.Numbers = []int{1 << 31} }), with(numbers, func(t *api.Tag) { t.Numbers = []int{-1<<31 - 1} }),
	with(numbers, func(t *api.Tag) { t.Text = "x" }), with(numbers, func(t *api.Tag) { t.Chain.In = 1 }),
	with(long, func(t *api.Tag) { t.Text = "x" }), with(long, func(t *api.Tag) { t.Numbers = []int{0} }), with(long, func(t *api.Tag) { t.Chain.In = 2 }), with(long, func(t *api.Tag) { t.Chain = api.Chain{} }),
}

// P15.1, P15.2
func TestCheck(t *testing.T) {
	for i, x := range invalid {
		if e := Check(x); e != api.ErrTag {
			t.Errorf("Check of %d: %d", i, e)
		}
		if s, e := Bytes(x); s != "" || e != api.ErrTag {
			t.Errorf("Bytes of %d: %q, %d", i, s, e)
		}
		if !Same(x, x) || Same(x, text) {
			t.Errorf("Same of %d", i)
		}
	}
	for i, x := range []api.Tag{text, numbers, long, {Sign: "09az", Kind: api.TaText, Text: " ~"}, {Sign: "desc", Kind: api.TaText, Text: "x"}, {Sign: "abc1", Kind: api.TaNumbers, Numbers: []int{0}}, {Sign: "desc", Kind: api.TaText, Text: strings.Repeat("x", 200)}, {Sign: "abc1", Kind: api.TaNumbers, Numbers: []int{-1 << 31, 1<<31 - 1, 0, 0, 0, 0, 0, 0, 0, 0, 0, 0}}, {Sign: "abc1", Kind: api.TaChain, Chain: chainOf(4)}} {
		if e := Check(x); e != api.OK {
			t.Errorf("Check of %d: %d", i, e)
		}
	}
	if !Same(with(text, func(t *api.Tag) { t.Numbers = []int{}; t.Chain.Elements = []api.Element{} }), text) {
		t.Error("Same is false")
	}
}

// P15.2
func TestBytes(t *testing.T) {
	for _, x := range []struct {
		t    api.Tag
		want string
	}{
		{text, "desc\x01\x00\x02Hi"},
		{numbers, "abc1\x02\x02\x00\x00\x00\x01\xff\xff\xff\xff"},
		{api.Tag{Sign: "fwd0", Kind: api.TaChain, Chain: chainOf(1, api.Element{Kind: api.ElCurves, Curves: []api.Curve{identity}})}, "fwd0\x03\x01\x01\x01\x01\x01"},
		{long, "fwd0\x03\x03\x04" +
			"\x01\x03" + "\x01" + "\x02\x03\x00\x00\x01\x02\xff\xff" +
			"\x03\x02\x00\x07\xa1\x20\xff\xff\xff\xff\x00\x00\x00\x02\x03\x04\xff\xff\xff\xfb\x00\x0f\x42\x40\x00\x00\x00\x01\x00\x00\x00\x00\x01\x01\x05\xf5\xe1\x00" +
			"\x02\x02\x03\x00\x00\x00\x01\xff\xff\xff\xfe\x00\x00\x00\x03\x3b\x9a\xca\x00\x00\x00\x00\x05\x00\x00\x00\x06\x00\x00\x00\x07\xc4\x65\x36\x00" +
			"\x03\x02\x02\x03\x01\x00\x00\x00\x01\x00\x02\x00\x03\x00\x04\xff\xff" +
			"\x04\x01\x02\x02\x01\x00\x00\x00\x00\x02\xff\xff\xff\xf9"},
	} {
		s, e := Bytes(x.t)
		if s != x.want || e != api.OK {
			t.Errorf("Bytes(%v): %q, %d", x.t, s, e)
		}
		got, next, where, e := Parse("xx"+s+"yyy", 2)
		if !Same(got, x.t) || next != 2+len(s) || where != 0 || e != api.OK {
			t.Errorf("Parse(%q): %v, %d, %d, %d", s, got, next, where, e)
		}
	}
}

// P15.2, P15.3
func TestLong(t *testing.T) {
	big := api.Element{Kind: api.ElGrid, Grid: api.Grid{Size: []int{8, 8, 8, 8}, Out: 1, Data: make([]int, 4096)}}
	spread := api.Element{Kind: api.ElMatrix, Rows: [][]int{{1}, {1}, {1}, {1}}, Offset: make([]int, 4)}
	four := api.Tag{Sign: "fwd0", Kind: api.TaChain, Chain: chainOf(4, big, spread, big, spread, big, spread, big)}
	if s, e := Bytes(four); s != "" || e != api.ErrLong {
		t.Errorf("Bytes: %d octets, %d", len(s), e)
	}
	last := api.Element{Kind: api.ElGrid, Grid: api.Grid{Size: []int{9, 8, 8, 7}, Out: 1, Data: make([]int, 4032)}}
	copies := func(more ...api.Op) api.Element {
		in := api.Op{Code: api.PuIn}
		return api.Element{Kind: api.ElProgram, In: 1, Out: 4, Program: append([]api.Op{in, in, in, in}, more...)}
	}
	neg := api.Op{Code: api.PuNeg}
	full := api.Tag{Sign: "fwd0", Kind: api.TaChain, Chain: chainOf(4, big, spread, big, copies(), big, copies(neg, neg), last)}
	if s, e := Bytes(full); len(s) != api.MaxProfile || e != api.OK {
		t.Errorf("Bytes: %d octets, %d", len(s), e)
	}
	full.Chain.Elements[5] = copies(neg, neg, neg)
	if s, e := Bytes(full); s != "" || e != api.ErrLong {
		t.Errorf("Bytes: %d octets, %d", len(s), e)
	}
	three := api.Tag{Sign: "fwd0", Kind: api.TaChain, Chain: chainOf(4, big, spread, big, spread, big)}
	s, e := Bytes(three)
	if len(s) != 7+3*(7+8192)+2*(3+32) || e != api.OK {
		t.Errorf("Bytes: %d octets, %d", len(s), e)
	}
	if got, _, _, e := Parse(s+strings.Repeat("x", api.MaxProfile-len(s)), 0); !Same(got, three) || e != api.OK {
		t.Errorf("Parse: %d", e)
	}
	for _, at := range []int{0, -1} {
		if got, next, where, e := Parse(strings.Repeat("x", api.MaxProfile+1), at); !Same(got, api.Tag{}) || next != 0 || where != 0 || e != api.ErrLong {
			t.Errorf("Parse: %d, %d, %d", next, where, e)
		}
	}
}

// P15.3: the first error, and its offset.
func TestParseErrors(t *testing.T) {
	ofElement := func(s string) string { return "fwd0\x03\x01\x01" + s }
	ofCurve := func(s string) string { return ofElement("\x01\x01" + s) }
	zeros := strings.Repeat("\x00", 4)
	for i, x := range []struct {
		s     string
		at    int
		where int
		e     api.Errno
	}{
		{"", 0, 0, api.ErrShort}, {"", 1, 0, api.ErrArg}, {"", -1, 0, api.ErrArg}, {"desc", 5, 0, api.ErrArg}, {"desc", 4, 4, api.ErrShort}, {"xxdes", 2, 2, api.ErrShort},
		{"desc\x01\x00\x02H", 0, 7, api.ErrShort}, {"desc\x01\x00", 0, 5, api.ErrShort}, {"desc", 0, 4, api.ErrShort},
		{"desc\x04\x00\x02Hi", 0, 4, api.ErrForm}, {"desc\x00", 0, 4, api.ErrForm}, {"xdesc\x00", 1, 5, api.ErrForm},
		{"desc\x01\x00\x02H\n", 0, 0, api.ErrTag}, {"xdesc\x01\x00\x02H\n", 1, 1, api.ErrTag}, {"desc\x01\x00\x00", 0, 0, api.ErrTag}, {"Desc\x01\x00\x01H", 0, 0, api.ErrTag}, {"desc\x01\x00\xc9" + strings.Repeat("x", 201), 0, 0, api.ErrTag},
		{"abc1\x02\x02" + zeros + "\x00", 0, 10, api.ErrShort}, {"abc1\x02\x00", 0, 0, api.ErrTag}, {"abc1\x02\x0d" + strings.Repeat(zeros, 13), 0, 0, api.ErrTag}, {"abc1\x02\xff" + zeros, 0, 10, api.ErrShort},
		{"fwd0\x03", 0, 5, api.ErrShort}, {"fwd0\x03\x01", 0, 6, api.ErrShort}, {"fwd0\x03\x01\x01", 0, 7, api.ErrShort},
		{"fwd0\x03\x00\x00", 0, 5, api.ErrChain}, {"fwd0\x03\x05\x00", 0, 5, api.ErrChain}, {"fwd0\x03\x02\x01\x01\x01\x01", 0, 5, api.ErrChain}, {"FWD0\x03\x01\x00", 0, 0, api.ErrTag},
		{"fwd0\x03\x01\x09" + strings.Repeat("\x01\x01\x01", 9), 0, 5, api.ErrChain},
		{ofElement("\x05"), 0, 7, api.ErrForm}, {ofElement("\x00"), 0, 7, api.ErrForm},
		{ofElement("\x01"), 0, 8, api.ErrShort}, {ofElement("\x01\x00"), 0, 7, api.ErrElement}, {ofElement("\x01\x05\x01\x01\x01\x01\x01"), 0, 7, api.ErrElement}, {ofElement("\x01\x02\x01"), 0, 10, api.ErrShort},
		{ofCurve("\x04"), 0, 9, api.ErrForm}, {ofCurve("\x00"), 0, 9, api.ErrForm},
		{ofCurve("\x02"), 0, 10, api.ErrShort}, {ofCurve("\x02\x02\x00\x00\x00"), 0, 13, api.ErrShort}, {ofCurve("\x02\x01\x00\x00"), 0, 9, api.ErrCurve}, {ofCurve("\x02\x00"), 0, 9, api.ErrCurve},
		{ofCurve("\x03\x01" + zeros + zeros + zeros + "\x01\x01" + zeros), 0, 9, api.ErrCurve}, {ofCurve("\x03\x01" + zeros + zeros + zeros + "\x01"), 0, 24, api.ErrShort}, {ofCurve("\x03\x01" + zeros + zeros + "\x00"), 0, 19, api.ErrShort}, {ofCurve("\x03\x00"), 0, 9, api.ErrCurve},
		{ofElement("\x02\x01\x01" + zeros + "\x00\x00"), 0, 14, api.ErrShort}, {ofElement("\x02\x00\x01"), 0, 7, api.ErrElement}, {ofElement("\x02\x01\x00" + zeros), 0, 7, api.ErrElement}, {ofElement("\x02\x02\x00" + zeros), 0, 14, api.ErrShort}, {ofElement("\x02\xff\xff" + zeros), 0, 14, api.ErrShort},
		{ofElement("\x02\x01\x01\x7f\xff\xff\xff" + zeros), 0, 7, api.ErrElement},
		{ofElement("\x03\x00"), 0, 8, api.ErrForm}, {ofElement("\x03\x05"), 0, 8, api.ErrForm}, {ofElement("\x03\x02\x02\x01"), 0, 10, api.ErrForm}, {ofElement("\x03\x02\x02\x0a"), 0, 10, api.ErrForm}, {ofElement("\x03\x01\x02\x00"), 0, 10, api.ErrForm}, {ofElement("\x03\x01\x02\x05"), 0, 10, api.ErrForm},
		{ofElement("\x03\x01\x02\x01\x00\x00\x00"), 0, 13, api.ErrShort}, {ofElement("\x03\x01\x02"), 0, 10, api.ErrShort}, {ofElement("\x03\x02\x02\x02\x01" + zeros + zeros), 0, 5, api.ErrChain},
		{ofElement("\x03\x04\x09\x09\x09\x09\x01" + strings.Repeat("\x00", 2*6561)), 0, 7, api.ErrElement},
		{ofElement("\x04\x01\x01\x00"), 0, 7, api.ErrElement}, {ofElement("\x04\x01\x01\x01\x01"), 0, 12, api.ErrShort}, {ofElement("\x04\x01\x01\x01\x01" + zeros + "rest"), 0, 0, api.OK}, {ofElement("\x04\x01\x01\x01\x0d" + zeros), 0, 7, api.ErrElement}, {ofElement("\x04\x01"), 0, 9, api.ErrShort},
	} {
		got, next, where, e := Parse(x.s, x.at)
		if where != x.where || e != x.e || e != api.OK && (next != 0 || !Same(got, api.Tag{})) {
			t.Errorf("%d: Parse(%.40q, %d): %v, %d, %d, %d; want %d, %d", i, x.s, x.at, got, next, where, e, x.where, x.e)
		}
	}
}

// P15.4: octets that are cut off anywhere cannot be read; what is read has just the octets that were read.
func TestCutOff(t *testing.T) {
	for _, x := range []api.Tag{text, numbers, long} {
		s, _ := Bytes(x)
		for n := range len(s) {
			got, next, where, e := Parse("ab"+s[:n], 2)
			if !Same(got, api.Tag{}) || next != 0 || where < 2 || where > n+2 || e != api.ErrShort {
				t.Fatalf("Parse(%q): %v, %d, %d, %d", s[:n], got, next, where, e)
			}
		}
	}
}

// P15.4
func TestChanged(t *testing.T) {
	r := rand.New(rand.NewSource(1))
	read := 0
	for _, x := range []api.Tag{text, numbers, long} {
		s, _ := Bytes(x)
		for range 5000 {
			b := []byte(s)
			for range 1 + r.Intn(2) {
				b[r.Intn(len(b))] = byte(r.Intn(256))
			}
			got, next, where, e := Parse(string(b), 0)
			if e != api.OK {
				if !Same(got, api.Tag{}) || next != 0 || where < 0 || where > len(b) {
					t.Fatalf("Parse(%q): %v, %d, %d, %d", b, got, next, where, e)
				}
				continue
			}
			read++
			if again, e := Bytes(got); again != string(b[:next]) || e != api.OK {
				t.Fatalf("Bytes(Parse(%q)): %q, %d", b, again, e)
			}
		}
	}
	if read == 0 {
		t.Error("nothing was read")
	}
}
