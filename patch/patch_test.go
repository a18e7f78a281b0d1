package patch

import (
	"math/rand"
	"strconv"
	"strings"
	"testing"

	"verdigris/api"
)

func p(name string, lab [3]int, device ...int) api.Patch {
	return api.Patch{Name: name, Device: device, Lab: lab}
}

var example = []api.Patch{p("A", [3]int{5000, -300, 225}, 0, 5000)}

// many returns n valid patches.
func many(n int) []api.Patch {
	var l []api.Patch
	for i := range n {
		l = append(l, p("p"+strconv.Itoa(i), [3]int{i, -i, i}, i))
	}
	return l
}

var invalid = [][]api.Patch{
	nil, {}, many(41), {p("", [3]int{}, 0)}, {p("abcdefghijklm", [3]int{}, 0)}, {p("a b", [3]int{}, 0)}, {p("a.b", [3]int{}, 0)}, {p("é", [3]int{}, 0)}, {p("#a", [3]int{}, 0)},
	{p("a", [3]int{})}, {p("a", [3]int{}, 0, 0, 0, 0, 0)}, {p("a", [3]int{}, -1)}, {p("a", [3]int{}, 10001)}, {p("a", [3]int{}, 0, 10001)},
	{p("a", [3]int{-1}, 0)}, {p("a", [3]int{10001}, 0)}, {p("a", [3]int{0, -12801}, 0)}, {p("a", [3]int{0, 12701}, 0)}, {p("a", [3]int{0, 0, -12801}, 0)}, {p("a", [3]int{0, 0, 12701}, 0)},
	{p("a", [3]int{}, 0), p("a", [3]int{}, 1)}, {p("a", [3]int{}, 0), p("b", [3]int{}, 0, 1)},
}

// P31.1, P31.2, P31.4
func TestCheck(t *testing.T) {
	for i, l := range invalid {
		if e := Check(l); e != api.ErrPatch {
			t.Errorf("Check of %d: %d", i, e)
		}
		if n, e := Channels(l); n != 0 || e != api.ErrPatch {
			t.Errorf("Channels of %d: %d, %d", i, n, e)
		}
		if s, e := Text(l); s != "" || e != api.ErrPatch {
			t.Errorf("Text of %d: %q, %d", i, s, e)
		}
		if m, e := Merge(l); m != nil || e != api.ErrPatch {
			t.Errorf("Merge of %d: %v, %d", i, m, e)
		}
		if !Same(l, l) || Same(l, example) {
			t.Errorf("Same of %d", i)
		}
	}
	for i, x := range []struct {
		l []api.Patch
		n int
	}{{example, 2}, {many(40), 1}, {[]api.Patch{p("AZaz09-_abcd", [3]int{10000, -12800, 12700}, 0, 10000, 1, 2)}, 4}} {
		if e := Check(x.l); e != api.OK {
			t.Errorf("Check of %d: %d", i, e)
		}
		if n, e := Channels(x.l); n != x.n || e != api.OK {
			t.Errorf("Channels of %d: %d, %d", i, n, e)
		}
	}
}

// P31.1
func TestSame(t *testing.T) {
	if !Same(nil, []api.Patch{}) || !Same(example, []api.Patch{p("A", [3]int{5000, -300, 225}, 0, 5000)}) || !Same([]api.Patch{p("x", [3]int{})}, []api.Patch{{Name: "x", Device: []int{}}}) {
		t.Error("Same is false")
	}
	for i, l := range [][]api.Patch{nil, {p("B", [3]int{5000, -300, 225}, 0, 5000)}, {p("A", [3]int{5000, -300, 226}, 0, 5000)}, {p("A", [3]int{5000, -300, 225}, 0, 5001)}, {p("A", [3]int{5000, -300, 225}, 0)}, {example[0], example[0]}} {
		if Same(example, l) || Same(l, example) {
			t.Errorf("Same with %d", i)
		}
	}
}

// P31.2
func TestText(t *testing.T) {
	l := []api.Patch{p("A", [3]int{5000, -300, 225}, 0, 5000), p("end", [3]int{10000, -12800, 12700}, 1, 10000), p("patches", [3]int{1, -1, 10}, 120, 9990)}
	want := "patches 2\nA 0 0.5 50 -3 2.25\nend 0.0001 1 100 -128 127\npatches 0.012 0.999 0.01 -0.01 0.1\nend\n"
	if s, e := Text(l); s != want || e != api.OK {
		t.Errorf("Text: %q, %d", s, e)
	}
	if got, line, e := Parse(want); !Same(got, l) || line != 0 || e != api.OK {
		t.Errorf("Parse: %v, %d, %d", got, line, e)
	}
}

// P31.3
func TestParse(t *testing.T) {
	for i, text := range []string{
		"patches 2\nA 0 0.5 50 -3 2.25\nend\n", "patches 2\nA 0 0.5 50 -3 2.25\nend", "# x\n\npatches 2\nA 0 0.50 50.00 -3.0 2.250000\n#\nend\n # more\n\t\n",
		"  patches \t 2  \n\tA\t0 0.5000000000000000 50 -3 2.25 \nend\t\n\n", "#patches 3\npatches 2\nA 0.0 0.5 50 -3.00000000000000000000 2.25\nend\n#end",
	} {
		if got, line, e := Parse(text); !Same(got, example) || line != 0 || e != api.OK {
			t.Errorf("Parse %d: %v, %d, %d", i, got, line, e)
		}
	}
	full, _ := Text(many(40))
	if got, line, e := Parse(full); !Same(got, many(40)) || line != 0 || e != api.OK {
		t.Errorf("Parse: %v, %d, %d", got, line, e)
	}
	if got, line, e := Parse(strings.Repeat("\n", api.MaxPatchText-len(full)) + full); !Same(got, many(40)) || line != 0 || e != api.OK {
		t.Errorf("Parse: %v, %d, %d", got, line, e)
	}
	if got, line, e := Parse(strings.Repeat("\n", api.MaxPatchText-len(full)+1) + full); got != nil || line != 0 || e != api.ErrLong {
		t.Errorf("Parse: %v, %d, %d", got, line, e)
	}
	longer := strings.TrimSuffix(full, "end\n") + "more 0 0 0 0\nend\n"
	if got, line, e := Parse(longer); got != nil || line != 42 || e != api.ErrForm {
		t.Errorf("Parse: %v, %d, %d", got, line, e)
	}
}

// P31.3
func TestParseErrors(t *testing.T) {
	for i, x := range []struct {
		text string
		line int
	}{
		{"patches 2\nA 0 0.5 50 -3\nend\n", 2}, {"patches 5\nend\n", 1}, {"patches 1\nA 1.00001 50 0 0\nend\n", 2}, {"patches 1\nA 1 50 0 0\nA 0 50 0 0\nend\n", 3}, {"patches 1\nend\n", 0}, {"patches 1\nA 1 50 0 0\n", 0},
		{"", 0}, {"\n# x\n", 0}, {"end\n", 1}, {"patches 0\n", 1}, {"patches 01\n", 1}, {"patches 1.0\n", 1}, {"patches x\n", 1}, {"patches\n", 1}, {"patches 1 2\n", 1}, {"Patches 1\n", 1}, {"\nA 1 50 0 0\n", 2}, {"patches 1", 0},
		{"patches 1\npatches 1\n", 2}, {"patches 1\nA 1 50 0 0 0\nend", 2}, {"patches 1\nA 1 50 0 0\nend x\n", 3}, {"patches 1\nA 1 50 0 0\nEnd\n", 3},
		{"patches 1\nA.B 1 50 0 0\nend", 2}, {"patches 1\nabcdefghijklm 1 50 0 0\nend", 2}, {"patches 1\nA -0.1 50 0 0\nend", 2}, {"patches 1\nA 1.1 50 0 0\nend", 2}, {"patches 1\nA 1 100.01 0 0\nend", 2}, {"patches 1\nA 1 -1 0 0\nend", 2}, {"patches 1\nA 1 50 -128.01 0\nend", 2}, {"patches 1\nA 1 50 0 127.01\nend", 2}, {"patches 1\nA 1 50 0 0.001\nend", 2},
		{"patches 1\nA 01 50 0 0\nend", 2}, {"patches 1\nA 1. 50 0 0\nend", 2}, {"patches 1\nA 1 50 -0 0\nend", 2}, {"patches 1\nA 1 +50 0 0\nend", 2}, {"patches 1\nA 1 50 0 0,5\nend", 2}, {"patches 1\nA 1 " + strings.Repeat("9", 700) + " 0 0\nend", 2}, {"patches 1\nA 1 50 0 0.000000000000000000000\nend", 2},
		{"patches 1\nA 1 50 0 0\nend\n\nB 0 50 0 0\n", 5}, {"patches 1\nA 1 50 0 0\nend\nend\n", 4}, {"patches 1\r\nA 1 50 0 0\nend\n", 1}, {"patches 1\nA\v1 50 0 0\nend\n", 2},
	} {
		if got, line, e := Parse(x.text); got != nil || line != x.line || e != api.ErrForm {
			t.Errorf("%d: %v, %d, %d", i, got, line, e)
		}
	}
}

// P31.4
func TestMerge(t *testing.T) {
	got, e := Merge([]api.Patch{p("A", [3]int{5000, 0, 0}, 0), p("B", [3]int{4000, 0, 0}, 1), p("C", [3]int{5001, 100, -100}, 0)})
	if !Same(got, []api.Patch{p("A", [3]int{5001, 50, -50}, 0), p("B", [3]int{4000, 0, 0}, 1)}) || e != api.OK {
		t.Errorf("Merge: %v, %d", got, e)
	}
	got, e = Merge([]api.Patch{p("A", [3]int{1, -1, -2}, 0, 7), p("B", [3]int{4, 5, 6}, 7, 0), p("C", [3]int{2, -2, -2}, 0, 7), p("D", [3]int{2, -2, -3}, 0, 7), p("E", [3]int{1, 1, 1}, 7, 7), p("F", [3]int{4, 5, 7}, 7, 0)})
	if !Same(got, []api.Patch{p("A", [3]int{2, -2, -2}, 0, 7), p("B", [3]int{4, 5, 7}, 7, 0), p("E", [3]int{1, 1, 1}, 7, 7)}) || e != api.OK {
		t.Errorf("Merge: %v, %d", got, e)
	}
	if got, e := Merge(many(40)); !Same(got, many(40)) || e != api.OK {
		t.Errorf("Merge: %v, %d", got, e)
	}
	l := many(2)
	got, _ = Merge(l)
	got[0].Device[0] = 77
	if l[0].Device[0] != 0 {
		t.Error("Merge shares memory with its argument")
	}
}

// P31.5
func TestLaws(t *testing.T) {
	r := rand.New(rand.NewSource(1))
	for range 300 {
		var l []api.Patch
		channels := 1 + r.Intn(4)
		for i := range 1 + r.Intn(40) {
			q := p("n"+strconv.Itoa(i), [3]int{r.Intn(10001), r.Intn(25501) - 12800, r.Intn(25501) - 12800})
			for range channels {
				q.Device = append(q.Device, r.Intn(3)*r.Intn(5001))
			}
			l = append(l, q)
		}
		text, e := Text(l)
		back, line, e2 := Parse(text)
		if !Same(back, l) || line != 0 || e != api.OK || e2 != api.OK {
			t.Fatalf("Parse(Text(%v)): %v, %d, %d, %d", l, back, line, e, e2)
		}
		if again, _ := Text(back); again != text {
			t.Fatalf("Text of what is parsed: %q", again)
		}
		spread := strings.ReplaceAll(strings.ReplaceAll(text, " ", " \t "), "\n", "\t\n#"+strings.Repeat("x", r.Intn(5))+"\n")
		if len(spread) <= api.MaxPatchText {
			if back, _, e := Parse(spread); !Same(back, l) || e != api.OK {
				t.Fatalf("Parse(%q): %v, %d", spread, back, e)
			}
		}
		merged, _ := Merge(l)
		if again, e := Merge(merged); !Same(again, merged) || e != api.OK {
			t.Fatalf("Merge(Merge(%v)): %v, %d", l, again, e)
		}
	}
}
