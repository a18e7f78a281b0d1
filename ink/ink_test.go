package ink

import (
	"math/rand"
	"testing"

	"verdigris/api"
)

var (
	same  = api.Curve{Kind: api.CuIdentity}
	none  = api.Curve{Kind: api.CuTable, Table: []int{0, 0}}
	root  = api.Curve{Kind: api.CuFormula, Segments: []api.Segment{{Till: 1000000, Mul: 1000000, Num: 1, Den: 2}}}
	late  = api.Curve{Kind: api.CuTable, Table: []int{0, 0, 65535}}
	full  = api.Curve{Kind: api.CuTable, Table: []int{65535, 65535}}
	empty = [4]int{}
)

func rules(c api.Curve, limit int) api.Rules { return api.Rules{Black: c, Limit: limit} }

// P39.1
func TestCheck(t *testing.T) {
	for i, x := range []struct {
		r api.Rules
		e api.Errno
	}{
		{rules(same, 10000), api.OK}, {rules(none, 40000), api.OK}, {rules(late, 20000), api.OK},
		{rules(same, 9999), api.ErrInk}, {rules(same, 40001), api.ErrInk}, {rules(same, -1), api.ErrInk}, {rules(root, 20000), api.ErrInk}, {rules(api.Curve{}, 0), api.ErrCurve}, {rules(api.Curve{Kind: api.CuTable, Table: []int{1}}, 20000), api.ErrCurve},
	} {
		if e := Check(x.r); e != x.e {
			t.Errorf("%d: %d", i, e)
		}
		if x.e != api.OK {
			if got, e := Split([3]int{1, 2, 3}, x.r); got != empty || e != x.e {
				t.Errorf("Split %d: %v, %d", i, got, e)
			}
		}
	}
}

// P39.1
func TestTotal(t *testing.T) {
	for i, x := range []struct {
		a    [4]int
		want int
		e    api.Errno
	}{{[4]int{1, 20, 300, 4000}, 4321, api.OK}, {empty, 0, api.OK}, {[4]int{65535, 65535, 65535, 65535}, 262140, api.OK}, {[4]int{-1, 0, 0, 0}, 0, api.ErrArg}, {[4]int{0, 0, 0, 65536}, 0, api.ErrArg}, {[4]int{0, 1 << 62, 0, 0}, 0, api.ErrArg}} {
		if got, e := Total(x.a); got != x.want || e != x.e {
			t.Errorf("%d: %d, %d", i, got, e)
		}
	}
}

// P39.2
func TestCut(t *testing.T) {
	for i, x := range []struct {
		a    [4]int
		most int
		want [4]int
		e    api.Errno
	}{
		{[4]int{100, 100, 100, 100}, 300, [4]int{66, 66, 66, 100}, api.OK}, {[4]int{100, 100, 100, 100}, 400, [4]int{100, 100, 100, 100}, api.OK}, {[4]int{100, 100, 100, 100}, 399, [4]int{99, 99, 99, 100}, api.OK}, {[4]int{10, 20, 30, 50}, 40, [4]int{0, 0, 0, 40}, api.OK}, {[4]int{0, 0, 0, 9}, 5, [4]int{0, 0, 0, 5}, api.OK}, {[4]int{10, 20, 30, 50}, 0, empty, api.OK}, {[4]int{10, 20, 30, 0}, 30, [4]int{5, 10, 15, 0}, api.OK}, {[4]int{10, 20, 30, 50}, 80, [4]int{5, 10, 15, 50}, api.OK}, {[4]int{65535, 65535, 65535, 65535}, 262140, [4]int{65535, 65535, 65535, 65535}, api.OK}, {[4]int{65535, 65535, 65535, 65535}, 131070, [4]int{21845, 21845, 21845, 65535}, api.OK},
		{[4]int{0, 0, 0, 65536}, 5, empty, api.ErrArg}, {[4]int{0, -1, 0, 0}, 5, empty, api.ErrArg}, {empty, -1, empty, api.ErrArg}, {empty, 262141, empty, api.ErrArg},
	} {
		if got, e := Cut(x.a, x.most); got != x.want || e != x.e {
			t.Errorf("%d: %v, %d", i, got, e)
		}
	}
}

// P39.2
func TestLimit(t *testing.T) {
	for i, x := range []struct {
		a     [4]int
		limit int
		want  [4]int
		e     api.Errno
	}{
		{[4]int{10000, 10000, 10000, 10000}, 40000, [4]int{10000, 10000, 10000, 10000}, api.OK}, {[4]int{10000, 10000, 10000, 10000}, 10000, [4]int{0, 0, 0, 10000}, api.OK}, {[4]int{9000, 9000, 9000, 0}, 20000, [4]int{6666, 6666, 6666, 0}, api.OK},
		{[4]int{1, 1, 1, 1}, 9999, empty, api.ErrInk}, {[4]int{1, 1, 1, 1}, 40001, empty, api.ErrInk}, {[4]int{-1, 0, 0, 0}, 9999, empty, api.ErrArg}, {[4]int{0, 0, 0, 10001}, 20000, empty, api.ErrArg},
	} {
		if got, e := Limit(x.a, x.limit); got != x.want || e != x.e {
			t.Errorf("%d: %v, %d", i, got, e)
		}
	}
}

// P39.3
func TestSplit(t *testing.T) {
	for i, x := range []struct {
		cmy  [3]int
		r    api.Rules
		want [4]int
		e    api.Errno
	}{
		{[3]int{5000, 6000, 7000}, rules(same, 10000), [4]int{0, 1000, 2000, 5000}, api.OK}, {[3]int{9000, 9000, 9000}, rules(none, 20000), [4]int{6666, 6666, 6666, 0}, api.OK}, {[3]int{10000, 7500, 10000}, rules(late, 40000), [4]int{5000, 2500, 5000, 5000}, api.OK}, {[3]int{10000, 7500, 10000}, rules(late, 10000), [4]int{2000, 1000, 2000, 5000}, api.OK}, {[3]int{100, 200, 300}, rules(full, 40000), [4]int{0, 100, 200, 10000}, api.OK}, {[3]int{100, 200, 300}, rules(full, 10000), [4]int{0, 0, 0, 10000}, api.OK}, {[3]int{0, 0, 0}, rules(same, 10000), empty, api.OK}, {[3]int{7777, 7777, 7777}, rules(same, 10000), [4]int{0, 0, 0, 7777}, api.OK},
		{[3]int{-1, 0, 0}, rules(api.Curve{}, 0), empty, api.ErrArg}, {[3]int{0, 0, 10001}, rules(same, 10000), empty, api.ErrArg},
	} {
		if got, e := Split(x.cmy, x.r); got != x.want || e != x.e {
			t.Errorf("%d: %v, %d", i, got, e)
		}
	}
	// The nearest amount of black: 15 / 65535 of the whole is 2.289, 10 / 65535 is 1.526.
	for n, want := range map[int]int{15: 2, 10: 2, 9: 1, 3: 0} {
		c := api.Curve{Kind: api.CuTable, Table: []int{n, n}}
		if got, e := Split([3]int{5000, 5000, 5000}, rules(c, 40000)); got != [4]int{5000 - want, 5000 - want, 5000 - want, want} || e != api.OK {
			t.Errorf("Split with %d: %v, %d", n, got, e)
		}
	}
}

// P39.4
func TestLaws(t *testing.T) {
	r := rand.New(rand.NewSource(1))
	for range 5000 {
		most := r.Intn(4 * 65536)
		var a [4]int
		for i := range a {
			a[i] = r.Intn(65536)
		}
		got, e := Cut(a, most)
		total, _ := Total(got)
		before, _ := Total(a)
		if e != api.OK || total > most || before > most && a[0]+a[1]+a[2] > 0 && a[3] <= most && total < most-3 || before <= most && got != a {
			t.Fatalf("Cut(%v, %d): %v, %d", a, most, got, e)
		}
		for i := range a {
			if got[i] > a[i] || got[i] < 0 || i < 3 && a[i] >= a[(i+1)%3] && got[i] < got[(i+1)%3] {
				t.Fatalf("Cut(%v, %d): %v", a, most, got)
			}
		}
		if a[3] <= most && got[3] != a[3] {
			t.Fatalf("Cut(%v, %d): %v", a, most, got)
		}
		if again, _ := Cut(got, most); again != got {
			t.Fatalf("Cut(Cut(%v, %d)): %v, not %v", a, most, again, got)
		}
	}
}
