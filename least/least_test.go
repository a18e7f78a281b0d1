package least

import (
	"math/big"
	"math/rand"
	"slices"
	"strings"
	"testing"

	"verdigris/api"
	"verdigris/frac"
)

func fr(text string) api.Frac {
	x, ok := new(big.Rat).SetString(text)
	if !ok {
		panic(text)
	}
	return of(x)
}

func of(x *big.Rat) api.Frac {
	return api.Frac{N: api.Whole(x.Num().String()), D: api.Whole(x.Denom().String())}
}

func value(a api.Frac) *big.Rat {
	x, _ := new(big.Rat).SetString(string(a.N) + "/" + string(a.D))
	return x
}

func list(text string) []api.Frac {
	var l []api.Frac
	for _, word := range strings.Fields(text) {
		l = append(l, fr(word))
	}
	return l
}

func table(text string) [][]api.Frac {
	var a [][]api.Frac
	for _, row := range strings.Split(text, ";") {
		a = append(a, list(row))
	}
	return a
}

func someFrac(r *rand.Rand, long int) api.Frac {
	number := func() *big.Int {
		return new(big.Int).Rand(r, new(big.Int).Exp(big.NewInt(10), big.NewInt(int64(1+r.Intn(long))), nil))
	}
	x := new(big.Rat).SetFrac(number(), new(big.Int).Add(number(), big.NewInt(1)))
	if r.Intn(2) == 0 {
		x.Neg(x)
	}
	if r.Intn(5) == 0 {
		x.SetInt64(0)
	}
	return of(x)
}

func someList(r *rand.Rand, n, long int) []api.Frac {
	var l []api.Frac
	for range n {
		l = append(l, someFrac(r, long))
	}
	return l
}

func some(r *rand.Rand, n, m, long int) [][]api.Frac {
	var a [][]api.Frac
	for range n {
		a = append(a, someList(r, m, long))
	}
	return a
}

// reduce makes the reduced echelon form of rows, in its first columns, and returns the rank.
func reduce(m [][]*big.Rat, columns int) int {
	rank := 0
	for c := 0; c < columns && rank < len(m); c++ {
		p := rank
		for p < len(m) && m[p][c].Sign() == 0 {
			p++
		}
		if p == len(m) {
			continue
		}
		m[p], m[rank] = m[rank], m[p]
		lead := new(big.Rat).Set(m[rank][c])
		for j := range m[rank] {
			m[rank][j] = new(big.Rat).Quo(m[rank][j], lead)
		}
		for i := range m {
			factor := new(big.Rat).Set(m[i][c])
			for j := range m[i] {
				if i != rank {
					m[i][j] = new(big.Rat).Sub(m[i][j], new(big.Rat).Mul(factor, m[rank][j]))
				}
			}
		}
		rank++
	}
	return rank
}

func rats(a [][]api.Frac, b []api.Frac) [][]*big.Rat {
	var m [][]*big.Rat
	for i, row := range a {
		var l []*big.Rat
		for _, f := range row {
			l = append(l, value(f))
		}
		if b != nil {
			l = append(l, value(b[i]))
		}
		m = append(m, l)
	}
	return m
}

func solution(m [][]*big.Rat) ([]api.Frac, api.Errno) {
	if reduce(m, len(m)) < len(m) {
		return nil, api.ErrZero
	}
	var l []api.Frac
	for _, row := range m {
		f := of(row[len(m)])
		if len(strings.TrimPrefix(string(f.N), "-")) > api.MaxWhole || len(f.D) > api.MaxWhole {
			return nil, api.ErrBig
		}
		l = append(l, f)
	}
	return l, api.OK
}

// P6.1
func TestCheck(t *testing.T) {
	for i, a := range [][][]api.Frac{nil, {nil}, table("1;1 2"), table("1 2;1"), make([][]api.Frac, 41), some(rand.New(rand.NewSource(1)), 41, 1, 2), {make([]api.Frac, 11)}, {{{N: "2", D: "2"}}}, {list("1 2"), {fr("1"), {}}}, some(rand.New(rand.NewSource(1)), 1, 11, 2)} {
		if e := Check(a); e != api.ErrTable {
			t.Errorf("Check of %d: %d", i, e)
		}
		if n, e := Rank(a); n != 0 || e != api.ErrTable {
			t.Errorf("Rank of %d: %d, %d", i, n, e)
		}
		bad := []api.Frac{{}}
		if x, e := Solve(a, bad); x != nil || e != api.ErrTable {
			t.Errorf("Solve of %d: %v, %d", i, x, e)
		}
		if x, e := Least(a, bad, bad); x != nil || e != api.ErrTable {
			t.Errorf("Least of %d: %v, %d", i, x, e)
		}
		if x, e := Measure(a, bad, bad, bad); x != (api.Frac{}) || e != api.ErrTable {
			t.Errorf("Measure of %d: %v, %d", i, x, e)
		}
	}
	for _, a := range [][][]api.Frac{table("0"), some(rand.New(rand.NewSource(1)), 40, 10, 3)} {
		if e := Check(a); e != api.OK {
			t.Errorf("Check(%v): %d", a, e)
		}
	}
}

// P6.1 to P6.3: a list that is not valid comes before lengths, and these before what follows.
func TestArguments(t *testing.T) {
	a, bad := table("1 2;3 4"), []api.Frac{{}}
	check := func(name string, l []api.Frac, e, want api.Errno) {
		if l != nil || e != want {
			t.Errorf("%s: %v, %d; want %d", name, l, e, want)
		}
	}
	l, e := Solve(a, bad)
	check("Solve", l, e, api.ErrFrac)
	l, e = Solve(a, list("1"))
	check("Solve", l, e, api.ErrArg)
	l, e = Solve(table("1 2"), list("1"))
	check("Solve", l, e, api.ErrArg)
	l, e = Solve(table("1;2"), list("1 1"))
	check("Solve", l, e, api.ErrArg)
	l, e = Least(a, bad, list("-1"))
	check("Least", l, e, api.ErrFrac)
	l, e = Least(a, list("1"), bad)
	check("Least", l, e, api.ErrFrac)
	l, e = Least(a, list("1"), list("1 1"))
	check("Least", l, e, api.ErrArg)
	l, e = Least(a, list("1 1"), list("1 1 1"))
	check("Least", l, e, api.ErrArg)
	l, e = Least(a, list("1 1"), list("1 -1"))
	check("Least", l, e, api.ErrArg)
	l, e = Least(a, list("1 1"), list("1 0"))
	check("Least", l, e, api.ErrZero)
	for i, x := range []struct {
		b, w, x []api.Frac
		e       api.Errno
	}{
		{bad, list("1 1"), list("1 1"), api.ErrFrac},
		{list("1"), bad, list("1 1"), api.ErrFrac},
		{list("1"), list("1 1"), bad, api.ErrFrac},
		{list("1"), list("1 1"), list("1 1"), api.ErrArg},
		{list("1 1"), list("1"), list("1 1"), api.ErrArg},
		{list("1 1"), list("1 1"), list("1"), api.ErrArg},
		{list("1 1"), list("1 -1"), list("1 1"), api.ErrArg},
	} {
		if got, e := Measure(a, x.b, x.w, x.x); got != (api.Frac{}) || e != x.e {
			t.Errorf("Measure %d: %v, %d", i, got, e)
		}
	}
}

// P6.1, P6.4
func TestSolveAndRank(t *testing.T) {
	r := rand.New(rand.NewSource(2))
	for i := range 300 {
		long := 2
		if i%10 == 0 {
			long = 25
		}
		n, m := 1+r.Intn(10), 1+r.Intn(10)
		a := some(r, n, m, long)
		if i%3 == 0 { // rows that depend on others
			a[r.Intn(n)] = a[r.Intn(n)]
			k := r.Intn(n)
			for j := range m {
				a[k] = slices.Clone(a[k])
				a[k][j], _ = frac.Add(a[r.Intn(n)][j], a[0][j])
			}
		}
		if got, e := Rank(a); got != reduce(rats(a, nil), m) || e != api.OK {
			t.Fatalf("Rank(%v): %d, %d", a, got, e)
		}
		square := some(r, n, n, long)
		if i%4 == 0 {
			square[r.Intn(n)] = square[0]
		}
		b := someList(r, n, long)
		want, wantError := solution(rats(square, b))
		if got, e := Solve(square, b); !slices.Equal(got, want) || e != wantError {
			t.Fatalf("Solve(%v, %v): %v, %d; want %v", square, b, got, e, want)
		}
	}
	if x, e := Solve(table("1 2;2 4"), list("1 2")); x != nil || e != api.ErrZero {
		t.Errorf("Solve: %v, %d", x, e)
	}
	if x, e := Solve(table("1 2;2 4"), list("1 3")); x != nil || e != api.ErrZero {
		t.Errorf("Solve: %v, %d", x, e)
	}
}

// normalEquations are those of the least weighted sum of squares.
func normalEquations(a [][]api.Frac, b, w []api.Frac) [][]*big.Rat {
	wide := rats(a, b)
	var m [][]*big.Rat
	for j := range a[0] {
		var row []*big.Rat
		for k := range wide[0] {
			sum := new(big.Rat)
			for i := range wide {
				x := new(big.Rat).Mul(wide[i][j], wide[i][k])
				sum.Add(sum, x.Mul(x, value(w[i])))
			}
			row = append(row, sum)
		}
		m = append(m, row)
	}
	return m
}

func weights(r *rand.Rand, n int) []api.Frac {
	var w []api.Frac
	for range n {
		f, _ := frac.Abs(someFrac(r, 2))
		w = append(w, f)
	}
	return w
}

// P6.2, P6.3, P6.4
func TestLeast(t *testing.T) {
	r := rand.New(rand.NewSource(3))
	solved := 0
	for i := range 200 {
		n, m := 1+r.Intn(12), 1+r.Intn(5)
		if i%20 == 0 {
			n, m = 40, 9
		}
		a, b, w := some(r, n, m, 2), someList(r, n, 2), weights(r, n)
		want, wantError := solution(normalEquations(a, b, w))
		x, e := Least(a, b, w)
		if !slices.Equal(x, want) || e != wantError {
			t.Fatalf("Least(%v, %v, %v): %v, %d; want %v", a, b, w, x, e, want)
		}
		if e != api.OK {
			continue
		}
		solved++
		least, e := Measure(a, b, w, x)
		if e != api.OK || least != measured(a, b, w, x) {
			t.Fatalf("Measure: %v, %d", least, e)
		}
		other := slices.Clone(x)
		j := r.Intn(m)
		other[j], _ = frac.Add(other[j], fr("1/1000"))
		if more, _ := Measure(a, b, w, other); more != measured(a, b, w, other) || value(more).Cmp(value(least)) <= 0 {
			t.Fatalf("Least(%v, %v, %v) is not least", a, b, w)
		}
		// A row that stands twice counts like one with twice the weight.
		twice := slices.Clone(w)
		twice[0], _ = frac.Add(w[0], w[0])
		if again, _ := Least(append([][]api.Frac{a[0]}, a[:n:n]...), append([]api.Frac{b[0]}, b...), append([]api.Frac{w[0]}, w...)); n < 40 {
			if weighted, _ := Least(a, b, twice); !slices.Equal(again, weighted) {
				t.Fatalf("Least with a row twice: %v, %v", again, weighted)
			}
		}
	}
	if solved < 50 {
		t.Errorf("only %d solved", solved)
	}
}

func measured(a [][]api.Frac, b, w, x []api.Frac) api.Frac {
	out := new(big.Rat)
	for i, row := range a {
		y := new(big.Rat).Neg(value(b[i]))
		for j, f := range row {
			y.Add(y, new(big.Rat).Mul(value(f), value(x[j])))
		}
		y.Mul(y, y)
		out.Add(out, y.Mul(y, value(w[i])))
	}
	return of(out)
}

func TestExamples(t *testing.T) {
	if x, e := Least(table("1;2"), list("3 4"), list("1 1")); !slices.Equal(x, list("11/5")) || e != api.OK {
		t.Errorf("Least: %v, %d", x, e)
	}
	if x, e := Least(table("1;1"), list("0 3"), list("2 1")); !slices.Equal(x, list("1")) || e != api.OK {
		t.Errorf("Least: %v, %d", x, e)
	}
	if x, e := Least(table("1 1"), list("1"), list("1")); x != nil || e != api.ErrZero {
		t.Errorf("Least: %v, %d", x, e)
	}
	if x, e := Measure(table("1;2"), list("3 4"), list("1 1/2"), list("1")); x != fr("6") || e != api.OK {
		t.Errorf("Measure: %v, %d", x, e)
	}
	for text, want := range map[string]int{"1 2;2 4": 1, "0": 0, "1 0 1;0 1 1": 2, "0 1;0 2;0 3": 1, "0 0 1;0 1 0": 2} {
		if n, e := Rank(table(text)); n != want || e != api.OK {
			t.Errorf("Rank(%s): %d, %d", text, n, e)
		}
	}
}

// ErrBig is for results alone, and comes last.
func TestBig(t *testing.T) {
	long := "1" + strings.Repeat("0", 599)
	if x, e := Solve(table(long+" 0;0 1/"+long), list(long+" 1/"+long)); !slices.Equal(x, list("1 1")) || e != api.OK {
		t.Errorf("Solve: %v, %d", x, e)
	}
	if x, e := Solve(table("1/"+long), list("10")); x != nil || e != api.ErrBig {
		t.Errorf("Solve: %v, %d", x, e)
	}
	if x, e := Solve(table("1/"+long+" 0;0 0"), list("10 1")); x != nil || e != api.ErrZero {
		t.Errorf("Solve: %v, %d", x, e)
	}
	if x, e := Measure(table(long), list("0"), list("1"), list("1")); x != (api.Frac{}) || e != api.ErrBig {
		t.Errorf("Measure: %v, %d", x, e)
	}
	if x, e := Measure(table(long), list(long), list("1"), list("1")); x != fr("0") || e != api.OK {
		t.Errorf("Measure: %v, %d", x, e)
	}
	if x, e := Least(table("1/"+long), list("10"), list("1")); x != nil || e != api.ErrBig {
		t.Errorf("Least: %v, %d", x, e)
	}
}
