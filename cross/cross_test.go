package cross

import (
	"math/big"
	"math/rand"
	"slices"
	"strconv"
	"strings"
	"testing"

	"verdigris/api"
	"verdigris/fit"
	"verdigris/frac"
)

func fr(text string) api.Frac {
	x, ok := new(big.Rat).SetString(text)
	if !ok {
		panic(text)
	}
	return of(x)
}

func of(x *big.Rat) api.Frac {
	return api.Frac{N: api.Whole(x.Num().String()), D: api.Whole(x.Denom().String())}
}

func value(a api.Frac) *big.Rat {
	x, _ := new(big.Rat).SetString(string(a.N) + "/" + string(a.D))
	return x
}

func fracs(text string) []api.Frac {
	var l []api.Frac
	for _, word := range strings.Fields(text) {
		l = append(l, fr(word))
	}
	return l
}

func p(i int, lab [3]int, device ...int) api.Patch {
	return api.Patch{Name: "p" + strconv.Itoa(i), Device: device, Lab: lab}
}

var huge = api.Frac{N: api.Whole(strings.Repeat("9", 600)), D: "1"}

// P34.1
func TestNextAndDraw(t *testing.T) {
	for seed, want := range map[int]int{1: 48271, 48271: 182605794, api.MaxSeed: 2147435376} {
		if n, e := Next(seed); n != want || e != api.OK {
			t.Errorf("Next(%d): %d, %d", seed, n, e)
		}
		for _, n := range []int{1, 10, api.MaxDraw} {
			if v, next, e := Draw(seed, n); v != want%n || next != want || e != api.OK {
				t.Errorf("Draw(%d, %d): %d, %d, %d", seed, n, v, next, e)
			}
		}
	}
	for _, seed := range []int{0, -1, api.MaxSeed + 1, 1 << 62} {
		if n, e := Next(seed); n != 0 || e != api.ErrArg {
			t.Errorf("Next(%d): %d, %d", seed, n, e)
		}
		if v, next, e := Draw(seed, 5); v != 0 || next != 0 || e != api.ErrArg {
			t.Errorf("Draw(%d): %d, %d, %d", seed, v, next, e)
		}
	}
	for _, n := range []int{0, -1, api.MaxDraw + 1} {
		if v, next, e := Draw(1, n); v != 0 || next != 0 || e != api.ErrArg {
			t.Errorf("Draw(1, %d): %d, %d, %d", n, v, next, e)
		}
	}
	seed := 1
	for range 10000 {
		next, e := Next(seed)
		want := new(big.Int).Mod(new(big.Int).Mul(big.NewInt(48271), big.NewInt(int64(seed))), big.NewInt(1<<31-1))
		if int64(next) != want.Int64() || e != api.OK || next < 1 || next > api.MaxSeed {
			t.Fatalf("Next(%d): %d, %d", seed, next, e)
		}
		seed = next
	}
}

// P34.1, P34.4
func TestFolds(t *testing.T) {
	for i, x := range []struct {
		n, k, seed int
		want       []int
		e          api.Errno
	}{
		{5, 2, 0, []int{0, 1, 0, 1, 0}, api.OK}, {3, 3, 1, []int{1, 2, 0}, api.OK}, {1, 1, 0, []int{0}, api.OK}, {1, 1, 7, []int{0}, api.OK},
		{2, 3, 0, nil, api.ErrArg}, {0, 0, 0, nil, api.ErrArg}, {41, 1, 0, nil, api.ErrArg}, {3, 0, 0, nil, api.ErrArg}, {3, 1, -1, nil, api.ErrArg}, {3, 1, api.MaxSeed + 1, nil, api.ErrArg}, {-1, -1, 0, nil, api.ErrArg},
	} {
		if got, e := Folds(x.n, x.k, x.seed); !slices.Equal(got, x.want) || e != x.e {
			t.Errorf("%d: %v, %d", i, got, e)
		}
	}
	r := rand.New(rand.NewSource(1))
	for range 200 {
		n := 1 + r.Intn(40)
		k, seed := 1+r.Intn(n), 1+r.Intn(api.MaxSeed)
		got, e := Folds(n, k, seed)
		// The definition, with Draw.
		o := make([]int, n)
		for i := range o {
			o[i] = i
		}
		for i := n - 1; i >= 1; i-- {
			var j int
			j, seed, _ = Draw(seed, i+1)
			o[i], o[j] = o[j], o[i]
		}
		want := make([]int, n)
		count := make([]int, k)
		for i, thing := range o {
			want[thing] = i % k
			count[i%k]++
		}
		if !slices.Equal(got, want) || e != api.OK || slices.Max(count)-slices.Min(count) > 1 {
			t.Fatalf("Folds(%d, %d): %v, %d; want %v", n, k, got, e, want)
		}
	}
}

// P34.2
func TestStatistics(t *testing.T) {
	for i, x := range []struct {
		l            []api.Frac
		mean, median string
		p            int
		percentile   string
	}{
		{fracs("1 2 6"), "3", "2", 67, "6"}, {fracs("1 2 6"), "3", "2", 66, "2"}, {fracs("1 2 6"), "3", "2", 33, "1"}, {fracs("1 2 6"), "3", "2", 34, "2"}, {fracs("1 2"), "3/2", "3/2", 50, "1"}, {fracs("1 2"), "3/2", "3/2", 51, "2"}, {fracs("2 1"), "3/2", "3/2", 1, "1"}, {fracs("6 1/2 -2 1/3"), "29/24", "5/12", 75, "1/2"}, {fracs("7"), "7", "7", 100, "7"}, {fracs("3 3 1 1 1"), "9/5", "1", 61, "3"},
	} {
		if got, e := Mean(x.l); got != fr(x.mean) || e != api.OK {
			t.Errorf("Mean %d: %v, %d", i, got, e)
		}
		if got, e := Median(x.l); got != fr(x.median) || e != api.OK {
			t.Errorf("Median %d: %v, %d", i, got, e)
		}
		if got, e := Percentile(x.l, x.p); got != fr(x.percentile) || e != api.OK {
			t.Errorf("Percentile %d: %v, %d", i, got, e)
		}
	}
	for i, x := range []struct {
		l []api.Frac
		e api.Errno
	}{{make([]api.Frac, 301), api.ErrLong}, {make([]api.Frac, 300), api.ErrFrac}, {nil, api.ErrNone}, {[]api.Frac{fr("1"), {N: "2", D: "2"}}, api.ErrFrac}} {
		if got, e := Mean(x.l); got != (api.Frac{}) || e != x.e {
			t.Errorf("Mean %d: %v, %d", i, got, e)
		}
		if got, e := Median(x.l); got != (api.Frac{}) || e != x.e {
			t.Errorf("Median %d: %v, %d", i, got, e)
		}
		if got, e := Percentile(x.l, 0); got != (api.Frac{}) || e != x.e {
			t.Errorf("Percentile %d: %v, %d", i, got, e)
		}
	}
	for _, n := range []int{0, 101, -5} {
		if got, e := Percentile(fracs("1"), n); got != (api.Frac{}) || e != api.ErrArg {
			t.Errorf("Percentile(1, %d): %v, %d", n, got, e)
		}
	}
	// What is too long on the way does not matter.
	if got, e := Mean([]api.Frac{huge, huge}); got != huge || e != api.OK {
		t.Errorf("Mean: %v, %d", got, e)
	}
	if got, e := Median([]api.Frac{huge, huge}); got != huge || e != api.OK {
		t.Errorf("Median: %v, %d", got, e)
	}
	tiny := api.Frac{N: "1", D: huge.N}
	if got, e := Mean([]api.Frac{tiny, fr("0")}); got != (api.Frac{}) || e != api.ErrBig {
		t.Errorf("Mean: %v, %d", got, e)
	}
	if got, e := Median([]api.Frac{tiny, fr("0")}); got != (api.Frac{}) || e != api.ErrBig {
		t.Errorf("Median: %v, %d", got, e)
	}
}

// P34.2, P34.4
func TestStatisticLaws(t *testing.T) {
	r := rand.New(rand.NewSource(2))
	for range 100 {
		var l []api.Frac
		for range 1 + r.Intn(60) {
			a, _ := frac.Of(r.Intn(41)-20, 1+r.Intn(5))
			l = append(l, a)
		}
		sorted := slices.Clone(l)
		before := slices.Clone(l)
		slices.SortFunc(sorted, func(a, b api.Frac) int { return value(a).Cmp(value(b)) })
		sum := new(big.Rat)
		for _, a := range l {
			sum.Add(sum, value(a))
		}
		if got, e := Mean(l); got != of(sum.Quo(sum, big.NewRat(int64(len(l)), 1))) || e != api.OK {
			t.Fatalf("Mean(%v): %v, %d", l, got, e)
		}
		for n := 1; n <= 100; n++ {
			place := 0
			for place*100 < n*len(l) {
				place++
			}
			if got, e := Percentile(l, n); got != sorted[place-1] || e != api.OK {
				t.Fatalf("Percentile(%v, %d): %v, %d", l, n, got, e)
			}
		}
		if !slices.Equal(l, before) {
			t.Fatal("an argument was sorted")
		}
	}
}

// P34.3
func TestValidate(t *testing.T) {
	l := []api.Patch{p(0, [3]int{}, 0), p(1, [3]int{6000}, 5000), p(2, [3]int{10000}, 10000)}
	got, e := Validate(l, api.MoMatrix, 3, 0)
	if !slices.Equal(got.Squares, fracs("400 100 400")) || got.Mean != fr("300") || got.Median != fr("400") || got.Ninety != fr("400") || got.Most != fr("400") || got.Worst != 0 || e != api.OK {
		t.Errorf("Validate: %v, %d", got, e)
	}
	four := []api.Patch{p(0, [3]int{}, 0, 0, 0, 0), p(1, [3]int{}, 1, 0, 0, 0)}
	for i, x := range []struct {
		l             []api.Patch
		kind, k, seed int
		e             api.Errno
	}{
		{nil, 0, 0, -1, api.ErrPatch}, {l, 0, 3, 0, api.ErrArg}, {l, 4, 3, 0, api.ErrArg}, {l, 1, 1, 0, api.ErrArg}, {l, 1, 4, 0, api.ErrArg}, {l, 1, 3, -1, api.ErrArg}, {l, 1, 3, api.MaxSeed + 1, api.ErrArg}, {four, api.MoProducts, 2, 0, api.ErrForm}, {l, api.MoSquares, 3, 0, api.ErrZero}, {l[:1], 1, 1, 0, api.ErrArg},
	} {
		if got, e := Validate(x.l, x.kind, x.k, x.seed); got.Squares != nil || got.Mean != (api.Frac{}) || got.Median != (api.Frac{}) || got.Ninety != (api.Frac{}) || got.Most != (api.Frac{}) || got.Worst != 0 || e != x.e {
			t.Errorf("%d: %v, %d", i, got, e)
		}
	}
}

// P34.3, P34.4: the definition, fold by fold.
func TestValidation(t *testing.T) {
	r := rand.New(rand.NewSource(3))
	for range 25 {
		var l []api.Patch
		for i := range 6 + r.Intn(8) {
			l = append(l, p(i, [3]int{r.Intn(10001), r.Intn(500), -r.Intn(500)}, 500*r.Intn(21)))
		}
		k, seed := 2+r.Intn(len(l)-1), r.Intn(3)*r.Intn(1000)
		got, e := Validate(l, api.MoMatrix, k, seed)
		folds, _ := Folds(len(l), k, seed)
		var want []api.Frac
		wantError := api.OK
		for i := range l {
			weights := make([]int, len(l))
			for j := range l {
				if folds[j] != folds[i] {
					weights[j] = 1
				}
			}
			m, e := fit.Fit(l, api.MoMatrix, weights)
			squares, _ := fit.Squares(m, l)
			if e != api.OK {
				wantError = e
				break
			}
			want = append(want, squares[i])
		}
		if wantError != api.OK {
			if e != wantError {
				t.Fatalf("Validate(%v): %d, not %d", l, e, wantError)
			}
			continue
		}
		mean, _ := Mean(want)
		median, _ := Median(want)
		ninety, _ := Percentile(want, 90)
		most, _ := Percentile(want, 100)
		worst := slices.Index(want, most)
		if !slices.Equal(got.Squares, want) || got.Mean != mean || got.Median != median || got.Ninety != ninety || got.Most != most || got.Worst != worst || e != api.OK {
			t.Fatalf("Validate(%v, %d, %d): %v, %d", l, k, seed, got, e)
		}
	}
	var exact []api.Patch
	for i := range 6 {
		exact = append(exact, p(i, [3]int{1000 * i, -500 * i, 7}, 2000*i))
	}
	got, e := Validate(exact, api.MoMatrix, 3, 5)
	if got.Most != fr("0") || got.Worst != 0 || len(got.Squares) != 6 || e != api.OK {
		t.Errorf("Validate: %v, %d", got, e)
	}
}
