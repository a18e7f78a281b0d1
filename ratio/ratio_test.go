package ratio

import (
	"math/big"
	"math/rand"
	"strings"
	"testing"

	"verdigris/api"
	"verdigris/digits"
)

func someDigits(r *rand.Rand, n int) string {
	b := []byte{byte('1' + r.Intn(9))}
	for range r.Intn(n) {
		b = append(b, byte('0'+r.Intn(10)))
	}
	return string(b)
}

func some(t *testing.T, r *rand.Rand, n int) (Ratio, *big.Rat) {
	above, below := someDigits(r, n), someDigits(r, n)
	if r.Intn(2) == 0 {
		above = "-" + above
	}
	if r.Intn(10) == 0 {
		above = "0"
	}
	x, ok := new(big.Rat).SetString(above + "/" + below)
	if !ok {
		t.Fatal(above, below)
	}
	up, _ := digits.Read(above)
	down, _ := digits.Read(below)
	return Of(up, down.Natural), x
}

func same(t *testing.T, what string, got Ratio, want *big.Rat) {
	t.Helper()
	if got.Text() != want.Num().String() || digits.Plain(got.Below).Text() != want.Denom().String() {
		t.Fatalf("%s: %s / %s, not %s", what, got.Text(), digits.Plain(got.Below).Text(), want)
	}
}

func TestAgainstBig(t *testing.T) {
	r := rand.New(rand.NewSource(1))
	for i := range 3000 {
		long := 12
		if i%5 == 0 {
			long = 400
		}
		a, x := some(t, r, long)
		b, y := some(t, r, long)
		same(t, "Of", a, x)
		same(t, "Plus", a.Plus(b), new(big.Rat).Add(x, y))
		same(t, "Less", a.Less(b), new(big.Rat).Sub(x, y))
		same(t, "Times", a.Times(b), new(big.Rat).Mul(x, y))
		if y.Sign() != 0 {
			same(t, "Over", a.Over(b), new(big.Rat).Quo(x, y))
		}
		if a.Order(b) != x.Cmp(y) || a.Order(a) != 0 {
			t.Fatalf("Order of %s, %s", x, y)
		}
		cube := new(big.Rat).Mul(x, new(big.Rat).Mul(x, x))
		same(t, "Raised", a.Raised(3), cube)
		floor := new(big.Int).Div(x.Num(), x.Denom())
		same(t, "Floor", Whole(a.Floor()), new(big.Rat).SetInt(floor))
		near := new(big.Rat).Add(new(big.Rat).Mul(x, big.NewRat(1000, 1)), big.NewRat(1, 2))
		same(t, "Near", Whole(a.Near(digits.Of(1000))), new(big.Rat).SetInt(new(big.Int).Div(near.Num(), near.Denom())))
	}
}

func TestReadAndFrac(t *testing.T) {
	for _, a := range []api.Frac{{}, {N: "1"}, {D: "1"}, {N: "2", D: "4"}, {N: "1", D: "0"}, {N: "1", D: "-2"}, {N: "0", D: "2"}, {N: "x", D: "1"}, {N: "1", D: api.Whole("1" + strings.Repeat("0", 600))}, {N: api.Whole("1" + strings.Repeat("0", 600)), D: "1"}} {
		if _, ok := Read(a); ok {
			t.Errorf("Read(%.20s / %.20s) is a fraction", a.N, a.D)
		}
	}
	want := api.Frac{N: api.Whole("-" + strings.Repeat("9", 600)), D: "2"}
	a, ok := Read(want)
	if got, e := a.Frac(); !ok || got != want || e != api.OK {
		t.Errorf("Frac of Read: %v, %d", got, e)
	}
	if _, e := a.Times(Int(20)).Frac(); e != api.ErrBig {
		t.Errorf("Frac: %d", e)
	}
	if _, e := Int(1).Over(a.Times(Int(20))).Frac(); e != api.ErrBig {
		t.Errorf("Frac: %d", e)
	}
}
