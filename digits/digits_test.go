package digits

import (
	"math/big"
	"math/rand"
	"strings"
	"testing"
)

// someText returns a text of up to n digits, with many zeros and nines, so that groups run over.
func someText(r *rand.Rand, n int) string {
	n = 1 + r.Intn(n)
	b := make([]byte, n)
	kind := r.Intn(4)
	for i := range b {
		switch kind {
		case 0:
			b[i] = '0'
		case 1:
			b[i] = '9'
		default:
			b[i] = byte('0' + r.Intn(10))
		}
		if r.Intn(8) == 0 {
			b[i] = byte('0' + r.Intn(10))
		}
	}
	text := strings.TrimLeft(string(b), "0")
	if text == "" {
		return "0"
	}
	if r.Intn(2) == 0 {
		return "-" + text
	}
	return text
}

func number(t *testing.T, text string) (Signed, *big.Int) {
	a, ok := Read(text)
	if !ok || a.Text() != text {
		t.Fatalf("Read(%s): %s, %v", text, a.Text(), ok)
	}
	b, _ := new(big.Int).SetString(text, 10)
	return a, b
}

func same(t *testing.T, what string, got Signed, want *big.Int) {
	t.Helper()
	if got.Text() != want.String() {
		t.Fatalf("%s: %s, not %s", what, got.Text(), want)
	}
}

func TestAgainstBig(t *testing.T) {
	r := rand.New(rand.NewSource(1))
	for i := range 6000 {
		long := 40
		if i%10 == 0 {
			long = 700
		}
		a, x := number(t, someText(r, long))
		b, y := number(t, someText(r, long))
		same(t, "Plus", a.Plus(b), new(big.Int).Add(x, y))
		same(t, "Less", a.Less(b), new(big.Int).Sub(x, y))
		same(t, "Times", a.Times(b), new(big.Int).Mul(x, y))
		same(t, "Turned", a.Turned(), new(big.Int).Neg(x))
		if a.Order(b) != x.Cmp(y) || a.Sign() != x.Sign() {
			t.Fatalf("Order or Sign of %s, %s", x, y)
		}
		if a.Length() != len(new(big.Int).Abs(x).String()) {
			t.Fatalf("Length of %s", x)
		}
		if y.Sign() != 0 {
			q, m := new(big.Int).DivMod(x, y, new(big.Int))
			quotient, rest := a.Over(b)
			same(t, "quotient", quotient, q)
			same(t, "rest", rest, m)
		}
		same(t, "Gcd", Plain(a.Gcd(b.Natural)), new(big.Int).GCD(nil, nil, new(big.Int).Abs(x), new(big.Int).Abs(y)))
		n, ok := a.Int()
		if ok != x.IsInt64() || ok && int64(n) != x.Int64() {
			t.Fatalf("Int of %s: %d, %v", x, n, ok)
		}
		u, ok := a.Uint64()
		if size := new(big.Int).Abs(x); ok != size.IsUint64() || ok && u != size.Uint64() {
			t.Fatalf("Uint64 of %s: %d, %v", x, u, ok)
		}
	}
}

func TestGcdOfMultiples(t *testing.T) {
	r := rand.New(rand.NewSource(2))
	for range 2000 {
		a, x := number(t, someText(r, 120))
		b, y := number(t, someText(r, 60))
		c, z := number(t, someText(r, 110))
		x.Mul(x, y)
		z.Mul(z, y)
		same(t, "Gcd", Plain(a.Times(b).Gcd(c.Times(b).Natural)), new(big.Int).GCD(nil, nil, x.Abs(x), z.Abs(z)))
	}
}

func TestPowersAndRoots(t *testing.T) {
	r := rand.New(rand.NewSource(3))
	for range 1500 {
		a, x := number(t, strings.TrimPrefix(someText(r, 130), "-"))
		k := 1 + r.Intn(12)
		root := a.Root(k)
		low, _ := new(big.Int).SetString(Plain(root).Text(), 10)
		high := new(big.Int).Add(low, big.NewInt(1))
		degree := big.NewInt(int64(k))
		if new(big.Int).Exp(low, degree, nil).Cmp(x) > 0 || high.Exp(high, degree, nil).Cmp(x) <= 0 {
			t.Fatalf("Root(%s, %d): %s", x, k, low)
		}
		same(t, "Raised", a.Turned().Raised(k), new(big.Int).Exp(new(big.Int).Neg(x), degree, nil))
		if back := Plain(a.Power(k)).Root(k); back.Cmp(a.Natural) != 0 {
			t.Fatalf("Root of Power(%s, %d)", x, k)
		}
		if !x.IsUint64() && x.Sign() > 0 {
			below := a.Power(k).Sub(Of(1))
			same(t, "Root below", Plain(below.Root(k)), new(big.Int).Sub(x, big.NewInt(1)))
		}
	}
}

func TestShifts(t *testing.T) {
	r := rand.New(rand.NewSource(4))
	for range 1000 {
		a, x := number(t, strings.TrimPrefix(someText(r, 130), "-"))
		n := r.Intn(60)
		ten := new(big.Int).Exp(big.NewInt(10), big.NewInt(int64(n)), nil)
		same(t, "Shift", Plain(a.Shift(n)), new(big.Int).Mul(x, ten))
		same(t, "Unshift", Plain(a.Unshift(n)), new(big.Int).Quo(x, ten))
	}
}

func TestNoNumbers(t *testing.T) {
	for _, text := range []string{"", "-", "-0", "00", "01", "-01", "+1", "1 ", "1a", "1:", "1/", ":", "12345678901234567890x", "x2345678901234567890", "--1", "\xff"} {
		if _, ok := Read(text); ok {
			t.Errorf("Read(%q) is a number", text)
		}
	}
}

func TestOf(t *testing.T) {
	for _, n := range []int{0, 1, -1, 1<<63 - 1, -1 << 63, base, -base, base - 1} {
		same(t, "OfInt", OfInt(n), big.NewInt(int64(n)))
	}
	same(t, "Of", Plain(Of(1<<64-1)), new(big.Int).SetUint64(1<<64-1))
}

func BenchmarkGcd600(b *testing.B) {
	r := rand.New(rand.NewSource(5))
	text := func() string {
		out := []byte{'1'}
		for range 599 {
			out = append(out, byte('0'+r.Intn(10)))
		}
		return string(out)
	}
	x, _ := Read(text())
	y, _ := Read(text())
	for b.Loop() {
		x.Gcd(y.Natural)
	}
}

func BenchmarkRoot12(b *testing.B) {
	x, _ := Read(strings.Repeat("7", 174))
	for b.Loop() {
		x.Root(12)
	}
}
