package digest

import (
	"crypto/md5"
	"encoding/hex"
	"math/rand"
	"strings"
	"testing"

	"verdigris/api"
)

func octets(r *rand.Rand, n int) string {
	b := make([]byte, n)
	r.Read(b)
	return string(b)
}

// P8.1
func TestSum(t *testing.T) {
	r := rand.New(rand.NewSource(1))
	for i := range 400 {
		n := i
		if i > 200 {
			n = r.Intn(api.MaxDigest)
		}
		s := octets(r, n)
		if got, e := Sum(s); got != md5.Sum([]byte(s)) || e != api.OK {
			t.Fatalf("Sum of %d octets: %x, %d", n, got, e)
		}
	}
	long := strings.Repeat("x", api.MaxDigest)
	if got, e := Sum(long); got != md5.Sum([]byte(long)) || e != api.OK {
		t.Errorf("Sum: %x, %d", got, e)
	}
	if got, e := Sum(long + "x"); got != [16]byte{} || e != api.ErrLong {
		t.Errorf("Sum: %x, %d", got, e)
	}
}

// P8.1, P8.2
func TestExamples(t *testing.T) {
	for s, want := range map[string]string{
		"":               "d41d8cd98f00b204e9800998ecf8427e",
		"a":              "0cc175b9c0f1b6a831c399e269772661",
		"abc":            "900150983cd24fb0d6963f7d28e17f72",
		"message digest": "f96b697d7cb7938d525a2f31aaf161d0",
	} {
		if sum, e := Sum(s); Hex(sum) != want || e != api.OK {
			t.Errorf("Sum(%s): %s, %d", s, Hex(sum), e)
		}
	}
}

// P8.2, P8.4
func TestHex(t *testing.T) {
	r := rand.New(rand.NewSource(2))
	for range 300 {
		var sum [16]byte
		r.Read(sum[:])
		text := Hex(sum)
		if text != hex.EncodeToString(sum[:]) {
			t.Fatalf("Hex(%x): %s", sum, text)
		}
		if back, e := Unhex(text); back != sum || e != api.OK {
			t.Fatalf("Unhex(%s): %x, %d", text, back, e)
		}
	}
	good := "d41d8cd98f00b204e9800998ecf8427e"
	for _, text := range []string{"", "00", strings.ToUpper(good), good + "0", good[1:], good[:31] + "g", good[:31] + " ", "\x00" + good[1:], strings.Repeat("0", 64)} {
		if got, e := Unhex(text); got != [16]byte{} || e != api.ErrForm {
			t.Errorf("Unhex(%q): %x, %d", text, got, e)
		}
	}
}

// P8.3, P8.4: the digest of octets in pieces is that of all together.
func TestPieces(t *testing.T) {
	r := rand.New(rand.NewSource(3))
	for range 300 {
		d, all := New(), ""
		for range r.Intn(8) {
			s := octets(r, r.Intn(150))
			all += s
			next, e := More(d, s)
			if e != api.OK || next.Length != len(all) || next.Rest != all[len(all)/64*64:] {
				t.Fatalf("More: %v, %d", next, e)
			}
			if e := Check(next); e != api.OK {
				t.Fatalf("Check(%v): %d", next, e)
			}
			d = next
		}
		if got, e := Done(d); got != md5.Sum([]byte(all)) || e != api.OK {
			t.Fatalf("Done of %d octets: %x, %d", len(all), got, e)
		}
	}
	want := api.Digest{Words: [4]int{0x67452301, 0xefcdab89, 0x98badcfe, 0x10325476}}
	if New() != want {
		t.Errorf("New: %v", New())
	}
}

// P8.3
func TestInvalid(t *testing.T) {
	for i, change := range []func(d *api.Digest){
		func(d *api.Digest) { d.Words[0] = -1 },
		func(d *api.Digest) { d.Words[3] = 1 << 32 },
		func(d *api.Digest) { d.Words[1] = -1 << 63 },
		func(d *api.Digest) { d.Length = 1 },
		func(d *api.Digest) { d.Length = -1 },
		func(d *api.Digest) { d.Length = -64 },
		func(d *api.Digest) { d.Length = api.MaxDigest + 64 },
		func(d *api.Digest) { d.Rest = "a" },
		func(d *api.Digest) { d.Rest = strings.Repeat("a", 64) },
		func(d *api.Digest) { d.Length, d.Rest = api.MaxDigest+1, "a" },
	} {
		d := New()
		change(&d)
		if e := Check(d); e != api.ErrDigest {
			t.Errorf("Check of %d: %d", i, e)
		}
		if got, e := More(d, strings.Repeat("x", api.MaxDigest+1)); got != (api.Digest{}) || e != api.ErrDigest {
			t.Errorf("More of %d: %v, %d", i, got, e)
		}
		if got, e := Done(d); got != [16]byte{} || e != api.ErrDigest {
			t.Errorf("Done of %d: %x, %d", i, got, e)
		}
	}
	full, e := More(New(), strings.Repeat("x", api.MaxDigest))
	if e != api.OK || Check(full) != api.OK {
		t.Errorf("More: %v, %d", full, e)
	}
	if got, e := More(full, "x"); got != (api.Digest{}) || e != api.ErrLong {
		t.Errorf("More: %v, %d", got, e)
	}
	if got, e := More(full, ""); got != full || e != api.OK {
		t.Errorf("More: %v, %d", got, e)
	}
	if got, e := Done(full); got != md5.Sum([]byte(strings.Repeat("x", api.MaxDigest))) || e != api.OK {
		t.Errorf("Done: %x, %d", got, e)
	}
	d := api.Digest{Words: [4]int{1<<32 - 1, 0, 5, 1<<32 - 1}, Length: 65, Rest: "\x00"}
	if e := Check(d); e != api.OK {
		t.Errorf("Check(%v): %d", d, e)
	}
}
