package octet

import (
	"math/rand"
	"strings"
	"testing"

	"verdigris/api"
)

const huge = 1<<63 - 1

var full = strings.Repeat("x", api.MaxOctets)

// P7.1
func TestNumbers(t *testing.T) {
	type reader func(string, int) (int, api.Errno)
	for i, x := range []struct {
		f    reader
		s    string
		at   int
		want int
		e    api.Errno
	}{
		{U8, "\x01\xfe", 1, 254, api.OK},
		{U8, "", 0, 0, api.ErrShort},
		{U8, "\x01", -1, 0, api.ErrArg},
		{U8, "\x01", 1, 0, api.ErrShort},
		{U8, "\x01", huge, 0, api.ErrShort},
		{U16, "\x01\x02\x03", 1, 515, api.OK},
		{U16, "\x01\x02\x03", 2, 0, api.ErrShort},
		{U16, "\xff\xff", 0, 65535, api.OK},
		{U16, "\xff\xff", -1, 0, api.ErrArg},
		{U32, "\xff\xff\xff\xfe", 0, 4294967294, api.OK},
		{U32, "\xff\xff\xff", 0, 0, api.ErrShort},
		{U32, "0\x00\x00\x01\x00", 1, 256, api.OK},
		{S32, "\xff\xff\xff\xfe", 0, -2, api.OK},
		{S32, "\x80\x00\x00\x00", 0, -1 << 31, api.OK},
		{S32, "\x7f\xff\xff\xff", 0, 1<<31 - 1, api.OK},
		{S32, "\x7f\xff\xff\xff", 1, 0, api.ErrShort},
		{S32, "", -5, 0, api.ErrArg},
		{U8, full, api.MaxOctets - 1, 'x', api.OK},
		{U8, full + "x", -1, 0, api.ErrLong},
		{U16, full + "x", 0, 0, api.ErrLong},
		{U32, full + "x", 0, 0, api.ErrLong},
		{S32, full + "x", 0, 0, api.ErrLong},
	} {
		if got, e := x.f(x.s, x.at); got != x.want || e != x.e {
			t.Errorf("%d: %d, %d", i, got, e)
		}
	}
}

// P7.2
func TestPartAndText(t *testing.T) {
	for _, x := range []struct {
		s     string
		at, n int
		part  string
		e     api.Errno
		text  string
		eText api.Errno
	}{
		{"abc", 1, 1, "b", api.OK, "b", api.OK},
		{"abc", 0, 3, "abc", api.OK, "abc", api.OK},
		{"abc", 3, 0, "", api.OK, "", api.OK},
		{"abc", 4, 0, "", api.OK, "", api.OK},
		{"abc", huge, 0, "", api.OK, "", api.OK},
		{"abc", 1, huge, "", api.ErrShort, "", api.ErrShort},
		{"abc", 2, 2, "", api.ErrShort, "", api.ErrShort},
		{"abc", huge, huge, "", api.ErrShort, "", api.ErrShort},
		{"abc", -1, 1, "", api.ErrArg, "", api.ErrArg},
		{"abc", 0, -1, "", api.ErrArg, "", api.ErrArg},
		{full + "x", -1, 1, "", api.ErrLong, "", api.ErrLong},
		{"ab\x00\x00", 0, 4, "ab\x00\x00", api.OK, "ab", api.OK},
		{"a\x00b\x00", 0, 4, "a\x00b\x00", api.OK, "", api.ErrForm},
		{"a\n\x00\x00", 0, 4, "a\n\x00\x00", api.OK, "", api.ErrForm},
		{"\x00\x00", 0, 2, "\x00\x00", api.OK, "", api.OK},
		{"ab", 0, 2, "ab", api.OK, "ab", api.OK},
		{" ~", 0, 2, " ~", api.OK, " ~", api.OK},
		{"\x1f", 0, 1, "\x1f", api.OK, "", api.ErrForm},
		{"\x7f", 0, 1, "\x7f", api.OK, "", api.ErrForm},
		{"a\xff", 0, 2, "a\xff", api.OK, "", api.ErrForm},
		{"é", 0, 2, "é", api.OK, "", api.ErrForm},
		{"a\x00Z", 0, 3, "a\x00Z", api.OK, "", api.ErrForm},
		{"a\x00\x00\x01", 0, 4, "a\x00\x00\x01", api.OK, "", api.ErrForm},
	} {
		if got, e := Part(x.s, x.at, x.n); got != x.part || e != x.e {
			t.Errorf("Part(%.9q, %d, %d): %q, %d", x.s, x.at, x.n, got, e)
		}
		if got, e := Text(x.s, x.at, x.n); got != x.text || e != x.eText {
			t.Errorf("Text(%.9q, %d, %d): %q, %d", x.s, x.at, x.n, got, e)
		}
	}
}

// P7.3
func TestPut(t *testing.T) {
	type put func(int) (string, api.Errno)
	for i, x := range []struct {
		f    put
		n    int
		want string
		e    api.Errno
	}{
		{PutU8, 0, "\x00", api.OK}, {PutU8, 255, "\xff", api.OK}, {PutU8, 256, "", api.ErrArg}, {PutU8, -1, "", api.ErrArg},
		{PutU16, 515, "\x02\x03", api.OK}, {PutU16, 65535, "\xff\xff", api.OK}, {PutU16, 65536, "", api.ErrArg}, {PutU16, -1, "", api.ErrArg},
		{PutU32, 1, "\x00\x00\x00\x01", api.OK}, {PutU32, 1<<32 - 1, "\xff\xff\xff\xff", api.OK}, {PutU32, 1 << 32, "", api.ErrArg}, {PutU32, -1, "", api.ErrArg},
		{PutS32, -2, "\xff\xff\xff\xfe", api.OK}, {PutS32, -1 << 31, "\x80\x00\x00\x00", api.OK}, {PutS32, 1<<31 - 1, "\x7f\xff\xff\xff", api.OK}, {PutS32, 1 << 31, "", api.ErrArg}, {PutS32, -1<<31 - 1, "", api.ErrArg},
	} {
		if got, e := x.f(x.n); got != x.want || e != x.e {
			t.Errorf("%d: %q, %d", i, got, e)
		}
	}
}

// P7.4
func TestPutText(t *testing.T) {
	for _, x := range []struct {
		t    string
		n    int
		want string
		e    api.Errno
	}{
		{"ab", 4, "ab\x00\x00", api.OK},
		{"ab", 2, "ab", api.OK},
		{"", 0, "", api.OK},
		{"", 2, "\x00\x00", api.OK},
		{"abc", 2, "", api.ErrLong},
		{"a\nc", 2, "", api.ErrForm},
		{"a\x00", 2, "", api.ErrForm},
		{"\x7f", 2, "", api.ErrForm},
		{"a\n", -1, "", api.ErrArg},
		{"a", api.MaxOctets + 1, "", api.ErrArg},
		{"x", api.MaxOctets, "x" + strings.Repeat("\x00", api.MaxOctets-1), api.OK},
	} {
		if got, e := PutText(x.t, x.n); got != x.want || e != x.e {
			t.Errorf("PutText(%q, %d): %.9q, %d", x.t, x.n, got, e)
		}
	}
}

// P7.4
func TestPad(t *testing.T) {
	for _, x := range []struct {
		s    string
		n    int
		want string
		e    api.Errno
	}{
		{"abc", 4, "abc\x00", api.OK},
		{"abcd", 4, "abcd", api.OK},
		{"", 64, "", api.OK},
		{"a", 1, "a", api.OK},
		{"a\xff", 64, "a\xff" + strings.Repeat("\x00", 62), api.OK},
		{"a", 0, "", api.ErrArg},
		{"a", 65, "", api.ErrArg},
		{"a", -1, "", api.ErrArg},
		{full + "x", 0, "", api.ErrLong},
		{full, 64, full, api.OK},
		{full, 63, "", api.ErrLong},
		{full[:65530], 60, "", api.ErrLong},
		{full[:65535], 64, full[:65535] + "\x00", api.OK},
	} {
		if got, e := Pad(x.s, x.n); got != x.want || e != x.e {
			t.Errorf("Pad(%.9q, %d): %.9q, %d", x.s, x.n, got, e)
		}
	}
}

// P7.5: what is written is read back; a part of a part is a part.
func TestReadBack(t *testing.T) {
	r := rand.New(rand.NewSource(1))
	for range 2000 {
		n := int(r.Uint32())
		s, _ := PutU32(n)
		if got, e := U32("ab"+s+"c", 2); got != n || e != api.OK {
			t.Fatalf("U32 of %d: %d, %d", n, got, e)
		}
		signed := n - 1<<31
		s, _ = PutS32(signed)
		if got, e := S32(s, 0); got != signed || e != api.OK {
			t.Fatalf("S32 of %d: %d, %d", signed, got, e)
		}
		s, _ = PutU16(n & 0xffff)
		if got, e := U16(s, 0); got != n&0xffff || e != api.OK {
			t.Fatalf("U16 of %d: %d, %d", n, got, e)
		}
		s, _ = PutU8(n & 0xff)
		if got, e := U8(s, 0); got != n&0xff || e != api.OK {
			t.Fatalf("U8 of %d: %d, %d", n, got, e)
		}
		text := strings.Repeat(string(rune(32+r.Intn(95))), r.Intn(9))
		field, _ := PutText(text, 9)
		if got, e := Text("."+field, 1, 9); got != text || e != api.OK {
			t.Fatalf("Text of %q: %q, %d", text, got, e)
		}
		at, m := r.Intn(5), 4+r.Intn(20)
		part, _ := Part(full, 7, m+5)
		inner, _ := Part(part, at, m)
		if again, _ := Part(full, 7+at, m); inner != again {
			t.Fatalf("Part of Part: %q, %q", inner, again)
		}
	}
}
