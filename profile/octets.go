package profile

import (
	"strings"

	"verdigris/api"
	"verdigris/digest"
	"verdigris/octet"
	"verdigris/tag"
)

const (
	letters = "vgp1"
	idAt    = 14 // the offset of the id
	idSize  = 16
	rowSize = 12 // octets of a tag in the table
	step    = 4  // offsets of tags are multiples of it
)

// fault is what a reader or a writer leaves with: an error, and where it was met.
type fault struct {
	errno api.Errno
	where int
}

func hold(condition bool, e api.Errno, where int) {
	if !condition {
		panic(fault{e, where})
	}
}

// caught returns the error, and the place, of what was recovered.
func caught(reason any) (where int, e api.Errno) {
	if f, ok := reason.(fault); ok {
		return f.where, f.errno
	}
	return 0, api.ErrFail
}

// put returns the octets of numbers that all fit.
func put(write func(n int) (string, api.Errno), l ...int) string {
	out := ""
	for _, n := range l {
		s, _ := write(n)
		out += s
	}
	return out
}

// written returns the octets of a valid profile, and its id.
func written(d draft) (s string, id [idSize]byte, e api.Errno) {
	defer func() {
		if reason := recover(); reason != nil {
			_, e = caught(reason)
			s, id = "", [idSize]byte{}
		}
	}()
	table, tags := d.tagOctets()
	total := d.headerSize() + len(table) + len(tags)
	hold(total <= api.MaxProfile, api.ErrLong, 0)
	head := letters + put(octet.PutU32, total) + put(octet.PutU8, d.Version, d.Class, d.Space, d.Pcs, d.Intent, 0)
	behind := put(octet.PutS32, d.White[:]...) + put(octet.PutU8, len(d.Name)) + d.Name + put(octet.PutU8, len(d.Tags)) + table + tags
	id, e = digest.Sum(head + strings.Repeat("\x00", idSize) + behind)
	hold(e == api.OK, e, 0)
	return head + string(id[:]) + behind, id, api.OK
}

// headerSize returns the number of octets ahead of the table.
func (d draft) headerSize() int {
	return idAt + idSize + 3*4 + 1 + len(d.Name) + 1
}

// tagOctets returns the octets of the table and of the tags.
func (d draft) tagOctets() (table, tags string) {
	start := d.headerSize() + rowSize*len(d.Tags)
	for _, t := range d.all() {
		s, e := tag.Bytes(t)
		hold(e == api.OK, e, 0)
		for (start+len(tags))%step != 0 {
			tags += "\x00"
		}
		table += t.Sign + put(octet.PutU32, start+len(tags), len(s))
		tags += s
	}
	return table, tags
}

// reader reads the fields of a string, one after the other.
type reader struct {
	s  string
	at int
}

// field reads a field of some octets, which must be as it is expected.
func field[T any](r *reader, width int, take func(s string, at int) (T, api.Errno), expected func(T) bool) T {
	out, e := take(r.s, r.at)
	hold(e == api.OK, e, r.at)
	hold(expected(out), api.ErrForm, r.at)
	r.at += width
	return out
}

func any1[T any](T) bool { return true }

func (r *reader) part(width int, expected func(string) bool) string {
	return field(r, width, func(s string, at int) (string, api.Errno) { return octet.Part(s, at, width) }, expected)
}

// row is a tag in the table.
type row struct {
	sign      string
	at, width int
}

// header reads the header, and returns the id beside it.
func (r *reader) header() (p api.Profile, id [idSize]byte, tags int) {
	r.part(len(letters), func(s string) bool { return s == letters })
	field(r, 4, octet.U32, func(n int) bool { return n == len(r.s) })
	for _, to := range [...]*int{&p.Version, &p.Class, &p.Space, &p.Pcs, &p.Intent} {
		*to = field(r, 1, octet.U8, any1)
	}
	field(r, 1, octet.U8, func(n int) bool { return n == 0 })
	copy(id[:], r.part(idSize, any1))
	for i := range p.White {
		p.White[i] = field(r, 4, octet.S32, any1)
	}
	p.Name = r.part(field(r, 1, octet.U8, any1), any1)
	tags = field(r, 1, octet.U8, func(n int) bool { return n <= api.MaxTags })
	return p, id, tags
}

// table reads the table of so many tags.
func (r *reader) table(tags int) []row {
	var out []row
	free := r.at + rowSize*tags
	for i := range tags {
		var next row
		next.sign = r.part(api.MaxSign, func(s string) bool { return i == 0 || s > out[i-1].sign })
		next.at = field(r, 4, octet.U32, func(n int) bool { return n%step == 0 && n >= free })
		next.width = field(r, 4, octet.U32, any1)
		free = next.at + next.width
		out = append(out, next)
	}
	return out
}

// tags reads the tags of a table.
func (r *reader) tags(table []row) []api.Tag {
	var out []api.Tag
	for _, place := range table {
		t, next, where, e := tag.Parse(r.s, place.at)
		hold(e == api.OK, e, where)
		hold(next == place.at+place.width && t.Sign == place.sign, api.ErrForm, place.at)
		out = append(out, t)
	}
	return out
}

// Parse returns the profile with some octets, or the error that was met, and where.
func Parse(s string) (p api.Profile, where int, e api.Errno) {
	defer func() {
		if reason := recover(); reason != nil {
			p = api.Profile{}
			where, e = caught(reason)
		}
	}()
	hold(len(s) <= api.MaxProfile, api.ErrLong, 0)
	r := &reader{s: s}
	p, id, tags := r.header()
	p.Tags = r.tags(r.table(tags))
	e = Check(p)
	hold(e == api.OK, e, 0)
	compare(s, id, p)
	return p, 0, api.OK
}

// compare compares octets, whose id was read, with those of the profile that was read from them.
func compare(s string, id [idSize]byte, p api.Profile) {
	wanted, wantedId, e := written(draft{p})
	hold(e == api.OK, e, 0)
	behind := idAt + idSize
	if id != wantedId && s[:idAt] == wanted[:idAt] && s[behind:] == wanted[behind:] {
		hold(false, api.ErrFail, idAt)
	}
	for i := range min(len(s), len(wanted)) {
		hold(s[i] == wanted[i], api.ErrForm, i)
	}
}
