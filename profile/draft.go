package profile

import (
	"iter"

	"verdigris/api"
	"verdigris/chain"
	"verdigris/tag"
)

// draft is a profile that may be invalid.
type draft struct {
	api.Profile
}

// all yields the tags with their indices.
func (d draft) all() iter.Seq2[int, api.Tag] {
	return func(yield func(int, api.Tag) bool) {
		for i, t := range d.Tags {
			if !yield(i, t) {
				return
			}
		}
	}
}

// find returns the tag with a sign, and whether there is one.
func (d draft) find(sign string) (api.Tag, bool) {
	for _, t := range d.all() {
		if t.Sign == sign {
			return t, true
		}
	}
	return api.Tag{}, false
}

// sound reports whether the profile obeys all rules.
func (d draft) sound() bool {
	rules := [...]func() bool{
		func() bool {
			return (d.Version == 2 || d.Version == 4) && between(d.Intent, api.InPerceptual, api.InAbsolute)
		},
		func() bool {
			return between(d.Class, api.ClInput, api.ClLink) && between(d.Space, api.SpGray, api.SpLab)
		},
		func() bool {
			return d.Pcs == api.SpXYZ || d.Pcs == api.SpLab || d.Class == api.ClLink && between(d.Pcs, api.SpGray, api.SpLab)
		},
		func() bool { return between(len(d.Name), 1, api.MaxProfileName) && isText(d.Name) },
		func() bool {
			return between(d.White[0], 1, api.MaxWhite) && between(d.White[1], 1, api.MaxWhite) && between(d.White[2], 1, api.MaxWhite)
		},
		func() bool { return len(d.Tags) <= api.MaxTags && d.soundTags() },
		d.shaped,
		d.complete,
		func() bool { return d.Version != 2 || d.simple() },
	}
	ok := true
walking:
	for _, rule := range rules {
		if ok = rule(); !ok {
			break walking
		}
	}
	return ok
}

func between(n, low, high int) bool {
	return low <= n && n <= high
}

func isText(s string) bool {
	for i := range len(s) {
		if s[i] < ' ' || s[i] > '~' {
			return false
		}
	}
	return true
}

// soundTags reports whether all tags are valid, and their signs rise.
func (d draft) soundTags() bool {
	for i, t := range d.all() {
		if tag.Check(t) != api.OK || i > 0 && t.Sign <= d.Tags[i-1].Sign {
			return false
		}
	}
	return true
}

// shape is what a tag with a certain sign is like.
type shape struct {
	kind, in, out int
	links, others bool // whether links, and profiles of other classes, may have it
}

// shapes returns the shapes of the signs that have one.
func (d draft) shapes() map[string]shape {
	device, _ := Channels(d.Space)
	connection, _ := Channels(d.Pcs)
	out := map[string]shape{
		"desc": {kind: api.TaText, links: true, others: true},
		"gamt": {kind: api.TaChain, in: connection, out: 1, others: true},
		"link": {kind: api.TaChain, in: device, out: connection, links: true},
	}
	for _, end := range [...]string{"0", "1", "2"} {
		out["fwd"+end] = shape{kind: api.TaChain, in: device, out: connection, others: true}
		out["bwd"+end] = shape{kind: api.TaChain, in: connection, out: device, others: true}
	}
	return out
}

// shaped reports whether the valid tags have the kinds and the shapes for their signs.
func (d draft) shaped() bool {
	shapes := d.shapes()
	for _, t := range d.all() {
		s, ok := shapes[t.Sign]
		if !ok {
			continue
		}
		if t.Kind != s.kind || d.Class == api.ClLink && !s.links || d.Class != api.ClLink && !s.others {
			return false
		}
		if outs, _ := chain.Outs(t.Chain); s.kind == api.TaChain && (t.Chain.In != s.in || outs != s.out) {
			return false
		}
	}
	return true
}

// complete reports whether the needed tags are there.
func (d draft) complete() bool {
	need, _ := Need(d.Class)
	for _, sign := range need {
		if _, ok := d.find(sign); !ok {
			return false
		}
	}
	return true
}

// simple reports whether the chains have no programs, and the formulas no more than one segment.
func (d draft) simple() bool {
	for _, t := range d.all() {
		for _, x := range t.Chain.Elements {
			if x.Kind == api.ElProgram {
				return false
			}
			for _, c := range x.Curves {
				if len(c.Segments) > 1 {
					return false
				}
			}
		}
	}
	return true
}
