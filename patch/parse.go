package patch

import (
	"iter"
	"strings"

	"verdigris/api"
	"verdigris/frac"
)

// draft is a list that is being read.
type draft struct {
	patches  []api.Patch
	names    map[string]bool
	channels int
}

// reader reads lines, one after the other.
type reader struct {
	draft
	ended bool
}

// malformed is what a reader leaves with: the number of the line that is wrong.
type malformed struct {
	line int
}

func hold(condition bool, line int) {
	if !condition {
		panic(malformed{line})
	}
}

// lines yields the words of the lines that say something, with their numbers.
func lines(text string) iter.Seq2[int, []string] {
	return func(yield func(int, []string) bool) {
		for i, line := range strings.Split(text, "\n") {
			words := strings.FieldsFunc(line, func(c rune) bool { return c == ' ' || c == '\t' })
			if len(words) > 0 && words[0][0] != '#' && !yield(i+1, words) {
				return
			}
		}
	}
}

// Parse returns the list of a text, or an error and the number of the line with it.
func Parse(text string) (l []api.Patch, line int, e api.Errno) {
	if len(text) > api.MaxPatchText {
		return nil, 0, api.ErrLong
	}
	defer func() {
		if reason := recover(); reason != nil {
			l, line, e = nil, 0, api.ErrFail
			if m, ok := reason.(malformed); ok {
				line, e = m.line, api.ErrForm
			}
		}
	}()
	r := &reader{draft: draft{names: map[string]bool{}}}
	for number, words := range lines(text) {
		r.take(number, words)
	}
	hold(r.ended, 0)
	return r.patches, 0, api.OK
}

// take takes the next line.
func (r *reader) take(line int, words []string) {
	hold(!r.ended, line)
	switch {
	case r.channels == 0:
		hold(len(words) == 2 && words[0] == "patches" && len(words[1]) == 1, line)
		r.channels = int(words[1][0] - '0')
		hold(r.channels >= 1 && r.channels <= api.MaxChannels, line)
	case len(words) == 1 && words[0] == "end":
		hold(len(r.patches) > 0, 0)
		r.ended = true
	default:
		p, ok := r.patch(words)
		hold(ok && len(r.patches) < api.MaxPatches, line)
		r.names[p.Name] = true
		r.patches = append(r.patches, p)
	}
}

// patch returns the patch of some words, and whether they are such.
func (r *reader) patch(words []string) (api.Patch, bool) {
	if len(words) != 1+r.channels+3 {
		return api.Patch{}, false
	}
	p := api.Patch{Name: words[0]}
	ok := true
reading:
	for i, word := range words[1:] {
		places := devicePlaces
		if i >= r.channels {
			places = labPlaces
		}
		var n int
		if n, ok = number(word, places); !ok {
			break reading
		}
		if i < r.channels {
			p.Device = append(p.Device, n)
		} else {
			p.Lab[i-r.channels] = n
		}
	}
	return p, ok && sound(p) && !r.names[p.Name]
}

// number returns the number of a decimal text in units of 10^-places, and whether it is a whole number of them that is not too great.
func number(word string, places int) (int, bool) {
	a, e := frac.Parse(word)
	if e != api.OK {
		return 0, false
	}
	n, e := frac.Near(a, unit(places))
	if e != api.OK {
		return 0, false
	}
	back, e := frac.Of(n, unit(places))
	return n, e == api.OK && back == a
}
