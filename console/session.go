package console

import (
	"strconv"
	"strings"

	"verdigris/algebra"
	"verdigris/api"
	"verdigris/bake"
	"verdigris/chain"
	"verdigris/digest"
	"verdigris/frac"
	"verdigris/inside"
	"verdigris/intent"
	"verdigris/mesh"
	"verdigris/must"
	"verdigris/profile"
	"verdigris/shell"
	"verdigris/sixteen"
	"verdigris/undo"
)

// How many places the numbers of reports have, and how many digits a line of octets has.
const (
	valuePlaces = 6
	boundPlaces = 9
	colorPlaces = 3
	lineDigits  = 64
)

// session is a valid profile, and the words of a command behind the first one.
type session struct {
	api.Profile
	words []string
}

func newSession(p api.Profile, words []string) session {
	return session{p, words}
}

// number returns the number of a word.
func (s session) number(i int) int {
	n, _ := number(s.words[i])
	return n
}

// chain returns the chain of the intent, which is the first word.
func (s session) chain() api.Chain {
	return must.Get(profile.Forward(s.Profile, s.number(0)))
}

// decimals returns the numbers of all words but the first one.
func (s session) decimals() []api.Frac {
	var out []api.Frac
	for _, word := range s.words[1:] {
		out = append(out, must.Get(frac.Parse(word)))
	}
	return out
}

// numberLine returns a line of numbers, behind other words.
func numberLine(l []int, words ...string) string {
	for _, n := range l {
		words = append(words, strconv.Itoa(n))
	}
	return line(words...)
}

// textLine returns a line of fractions with some places, behind other words.
func textLine(l []api.Frac, places int, words ...string) string {
	for _, a := range l {
		words = append(words, must.Get(frac.Text(a, places)))
	}
	return line(words...)
}

func (s session) check() string {
	return line("ok")
}

func (s session) id() string {
	return line(digest.Hex(must.Get(profile.Id(s.Profile))))
}

func (s session) show() string {
	out := numberLine([]int{s.Version}, "version") + numberLine([]int{s.Class}, "class") + numberLine([]int{s.Space}, "space") +
		numberLine([]int{s.Pcs}, "pcs") + numberLine([]int{s.Intent}, "intent") + line("name", s.Name)
	for _, t := range s.Tags {
		out += numberLine([]int{t.Kind}, "tag", t.Sign)
	}
	return out
}

func (s session) octets() string {
	digits := Hex(must.Get(profile.Bytes(s.Profile)))
	out := ""
	for ; len(digits) > lineDigits; digits = digits[lineDigits:] {
		out += line(digits[:lineDigits])
	}
	return out + line(digits)
}

func (s session) eval() string {
	c := s.chain()
	return textLine(must.Get(chain.Eval(c, s.decimals())), valuePlaces)
}

func (s session) run() string {
	c := s.chain()
	var in []int
	for i := 1; i < len(s.words); i++ {
		in = append(in, s.number(i))
	}
	return numberLine(must.Get(sixteen.Run(c, in)))
}

func (s session) bound() string {
	return textLine(must.Get(sixteen.Bound(s.chain())), boundPlaces)
}

func (s session) simple() string {
	c := s.chain()
	out, steps, e := algebra.Simplify(c)
	must.Pass(e)
	return numberLine([]int{len(c.Elements), len(out.Elements)}, "elements") + numberLine(steps, "steps")
}

// baked returns the grid of the chain with as many points for each input as the second word says, and its bounds.
func (s session) baked() (api.Grid, []api.Frac) {
	c := s.chain()
	var size []int
	for range c.In {
		size = append(size, s.number(1))
	}
	g, bound, e := bake.Bake(c, size)
	must.Pass(e)
	return g, bound
}

func (s session) bake() string {
	g, bound := s.baked()
	var out strings.Builder
	out.WriteString(textLine(bound, boundPlaces, "bound"))
	for at := 0; at < len(g.Data); at += g.Out {
		out.WriteString(numberLine(g.Data[at : at+g.Out]))
	}
	return out.String()
}

func (s session) undo() string {
	c := s.chain()
	return textLine(must.Get(undo.Back(c, s.decimals())), valuePlaces)
}

// shell returns the shell of the grid.
func (s session) shell() api.Mesh {
	g, _ := s.baked()
	return must.Get(shell.Shell(g))
}

// named returns a line with a name, or the name and the error of what makes the line.
func named(name string, rest func() string) string {
	out, e := must.Do(rest)
	if e != api.OK {
		return errorLine(e, name)
	}
	return out
}

func (s session) gamut() string {
	m := s.shell()
	out := numberLine([]int{len(m.Points)}, "points") + numberLine([]int{len(m.Faces)}, "faces")
	out += named("volume", func() string { return line("volume", string(must.Get(mesh.Volume6(m)))) })
	return out + named("axis", func() string {
		low, high, e := intent.Axis(m)
		must.Pass(e)
		return numberLine([]int{low, high}, "axis")
	})
}

func (s session) mapped() string {
	m := s.shell()
	p := [3]int{s.number(2), s.number(3), s.number(4)}
	colored := func(name string, color func() (api.Tri, api.Errno)) string {
		return named(name, func() string {
			t := must.Get(color())
			return textLine(t[:], colorPlaces, name)
		})
	}
	out := named("side", func() string { return numberLine([]int{must.Get(inside.Side(m, p))}, "side") })
	out += colored("clip", func() (api.Tri, api.Errno) { return intent.Clip(m, p) })
	return out + colored("press", func() (api.Tri, api.Errno) { return intent.Compress(m, p, s.number(5), s.number(6)) })
}
