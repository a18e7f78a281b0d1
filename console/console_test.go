package console

import (
	"encoding/hex"
	"math/rand"
	"strconv"
	"strings"
	"testing"

	"verdigris/algebra"
	"verdigris/api"
	"verdigris/bake"
	"verdigris/chain"
	"verdigris/digest"
	"verdigris/frac"
	"verdigris/inside"
	"verdigris/intent"
	"verdigris/mesh"
	"verdigris/profile"
	"verdigris/shell"
	"verdigris/sixteen"
	"verdigris/undo"
)

func matrix(offset []int, rows ...[]int) api.Element {
	return api.Element{Kind: api.ElMatrix, Rows: rows, Offset: offset}
}

func profileOf(space int, tags ...api.Tag) api.Profile {
	return api.Profile{Version: 4, Class: api.ClDisplay, Space: space, Pcs: api.SpLab, Name: "A", White: [3]int{964200, 1000000, 824900}, Tags: append([]api.Tag{{Sign: "desc", Kind: api.TaText, Text: "Hi"}}, tags...)}
}

func way(sign string, in int, l ...api.Element) api.Tag {
	return api.Tag{Sign: sign, Kind: api.TaChain, Chain: api.Chain{In: in, Elements: l}}
}

// gray is the example of chapter 16.
func gray() api.Profile {
	return profileOf(api.SpGray, way("fwd0", 1, matrix([]int{0, 500000, 500000}, []int{1000000}, []int{0}, []int{0})))
}

// colored has a gamut: a parallelepiped around the neutral axis.
func colored() api.Profile {
	same := api.Element{Kind: api.ElCurves, Curves: []api.Curve{{Kind: api.CuIdentity}, {Kind: api.CuIdentity}, {Kind: api.CuIdentity}}}
	spread := matrix([]int{0, 300000, 300000}, []int{300000, 300000, 400000}, []int{400000, -200000, 200000}, []int{200000, 400000, -200000})
	away := matrix([]int{0, 900000, 900000}, []int{300000, 300000, 400000}, []int{40000, -20000, 20000}, []int{20000, 40000, -20000})
	flat := matrix([]int{0, 0, 0}, []int{0, 0, 0}, []int{0, 0, 0}, []int{0, 0, 0})
	p := profileOf(api.SpRGB, way("fwd0", 3, same, spread), way("fwd1", 3, flat), way("fwd2", 3, away))
	p.Name = "two  words"
	return p
}

// with returns a command and the document of a profile.
func with(command string, p api.Profile) string {
	octets, e := profile.Bytes(p)
	if e != api.OK {
		panic(e)
	}
	return command + "\n" + Hex(octets)
}

// P45.1
func TestHexAndUnhex(t *testing.T) {
	r := rand.New(rand.NewSource(1))
	for range 300 {
		b := make([]byte, r.Intn(200))
		r.Read(b)
		digits := Hex(string(b))
		if digits != hex.EncodeToString(b) {
			t.Fatalf("Hex(%x): %s", b, digits)
		}
		var spread strings.Builder
		for _, c := range digits {
			spread.WriteString(strings.Repeat(string(" \n"[r.Intn(2)]), r.Intn(2)))
			spread.WriteRune(c)
		}
		if s, at, ok := Unhex(spread.String() + "\n "); s != string(b) || at != 0 || !ok {
			t.Fatalf("Unhex(%q): %x, %d, %v", spread.String(), s, at, ok)
		}
	}
	for text, want := range map[string]int{"7g": 1, "7": 1, "7 \n": 3, "A0": 0, "0 0\t": 3, "0\r": 1, "x": 0, "00 0": 4, "é": 0, "0 g0": 2, "000x": 3} {
		if s, at, ok := Unhex(text); s != "" || at != want || ok {
			t.Errorf("Unhex(%q): %q, %d, %v", text, s, at, ok)
		}
	}
}

// P45.2
func TestExamples(t *testing.T) {
	p := gray()
	for command, want := range map[string]string{
		"check": "ok\n", "checks": "command\n", "eval 0 0.25": "0.250000 0.500000 0.500000\n", "eval 0 2": "error 2\n", "eval 0": "error 2\n", "run 0 7": "7 32768 32768\n", "bound 0": "0.000007630 0.000007630 0.000007630\n",
		"simple 0": "elements 1 1\nsteps\n", "undo 0 0.1 0.5 0.5": "error 5\n", "gamut 0 2": "error 2\n", "bake 0 2": "bound 0.500007630 0.000007630 0.000007630\n0 32768 32768\n65535 32768 32768\n",
		"show":        "version 4\nclass 2\nspace 1\npcs 5\nintent 0\nname A\ntag desc 1\ntag fwd0 3\n",
		"eval 4 0.25": "error 2\n", "eval -1 0.25": "error 2\n", "eval 3 0.25": "0.250000 0.500000 0.500000\n", "run 0": "error 2\n", "run 0 65536": "error 2\n", "run 0 -1": "error 2\n", "run 0 1 2 3 4": "error 2\n", "bake 0 1": "error 2\n", "bake 0 -5": "error 2\n", "bake 0 10": "error 2\n", "bound 9": "error 2\n", "map 0 2 0 0 0 0 0": "error 2\n", "undo 0": "error 2\n",
		"eval 0 " + strings.Repeat("9", 700): "error 6\n", "eval 7 " + strings.Repeat("9", 700): "error 2\n",
	} {
		if got := Run(with(command, p)); got != want {
			t.Errorf("%.40s: %q", command, got)
		}
	}
	for input, want := range map[string]string{"check\n7g": "hex 1\n", "check\n7": "hex 1\n", "check\n76": "octet 0 error 70\n", "check": "octet 0 error 70\n", "check\n": "octet 0 error 70\n", "": "command\n", "\ncheck": "command\n", "show\n76 67 70 31 00 00 00 08": "octet 8 error 70\n", "show\n76677032": "octet 0 error 5\n", "x\n7g": "command\n"} {
		if got := Run(input); got != want {
			t.Errorf("%q: %q", input, got)
		}
	}
}

// P45.2: what is no command, whatever the profile is.
func TestCommands(t *testing.T) {
	for _, command := range []string{
		"Check", "check ", " check", "check 0", "check\t", "id 0", "show x", "octets 1", "eval", "eval ", "eval 0 ", "eval  0 0.5", "eval 0  0.5", "eval 0.5 0.5", "eval x 0.5", "eval 00 0.5", "eval -0 0.5", "eval +1 0.5", "eval 1234567 0.5", "eval 0 .5", "eval 0 0.5.", "eval 0 1 1 1 1 1", "eval 0 abc", "eval 0 -0",
		"run", "run 0 0.5", "run 0 01", "run 0 1 1 1 1 1", "run 0 1000000", "run 0 -0", "bound", "bound 0 0", "bound 0 ", "simple", "simple 0 1", "bake 0", "bake 0 2 2", "bake 0 x", "undo", "undo 0 1 1 1 1 1", "undo x 1", "gamut 0", "gamut 0 2 2", "map 0 2 0 0 0 0", "map 0 2 0 0 0 0 0 0", "map 0 2 0.5 0 0 0 0", "map", "check\r", "nothing 1 2",
	} {
		if got := Run(with(command, gray())); got != "command\n" {
			t.Errorf("%q: %q", command, got)
		}
		if got := Run(command + "\n7g"); got != "command\n" {
			t.Errorf("%q: %q", command, got)
		}
	}
	// These are commands, whatever follows from them.
	for _, command := range []string{"check", "id", "show", "octets", "eval 0", "eval -999999 -1.5 0 1 2", "run 999999", "run 0 -1 0 1 999999", "bound -1", "simple 3", "bake 0 0", "undo 0 1 1 1 1", "gamut 0 0", "map 0 -1 -999999 1 2 3 4"} {
		if got := Run(command + "\n7g"); got != "hex 1\n" {
			t.Errorf("%q: %q", command, got)
		}
	}
}

func fractions(l []api.Frac, places int) string {
	var words []string
	for _, a := range l {
		text, _ := frac.Text(a, places)
		words = append(words, text)
	}
	return strings.Join(words, " ")
}

func integers(l []int) string {
	var words []string
	for _, n := range l {
		words = append(words, strconv.Itoa(n))
	}
	return strings.Join(words, " ")
}

func fr(n, d int) api.Frac {
	a, _ := frac.Of(n, d)
	return a
}

// P45.2: reports against the functions that they tell of.
func TestReports(t *testing.T) {
	p := colored()
	c, _ := profile.Forward(p, 0)
	id, _ := profile.Id(p)
	value, _ := chain.Eval(c, []api.Frac{fr(1, 4), fr(1, 2), fr(1, 8)})
	numbers, _ := sixteen.Run(c, []int{1, 65535, 300})
	bound, _ := sixteen.Bound(c)
	out, steps, _ := algebra.Simplify(c)
	back, _ := undo.Back(c, value)
	words := strings.Fields(fractions(value, 20))
	g, bounds, _ := bake.Bake(c, []int{3, 3, 3})
	m, e := shell.Shell(g)
	if e != api.OK {
		t.Fatalf("Shell: %d", e)
	}
	low, high, _ := intent.Axis(m)
	volume, _ := mesh.Volume6(m)
	baked := "bound " + fractions(bounds, 9) + "\n"
	for at := 0; at < len(g.Data); at += 3 {
		baked += integers(g.Data[at:at+3]) + "\n"
	}
	color := [3]int{50000, 90000, -60000}
	side, _ := inside.Side(m, color)
	clip, _ := intent.Clip(m, color)
	press, _ := intent.Compress(m, color, 500, 2000)
	for command, want := range map[string]string{
		"id":                                  digest.Hex(id) + "\n",
		"show":                                "version 4\nclass 2\nspace 2\npcs 5\nintent 0\nname two  words\ntag desc 1\ntag fwd0 3\ntag fwd1 3\ntag fwd2 3\n",
		"eval 0 0.25 0.5 0.125":               fractions(value, 6) + "\n",
		"run 0 1 65535 300":                   integers(numbers) + "\n",
		"bound 0":                             fractions(bound, 9) + "\n",
		"simple 0":                            "elements 2 " + strconv.Itoa(len(out.Elements)) + "\nsteps " + integers(steps) + "\n",
		"undo 0 " + strings.Join(words, " "):  fractions(back, 6) + "\n",
		"bake 0 3":                            baked,
		"gamut 0 3":                           "points 26\nfaces 48\nvolume " + string(volume) + "\naxis " + integers([]int{low, high}) + "\n",
		"map 0 3 50000 90000 -60000 500 2000": "side " + strconv.Itoa(side) + "\nclip " + fractions(clip[:], 3) + "\npress " + fractions(press[:], 3) + "\n",
	} {
		if got := Run(with(command, p)); got != want {
			t.Errorf("%s: %q; want %q", command, got, want)
		}
	}
	if len(steps) == 0 {
		t.Error("nothing was simplified")
	}
	for command, want := range map[string]string{
		"gamut 1 2": "error 5\n", "map 1 2 0 0 0 0 0": "error 5\n", "gamut 0 9": "error 3\n", "gamut 0 1": "error 2\n", "undo 1 0 0 0": "error 7\n",
		"map 0 3 50000 900000 0 500 2000": "side error 2\nclip error 2\npress error 2\n",
		"map 0 3 50000 90000 0 1000 2000": "side 0\nclip " + clipped(t, m, [3]int{50000, 90000, 0}) + "\npress error 380\n",
	} {
		if got := Run(with(command, p)); got != want {
			t.Errorf("%s: %q; want %q", command, got, want)
		}
	}
	// A gamut without neutral colors has a shell, but no axis.
	report := Run(with("gamut 2 2", p))
	if !strings.HasPrefix(report, "points 8\nfaces 12\nvolume ") || !strings.HasSuffix(report, "\naxis error 4\n") {
		t.Errorf("gamut 2 2: %q", report)
	}
	if got := Run(with("map 2 2 50000 0 0 500 2000", p)); got != "side 0\nclip error 4\npress error 4\n" {
		t.Errorf("map 2 2: %q", got)
	}
}

func clipped(t *testing.T, m api.Mesh, p [3]int) string {
	c, e := intent.Clip(m, p)
	if e != api.OK {
		t.Fatalf("Clip: %d", e)
	}
	return fractions(c[:], 3)
}

// P45.2, P45.3: what octets reports is a document of the same profile.
func TestOctets(t *testing.T) {
	all := []api.Profile{gray(), colored()}
	for n := range 32 { // one of them has a multiple of 32 octets
		p := gray()
		p.Name = strings.Repeat("x", n+1)
		all = append(all, p)
	}
	for _, p := range all {
		report := Run(with("octets", p))
		lines := strings.Split(strings.TrimSuffix(report, "\n"), "\n")
		for i, l := range lines {
			if len(l) != 64 && i < len(lines)-1 || len(l) < 1 || len(l) > 64 {
				t.Errorf("a line of %d digits", len(l))
			}
		}
		octets, _ := profile.Bytes(p)
		if s, _, ok := Unhex(report); s != octets || !ok {
			t.Error("the octets are others")
		}
		if again := Run("octets\n" + report); again != report {
			t.Errorf("octets again: %q", again)
		}
	}
}
