// Package rules has tests alone: they check that the program keeps to the rules of its language, and uses what its chapters ask for.
package rules

import (
	"go/ast"
	"go/parser"
	"go/token"
	"os"
	"path/filepath"
	"strconv"
	"strings"
	"testing"
)

// waysOf has, for each package that is built, the words of its chapter's section Ways.
var waysOf = map[string]string{
	"whole":    "label closure method-value method-expression embedding promoted array function-field",
	"frac":     "embedding promoted method-expression generic-function closure variadic range-string rune label",
	"band":     "array variadic function-field struct-compared label closure generic-function",
	"power":    "closure generic-function range-function embedding promoted method-value label",
	"matrix":   "range-function closure embedding promoted method-value generic-function copy label",
	"least":    "closure variadic label embedding promoted method-value generic-function copy",
	"octet":    "generic-function array range-string rune label struct-compared function-field closure",
	"digest":   "array function-field closure embedding promoted method-value range-function array-compared",
	"curve":    "method-expression array range-function label embedding promoted variadic generic-function closure",
	"grid":     "range-function label embedding promoted method-value variadic generic-function closure array-compared",
	"simplex":  "range-function label embedding promoted closure variadic generic-function array method-value",
	"program":  "generic-type method-expression closure map embedding promoted panic recover defer variadic label",
	"element":  "method-expression array embedding promoted generic-function closure label variadic",
	"chain":    "range-function label embedding promoted generic-function closure variadic three-index",
	"tag":      "closure map embedding promoted panic recover defer generic-function label method-expression",
	"profile":  "closure array label embedding promoted map range-function panic recover defer array-compared",
	"slope":    "map closure embedding promoted panic generic-function defer recover",
	"algebra":  "method-expression array embedding promoted range-function label",
	"sixteen":  "range-function embedding promoted panic generic-function defer recover",
	"bake":     "range-function closure panic generic-function defer recover",
	"undo":     "range-function generic-function closure panic defer recover",
	"locate":   "range-function array closure label",
	"light":    "constant-table range-function closure panic defer recover generic-function variadic",
	"lab":      "closure function-field panic defer recover generic-function method-expression array",
	"adapt":    "constant-table array closure panic defer recover generic-function embedding promoted range-integer",
	"spectrum": "constant-table array closure range-integer panic defer recover generic-function variadic",
	"differ":   "method-expression map embedding promoted variadic panic defer recover generic-function closure",
	"view":     "constant-table array embedding promoted panic defer recover generic-function closure range-integer variadic",
	"appear":   "generic-function closure embedding promoted panic defer recover method-value range-integer",
	"regain":   "generic-function closure label embedding promoted panic defer recover constant-table array copy",
	"patch":    "range-function label map array-compared embedding promoted panic defer recover",
	"fit":      "closure map method-value embedding promoted generic-function array label",
	"robust":   "generic-function closure embedding promoted method-value label map copy",
	"cross":    "method-value embedding promoted range-function copy generic-function closure label map",
	"mesh":     "range-function map array embedding promoted",
	"inside":   "closure range-function panic generic-function defer recover",
	"shell":    "range-function map array closure panic defer recover",
	"intent":   "embedding promoted closure panic generic-function defer recover",
	"ink":      "array array-compared closure range-integer generic-function method-value variadic",
	"devlink":  "range-function copy embedding promoted panic defer recover generic-function array closure",
	"trip":     "range-function label embedding promoted method-value panic defer recover generic-function variadic",
	"image":    "range-function label embedding promoted closure map struct-compared variadic generic-function",
	"convert":  "go waitgroup range-function label embedding promoted array closure generic-function",
	"proof":    "map range-function label embedding promoted generic-function closure variadic array",
	"console":  "method-expression map embedding promoted panic generic-function defer recover",
}

// TestWays checks that the packages have what their chapters ask for.
func TestWays(t *testing.T) {
	for face, words := range waysOf {
		t.Run(face, func(t *testing.T) {
			t.Parallel()
			miss, err := WaysMissing("..", "verdigris", []string{face}, strings.Fields(words))
			if err != nil {
				t.Fatal(err)
			}
			for _, m := range miss {
				t.Errorf("way missing: %s", m)
			}
		})
	}
}

const allowedImports = " bytes cmp container/heap errors iter maps math math/bits slices sort strconv strings sync sync/atomic unicode unicode/utf8 "

const longestFunction = 60

// sources yields all files of the program that are no tests.
func sources(t *testing.T) map[string]*ast.File {
	names, err := filepath.Glob("../*/*.go")
	if err != nil {
		t.Fatal(err)
	}
	out := map[string]*ast.File{}
	for _, name := range names {
		if strings.HasSuffix(name, "_test.go") || strings.HasPrefix(name, "../sharedtests/") {
			continue
		}
		text, err := os.ReadFile(name)
		if err != nil {
			t.Fatal(err)
		}
		file, err := parser.ParseFile(fset, name, text, parser.ParseComments)
		if err != nil {
			t.Fatal(err)
		}
		out[name] = file
	}
	return out
}

var fset = token.NewFileSet()

// TestImports checks that only the allowed packages are imported.
func TestImports(t *testing.T) {
	for name, file := range sources(t) {
		for _, spec := range file.Imports {
			path, _ := strconv.Unquote(spec.Path.Value)
			if !strings.HasPrefix(path, "verdigris/") && !strings.Contains(allowedImports, " "+path+" ") {
				t.Errorf("%s imports %s", name, path)
			}
		}
	}
}

// TestLengths checks that no function is too long.
func TestLengths(t *testing.T) {
	for name, file := range sources(t) {
		for _, d := range file.Decls {
			if f, ok := d.(*ast.FuncDecl); ok {
				if lines := fset.Position(f.End()).Line - fset.Position(f.Pos()).Line + 1; lines > longestFunction {
					t.Errorf("%s: %s has %d lines", name, f.Name.Name, lines)
				}
			}
		}
	}
}

// TestVariables checks that the package level has no variables but tables of literals.
func TestVariables(t *testing.T) {
	for name, file := range sources(t) {
		for _, d := range file.Decls {
			g, ok := d.(*ast.GenDecl)
			if !ok || g.Tok != token.VAR {
				continue
			}
			for _, s := range g.Specs {
				for _, v := range s.(*ast.ValueSpec).Values {
					if _, ok := v.(*ast.CompositeLit); !ok {
						t.Errorf("%s: a variable that is no table of literals: %s", name, s.(*ast.ValueSpec).Names[0])
					}
				}
				if len(s.(*ast.ValueSpec).Values) == 0 {
					t.Errorf("%s: a variable without a value", name)
				}
			}
		}
	}
}

// TestDirectives checks that there are neither directives nor build tags.
func TestDirectives(t *testing.T) {
	for name, file := range sources(t) {
		for _, group := range file.Comments {
			for _, c := range group.List {
				if strings.HasPrefix(c.Text, "//go:") || strings.HasPrefix(c.Text, "// +build") {
					t.Errorf("%s: %s", name, c.Text)
				}
			}
		}
	}
}
