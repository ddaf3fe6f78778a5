// Package rules holds what is asked of the program's text: which packages a layer calls, and the language that it keeps to.
package rules

import (
	"bytes"
	"go/ast"
	"go/format"
	"go/parser"
	"go/token"
	"os"
	"path/filepath"
	"slices"
	"strconv"
	"strings"
	"testing"
)

// layer is a package, and the numbers of those that it may call.
type layer struct {
	name  string
	calls []int
}

// layers are the rows of the document's map, layer 1 first. Where the head of a chapter says that it stands on more than its row names (interp, console), those are here too.
var layers = []layer{
	{"heap", nil},
	{"gc", []int{1}},
	{"object", []int{1, 2}},
	{"show", nil},
	{"lex", nil},
	{"parse", []int{5}},
	{"scope", []int{6}},
	{"gen", []int{6, 7}},
	{"verify", nil},
	{"listing", []int{9}},
	{"prim", []int{4, 28}},
	{"model", []int{4, 9, 11, 28, 29, 30}},
	{"interp", []int{1, 2, 3, 4, 9, 29, 31}},
	{"reg", []int{4, 9, 11, 12, 28, 29, 30, 33, 35}},
	{"base", []int{9, 14}},
	{"graph", []int{4, 9, 11, 12, 28, 29, 30, 35, 36}},
	{"build", []int{9, 16}},
	{"fold", []int{16}},
	{"guard", []int{16}},
	{"live", []int{16}},
	{"alloc", []int{16, 20}},
	{"emit", []int{14, 16, 20, 21}},
	{"deopt", []int{14}},
	{"tier", []int{1, 2, 3, 4, 9, 13, 14, 15, 16, 17, 18, 19, 22, 23, 29, 31, 33}},
	{"script", []int{8, 9, 24}},
	{"console", []int{5, 8, 9, 10, 12, 14, 15, 17, 18, 19, 22, 24, 25}},
	// no layers: what layers share, and what is for tests alone
	{"samples", nil},
	{"plain", []int{4}},
	{"machine", []int{9, 28}},
	{"space", []int{4, 28, 29}},
	{"heaped", []int{1, 2, 3, 4, 28, 29}},
	{"trials", []int{8}},
	{"registers", []int{29, 36}},
	{"world", []int{4, 11, 32}},
	{"shapes", nil},
	{"operations", []int{28, 29}},
}

// lastLayer is how many of these are layers.
const lastLayer = 26

// library are the packages of Go's library that the program may import.
const library = " bytes cmp container/heap errors iter maps math math/bits slices sort strconv strings sync sync/atomic unicode unicode/utf8 "

// longest is how many lines a function may have.
const longest = 60

// sources parses the files of a layer, its tests aside.
func sources(t *testing.T, name string) (*token.FileSet, map[string]*ast.File) {
	t.Helper()
	paths, _ := filepath.Glob(filepath.Join("..", name, "*.go"))
	set := token.NewFileSet()
	files := map[string]*ast.File{}
	for _, path := range paths {
		if strings.HasSuffix(path, "_test.go") {
			continue
		}
		f, err := parser.ParseFile(set, path, nil, parser.ParseComments)
		if err != nil {
			t.Fatal(err)
		}
		files[path] = f
	}
	if len(files) == 0 {
		t.Errorf("package %s has no files", name)
	}
	return set, files
}

// mayCall: may a layer import a package of that path?
func mayCall(calls []int, path string) bool {
	own, ok := strings.CutPrefix(path, "gearbox/")
	if !ok {
		return strings.Contains(library, " "+path+" ")
	}
	for i, l := range layers {
		if l.name == own {
			return slices.Contains(calls, i+1)
		}
	}
	return true
}

// Each package of the project is among those that are asked about.
func TestAllAreListed(t *testing.T) {
	paths, _ := filepath.Glob(filepath.Join("..", "*", "*.go"))
	for _, path := range paths {
		name := filepath.Base(filepath.Dir(path))
		if name == "api" || name == "rules" {
			continue
		}
		if !slices.ContainsFunc(layers, func(l layer) bool { return l.name == name }) {
			t.Errorf("%s is not listed", name)
		}
	}
}

func TestImports(t *testing.T) {
	for _, l := range layers {
		_, files := sources(t, l.name)
		for path, f := range files {
			for _, s := range f.Imports {
				if p, _ := strconv.Unquote(s.Path.Value); !mayCall(l.calls, p) {
					t.Errorf("%s imports %s", path, p)
				}
			}
		}
	}
}

// imports: the numbers of the project's packages that one imports.
func imports(t *testing.T, name string) []int {
	t.Helper()
	var l []int
	_, files := sources(t, name)
	for _, f := range files {
		for _, s := range f.Imports {
			p, _ := strconv.Unquote(s.Path.Value)
			for i, layer := range layers {
				if p == "gearbox/"+layer.name {
					l = append(l, i+1)
				}
			}
		}
	}
	return l
}

// A layer calls no other one by way of a package that is no layer, either.
func TestRoundabout(t *testing.T) {
	for _, l := range layers[:lastLayer] {
		todo := imports(t, l.name)
		for len(todo) > 0 {
			n := todo[0]
			todo = todo[1:]
			if n > lastLayer {
				todo = append(todo, imports(t, layers[n-1].name)...)
			} else if !slices.Contains(l.calls, n) {
				t.Errorf("%s comes to %s", l.name, layers[n-1].name)
			}
		}
	}
}

func TestLayout(t *testing.T) {
	for _, l := range layers {
		set, files := sources(t, l.name)
		for path, f := range files {
			text, err := os.ReadFile(path)
			if err != nil {
				t.Fatal(err)
			}
			if g, err := format.Source(text); err != nil || !bytes.Equal(g, text) {
				t.Errorf("%s is not as gofmt lays it out", path)
			}
			if bytes.Contains(text, []byte("//go:")) {
				t.Errorf("%s has a //go: line", path)
			}
			for _, d := range f.Decls {
				lines := set.Position(d.End()).Line - set.Position(d.Pos()).Line + 1
				if fn, ok := d.(*ast.FuncDecl); ok && lines > longest {
					t.Errorf("%s: %s has %d lines", path, fn.Name.Name, lines)
				}
			}
		}
	}
}
